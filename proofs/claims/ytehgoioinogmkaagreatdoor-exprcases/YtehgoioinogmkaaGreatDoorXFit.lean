/- The document's fit, all, one. -/
import Derived.Test.YtehgoioinogmkaaGreatDoorXIse
namespace Go.Proofs.YtehgoioinogmkaaGreatDoor
open Go.RowKit Go.Lib

def fitB (t s : Int) : Bool := t == 0 || (s == 0 || t == s)
def oneL : Int → List Ex → Int × Bool
  | t, [] => (t, true)
  | t, x :: l => if fitB x.1.ty t = true then oneL (if t = 0 then x.1.ty else t) l else (0, false)
set_option maxRecDepth 10000 in
theorem fit_any (t s : Int) (w : World) : Calls Tryz.prog 100 #[.int .i64 t, .int .i64 s] w fun e w' => e = .returned (.bool (fitB t s)) ∧ w' = w := by
  by_cases h1 : t = 0
  · subst h1
    go_enter Tryz.func100, Tryz.ntmps100
    go_wp2_with fail
    go_ret
    exact ⟨rfl, rfl⟩
  · have e1 : (t == 0) = false := beq_eq_false_iff_ne.2 h1
    by_cases h2 : s = 0
    · subst h2
      go_enter Tryz.func100, Tryz.ntmps100
      go_wp2_with fail
      go_ret
      exact ⟨xret_bool (by unfold fitB; rw [e1]; rfl), rfl⟩
    · have e2 : (s == 0) = false := beq_eq_false_iff_ne.2 h2
      go_enter Tryz.func100, Tryz.ntmps100
      go_wp2_with fail
      go_ret
      exact ⟨xret_bool (by unfold fitB; rw [e1, e2]; rfl), rfl⟩
theorem row_ty {w : World} {Q : Nat → Prop} {F : Fo} {i b o : Nat} {x : Ex} (h : RowAt w Q F b o) (hx : (toL F)[i]? = some x) : w.cell? ⟨b, o + i * 10 + 9, none⟩ = some (.int .i64 x.1.ty) := by
  obtain ⟨M, ⟨args, rfl, _⟩, hr, _⟩ := row_nth F i b o x h hx
  have := hr 9 _ rfl
  rwa [show o + 10 * i + 9 = o + i * 10 + 9 by omega] at this
set_option maxHeartbeats 3200000 in
set_option maxRecDepth 20000 in
theorem all_any (F : Fo) (s : Int) (w : World) (Q : Nat → Prop) (v : Value) (h : SlAt w Q v F) : Calls Tryz.prog 162 #[v, .int .i64 s] w fun e w' => e = .returned (.bool ((toL F).all fun x => fitB x.1.ty s)) ∧ w' = w := by
  have hcnt := slAt_cnt h
  have hcI : (cnt F : Int) ≤ 9223372036854775807 := by unfold maxLen at hcnt; omega
  obtain ⟨a, k, rfl⟩ := slAt_slice h
  have HS := hide h
  obtain ⟨R, hR⟩ : ∃ R, R = (toL F).all fun x => fitB x.1.ty s := ⟨_, rfl⟩
  have HG0 : Hid (R = ((toL F).drop 0).all fun x => fitB x.1.ty s) := by rw [List.drop_zero]; exact hR
  rw [← hR]
  clear hR h hcnt
  go_enter Tryz.func162, Tryz.ntmps162
  go_wp2_with fail
  go_loopg [5] (cnt F) (fun g s5 wr => ∃ i : Nat, g = cnt F - i ∧ s5 = .int .i64 (i : Int) ∧ i ≤ cnt F ∧ w = wr ∧ Hid (R = ((toL F).drop i).all fun x => fitB x.1.ty s))
  case atStart => exact ⟨0, rfl, rfl, Nat.zero_le _, rfl, HG0⟩
  case round =>
    obtain ⟨i, rfl, rfl, hi, rfl, HG⟩ := hrel
    clear HG0
    have hi0 : (0 : Int) ≤ (i : Int) := by omega
    by_cases hlt : i < cnt F
    · have hiI : (i : Int) < (cnt F : Int) := by omega
      obtain ⟨x, hx⟩ : ∃ x, (toL F)[i]? = some x := ⟨_, List.getElem?_eq_getElem (by rw [← cnt_toL]; exact hlt)⟩
      rcases unhide HS with ⟨hf, _⟩ | ⟨bq, oq, cq, he, hc1, hc2, hrow⟩
      · rw [hf] at hlt; exact absurd hlt (Nat.not_lt_zero _)
      injection he with e1 _ e3
      subst e1
      subst e3
      have ct := row_ty hrow hx
      have hdr : (toL F).drop i = x :: (toL F).drop (i + 1) := by
        rw [List.getElem?_eq_some_iff] at hx
        obtain ⟨hx1, hx2⟩ := hx
        rw [List.drop_eq_getElem_cons hx1, hx2]
      have HRR : Hid (R = (fitB x.1.ty s && ((toL F).drop (i + 1)).all fun x => fitB x.1.ty s)) := by
        show R = _
        rw [unhide HG, hdr, List.all_cons]
      have HF := hide (fit_any x.1.ty s)
      clear hx hdr hrow HG hc1 hc2
      cases hfx : fitB x.1.ty s with
      | true =>
        rw [hfx] at HF HRR
        have HNX : Hid (R = ((toL F).drop (i + 1)).all fun x => fitB x.1.ty s) := by show R = _; rw [unhide HRR, Bool.true_and]
        clear hfx HRR
        go_wp2_with (go_at_call 100; refine (unhide HF _).mono ?_; rintro e w1 ⟨rfl, hw1⟩; rw [hw1]; clear hw1)
        go_roundg (cnt F - (i + 1))
        case rel => exact ⟨i + 1, rfl, by rw [show ((i + 1 : Nat) : Int) = (i : Int) + 1 from rfl], by omega, rfl, HNX⟩
        case measure => omega
      | false =>
        rw [hfx] at HF HRR
        have HE : Hid (R = false) := by show R = _; rw [unhide HRR, Bool.false_and]
        clear hfx HRR
        go_wp2_with (go_at_call 100; refine (unhide HF _).mono ?_; rintro e w1 ⟨rfl, hw1⟩; rw [hw1]; clear hw1)
        go_ret
        exact ⟨by rw [unhide HE]; rfl, rfl⟩
    · have hiI : ¬ (i : Int) < (cnt F : Int) := by omega
      have HE : Hid (R = true) := by
        show R = _
        rw [unhide HG, List.drop_eq_nil_of_le (by rw [← cnt_toL]; omega)]
        rfl
      clear HG
      go_wp2_with fail
      go_ret
      exact ⟨by rw [unhide HE]; rfl, rfl⟩
set_option maxHeartbeats 3200000 in
set_option maxRecDepth 20000 in
theorem one_any (F : Fo) (w : World) (Q : Nat → Prop) (v : Value) (h : SlAt w Q v F) : Calls Tryz.prog 163 #[v] w fun e w' => e = .returned (.tuple #[.int .i64 (oneL 0 (toL F)).1, .bool (oneL 0 (toL F)).2]) ∧ w' = w := by
  have hcnt := slAt_cnt h
  have hcI : (cnt F : Int) ≤ 9223372036854775807 := by unfold maxLen at hcnt; omega
  obtain ⟨a, k, rfl⟩ := slAt_slice h
  have HS := hide h
  obtain ⟨R, hR⟩ : ∃ R, R = oneL 0 (toL F) := ⟨_, rfl⟩
  have HG0 : Hid (R = oneL 0 ((toL F).drop 0)) := by rw [List.drop_zero]; exact hR
  obtain ⟨PP, hPP⟩ : ∃ PP : Ending → World → Prop, PP = fun e w' => e = .returned (.tuple #[.int .i64 R.1, .bool R.2]) ∧ w' = w := ⟨_, rfl⟩
  have HPP := hide hPP
  rw [← hR, ← hPP]
  clear hR h hcnt hPP
  go_enter Tryz.func163, Tryz.ntmps163
  go_wp2_with fail
  go_loopg [4, 5] (cnt F) (fun g s4 s5 wr => ∃ (i : Nat) (t : Int), g = cnt F - i ∧ s4 = .int .i64 t ∧ s5 = .int .i64 (i : Int) ∧ i ≤ cnt F ∧ w = wr ∧ Hid (R = oneL t ((toL F).drop i)))
  case atStart => exact ⟨0, 0, rfl, rfl, rfl, Nat.zero_le _, rfl, HG0⟩
  case round =>
    obtain ⟨i, t, rfl, rfl, rfl, hi, rfl, HG⟩ := hrel
    clear HG0
    have hi0 : (0 : Int) ≤ (i : Int) := by omega
    by_cases hlt : i < cnt F
    · have hiI : (i : Int) < (cnt F : Int) := by omega
      obtain ⟨x, hx⟩ : ∃ x, (toL F)[i]? = some x := ⟨_, List.getElem?_eq_getElem (by rw [← cnt_toL]; exact hlt)⟩
      rcases unhide HS with ⟨hf, _⟩ | ⟨bq, oq, cq, he, hc1, hc2, hrow⟩
      · rw [hf] at hlt; exact absurd hlt (Nat.not_lt_zero _)
      injection he with e1 _ e3
      subst e1
      subst e3
      have ct := row_ty hrow hx
      have hdr : (toL F).drop i = x :: (toL F).drop (i + 1) := by
        rw [List.getElem?_eq_some_iff] at hx
        obtain ⟨hx1, hx2⟩ := hx
        rw [List.drop_eq_getElem_cons hx1, hx2]
      have HRR : Hid (R = if fitB x.1.ty t = true then oneL (if t = 0 then x.1.ty else t) ((toL F).drop (i + 1)) else (0, false)) := by
        show R = _
        rw [unhide HG, hdr, oneL]
      have HF := hide (fit_any x.1.ty t)
      clear hx hdr hrow HG hc1 hc2
      cases hfx : fitB x.1.ty t with
      | true =>
        rw [hfx] at HF HRR
        by_cases ht : t = 0
        · have HNX : Hid (R = oneL x.1.ty ((toL F).drop (i + 1))) := by show R = _; rw [unhide HRR, if_pos rfl, if_pos ht]
          clear hfx HRR
          subst ht
          go_wp2_with (go_at_call 100; refine (unhide HF _).mono ?_; rintro e w1 ⟨rfl, hw1⟩; rw [hw1]; clear hw1)
          go_roundg (cnt F - (i + 1))
          case rel => exact ⟨i + 1, _, rfl, rfl, by rw [show ((i + 1 : Nat) : Int) = (i : Int) + 1 from rfl], by omega, rfl, HNX⟩
          case measure => omega
        · have HNX : Hid (R = oneL t ((toL F).drop (i + 1))) := by show R = _; rw [unhide HRR, if_pos rfl, if_neg ht]
          have hte : (t == 0) = false := beq_eq_false_iff_ne.2 ht
          clear hfx HRR
          go_wp2_with (go_at_call 100; refine (unhide HF _).mono ?_; rintro e w1 ⟨rfl, hw1⟩; rw [hw1]; clear hw1)
          go_roundg (cnt F - (i + 1))
          case rel => exact ⟨i + 1, _, rfl, rfl, by rw [show ((i + 1 : Nat) : Int) = (i : Int) + 1 from rfl], by omega, rfl, HNX⟩
          case measure => omega
      | false =>
        rw [hfx] at HF HRR
        have HE : Hid (R = (0, false)) := by show R = _; rw [unhide HRR, if_neg (by decide)]
        clear hfx HRR
        go_wp2_with (go_at_call 100; refine (unhide HF _).mono ?_; rintro e w1 ⟨rfl, hw1⟩; rw [hw1]; clear hw1)
        rw [unhide HPP, unhide HE]
        exact ⟨rfl, rfl⟩
    · have hiI : ¬ (i : Int) < (cnt F : Int) := by omega
      have HE : Hid (R = (t, true)) := by
        show R = _
        rw [unhide HG, List.drop_eq_nil_of_le (by rw [← cnt_toL]; omega)]
        rfl
      clear HG
      go_wp2_with fail
      rw [unhide HPP, unhide HE]
      exact ⟨rfl, rfl⟩
end Go.Proofs.YtehgoioinogmkaaGreatDoor
