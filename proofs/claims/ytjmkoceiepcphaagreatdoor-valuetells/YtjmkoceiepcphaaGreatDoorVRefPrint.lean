/- Contract of the document's Print. -/
import Derived.Test.YtjmkoceiepcphaaGreatDoorVDigits
import Derived.Test.YtjmkoceiepcphaaGreatDoorVIs
import Derived.Test.YtjmkoceiepcphaaGreatDoorKBytes
import Derived.Test.YtjmkoceiepcphaaGreatDoorKApp
namespace Go.Proofs.YtjmkoceiepcphaaGreatDoor
open Go.RowKit Go.Lib

def esc (l : List UInt8) : List UInt8 := l.flatMap fun c => if c = 39 then [39, 39] else [c]
theorem esc_snoc (l : List UInt8) (c : UInt8) : esc (l ++ [c]) = esc l ++ if c = 39 then [39, 39] else [c] := by simp [esc]
theorem esc_len (l : List UInt8) : (esc l).length ≤ 2 * l.length := by
  induction l with
  | nil => exact Nat.zero_le _
  | cons c r ih =>
    have e : esc (c :: r) = (if c = 39 then [39, 39] else [c]) ++ esc r := by simp [esc]
    rw [e, List.length_append, List.length_cons]
    split <;> simp <;> omega
/-- What Print tells of a value (P6.5). -/
def printG (g : GV) : List UInt8 :=
  if g.may = false then [63] else if g.kind = 0 then [78, 85, 76, 76] else if g.kind = 1 then (if g.int = 1 then [84, 82, 85, 69] else [70, 65, 76, 83, 69]) else if g.kind = 2 then itoa g.int else 39 :: esc g.text.data.toList ++ [39]
theorem may_kinds {g : GV} (h : g.may = true) : g.kind = 0 ∨ g.kind = 1 ∨ g.kind = 2 ∨ g.kind = 3 := by
  unfold GV.may at h
  simp at h
  rcases h with ((h | h) | h) | h
  · exact .inl h.1.1
  · exact .inr (.inl h.1.1)
  · exact .inr (.inr (.inl h.1))
  · exact .inr (.inr (.inr h.1.1.1))
theorem may_kind3 {n : Int} {t : ByteArray} (h : GV.may ⟨3, n, t⟩ = true) : t.size ≤ 40 := by
  unfold GV.may at h
  simp at h
  exact h.1.2
theorem ret_str {a b : List UInt8} (h : a = b) : Ending.returned (.string ⟨a.toArray⟩) = .returned (.string ⟨b.toArray⟩) := by rw [h]
abbrev RIsB (k n : Int) (t : ByteArray) (m : Bool) : Prop := ∀ W : World, Calls Tryz.prog 7 #[.agg #[.int .i64 k, .int .i64 n, .string t]] W fun e w' => e = .returned (.bool m) ∧ w' = W.alloc (.cells #[.int .i64 k, .int .i64 n, .string t] 23)
theorem own_conv {w : World} {B m : Nat} {v : Value} {xs : List Value} (l : List UInt8) (h : w.ownsRow B 5 1 v m xs) (hm : m = l.length) (hx : xs = byteCells l) (hl : l.length ≤ 1000000) : (convert 43 9 v).run Tryz.prog w = .ok (.string ⟨l.toArray⟩) w := by
  subst hm hx
  exact conv_any v _ l w (rb_own h (by omega))
theorem own_sl {w : World} {B n : Nat} {v : Value} {xs : List Value} (h : w.ownsRow B 5 1 v n xs) : ∃ a k, v = .slice a n k := by
  obtain ⟨_, ⟨rfl, rfl⟩ | ⟨g, cap, cur, rfl, _⟩⟩ := h
  · exact ⟨_, _, rfl⟩
  · exact ⟨_, _, rfl⟩
theorem cells_snoc (l : List UInt8) (c : UInt8) : byteCells l ++ [.int .u8 (c.toNat : Int)] = byteCells (l ++ [c]) := by simp [byteCells]

theorem take_snoc_ba (s : ByteArray) (k : Nat) (h : k < s.size) : s.data.toList.take (k + 1) = s.data.toList.take k ++ [s[k]] := by
  rw [List.take_succ_eq_append_getElem (by simpa using h)]; rfl

set_option maxHeartbeats 3200000 in
theorem rprint_text (n : Int) (t : ByteArray) (w : World) (ht : t.size ≤ 40) (HA : Hid (RIsB 3 n t true)) :
    Calls Tryz.prog 11 #[.agg #[.int .i64 3, .int .i64 n, .string t]] w fun e w' => e = .returned (.string ⟨(39 :: esc t.data.toList ++ [39]).toArray⟩) ∧ Below w.heap.size w w' := by
  obtain ⟨i0, hi, hz0, hz1, hz2⟩ := info_parts Tryz.infoB
  obtain ⟨W2, hW2⟩ : ∃ W2, W2 = (w.alloc (.cells #[.int .i64 3, .int .i64 n, .string t] 23)).alloc (.cells #[.int .i64 3, .int .i64 n, .string t] 23) := ⟨_, rfl⟩
  have HB := hide (show B3 W2 w.heap.size 3 n t by rw [hW2]; exact (B3.new w w.heap.size 3 n t rfl).alloc _)
  have HW : Hid (Below w.heap.size w W2) := hide (by rw [hW2]; exact one_new' (one_new' (Below.refl _ _) _) _)
  have hz : W2.heap.size = w.heap.size + 2 := by rw [hW2]; simp
  obtain ⟨r, hr⟩ : ∃ r, r = (39 :: esc t.data.toList ++ [39]) := ⟨_, rfl⟩
  rw [← hr]
  have HR := hide hr
  clear hr
  go_enter Tryz.func11, Tryz.ntmps11
  go_wp2_with (go_at_call 7; refine (unhide HA _).mono ?_; clear HA; rintro e w1 ⟨rfl, rfl⟩)
  rw [← hW2]
  have H0 : Hid ((W2.alloc (.cells #[.int .u8 39] 5)).ownsRow (w.heap.size + 2) 5 1 (.slice (some ⟨w.heap.size + 1 + 1, 0, none⟩) 1 1) 1 (byteCells [39])) := by
    have h := World.ownsRow_lit (base := w.heap.size + 2) (e := 5) (size := 1) W2 #[.int .u8 39] 1 (by omega) (by decide) rfl
    rw [hz] at h
    exact hide h
  go_loopw [3, 4] (fun b i wr => ∃ (k m : Nat) (a : Option Addr) (c : Nat), k ≤ t.size ∧ i = .int .i64 k ∧ b = .slice a m c ∧ m ≤ 1 + 2 * k ∧ Hid (m = (39 :: esc (t.data.toList.take k)).length ∧ wr.ownsRow (w.heap.size + 2) 5 1 (.slice a m c) m (byteCells (39 :: esc (t.data.toList.take k)))) ∧ Hid (Below (w.heap.size + 2) W2 wr)) (fun _ i _ => t.size - (intOf i).toNat)
  case atStart => exact ⟨0, 1, _, 1, by omega, rfl, rfl, by omega, hide ⟨rfl, unhide H0⟩, hide ((Below.refl _ _).alloc (by omega) _)⟩
  case round =>
    obtain ⟨k, m, a, c, hk, rfl, rfl, hm, HO, HB1⟩ := hrel
    have z1 := (unhide HB1).size
    have HX := hide ((unhide HB).below (unhide HB1) (by omega))
    obtain ⟨x0, x1, x2, _, _, _⟩ := unhide HX
    by_cases hlt : k < t.size
    · have HE := hide (ba_getD t k hlt)
      have HT := hide (take_snoc_ba t k hlt)
      have HO1 := hide (unhide HO).2
      clear H0
      by_cases h39 : t[k].toNat = 39
      · have h39b : ((t[k].toNat : Int) == 39) = true := by simp [h39]
        have HK : Hid (esc (t.data.toList.take (k + 1)) = esc (t.data.toList.take k) ++ [39, 39]) := hide (by rw [unhide HT, esc_snoc, if_pos (UInt8.toNat_inj.1 h39)])
        have hc39 : (t[k].toNat : Int) = 39 := by omega
        clear h39
        go_wp2_with (first | (at_builtin; refine wpList_append_own _ rfl (.tmp 30) (.tmp 35) 43 rfl (w.heap.size + 2) 5 i0 (.int .u8 0) 1 1 Tryz.underlying43 hi hz0 hz1 hz2 rfl (by decide) _ _ _ rfl ((unhide HO1).alloc _) ⟨wr.heap.size, 0, none⟩ 1 1 [_] rfl rfl (one_new _ _ _) one_cell (by unfold maxLen; omega) (by omega) (by simp; omega) ?_; intro v2 w2 hnw2 hg _; have HO2 := hide hnw2; have HB2 : Below (w.heap.size + 2) W2 w2 := ((unhide HB1).alloc (by omega) _).grown hg (by simp; omega) (own_block_ge (unhide HO1)); have zw2 := HB2.size; have HB2 := hide HB2; clear hg hnw2 HO1 HB1; obtain ⟨aw2, kw2, rfl⟩ := own_sl (unhide HO2); clear x0 x1 x2; have HX2 := hide ((unhide HB).below (unhide HB2) (by omega)); obtain ⟨x0, x1, x2, _, _, _⟩ := unhide HX2) | (at_builtin; refine wpList_append_own _ rfl (.tmp 42) (.tmp 43) 43 rfl (w.heap.size + 2) 5 i0 (.int .u8 0) 1 1 Tryz.underlying43 hi hz0 hz1 hz2 rfl (by decide) _ _ _ rfl ((unhide HO2).alloc _) ⟨w2.heap.size, 0, none⟩ 1 1 [_] rfl rfl (one_new _ _ _) one_cell (by unfold maxLen; omega) (by omega) (by simp; omega) ?_; intro v3 w3 hnw3 hg _; have HO3 := hide hnw3; have HB3 : Below (w.heap.size + 2) W2 w3 := ((unhide HB2).alloc (by omega) _).grown hg (by simp; omega) (own_block_ge (unhide HO2)); have zw3 := HB3.size; have HB3 := hide HB3; clear hg hnw3 HO2 HB2; obtain ⟨aw3, kw3, rfl⟩ := own_sl (unhide HO3)))
        go_roundw
        case rel => exact ⟨k + 1, m + 1 + 1, _, _, by omega, by go_num, rfl, by omega, hide ⟨by rw [unhide HK, (unhide HO).1]; simp, by rw [unhide HK]; have h := unhide HO3; simpa [byteCells, List.append_assoc] using h⟩, HB3⟩
        case measure => simp [intOf]; omega
      · have h39b : ((t[k].toNat : Int) == 39) = false := beq_eq_false_iff_ne.2 (by omega)
        have HK : Hid (esc (t.data.toList.take (k + 1)) = esc (t.data.toList.take k) ++ [t[k]]) := hide (by rw [unhide HT, esc_snoc, if_neg (fun h => h39 (by rw [h]; rfl))])
        clear h39
        go_wp2_with (first | (at_builtin; refine wpList_append_own _ rfl (.tmp 30) (.tmp 35) 43 rfl (w.heap.size + 2) 5 i0 (.int .u8 0) 1 1 Tryz.underlying43 hi hz0 hz1 hz2 rfl (by decide) _ _ _ rfl ((unhide HO1).alloc _) ⟨wr.heap.size, 0, none⟩ 1 1 [_] rfl rfl (one_new _ _ _) one_cell (by unfold maxLen; omega) (by omega) (by simp; omega) ?_; intro v2 w2 hnw2 hg _; have HO2 := hide hnw2; have HB2 : Below (w.heap.size + 2) W2 w2 := ((unhide HB1).alloc (by omega) _).grown hg (by simp; omega) (own_block_ge (unhide HO1)); have zw2 := HB2.size; have HB2 := hide HB2; clear hg hnw2 HO1 HB1; obtain ⟨aw2, kw2, rfl⟩ := own_sl (unhide HO2); clear x0 x1 x2; have HX2 := hide ((unhide HB).below (unhide HB2) (by omega)); obtain ⟨x0, x1, x2, _, _, _⟩ := unhide HX2))
        go_roundw
        case rel => exact ⟨k + 1, m + 1, _, _, by omega, by go_num, rfl, by omega, hide ⟨by rw [unhide HK, (unhide HO).1]; simp, by rw [unhide HK]; have h := unhide HO2; simpa [byteCells, List.append_assoc] using h⟩, HB2⟩
        case measure => simp [intOf]; omega
    · clear H0
      have HO1 := hide (unhide HO).2
      have HK : Hid (r = (39 :: esc (t.data.toList.take k)) ++ [39]) := hide (by rw [unhide HR, List.take_of_length_le (by simp; omega)])
      go_wp2_with (first | (at_builtin; refine wpList_append_own _ rfl (.tmp 45) (.tmp 46) 43 rfl (w.heap.size + 2) 5 i0 (.int .u8 0) 1 1 Tryz.underlying43 hi hz0 hz1 hz2 rfl (by decide) _ _ _ rfl ((unhide HO1).alloc _) ⟨wr.heap.size, 0, none⟩ 1 1 [_] rfl rfl (one_new _ _ _) one_cell (by unfold maxLen; omega) (by omega) (by simp; omega) ?_; intro v2 w2 hnw2 hg _; have HO2 := hide hnw2; have HB2 : Below (w.heap.size + 2) W2 w2 := ((unhide HB1).alloc (by omega) _).grown hg (by simp; omega) (own_block_ge (unhide HO1)); have zw2 := HB2.size; have HB2 := hide HB2; clear hg hnw2 HO1 HB1; obtain ⟨aw2, kw2, rfl⟩ := own_sl (unhide HO2); have kc := own_conv (39 :: esc (t.data.toList.take k) ++ [39]) (unhide HO2) (by rw [List.length_append, ← (unhide HO).1]; rfl) (by rw [← cells_snoc]; rfl) (by rw [List.length_append, ← (unhide HO).1]; simp; omega)))
      go_ret
      exact ⟨ret_str (unhide HK).symm, (unhide HW).trans ((unhide HB2).mono (by omega))⟩

set_option maxHeartbeats 3200000 in
theorem rprint_any (g : GV) (w : World) (hg : g.ok) :
    Calls Tryz.prog 11 #[g.agg] w fun e w' => e = .returned (.string ⟨(printG g).toArray⟩) ∧ Below w.heap.size w w' := by
  have HA := hide (fun W => refIs_any g W hg)
  obtain ⟨r, hr⟩ : ∃ r, r = printG g := ⟨_, rfl⟩
  rw [← hr]
  unfold printG at hr
  have HD := hide (fun W => digits_any g.int W hg.1 hg.2.1)
  obtain ⟨k, n, t⟩ := g
  have hk := hide (may_kinds (g := ⟨k, n, t⟩))
  have hk3 := hide (fun h => may_kind3 (n := n) (t := t) h)
  clear hg
  simp only [GV.agg_eq] at HA ⊢
  dsimp only at hr HD hk
  obtain ⟨m, hm⟩ : ∃ m, m = GV.may ⟨k, n, t⟩ := ⟨_, rfl⟩
  rw [← hm] at HA hr hk
  cases m with
  | false =>
    rw [if_pos rfl] at hr
    have HR := hide hr
    clear hr hm hk hk3 HD
    go_enter Tryz.func11, Tryz.ntmps11
    go_wp2_with (go_at_call 7; refine (unhide HA _).mono ?_; clear HA; rintro e w1 ⟨rfl, rfl⟩)
    go_ret
    exact ⟨ret_str (unhide HR).symm, one_new' (one_new' (Below.refl _ _) _) _⟩
  | true =>
    rw [if_neg (by decide)] at hr
    have HM := hide hm
    clear hm
    rcases unhide hk rfl with rfl | rfl | rfl | rfl
    · rw [if_pos rfl] at hr
      have HR := hide hr
      clear hr hk hk3 HD
      go_enter Tryz.func11, Tryz.ntmps11
      go_wp2_with (go_at_call 7; refine (unhide HA _).mono ?_; clear HA; rintro e w1 ⟨rfl, rfl⟩)
      go_ret
      exact ⟨ret_str (unhide HR).symm, one_new' (one_new' (Below.refl _ _) _) _⟩
    · rw [if_neg (by decide), if_pos rfl] at hr
      by_cases h1 : n = 1
      · subst h1
        rw [if_pos rfl] at hr
        have HR := hide hr
        clear hr hk hk3 HD
        go_enter Tryz.func11, Tryz.ntmps11
        go_wp2_with (go_at_call 7; refine (unhide HA _).mono ?_; clear HA; rintro e w1 ⟨rfl, rfl⟩)
        go_ret
        exact ⟨ret_str (unhide HR).symm, one_new' (one_new' (Below.refl _ _) _) _⟩
      · have h1b : (n == 1) = false := by simpa using h1
        rw [if_neg h1] at hr
        have HR := hide hr
        clear hr hk hk3 HD h1
        go_enter Tryz.func11, Tryz.ntmps11
        go_wp2_with (go_at_call 7; refine (unhide HA _).mono ?_; clear HA; rintro e w1 ⟨rfl, rfl⟩)
        go_ret
        exact ⟨ret_str (unhide HR).symm, one_new' (one_new' (Below.refl _ _) _) _⟩
    · rw [if_neg (by decide), if_neg (by decide), if_pos rfl] at hr
      have HR := hide hr
      clear hr hk hk3
      go_enter Tryz.func11, Tryz.ntmps11
      go_wp2_with (first
        | (go_at_call 7; refine (unhide HA _).mono ?_; clear HA; rintro e w1 ⟨rfl, rfl⟩)
        | (go_at_call 26; refine (unhide HD _).mono ?_; clear HD; rintro e w2 ⟨rfl, hb2⟩))
      go_ret
      exact ⟨ret_str (unhide HR).symm, one_step (one_new' (one_new' (Below.refl _ _) _) _) hb2⟩
    · rw [if_neg (by decide), if_neg (by decide), if_neg (by decide)] at hr
      subst hr
      exact rprint_text n t w (unhide hk3 (unhide HM).symm) HA
end Go.Proofs.YtjmkoceiepcphaaGreatDoor
