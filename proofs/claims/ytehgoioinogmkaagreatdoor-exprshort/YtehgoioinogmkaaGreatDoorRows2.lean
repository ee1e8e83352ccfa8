/- Contracts of package wire's writer of rows: list, row, done, PutRow. -/
import Derived.Test.YtehgoioinogmkaaGreatDoorJValsVals2Vals3
namespace Go.Proofs.YtehgoioinogmkaaGreatDoor
open Go.RowKit Go.Lib

/-- A slice of values that reads as these. -/
def RV (w : World) (B : Nat) (v : Value) (gs : List GV) : Prop :=
  gs.length * 32 ≤ 140737488351232 ∧ (∀ g ∈ gs, g.ok) ∧ ((v = .slice none 0 0 ∧ gs = []) ∨
    ∃ b off cap, b < B ∧ v = .slice (some ⟨b, off, none⟩) gs.length cap ∧ ∀ i g, gs[i]? = some g → w.cell? ⟨b, off + i * 3, none⟩ = some (.int .i64 g.kind) ∧ w.cell? ⟨b, off + i * 3 + 1, none⟩ = some (.int .i64 g.int) ∧ w.cell? ⟨b, off + i * 3 + 2, none⟩ = some (.string g.text))

def putVals (gs : List GV) (s : Option (List UInt8)) : Option (List UInt8) := gs.foldl (fun s g => putVal g s) s
theorem putVal_none (g : GV) : putVal g none = none := by unfold putVal; split <;> rfl
theorem putVals_none (gs : List GV) : putVals gs none = none := by
  induction gs with
  | nil => rfl
  | cons g r ih => simp only [putVals, List.foldl_cons, putVal_none]; exact ih
theorem putVals_snoc (gs : List GV) (s : Option (List UInt8)) (k : Nat) (g : GV) (h : gs[k]? = some g) : putVals (gs.take (k + 1)) s = putVal g (putVals (gs.take k) s) := by
  rw [List.take_add_one, h, putVals, List.foldl_append]; rfl
theorem putVals_split (gs : List GV) (s : Option (List UInt8)) (k : Nat) : putVals gs s = putVals (gs.drop k) (putVals (gs.take k) s) := by
  rw [putVals, putVals, putVals, ← List.foldl_append, List.take_append_drop]
theorem may_len {g : GV} (h : g.may = true) (hg : g.ok) : g.bytes.length ≤ 100 := by
  obtain ⟨k, n, t⟩ := g
  obtain ⟨h1, h2, h3⟩ := hg
  dsimp only at h1 h2 h3
  by_cases hk0 : k = 0
  · subst hk0; simp [GV.bytes]; exact uv_small 0 (by decide)
  · by_cases hk1 : k = 1
    · subst hk1
      have hb : n = 0 ∨ n = 1 := by simp [GV.may] at h; exact h.1
      have a1 := uvarint_length64 (x := 1) (by decide)
      have a0 := uvarint_length64 (x := 0) (by decide)
      rcases hb with rfl | rfl <;> simp [GV.bytes] <;> omega
    · by_cases hk2 : k = 2
      · subst hk2
        have a1 := uvarint_length64 (x := 2) (by decide)
        have a0 := uvarint_length64 (zigzag_lt h1 (by omega : n ≤ 9223372036854775807))
        simp [GV.bytes]; omega
      · have b0 : (k == 0) = false := by simp [hk0]
        have b1 : (k == 1) = false := by simp [hk1]
        have b2 : (k == 2) = false := by simp [hk2]
        simp [GV.may, b0, b1, b2] at h
        obtain ⟨⟨⟨rfl, _⟩, h40⟩, _⟩ := h
        have a1 := uvarint_length64 (x := 3) (by decide)
        have a0 := uvarint_length64 (x := t.size) (by omega)
        simp [GV.bytes]; omega
theorem putVals_len {gs : List GV} (hg : ∀ g ∈ gs, g.ok) {l0 : List UInt8} : ∀ l, putVals gs (some l0) = some l → l.length ≤ l0.length + 100 * gs.length := by
  induction gs generalizing l0 with
  | nil => intro l h; simp [putVals] at h; subst h; simp
  | cons g r ih =>
    intro l h
    have e : putVals (g :: r) (some l0) = putVals r (putVal g (some l0)) := rfl
    rw [e] at h
    unfold putVal at h
    by_cases hm : g.may = true
    · rw [if_pos hm] at h
      have := ih (fun g hg' => hg g (List.mem_cons_of_mem _ hg')) l h
      have hb := may_len hm (hg g (List.mem_cons_self))
      simp at this ⊢; omega
    · rw [if_neg hm, putVals_none] at h; cases h

/-- What a writer has behind the number of a list. -/
def putLen (n : Nat) (most : Int) (s : Option (List UInt8)) : Option (List UInt8) := if (n : Int) ≤ most then s.map (· ++ uvarint n) else none

set_option maxHeartbeats 3200000 in
set_option maxRecDepth 100000 in
theorem wlist_row (p b off cap : Nat) (gs : List GV) (s : Option (List UInt8)) (w : World) (hE : b < p) (hlen : gs.length * 32 ≤ 140737488351232) (hok : ∀ g ∈ gs, g.ok)
    (hc : ∀ i g, gs[i]? = some g → w.cell? ⟨b, off + i * 3, none⟩ = some (.int .i64 g.kind) ∧ w.cell? ⟨b, off + i * 3 + 1, none⟩ = some (.int .i64 g.int) ∧ w.cell? ⟨b, off + i * 3 + 2, none⟩ = some (.string g.text))
    (hw : WS w p s) (hl : ∀ l, s = some l → l.length ≤ 700000000) :
    Calls Tryz.prog 208 #[.pointer (some ⟨p, 0, none⟩), .slice (some ⟨b, off, none⟩) gs.length cap, .int .i64 64, .func (.func 209) #[.pointer (some ⟨p, 0, none⟩)] #[]] w fun e w' =>
      e = .returned (.tuple #[]) ∧ WS w' p (putVals gs (putLen gs.length 64 s)) ∧ Fr 5 p w w' := by
  have hp := hw.lt
  have HB := hide (wbetween_any p (gs.length : Int) 0 64 s w (by omega) (by omega) (by omega) hw (fun l h => by have := hl l h; omega))
  have e : (if 0 ≤ (gs.length : Int) ∧ (gs.length : Int) ≤ 64 then s.map (· ++ uvarint ((gs.length : Int) - 0).toNat) else none) = putLen gs.length 64 s := by
    unfold putLen
    have e1 : ((gs.length : Int) - 0).toNat = gs.length := by omega
    rw [e1]
    by_cases h : (gs.length : Int) ≤ 64
    · rw [if_pos h, if_pos ⟨by omega, h⟩]
    · rw [if_neg h, if_neg (by omega)]
  rw [e] at HB
  have HLn := hide (show ∀ (k : Nat) l, putVals (gs.take k) (putLen gs.length 64 s) = some l → l.length ≤ 800000000 by
    intro k l h
    unfold putLen at h
    by_cases h64 : (gs.length : Int) ≤ 64
    · rw [if_pos h64] at h
      cases s with
      | none => rw [Option.map_none, putVals_none] at h; cases h
      | some l0 =>
        have h1 := putVals_len (gs := gs.take k) (fun g hg => hok g (List.mem_of_mem_take hg)) l h
        have h2 := hl l0 rfl
        have h3 := uvarint_length64 (x := gs.length) (by omega)
        simp at h1; omega
    · rw [if_neg h64, putVals_none] at h; cases h)
  generalize putLen gs.length 64 s = s1 at *
  clear e hl
  have HC := hide hc
  clear hc hw
  go_enter Tryz.func208, Tryz.ntmps208
  go_wp2_with (first | (go_at_call 217; refine (unhide HB).mono ?_; rintro e w1 ⟨rfl, hw1, hf1⟩))
  clear HB
  go_loopw [17] (fun i wr => ∃ k : Nat, k ≤ gs.length ∧ i = .int .i64 k ∧ WS wr p (putVals (gs.take k) s1) ∧ Fr 5 p w wr) (fun i _ => gs.length - (intOf i).toNat)
  case atStart => exact ⟨0, Nat.zero_le _, rfl, hw1, hf1⟩
  case round =>
    obtain ⟨k, hk, rfl, hwr, hfr⟩ := hrel
    by_cases hlt : k < gs.length
    · obtain ⟨g, hgk⟩ : ∃ g, gs[k]? = some g := ⟨gs[k], List.getElem?_eq_getElem hlt⟩
      obtain ⟨c0, c1, c2⟩ := unhide HC k g hgk
      have q0 : wr.cell? ⟨b, off + k * 3, none⟩ = some (.int .i64 g.kind) := (hfr.1.cell (p := ⟨b, off + k * 3, none⟩) hE).trans c0
      have q1 : wr.cell? ⟨b, off + k * 3 + 1, none⟩ = some (.int .i64 g.int) := (hfr.1.cell (p := ⟨b, off + k * 3 + 1, none⟩) hE).trans c1
      have q2 : wr.cell? ⟨b, off + k * 3 + 2, none⟩ = some (.string g.text) := (hfr.1.cell (p := ⟨b, off + k * 3 + 2, none⟩) hE).trans c2
      have hpr := hwr.lt
      have hgo := hok g (List.mem_of_getElem? hgk)
      have HS := hide (putVals_snoc gs s1 k g hgk)
      clear c0 c1 c2 HC hgk
      cases hst : putVals (gs.take k) s1 with
      | none =>
        have HN := hide (putVals_split gs s1 k)
        rw [hst, putVals_none] at HN
        rw [hst] at hwr
        have hwn := hwr.alloc (.cells #[.int .i64 g.kind, .int .i64 g.int, .string g.text] 26)
        have hfn := hfr.alloc (by omega) (.cells #[.int .i64 g.kind, .int .i64 g.int, .string g.text] 26)
        obtain ⟨f0, f1, b', pl, h0, h1, hb, he⟩ := hwr
        clear hst HS
        go_wp2
        refine bodyPost_ret (results_none rfl _ _ _) rfl ?_
        exact ⟨rfl, by rw [unhide HN]; exact hwn, hfn⟩
      | some l =>
        have HL := unhide HLn k l hst
        rw [hst] at hwr HS
        have HV := hide (wvalue_any p g (some l) _ hgo (hwr.alloc (.cells #[.int .i64 g.kind, .int .i64 g.int, .string g.text] 26)) (by intro l' e; injection e with e; subst e; exact HL))
        have hfn := hfr.alloc (by omega) (.cells #[.int .i64 g.kind, .int .i64 g.int, .string g.text] 26)
        obtain ⟨f0, f1, v, h0, h1, ho⟩ := hwr
        clear hst HL
        go_wp2_with (first | (go_at_call 209; refine (unhide HV).mono ?_; rintro e w2 ⟨rfl, hw2, hf2⟩))
        rw [← unhide HS] at hw2
        clear HV HS
        go_roundw
        case rel => exact ⟨k + 1, by omega, by go_num, hw2, hfn.trans hf2⟩
        case measure => simp [intOf]; omega
    · have he : gs.take k = gs := List.take_of_length_le (by omega)
      rw [he] at hwr
      go_wp2
      first | go_end0 | refine bodyPost_ret (results_none rfl _ _ _) rfl ?_
      exact ⟨rfl, hwr, hfr⟩

set_option maxHeartbeats 1600000 in
theorem wlist_nil (p : Nat) (s : Option (List UInt8)) (w : World) (hw : WS w p s) (hl : ∀ l, s = some l → l.length ≤ 700000000) :
    Calls Tryz.prog 208 #[.pointer (some ⟨p, 0, none⟩), .slice none 0 0, .int .i64 64, .func (.func 209) #[.pointer (some ⟨p, 0, none⟩)] #[]] w fun e w' =>
      e = .returned (.tuple #[]) ∧ WS w' p (putVals [] (putLen 0 64 s)) ∧ Fr 5 p w w' := by
  have HB := hide (wbetween_any p 0 0 64 s w (by omega) (by omega) (by omega) hw (fun l h => by have := hl l h; omega))
  clear hw hl
  go_enter Tryz.func208, Tryz.ntmps208
  go_wp2_with (first | (go_at_call 217; refine (unhide HB).mono ?_; rintro e w1 ⟨rfl, hw1, hf1⟩))
  clear HB
  refine wp_loop_rounds 1 ?_
  rw [rounds_succ]
  go_wp2
  first | go_end0 | refine bodyPost_ret (results_none rfl _ _ _) rfl ?_
  exact ⟨rfl, by simpa [putVals, putLen] using hw1, hf1⟩

theorem wlist_any (p : Nat) (v : Value) (gs : List GV) (s : Option (List UInt8)) (w : World) (hv : RV w p v gs) (hw : WS w p s) (hl : ∀ l, s = some l → l.length ≤ 700000000) :
    Calls Tryz.prog 208 #[.pointer (some ⟨p, 0, none⟩), v, .int .i64 64, .func (.func 209) #[.pointer (some ⟨p, 0, none⟩)] #[]] w fun e w' =>
      e = .returned (.tuple #[]) ∧ WS w' p (putVals gs (putLen gs.length 64 s)) ∧ Fr 5 p w w' := by
  obtain ⟨h1, h2, ⟨rfl, rfl⟩ | ⟨b, off, cap, hb, rfl, hc⟩⟩ := hv
  · exact wlist_nil p s w hw hl
  · exact wlist_row p b off cap gs s w hb h1 h2 hc hw hl

set_option maxHeartbeats 1600000 in
theorem wrow_any (p : Nat) (v : Value) (gs : List GV) (s : Option (List UInt8)) (w : World) (hv : RV w p v gs) (hw : WS w p s) (hl : ∀ l, s = some l → l.length ≤ 700000000) :
    Calls Tryz.prog 196 #[.pointer (some ⟨p, 0, none⟩), v] w fun e w' =>
      e = .returned (.tuple #[]) ∧ WS w' p (putVals gs (putLen gs.length 64 s)) ∧ Fr 5 p w w' := by
  have hmf : ∀ (fn : Fn) (first cap : Array Value) (w : World), (Instr.makeFunc fn first cap).run Tryz.prog w = .ok (.func fn first cap) w := fun _ _ _ _ => rfl
  have HL := hide (wlist_any p v gs s w hv hw hl)
  clear hv hw hl
  go_enter Tryz.func196, Tryz.ntmps196
  go_wp2_with (first | (go_at_call 208; refine (unhide HL).mono ?_; rintro e w1 ⟨rfl, hw1, hf1⟩))
  first | go_end0 | refine bodyPost_ret (results_none rfl _ _ _) rfl ?_
  exact ⟨rfl, hw1, hf1⟩
end Go.Proofs.YtehgoioinogmkaaGreatDoor
