/- Contract of value.Rows. -/
import Derived.Test.YtobonbjeejbhoaaDoorVTest
import Derived.Test.YtobonbjeejbhoaaDoorVFew
import Derived.Test.YtobonbjeejbhoaaDoorKMath
namespace Go.Proofs.YtobonbjeejbhoaaDoor
open Go.RowKit Go.Lib

/-- A row of values; an empty one may lie anywhere. -/
def RVa (w : World) (B : Nat) (ad : Option Addr) (gs : List GV) : Prop :=
  gs.length ≤ maxLen ∧ (∀ g ∈ gs, g.ok) ∧ (gs ≠ [] → ∃ b off, ad = some ⟨b, off, none⟩ ∧ b < B ∧ ∀ i g, gs[i]? = some g → w.cell? ⟨b, off + i * 3, none⟩ = some (.int .i64 g.kind) ∧ w.cell? ⟨b, off + i * 3 + 1, none⟩ = some (.int .i64 g.int) ∧ w.cell? ⟨b, off + i * 3 + 2, none⟩ = some (.string g.text))
theorem RVu.rva {w : World} {B : Nat} {v : Value} {gs : List GV} (h : RVu w B v gs) : ∃ ad cap, v = .slice ad gs.length cap ∧ RVa w B ad gs := by
  obtain ⟨h1, h2, ⟨rfl, rfl⟩ | ⟨b, off, cap, hbB, rfl, hc⟩⟩ := h
  · exact ⟨none, 0, rfl, h1, h2, fun h => absurd rfl h⟩
  · exact ⟨_, cap, rfl, h1, h2, fun _ => ⟨b, off, rfl, hbB, hc⟩⟩
theorem rows_drop {a b : List GV} {j : Nat} {g h : GV} (ha : a[j]? = some g) (hb : b[j]? = some h) : rowsG (a.drop j) (b.drop j) = first0 (compareG g h) (rowsG (a.drop (j + 1)) (b.drop (j + 1))) := by
  obtain ⟨l1, e1⟩ := List.getElem?_eq_some_iff.1 ha
  obtain ⟨l2, e2⟩ := List.getElem?_eq_some_iff.1 hb
  rw [List.drop_eq_getElem_cons l1, List.drop_eq_getElem_cons l2, e1, e2]
  rfl
theorem rows_gt {a b : List GV} {j : Nat} (ha : j < a.length) (hb : b.length ≤ j) : rowsG (a.drop j) (b.drop j) = 1 := by
  rw [List.drop_eq_getElem_cons ha, List.drop_eq_nil_of_le hb]
  rfl
theorem rows_end {a b : List GV} (hb : a.length ≤ b.length) : rowsG (a.drop a.length) (b.drop a.length) = if a.length < b.length then -1 else 0 := by
  rw [List.drop_eq_nil_of_le (Nat.le_refl _)]
  split
  · rename_i h
    rw [List.drop_eq_getElem_cons h]; rfl
  · rw [List.drop_eq_nil_of_le (by omega)]; rfl

set_option maxHeartbeats 3200000 in
set_option maxRecDepth 100000 in
theorem cfunc_any (ad bd : Option Addr) (ca cb : Nat) (a b : List GV) (w : World) (ha : RVa w w.heap.size ad a) (hb : RVa w w.heap.size bd b) :
    Calls Tryd.prog 24 #[.slice ad a.length ca, .slice bd b.length cb, .func (.func 25) #[] #[]] w fun e w' => e = .returned (.int .i64 (rowsG a b)) ∧ Below w.heap.size w w' := by
  have la : (a.length : Int) ≤ 9223372036854775807 := by have := ha.1; unfold maxLen at this; omega
  have lb : (b.length : Int) ≤ 9223372036854775807 := by have := hb.1; unfold maxLen at this; omega
  have HA := hide ha
  have HB := hide hb
  obtain ⟨R, hR⟩ : ∃ R, R = rowsG a b := ⟨_, rfl⟩
  rw [← hR]
  have HRR := hide hR
  clear ha hb hR
  go_enter Tryd.func24, Tryd.ntmps24
  go_wp2
  go_loopw [13] (fun i wr => ∃ j : Nat, j ≤ a.length ∧ j ≤ b.length ∧ i = .int .i64 j ∧ Hid (R = rowsG (a.drop j) (b.drop j) ∧ Below w.heap.size w wr)) (fun i _ => a.length - (intOf i).toNat)
  case atStart => exact ⟨0, by omega, by omega, rfl, unhide HRR, Below.refl _ _⟩
  case round =>
    obtain ⟨j, hj, hjb, rfl, HR⟩ := hrel
    have hbw := (unhide HR).2
    by_cases hlt : j < a.length
    · obtain ⟨g, hgk⟩ : ∃ g, a[j]? = some g := ⟨a[j], List.getElem?_eq_getElem hlt⟩
      obtain ⟨_, oa, hca⟩ := unhide HA
      obtain ⟨x, off, rfl, hxB, hc⟩ := hca (by intro e; rw [e] at hlt; simp at hlt)
      obtain ⟨c0, c1, c2⟩ := hc j g hgk
      replace c0 := (hbw.cell (p := ⟨x, off + j * 3, none⟩) hxB).trans c0
      replace c1 := (hbw.cell (p := ⟨x, off + j * 3 + 1, none⟩) hxB).trans c1
      replace c2 := (hbw.cell (p := ⟨x, off + j * 3 + 2, none⟩) hxB).trans c2
      have hji : (j : Int) < (a.length : Int) := by omega
      have og := oa g (List.mem_of_getElem? hgk)
      clear hc hca oa HA
      by_cases hltb : j < b.length
      · obtain ⟨h, hhk⟩ : ∃ h, b[j]? = some h := ⟨b[j], List.getElem?_eq_getElem hltb⟩
        obtain ⟨_, ob, hcb⟩ := unhide HB
        obtain ⟨y, off', rfl, hyB, hc⟩ := hcb (by intro e; rw [e] at hltb; simp at hltb)
        obtain ⟨d0, d1, d2⟩ := hc j h hhk
        have hb1 := one_new' hbw (.cells #[.int .i64 g.kind, .int .i64 g.int, .string g.text] 42)
        replace d0 := (hb1.cell (p := ⟨y, off' + j * 3, none⟩) hyB).trans d0
        replace d1 := (hb1.cell (p := ⟨y, off' + j * 3 + 1, none⟩) hyB).trans d1
        replace d2 := (hb1.cell (p := ⟨y, off' + j * 3 + 2, none⟩) hyB).trans d2
        have hjb' : (j : Int) < (b.length : Int) := by omega
        have hjn : ((b.length : Int) ≤ (j : Int)) = False := by simp; omega
        have oh := ob h (List.mem_of_getElem? hhk)
        have HC := hide (fun W => compare_any g h W og oh)
        have HE := hide ((unhide HR).1.trans (rows_drop hgk hhk))
        have HQ := hide (one_new' hb1 (.cells #[.int .i64 h.kind, .int .i64 h.int, .string h.text] 42))
        generalize compareG g h = c at *
        clear hc hcb ob HB HR hgk hhk og oh hbw hb1
        obtain ⟨k, n, t⟩ := g
        obtain ⟨k', n', t'⟩ := h
        rw [GV.agg_eq, GV.agg_eq] at HC
        dsimp only at c0 c1 c2 d0 d1 d2 HQ
        by_cases hc0 : c = 0
        · subst hc0
          go_wp2_with (first | (go_at_call 25; refine (unhide HC _).mono ?_; clear HC; rintro e w1 ⟨rfl, hb1⟩))
          go_roundw
          case rel => exact ⟨j + 1, by omega, by omega, by go_num, (unhide HE).trans (first0_eq _), one_step (unhide HQ) hb1⟩
          case measure => simp [intOf]; omega
        · have hcn : (c != 0) = true := by simpa using hc0
          have HF := hide (first0_ne (b := rowsG (a.drop (j + 1)) (b.drop (j + 1))) hc0)
          clear hc0
          go_wp2_with (first | (go_at_call 25; refine (unhide HC _).mono ?_; clear HC; rintro e w1 ⟨rfl, hb1⟩))
          go_ret
          exact ⟨ret_int ((unhide HE).trans (unhide HF)).symm, one_step (unhide HQ) hb1⟩
      · have hjn : (b.length : Int) ≤ (j : Int) := by omega
        have HE := hide ((unhide HR).1.trans (rows_gt hlt (by omega)))
        have HQ := hide (one_new' hbw (.cells #[.int .i64 g.kind, .int .i64 g.int, .string g.text] 42))
        clear HB HR hgk og hbw
        obtain ⟨k, n, t⟩ := g
        dsimp only at c0 c1 c2 HQ
        go_wp2_with fail
        go_ret
        exact ⟨ret_int (unhide HE).symm, unhide HQ⟩
    · have hje : j = a.length := by omega
      subst hje
      have HE := hide ((unhide HR).1.trans (rows_end hjb))
      have HQ := hide hbw
      clear HA HB HR hbw
      by_cases hl : a.length < b.length
      · rw [if_pos hl] at HE
        have hl' : (a.length : Int) < (b.length : Int) := by omega
        clear hl
        go_wp2_with fail
        go_ret
        exact ⟨ret_int (unhide HE).symm, unhide HQ⟩
      · rw [if_neg hl] at HE
        have hl' : ((a.length : Int) < (b.length : Int)) = False := by simp; omega
        clear hl
        go_wp2_with fail
        go_ret
        exact ⟨ret_int (unhide HE).symm, unhide HQ⟩
theorem vrows_any (ad bd : Option Addr) (ca cb : Nat) (a b : List GV) (w : World) (ha : RVa w w.heap.size ad a) (hb : RVa w w.heap.size bd b) :
    Calls Tryd.prog 11 #[.slice ad a.length ca, .slice bd b.length cb] w fun e w' => e = .returned (.int .i64 (rowsG a b)) ∧ Below w.heap.size w w' := by
  have HC := hide (cfunc_any ad bd ca cb a b w ha hb)
  clear ha hb
  go_enter Tryd.func11, Tryd.ntmps11
  go_wp2_with (first | (go_at_call 24; refine (unhide HC).mono ?_; clear HC; rintro e w1 ⟨rfl, hb1⟩))
  go_ret
  exact ⟨rfl, hb1⟩
end Go.Proofs.YtobonbjeejbhoaaDoor
