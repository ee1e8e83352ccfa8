/- Contract of the document's Rows. -/
import Derived.Test.YtobonbjeejbhoaaDoorKRef
import Derived.Deep.RegionHeld3
namespace Go.Proofs.YtobonbjeejbhoaaDoor
open Go.RowKit Go.Lib

theorem rows_stop {a b : List GV} {j : Nat} (h1 : j ≤ a.length) (h2 : j ≤ b.length) (h : j = a.length ∨ j = b.length) : rowsG (a.drop j) (b.drop j) = if a.length < b.length then -1 else if a.length > b.length then 1 else 0 := by
  by_cases e : a.length < b.length
  · rw [if_pos e]
    have : j = a.length := by omega
    subst this
    rw [rows_end (by omega), if_pos e]
  · rw [if_neg e]
    by_cases e2 : a.length > b.length
    · rw [if_pos e2, rows_gt (by omega) (by omega)]
    · rw [if_neg e2]
      have : j = a.length := by omega
      subst this
      rw [rows_end (by omega), if_neg e]

set_option maxHeartbeats 3200000 in
set_option maxRecDepth 100000 in
theorem refRows_any (ad bd : Option Addr) (ca cb : Nat) (a b : List GV) (w : World) (ha : RVa w w.heap.size ad a) (hb : RVa w w.heap.size bd b) :
    Calls Tryd.prog 12 #[.slice ad a.length ca, .slice bd b.length cb] w fun e w' => e = .returned (.int .i64 (rowsG a b)) ∧ Below w.heap.size w w' := by
  have la : (a.length : Int) ≤ 9223372036854775807 := by have := ha.1; unfold maxLen at this; omega
  have lb : (b.length : Int) ≤ 9223372036854775807 := by have := hb.1; unfold maxLen at this; omega
  have HA := hide ha
  have HB := hide hb
  obtain ⟨R, hR⟩ : ∃ R, R = rowsG a b := ⟨_, rfl⟩
  rw [← hR]
  have HRR := hide hR
  clear ha hb hR
  go_enter Tryd.func12, Tryd.ntmps12
  go_wp2
  go_loopw [5] (fun i wr => ∃ j : Nat, j ≤ a.length ∧ j ≤ b.length ∧ i = .int .i64 j ∧ Hid (R = rowsG (a.drop j) (b.drop j) ∧ Below w.heap.size w wr)) (fun i _ => a.length - (intOf i).toNat)
  case atStart => exact ⟨0, by omega, by omega, rfl, unhide HRR, Below.refl _ _⟩
  case round =>
    obtain ⟨j, hj, hjb, rfl, HR⟩ := hrel
    have hbw := (unhide HR).2
    by_cases hlt : j < a.length ∧ j < b.length
    · obtain ⟨hlt, hltb⟩ := hlt
      obtain ⟨g, hgk⟩ : ∃ g, a[j]? = some g := ⟨a[j], List.getElem?_eq_getElem hlt⟩
      obtain ⟨_, oa, hca⟩ := unhide HA
      obtain ⟨x, off, rfl, hxB, hc⟩ := hca (by intro e; rw [e] at hlt; simp at hlt)
      obtain ⟨c0, c1, c2⟩ := hc j g hgk
      replace c0 := (hbw.cell (p := ⟨x, off + j * 3, none⟩) hxB).trans c0
      replace c1 := (hbw.cell (p := ⟨x, off + j * 3 + 1, none⟩) hxB).trans c1
      replace c2 := (hbw.cell (p := ⟨x, off + j * 3 + 2, none⟩) hxB).trans c2
      have hji : (j : Int) < (a.length : Int) := by omega
      have hj0 : (0 : Int) ≤ (j : Int) := by omega
      have og := oa g (List.mem_of_getElem? hgk)
      obtain ⟨h, hhk⟩ : ∃ h, b[j]? = some h := ⟨b[j], List.getElem?_eq_getElem hltb⟩
      obtain ⟨_, ob, hcb⟩ := unhide HB
      obtain ⟨y, off', rfl, hyB, hc'⟩ := hcb (by intro e; rw [e] at hltb; simp at hltb)
      obtain ⟨d0, d1, d2⟩ := hc' j h hhk
      replace d0 := (hbw.cell (p := ⟨y, off' + j * 3, none⟩) hyB).trans d0
      replace d1 := (hbw.cell (p := ⟨y, off' + j * 3 + 1, none⟩) hyB).trans d1
      replace d2 := (hbw.cell (p := ⟨y, off' + j * 3 + 2, none⟩) hyB).trans d2
      have hjb' : (j : Int) < (b.length : Int) := by omega
      have oh := ob h (List.mem_of_getElem? hhk)
      have HC := hide (fun W => refCompare_any g h W og oh)
      have HE := hide ((unhide HR).1.trans (rows_drop hgk hhk))
      have HQ := hide hbw
      have hsz := hbw.size
      generalize compareG g h = c at *
      clear hc hca oa HA hc' hcb ob HB HR hgk hhk og oh hbw
      obtain ⟨k, n, t⟩ := g
      obtain ⟨k', n', t'⟩ := h
      rw [GV.agg_eq, GV.agg_eq] at HC
      dsimp only at c0 c1 c2 d0 d1 d2
      go_wp2
      go_region_held3 (fun w' => w'.cell? ⟨x, off + j * 3, none⟩ = some (.int .i64 k) ∧ w'.cell? ⟨x, off + j * 3 + 1, none⟩ = some (.int .i64 n) ∧ w'.cell? ⟨x, off + j * 3 + 2, none⟩ = some (.string t) ∧ w'.cell? ⟨y, off' + j * 3, none⟩ = some (.int .i64 k') ∧ w'.cell? ⟨y, off' + j * 3 + 1, none⟩ = some (.int .i64 n') ∧ w'.cell? ⟨y, off' + j * 3 + 2, none⟩ = some (.string t')) (go_keep)
        (first | (go_at_call 26; refine (unhide HC _).mono ?_; clear HC; rintro e w1 ⟨rfl, hb1⟩; have Q1 := hide (one_step (unhide HQ).drew hb1); have e0 := (hb1.cell (p := ⟨x, off + j * 3, none⟩) (Nat.lt_of_lt_of_le hxB hsz)).trans c0; have e1 := (hb1.cell (p := ⟨x, off + j * 3 + 1, none⟩) (Nat.lt_of_lt_of_le hxB hsz)).trans c1; have e2 := (hb1.cell (p := ⟨x, off + j * 3 + 2, none⟩) (Nat.lt_of_lt_of_le hxB hsz)).trans c2; have f0 := (hb1.cell (p := ⟨y, off' + j * 3, none⟩) (Nat.lt_of_lt_of_le hyB hsz)).trans d0; have f1 := (hb1.cell (p := ⟨y, off' + j * 3 + 1, none⟩) (Nat.lt_of_lt_of_le hyB hsz)).trans d1; have f2 := (hb1.cell (p := ⟨y, off' + j * 3 + 2, none⟩) (Nat.lt_of_lt_of_le hyB hsz)).trans d2))
      by_cases hc0 : c = 0
      · subst hc0
        go_wp2_with fail
        go_roundw
        case rel => exact ⟨j + 1, by omega, by omega, by go_num, (unhide HE).trans (first0_eq _), unhide Q1⟩
        case measure => simp [intOf]; omega
      · have hcn : (c != 0) = true := by simpa using hc0
        have HF := hide (first0_ne (b := rowsG (a.drop (j + 1)) (b.drop (j + 1))) hc0)
        clear hc0
        go_wp2_with fail
        go_ret
        exact ⟨ret_int ((unhide HE).trans (unhide HF)).symm, unhide Q1⟩
    · have HE := hide ((unhide HR).1.trans (rows_stop hj hjb (by omega)))
      have HQ := hide hbw
      have HO := hide (fun l m W => refOrder_any l m W)
      clear HA HB HR hbw
      have tail : Hid ((a.length < b.length → R = -1) ∧ (a.length > b.length → R = 1) ∧ (¬ a.length < b.length → ¬ a.length > b.length → R = 0)) := by
        rw [unhide HE]
        refine ⟨fun h => if_pos h, fun h => ?_, fun h1 h2 => ?_⟩
        · rw [if_neg (by omega), if_pos h]
        · rw [if_neg h1, if_neg h2]
      clear HE
      by_cases ja : j < a.length
      · have jb : ¬ j < b.length := fun h => hlt ⟨ja, h⟩
        have hab : a.length > b.length := by omega
        have HX := hide ((unhide tail).2.1 hab)
        have jaI : (j : Int) < (a.length : Int) := by omega
        have jbI : ((j : Int) < (b.length : Int)) = False := by simp; omega
        have abI : ((a.length : Int) < (b.length : Int)) = False := by simp; omega
        have abJ : (b.length : Int) < (a.length : Int) := by omega
        clear hlt ja jb hab tail
        go_wp2_with (first | (go_at_call 27; refine (unhide HO _ _ _).mono ?_; rintro e w1 ⟨rfl, rfl⟩))
        go_ret
        exact ⟨ret_int (unhide HX).symm, unhide HQ⟩
      · have jaI : ((j : Int) < (a.length : Int)) = False := by simp; omega
        by_cases hab : a.length < b.length
        · have HX := hide ((unhide tail).1 hab)
          have abI : (a.length : Int) < (b.length : Int) := by omega
          have abJ : ((b.length : Int) < (a.length : Int)) = False := by simp; omega
          clear hlt ja hab tail
          go_wp2_with (first | (go_at_call 27; refine (unhide HO _ _ _).mono ?_; rintro e w1 ⟨rfl, rfl⟩))
          go_ret
          exact ⟨ret_int (unhide HX).symm, unhide HQ⟩
        · have HX := hide ((unhide tail).2.2 hab (by omega))
          have abI : ((a.length : Int) < (b.length : Int)) = False := by simp; omega
          have abJ : ((b.length : Int) < (a.length : Int)) = False := by simp; omega
          clear hlt ja hab tail
          go_wp2_with (first | (go_at_call 27; refine (unhide HO _ _ _).mono ?_; rintro e w1 ⟨rfl, rfl⟩))
          go_ret
          exact ⟨ret_int (unhide HX).symm, unhide HQ⟩
end Go.Proofs.YtobonbjeejbhoaaDoor
