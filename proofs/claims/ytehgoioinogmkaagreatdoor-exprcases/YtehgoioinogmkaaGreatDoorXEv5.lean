/- Package expr: eval, a step. -/
import Derived.Test.YtehgoioinogmkaaGreatDoorXEv4
namespace Go.Proofs.YtehgoioinogmkaaGreatDoor
open Go.RowKit Go.Lib

theorem range_val {w : World} {b o : Nat} {n : Nd} {v : Value} (h : w.rangeAt b o (ndC n v)) : w.rangeAt b (o + 2) (gvC (gvN n)) := by
  intro j u hj
  have := h (j + 2) u
  rw [show o + (j + 2) = o + 2 + j by omega] at this
  apply this
  match j, hj with
  | 0, hj => exact hj
  | 1, hj => exact hj
  | 2, hj => exact hj
  | j + 3, hj => simp [gvC] at hj
set_option linter.unusedSimpArgs false in
set_option linter.unusedVariables false in
set_option maxHeartbeats 6400000 in
set_option maxRecDepth 20000 in
theorem eval_cnt (w : World) (pg be oe n k : Nat) (av : Option Addr) (kind lo hi : Int) (c0 : w.cell? ⟨be, oe, none⟩ = some (.int .i64 kind)) (c7 : w.cell? ⟨be, oe + 7, none⟩ = some (.slice av n k)) (har : ∀ W, Below w.heap.size w W → Calls Tryz.prog 68 #[.pointer (some ⟨be, oe, none⟩)] W fun e w' => e = .returned (.tuple #[.int .i64 lo, .int .i64 hi]) ∧ w' = W) (h : (n : Int) < lo ∨ hi < (n : Int)) : Calls Tryz.prog 36 #[.pointer (some ⟨pg, 0, none⟩), .pointer (some ⟨be, oe, none⟩)] w (GeP w (nullG, 20)) := by
  have HC0 : Hid (w.cell? ⟨be, oe, none⟩ = some (.int .i64 kind)) := c0
  have HBE : Hid (be < w.heap.size) := World.block_lt_of_cell? w _ c0
  have HC7 : Hid (w.cell? ⟨be, oe + 7, none⟩ = some (.slice av n k)) := c7
  have HAR := hide har
  clear c0 c7 har
  obtain ⟨PP, hPP⟩ : ∃ PP, PP = GeP w (nullG, 20) := ⟨_, rfl⟩
  have HPP := hide hPP
  rw [← hPP]
  clear hPP
  go_enter Tryz.func36, Tryz.ntmps36
  go_upto_region 1 with fail
  obtain ⟨w0, hw0⟩ : ∃ w0, w0 = w.alloc (.cells (gvC nullG).toArray 26) := ⟨_, rfl⟩
  have hb0 : Below w.heap.size w w0 := by rw [hw0]; exact alX (Below.refl _ _) _
  have HV := hide (show VV w0 w.heap.size nullG by rw [hw0]; exact VV.new w nullG)
  have HB := hide hb0
  rw [show (gvC nullG).toArray = #[.int .i64 0, .int .i64 0, .string ⟨#[]⟩] from rfl] at hw0
  rw [← hw0]
  clear hw0 hb0
  have HC0 := hide (((unhide HB).cell (p := ⟨be, oe, none⟩) (unhide HBE)).trans (unhide HC0))
  have HC7 := hide (((unhide HB).cell (p := ⟨be, oe + 7, none⟩) (unhide HBE)).trans (unhide HC7))
  refine wp_region_list ?_
  refine list_to (d := 9) (v := .pointer (some ⟨be, oe, none⟩)) rfl rfl (by kernel_rfl) ?_
  simp only [Act.put, sA, sB, sC]
  refine list_call rfl (some 10) rfl 68 #[.pointer (some ⟨be, oe, none⟩)] (by kernel_rfl) (unhide HAR w0 (unhide HB)) ?_
  rintro e w9 ⟨rfl, hw9⟩
  refine ⟨_, rfl, ?_⟩
  simp only [Act.put, sA, sB, sC]
  rw [hw9]
  clear hw9 w9
  refine list_to (d := 8) (v := .tuple #[.int .i64 lo, .int .i64 hi]) rfl rfl (by kernel_rfl) ?_
  simp only [Act.put, sA, sB, sC]
  refine list_to (d := 11) (v := .int .i64 lo) rfl rfl (by kernel_rfl) ?_
  simp only [Act.put, sA, sB, sC]
  refine list_to (d := 12) (v := .int .i64 hi) rfl rfl (by kernel_rfl) ?_
  simp only [Act.put, sA, sB, sC]
  refine list_to (d := 6) (v := .int .i64 lo) rfl rfl (by kernel_rfl) ?_
  simp only [Act.put, sA, sB, sC]
  refine list_to (d := 7) (v := .int .i64 hi) rfl rfl (by kernel_rfl) ?_
  simp only [Act.put, sA, sB, sC]
  go_upto_region 2 with fail
  refine wp_region_list ?_
  have c7 := unhide HC7
  refine list_to (d := 13) (v := .pointer (some ⟨be, oe, none⟩)) rfl rfl (by kernel_rfl) ?_
  simp only [Act.put, sA, sB, sC]
  refine list_to (d := 14) (v := .pointer (some ⟨be, oe, none⟩)) rfl rfl (by kernel_rfl) ?_
  simp only [Act.put, sA, sB, sC]
  refine list_to (d := 15) (v := .pointer (some ⟨be, oe + 7, none⟩)) rfl rfl (by kernel_rfl) ?_
  simp only [Act.put, sA, sB, sC]
  refine list_to (d := 16) (v := .slice av n k) rfl rfl (by go_simp) ?_
  simp only [Act.put, sA, sB, sC]
  clear c7
  refine list_to (d := 17) (v := .int .i64 (n : Int)) rfl rfl (by kernel_rfl) ?_
  simp only [Act.put, sA, sB, sC]
  refine list_to (d := 18) (v := .int .i64 lo) rfl rfl (by kernel_rfl) ?_
  simp only [Act.put, sA, sB, sC]
  refine list_to (d := 19) (v := .bool (decide ((n : Int) < lo))) rfl rfl (by go_simp) ?_
  simp only [Act.put, sA, sB, sC]
  by_cases h1 : (n : Int) < lo
  · have e1 : decide ((n : Int) < lo) = true := decide_eq_true h1
    rw [e1]
    refine list_to (d := 20) (v := .bool true) rfl rfl (by kernel_rfl) ?_
    simp only [Act.put, sA, sB, sC]
    refine list_skip (d := 21) rfl (by kernel_rfl) ?_
    simp only [Act.put, sA, sB, sC]
    refine list_skip (d := 22) rfl (by kernel_rfl) ?_
    simp only [Act.put, sA, sB, sC]
    refine list_skip (d := 23) rfl (by kernel_rfl) ?_
    simp only [Act.put, sA, sB, sC]
    refine list_skip (d := 24) rfl (by kernel_rfl) ?_
    simp only [Act.put, sA, sB, sC]
    refine list_skip (d := 25) rfl (by kernel_rfl) ?_
    simp only [Act.put, sA, sB, sC]
    refine list_skip (d := 26) rfl (by kernel_rfl) ?_
    simp only [Act.put, sA, sB, sC]
    refine list_skip (d := 27) rfl (by kernel_rfl) ?_
    simp only [Act.put, sA, sB, sC]
    refine list_to (d := 28) (v := .bool true) rfl rfl (by kernel_rfl) ?_
    simp only [Act.put, sA, sB, sC]
    as_aux_lemma =>
      go_upto_region 3 with fail
      refine wp_region_list ?_
      refine list_to (d := 29) (v := .agg (gvC nullG).toArray) rfl rfl (by kernel_rfl) ?_
      simp only [Act.put, sA, sB, sC]
      refine list_to (d := 30) (v := errG 20) rfl rfl (by kernel_rfl) ?_
      simp only [Act.put, sA, sB, sC]
      refine wpList_store_mid rfl 26 (.tmp 4) (.tmp 29) rfl w.heap.size 0 (gvC nullG).toArray rfl rfl (unhide HV).there sizeV (all_oneCell_toArray (gvC_one _)) ?_
      show wpList _ _ _ _ _ (w0.setCells w.heap.size 0 (gvC nullG))
      simp only [Act.put, sA, sB, sC]
      refine list_to (d := 5) (v := errG 20) rfl rfl (by kernel_rfl) ?_
      simp only [Act.put, sA, sB, sC]
      go_wp2_with fail
      refine bodyPost_ret (((unhide HV).set nullG).result2 rfl _ rfl) rfl ?_
      rw [unhide HPP]
      exact ⟨rfl, below_setCells0 (unhide HB) (Nat.le_refl _) _⟩
  · have e1 : decide ((n : Int) < lo) = false := decide_eq_false h1
    have e2 : decide (hi < (n : Int)) = true := decide_eq_true (h.resolve_left h1)
    rw [e1]
    refine list_to (d := 20) (v := .bool false) rfl rfl (by kernel_rfl) ?_
    simp only [Act.put, sA, sB, sC]
    have c7 := unhide HC7
    refine list_want (d := 21) (v := .pointer (some ⟨be, oe, none⟩)) rfl (by kernel_rfl) (by kernel_rfl) ?_
    simp only [Act.put, sA, sB, sC]
    refine list_want (d := 22) (v := .pointer (some ⟨be, oe, none⟩)) rfl (by kernel_rfl) (by kernel_rfl) ?_
    simp only [Act.put, sA, sB, sC]
    refine list_want (d := 23) (v := .pointer (some ⟨be, oe + 7, none⟩)) rfl (by kernel_rfl) (by kernel_rfl) ?_
    simp only [Act.put, sA, sB, sC]
    refine list_want (d := 24) (v := .slice av n k) rfl (by kernel_rfl) (by go_simp) ?_
    simp only [Act.put, sA, sB, sC]
    clear c7
    refine list_want (d := 25) (v := .int .i64 (n : Int)) rfl (by kernel_rfl) (by kernel_rfl) ?_
    simp only [Act.put, sA, sB, sC]
    refine list_want (d := 26) (v := .int .i64 hi) rfl (by kernel_rfl) (by kernel_rfl) ?_
    simp only [Act.put, sA, sB, sC]
    refine list_want (d := 27) (v := .bool (decide (hi < (n : Int)))) rfl (by kernel_rfl) (by go_simp) ?_
    simp only [Act.put, sA, sB, sC]
    rw [e2]
    refine list_to (d := 28) (v := .bool true) rfl rfl (by kernel_rfl) ?_
    simp only [Act.put, sA, sB, sC]
    as_aux_lemma =>
      go_upto_region 3 with fail
      refine wp_region_list ?_
      refine list_to (d := 29) (v := .agg (gvC nullG).toArray) rfl rfl (by kernel_rfl) ?_
      simp only [Act.put, sA, sB, sC]
      refine list_to (d := 30) (v := errG 20) rfl rfl (by kernel_rfl) ?_
      simp only [Act.put, sA, sB, sC]
      refine wpList_store_mid rfl 26 (.tmp 4) (.tmp 29) rfl w.heap.size 0 (gvC nullG).toArray rfl rfl (unhide HV).there sizeV (all_oneCell_toArray (gvC_one _)) ?_
      show wpList _ _ _ _ _ (w0.setCells w.heap.size 0 (gvC nullG))
      simp only [Act.put, sA, sB, sC]
      refine list_to (d := 5) (v := errG 20) rfl rfl (by kernel_rfl) ?_
      simp only [Act.put, sA, sB, sC]
      go_wp2_with fail
      refine bodyPost_ret (((unhide HV).set nullG).result2 rfl _ rfl) rfl ?_
      rw [unhide HPP]
      exact ⟨rfl, below_setCells0 (unhide HB) (Nat.le_refl _) _⟩
set_option linter.unusedSimpArgs false in
set_option linter.unusedVariables false in
set_option maxHeartbeats 6400000 in
set_option maxRecDepth 20000 in
theorem eval_k1 (w : World) (pg be oe n k : Nat) (av : Option Addr) (lo hi : Int) (R : GV × Int) (c0 : w.cell? ⟨be, oe, none⟩ = some (.int .i64 1)) (c7 : w.cell? ⟨be, oe + 7, none⟩ = some (.slice av n k)) (har : ∀ W, Below w.heap.size w W → Calls Tryz.prog 68 #[.pointer (some ⟨be, oe, none⟩)] W fun e w' => e = .returned (.tuple #[.int .i64 lo, .int .i64 hi]) ∧ w' = W) (g : GV) (rg : w.rangeAt be (oe + 2) (gvC g)) (h1 : ¬ (n : Int) < lo) (h2 : ¬ hi < (n : Int)) (hin : ∀ W, Below w.heap.size w W → Calls Tryz.prog 69 #[.agg (gvC g).toArray] W (GeP W R)) : Calls Tryz.prog 36 #[.pointer (some ⟨pg, 0, none⟩), .pointer (some ⟨be, oe, none⟩)] w (GeP w R) := by
  have HIN := hide hin
  clear hin
  have HRG := hide rg
  clear rg
  have HC0 : Hid (w.cell? ⟨be, oe, none⟩ = some (.int .i64 1)) := c0
  have HBE : Hid (be < w.heap.size) := World.block_lt_of_cell? w _ c0
  have HC7 : Hid (w.cell? ⟨be, oe + 7, none⟩ = some (.slice av n k)) := c7
  have HAR := hide har
  clear c0 c7 har
  obtain ⟨PP, hPP⟩ : ∃ PP, PP = GeP w R := ⟨_, rfl⟩
  have HPP := hide hPP
  rw [← hPP]
  clear hPP
  go_enter Tryz.func36, Tryz.ntmps36
  go_upto_region 1 with fail
  obtain ⟨w0, hw0⟩ : ∃ w0, w0 = w.alloc (.cells (gvC nullG).toArray 26) := ⟨_, rfl⟩
  have hb0 : Below w.heap.size w w0 := by rw [hw0]; exact alX (Below.refl _ _) _
  have HV := hide (show VV w0 w.heap.size nullG by rw [hw0]; exact VV.new w nullG)
  have HB := hide hb0
  rw [show (gvC nullG).toArray = #[.int .i64 0, .int .i64 0, .string ⟨#[]⟩] from rfl] at hw0
  rw [← hw0]
  clear hw0 hb0
  have HC0 := hide (((unhide HB).cell (p := ⟨be, oe, none⟩) (unhide HBE)).trans (unhide HC0))
  have HC7 := hide (((unhide HB).cell (p := ⟨be, oe + 7, none⟩) (unhide HBE)).trans (unhide HC7))
  refine wp_region_list ?_
  refine list_to (d := 9) (v := .pointer (some ⟨be, oe, none⟩)) rfl rfl (by kernel_rfl) ?_
  simp only [Act.put, sA, sB, sC]
  refine list_call rfl (some 10) rfl 68 #[.pointer (some ⟨be, oe, none⟩)] (by kernel_rfl) (unhide HAR w0 (unhide HB)) ?_
  rintro e w9 ⟨rfl, hw9⟩
  refine ⟨_, rfl, ?_⟩
  simp only [Act.put, sA, sB, sC]
  rw [hw9]
  clear hw9 w9
  refine list_to (d := 8) (v := .tuple #[.int .i64 lo, .int .i64 hi]) rfl rfl (by kernel_rfl) ?_
  simp only [Act.put, sA, sB, sC]
  refine list_to (d := 11) (v := .int .i64 lo) rfl rfl (by kernel_rfl) ?_
  simp only [Act.put, sA, sB, sC]
  refine list_to (d := 12) (v := .int .i64 hi) rfl rfl (by kernel_rfl) ?_
  simp only [Act.put, sA, sB, sC]
  refine list_to (d := 6) (v := .int .i64 lo) rfl rfl (by kernel_rfl) ?_
  simp only [Act.put, sA, sB, sC]
  refine list_to (d := 7) (v := .int .i64 hi) rfl rfl (by kernel_rfl) ?_
  simp only [Act.put, sA, sB, sC]
  go_upto_region 2 with fail
  refine wp_region_list ?_
  have c7 := unhide HC7
  refine list_to (d := 13) (v := .pointer (some ⟨be, oe, none⟩)) rfl rfl (by kernel_rfl) ?_
  simp only [Act.put, sA, sB, sC]
  refine list_to (d := 14) (v := .pointer (some ⟨be, oe, none⟩)) rfl rfl (by kernel_rfl) ?_
  simp only [Act.put, sA, sB, sC]
  refine list_to (d := 15) (v := .pointer (some ⟨be, oe + 7, none⟩)) rfl rfl (by kernel_rfl) ?_
  simp only [Act.put, sA, sB, sC]
  refine list_to (d := 16) (v := .slice av n k) rfl rfl (by go_simp) ?_
  simp only [Act.put, sA, sB, sC]
  clear c7
  refine list_to (d := 17) (v := .int .i64 (n : Int)) rfl rfl (by kernel_rfl) ?_
  simp only [Act.put, sA, sB, sC]
  refine list_to (d := 18) (v := .int .i64 lo) rfl rfl (by kernel_rfl) ?_
  simp only [Act.put, sA, sB, sC]
  refine list_to (d := 19) (v := .bool (decide ((n : Int) < lo))) rfl rfl (by go_simp) ?_
  simp only [Act.put, sA, sB, sC]
  have HRG := hide ((show w0.rangeAt be (oe + 2) (gvC g) from fun j v hj => ((unhide HB).cell (p := ⟨be, oe + 2 + j, none⟩) (unhide HBE)).trans (unhide HRG j v hj)))
  have e1 : decide ((n : Int) < lo) = false := decide_eq_false h1
  have e2 : decide (hi < (n : Int)) = false := decide_eq_false h2
  rw [e1]
  refine list_to (d := 20) (v := .bool false) rfl rfl (by kernel_rfl) ?_
  simp only [Act.put, sA, sB, sC]
  have c7 := unhide HC7
  refine list_want (d := 21) (v := .pointer (some ⟨be, oe, none⟩)) rfl (by kernel_rfl) (by kernel_rfl) ?_
  simp only [Act.put, sA, sB, sC]
  refine list_want (d := 22) (v := .pointer (some ⟨be, oe, none⟩)) rfl (by kernel_rfl) (by kernel_rfl) ?_
  simp only [Act.put, sA, sB, sC]
  refine list_want (d := 23) (v := .pointer (some ⟨be, oe + 7, none⟩)) rfl (by kernel_rfl) (by kernel_rfl) ?_
  simp only [Act.put, sA, sB, sC]
  refine list_want (d := 24) (v := .slice av n k) rfl (by kernel_rfl) (by go_simp) ?_
  simp only [Act.put, sA, sB, sC]
  clear c7
  refine list_want (d := 25) (v := .int .i64 (n : Int)) rfl (by kernel_rfl) (by kernel_rfl) ?_
  simp only [Act.put, sA, sB, sC]
  refine list_want (d := 26) (v := .int .i64 hi) rfl (by kernel_rfl) (by kernel_rfl) ?_
  simp only [Act.put, sA, sB, sC]
  refine list_want (d := 27) (v := .bool (decide (hi < (n : Int)))) rfl (by kernel_rfl) (by go_simp) ?_
  simp only [Act.put, sA, sB, sC]
  rw [e2]
  refine list_to (d := 28) (v := .bool false) rfl rfl (by kernel_rfl) ?_
  simp only [Act.put, sA, sB, sC]
  go_upto_region 4 with fail
  refine wp_region_list ?_
  have c0 := unhide HC0
  refine list_to (d := 31) (v := .pointer (some ⟨be, oe, none⟩)) rfl rfl (by kernel_rfl) ?_
  simp only [Act.put, sA, sB, sC]
  refine list_to (d := 32) (v := .pointer (some ⟨be, oe, none⟩)) rfl rfl (by kernel_rfl) ?_
  simp only [Act.put, sA, sB, sC]
  refine list_to (d := 33) (v := .pointer (some ⟨be, oe, none⟩)) rfl rfl (by kernel_rfl) ?_
  simp only [Act.put, sA, sB, sC]
  refine list_to (d := 34) (v := .int .i64 1) rfl rfl (by go_simp) ?_
  simp only [Act.put, sA, sB, sC]
  clear c0
  as_aux_lemma =>
    go_upto_region 6 with fail
    refine wp_region_list ?_
    refine list_to (d := 37) (v := .pointer (some ⟨be, oe, none⟩)) rfl rfl (by kernel_rfl) ?_
    simp only [Act.put, sA, sB, sC]
    refine list_to (d := 38) (v := .pointer (some ⟨be, oe, none⟩)) rfl rfl (by kernel_rfl) ?_
    simp only [Act.put, sA, sB, sC]
    refine list_to (d := 39) (v := .pointer (some ⟨be, oe + 2, none⟩)) rfl rfl (by kernel_rfl) ?_
    simp only [Act.put, sA, sB, sC]
    refine wpList_load_mid rfl 26 (.tmp 39) rfl be (oe + 2) rfl (gvC g) _ (unhide HRG) Tryz.underlying26 rfl sizeV ?_
    simp only [Act.put, sA, sB, sC]
    refine list_call rfl (some 41) rfl 69 #[.agg (gvC g).toArray] (by kernel_rfl) (unhide HIN w0 (unhide HB)) ?_
    rintro e w5 ⟨rfl, hb⟩
    refine ⟨_, rfl, ?_⟩
    simp only [Act.put, sA, sB, sC]
    have HB := hide (trX (unhide HB) hb)
    have HV := hide ((unhide HV).below hb)
    clear hb
    refine list_to (d := 42) (v := .agg (gvC R.1).toArray) rfl rfl (by kernel_rfl) ?_
    simp only [Act.put, sA, sB, sC]
    refine list_to (d := 43) (v := errG R.2) rfl rfl (by kernel_rfl) ?_
    simp only [Act.put, sA, sB, sC]
    refine wpList_store_mid rfl 26 (.tmp 4) (.tmp 42) rfl w.heap.size 0 (gvC R.1).toArray rfl rfl (unhide HV).there sizeV (all_oneCell_toArray (gvC_one _)) ?_
    show wpList _ _ _ _ _ (w5.setCells w.heap.size 0 (gvC R.1))
    simp only [Act.put, sA, sB, sC]
    refine list_to (d := 5) (v := errG R.2) rfl rfl (by kernel_rfl) ?_
    simp only [Act.put, sA, sB, sC]
    go_wp2_with fail
    refine bodyPost_ret (((unhide HV).set R.1).result2 rfl _ rfl) rfl ?_
    rw [unhide HPP]
    exact ⟨rfl, below_setCells0 (unhide HB) (Nat.le_refl _) _⟩
set_option linter.unusedSimpArgs false in
set_option linter.unusedVariables false in
set_option maxHeartbeats 6400000 in
set_option maxRecDepth 20000 in
theorem eval_k3 (w : World) (pg be oe n k : Nat) (av : Option Addr) (lo hi : Int) (R : GV × Int) (c0 : w.cell? ⟨be, oe, none⟩ = some (.int .i64 3)) (c7 : w.cell? ⟨be, oe + 7, none⟩ = some (.slice av n k)) (har : ∀ W, Below w.heap.size w W → Calls Tryz.prog 68 #[.pointer (some ⟨be, oe, none⟩)] W fun e w' => e = .returned (.tuple #[.int .i64 lo, .int .i64 hi]) ∧ w' = W) (h1 : ¬ (n : Int) < lo) (h2 : ¬ hi < (n : Int)) (hin : ∀ W, Below w.heap.size w W → Calls Tryz.prog 71 #[.pointer (some ⟨pg, 0, none⟩), .pointer (some ⟨be, oe, none⟩)] W (GeP W R)) : Calls Tryz.prog 36 #[.pointer (some ⟨pg, 0, none⟩), .pointer (some ⟨be, oe, none⟩)] w (GeP w R) := by
  have HIN := hide hin
  clear hin
  have HC0 : Hid (w.cell? ⟨be, oe, none⟩ = some (.int .i64 3)) := c0
  have HBE : Hid (be < w.heap.size) := World.block_lt_of_cell? w _ c0
  have HC7 : Hid (w.cell? ⟨be, oe + 7, none⟩ = some (.slice av n k)) := c7
  have HAR := hide har
  clear c0 c7 har
  obtain ⟨PP, hPP⟩ : ∃ PP, PP = GeP w R := ⟨_, rfl⟩
  have HPP := hide hPP
  rw [← hPP]
  clear hPP
  go_enter Tryz.func36, Tryz.ntmps36
  go_upto_region 1 with fail
  obtain ⟨w0, hw0⟩ : ∃ w0, w0 = w.alloc (.cells (gvC nullG).toArray 26) := ⟨_, rfl⟩
  have hb0 : Below w.heap.size w w0 := by rw [hw0]; exact alX (Below.refl _ _) _
  have HV := hide (show VV w0 w.heap.size nullG by rw [hw0]; exact VV.new w nullG)
  have HB := hide hb0
  rw [show (gvC nullG).toArray = #[.int .i64 0, .int .i64 0, .string ⟨#[]⟩] from rfl] at hw0
  rw [← hw0]
  clear hw0 hb0
  have HC0 := hide (((unhide HB).cell (p := ⟨be, oe, none⟩) (unhide HBE)).trans (unhide HC0))
  have HC7 := hide (((unhide HB).cell (p := ⟨be, oe + 7, none⟩) (unhide HBE)).trans (unhide HC7))
  refine wp_region_list ?_
  refine list_to (d := 9) (v := .pointer (some ⟨be, oe, none⟩)) rfl rfl (by kernel_rfl) ?_
  simp only [Act.put, sA, sB, sC]
  refine list_call rfl (some 10) rfl 68 #[.pointer (some ⟨be, oe, none⟩)] (by kernel_rfl) (unhide HAR w0 (unhide HB)) ?_
  rintro e w9 ⟨rfl, hw9⟩
  refine ⟨_, rfl, ?_⟩
  simp only [Act.put, sA, sB, sC]
  rw [hw9]
  clear hw9 w9
  refine list_to (d := 8) (v := .tuple #[.int .i64 lo, .int .i64 hi]) rfl rfl (by kernel_rfl) ?_
  simp only [Act.put, sA, sB, sC]
  refine list_to (d := 11) (v := .int .i64 lo) rfl rfl (by kernel_rfl) ?_
  simp only [Act.put, sA, sB, sC]
  refine list_to (d := 12) (v := .int .i64 hi) rfl rfl (by kernel_rfl) ?_
  simp only [Act.put, sA, sB, sC]
  refine list_to (d := 6) (v := .int .i64 lo) rfl rfl (by kernel_rfl) ?_
  simp only [Act.put, sA, sB, sC]
  refine list_to (d := 7) (v := .int .i64 hi) rfl rfl (by kernel_rfl) ?_
  simp only [Act.put, sA, sB, sC]
  go_upto_region 2 with fail
  refine wp_region_list ?_
  have c7 := unhide HC7
  refine list_to (d := 13) (v := .pointer (some ⟨be, oe, none⟩)) rfl rfl (by kernel_rfl) ?_
  simp only [Act.put, sA, sB, sC]
  refine list_to (d := 14) (v := .pointer (some ⟨be, oe, none⟩)) rfl rfl (by kernel_rfl) ?_
  simp only [Act.put, sA, sB, sC]
  refine list_to (d := 15) (v := .pointer (some ⟨be, oe + 7, none⟩)) rfl rfl (by kernel_rfl) ?_
  simp only [Act.put, sA, sB, sC]
  refine list_to (d := 16) (v := .slice av n k) rfl rfl (by go_simp) ?_
  simp only [Act.put, sA, sB, sC]
  clear c7
  refine list_to (d := 17) (v := .int .i64 (n : Int)) rfl rfl (by kernel_rfl) ?_
  simp only [Act.put, sA, sB, sC]
  refine list_to (d := 18) (v := .int .i64 lo) rfl rfl (by kernel_rfl) ?_
  simp only [Act.put, sA, sB, sC]
  refine list_to (d := 19) (v := .bool (decide ((n : Int) < lo))) rfl rfl (by go_simp) ?_
  simp only [Act.put, sA, sB, sC]
  have e1 : decide ((n : Int) < lo) = false := decide_eq_false h1
  have e2 : decide (hi < (n : Int)) = false := decide_eq_false h2
  rw [e1]
  refine list_to (d := 20) (v := .bool false) rfl rfl (by kernel_rfl) ?_
  simp only [Act.put, sA, sB, sC]
  have c7 := unhide HC7
  refine list_want (d := 21) (v := .pointer (some ⟨be, oe, none⟩)) rfl (by kernel_rfl) (by kernel_rfl) ?_
  simp only [Act.put, sA, sB, sC]
  refine list_want (d := 22) (v := .pointer (some ⟨be, oe, none⟩)) rfl (by kernel_rfl) (by kernel_rfl) ?_
  simp only [Act.put, sA, sB, sC]
  refine list_want (d := 23) (v := .pointer (some ⟨be, oe + 7, none⟩)) rfl (by kernel_rfl) (by kernel_rfl) ?_
  simp only [Act.put, sA, sB, sC]
  refine list_want (d := 24) (v := .slice av n k) rfl (by kernel_rfl) (by go_simp) ?_
  simp only [Act.put, sA, sB, sC]
  clear c7
  refine list_want (d := 25) (v := .int .i64 (n : Int)) rfl (by kernel_rfl) (by kernel_rfl) ?_
  simp only [Act.put, sA, sB, sC]
  refine list_want (d := 26) (v := .int .i64 hi) rfl (by kernel_rfl) (by kernel_rfl) ?_
  simp only [Act.put, sA, sB, sC]
  refine list_want (d := 27) (v := .bool (decide (hi < (n : Int)))) rfl (by kernel_rfl) (by go_simp) ?_
  simp only [Act.put, sA, sB, sC]
  rw [e2]
  refine list_to (d := 28) (v := .bool false) rfl rfl (by kernel_rfl) ?_
  simp only [Act.put, sA, sB, sC]
  go_upto_region 4 with fail
  refine wp_region_list ?_
  have c0 := unhide HC0
  refine list_to (d := 31) (v := .pointer (some ⟨be, oe, none⟩)) rfl rfl (by kernel_rfl) ?_
  simp only [Act.put, sA, sB, sC]
  refine list_to (d := 32) (v := .pointer (some ⟨be, oe, none⟩)) rfl rfl (by kernel_rfl) ?_
  simp only [Act.put, sA, sB, sC]
  refine list_to (d := 33) (v := .pointer (some ⟨be, oe, none⟩)) rfl rfl (by kernel_rfl) ?_
  simp only [Act.put, sA, sB, sC]
  refine list_to (d := 34) (v := .int .i64 3) rfl rfl (by go_simp) ?_
  simp only [Act.put, sA, sB, sC]
  clear c0
  as_aux_lemma =>
    go_upto_region 10 with fail
    refine wp_region_list ?_
    refine list_to (d := 56) (v := .pointer (some ⟨pg, 0, none⟩)) rfl rfl (by kernel_rfl) ?_
    simp only [Act.put, sA, sB, sC]
    refine list_to (d := 57) (v := .pointer (some ⟨be, oe, none⟩)) rfl rfl (by kernel_rfl) ?_
    simp only [Act.put, sA, sB, sC]
    refine list_call rfl (some 58) rfl 71 #[.pointer (some ⟨pg, 0, none⟩), .pointer (some ⟨be, oe, none⟩)] (by kernel_rfl) (unhide HIN w0 (unhide HB)) ?_
    rintro e w5 ⟨rfl, hb⟩
    refine ⟨_, rfl, ?_⟩
    simp only [Act.put, sA, sB, sC]
    have HB := hide (trX (unhide HB) hb)
    have HV := hide ((unhide HV).below hb)
    clear hb
    refine list_to (d := 59) (v := .agg (gvC R.1).toArray) rfl rfl (by kernel_rfl) ?_
    simp only [Act.put, sA, sB, sC]
    refine list_to (d := 60) (v := errG R.2) rfl rfl (by kernel_rfl) ?_
    simp only [Act.put, sA, sB, sC]
    refine wpList_store_mid rfl 26 (.tmp 4) (.tmp 59) rfl w.heap.size 0 (gvC R.1).toArray rfl rfl (unhide HV).there sizeV (all_oneCell_toArray (gvC_one _)) ?_
    show wpList _ _ _ _ _ (w5.setCells w.heap.size 0 (gvC R.1))
    simp only [Act.put, sA, sB, sC]
    refine list_to (d := 5) (v := errG R.2) rfl rfl (by kernel_rfl) ?_
    simp only [Act.put, sA, sB, sC]
    go_wp2_with fail
    refine bodyPost_ret (((unhide HV).set R.1).result2 rfl _ rfl) rfl ?_
    rw [unhide HPP]
    exact ⟨rfl, below_setCells0 (unhide HB) (Nat.le_refl _) _⟩
set_option linter.unusedSimpArgs false in
set_option linter.unusedVariables false in
set_option maxHeartbeats 6400000 in
set_option maxRecDepth 20000 in
theorem eval_k4 (w : World) (pg be oe n k : Nat) (av : Option Addr) (lo hi : Int) (R : GV × Int) (c0 : w.cell? ⟨be, oe, none⟩ = some (.int .i64 4)) (c7 : w.cell? ⟨be, oe + 7, none⟩ = some (.slice av n k)) (har : ∀ W, Below w.heap.size w W → Calls Tryz.prog 68 #[.pointer (some ⟨be, oe, none⟩)] W fun e w' => e = .returned (.tuple #[.int .i64 lo, .int .i64 hi]) ∧ w' = W) (h1 : ¬ (n : Int) < lo) (h2 : ¬ hi < (n : Int)) (hin : ∀ W, Below w.heap.size w W → Calls Tryz.prog 72 #[.pointer (some ⟨pg, 0, none⟩), .pointer (some ⟨be, oe, none⟩)] W (GeP W R)) : Calls Tryz.prog 36 #[.pointer (some ⟨pg, 0, none⟩), .pointer (some ⟨be, oe, none⟩)] w (GeP w R) := by
  have HIN := hide hin
  clear hin
  have HC0 : Hid (w.cell? ⟨be, oe, none⟩ = some (.int .i64 4)) := c0
  have HBE : Hid (be < w.heap.size) := World.block_lt_of_cell? w _ c0
  have HC7 : Hid (w.cell? ⟨be, oe + 7, none⟩ = some (.slice av n k)) := c7
  have HAR := hide har
  clear c0 c7 har
  obtain ⟨PP, hPP⟩ : ∃ PP, PP = GeP w R := ⟨_, rfl⟩
  have HPP := hide hPP
  rw [← hPP]
  clear hPP
  go_enter Tryz.func36, Tryz.ntmps36
  go_upto_region 1 with fail
  obtain ⟨w0, hw0⟩ : ∃ w0, w0 = w.alloc (.cells (gvC nullG).toArray 26) := ⟨_, rfl⟩
  have hb0 : Below w.heap.size w w0 := by rw [hw0]; exact alX (Below.refl _ _) _
  have HV := hide (show VV w0 w.heap.size nullG by rw [hw0]; exact VV.new w nullG)
  have HB := hide hb0
  rw [show (gvC nullG).toArray = #[.int .i64 0, .int .i64 0, .string ⟨#[]⟩] from rfl] at hw0
  rw [← hw0]
  clear hw0 hb0
  have HC0 := hide (((unhide HB).cell (p := ⟨be, oe, none⟩) (unhide HBE)).trans (unhide HC0))
  have HC7 := hide (((unhide HB).cell (p := ⟨be, oe + 7, none⟩) (unhide HBE)).trans (unhide HC7))
  refine wp_region_list ?_
  refine list_to (d := 9) (v := .pointer (some ⟨be, oe, none⟩)) rfl rfl (by kernel_rfl) ?_
  simp only [Act.put, sA, sB, sC]
  refine list_call rfl (some 10) rfl 68 #[.pointer (some ⟨be, oe, none⟩)] (by kernel_rfl) (unhide HAR w0 (unhide HB)) ?_
  rintro e w9 ⟨rfl, hw9⟩
  refine ⟨_, rfl, ?_⟩
  simp only [Act.put, sA, sB, sC]
  rw [hw9]
  clear hw9 w9
  refine list_to (d := 8) (v := .tuple #[.int .i64 lo, .int .i64 hi]) rfl rfl (by kernel_rfl) ?_
  simp only [Act.put, sA, sB, sC]
  refine list_to (d := 11) (v := .int .i64 lo) rfl rfl (by kernel_rfl) ?_
  simp only [Act.put, sA, sB, sC]
  refine list_to (d := 12) (v := .int .i64 hi) rfl rfl (by kernel_rfl) ?_
  simp only [Act.put, sA, sB, sC]
  refine list_to (d := 6) (v := .int .i64 lo) rfl rfl (by kernel_rfl) ?_
  simp only [Act.put, sA, sB, sC]
  refine list_to (d := 7) (v := .int .i64 hi) rfl rfl (by kernel_rfl) ?_
  simp only [Act.put, sA, sB, sC]
  go_upto_region 2 with fail
  refine wp_region_list ?_
  have c7 := unhide HC7
  refine list_to (d := 13) (v := .pointer (some ⟨be, oe, none⟩)) rfl rfl (by kernel_rfl) ?_
  simp only [Act.put, sA, sB, sC]
  refine list_to (d := 14) (v := .pointer (some ⟨be, oe, none⟩)) rfl rfl (by kernel_rfl) ?_
  simp only [Act.put, sA, sB, sC]
  refine list_to (d := 15) (v := .pointer (some ⟨be, oe + 7, none⟩)) rfl rfl (by kernel_rfl) ?_
  simp only [Act.put, sA, sB, sC]
  refine list_to (d := 16) (v := .slice av n k) rfl rfl (by go_simp) ?_
  simp only [Act.put, sA, sB, sC]
  clear c7
  refine list_to (d := 17) (v := .int .i64 (n : Int)) rfl rfl (by kernel_rfl) ?_
  simp only [Act.put, sA, sB, sC]
  refine list_to (d := 18) (v := .int .i64 lo) rfl rfl (by kernel_rfl) ?_
  simp only [Act.put, sA, sB, sC]
  refine list_to (d := 19) (v := .bool (decide ((n : Int) < lo))) rfl rfl (by go_simp) ?_
  simp only [Act.put, sA, sB, sC]
  have e1 : decide ((n : Int) < lo) = false := decide_eq_false h1
  have e2 : decide (hi < (n : Int)) = false := decide_eq_false h2
  rw [e1]
  refine list_to (d := 20) (v := .bool false) rfl rfl (by kernel_rfl) ?_
  simp only [Act.put, sA, sB, sC]
  have c7 := unhide HC7
  refine list_want (d := 21) (v := .pointer (some ⟨be, oe, none⟩)) rfl (by kernel_rfl) (by kernel_rfl) ?_
  simp only [Act.put, sA, sB, sC]
  refine list_want (d := 22) (v := .pointer (some ⟨be, oe, none⟩)) rfl (by kernel_rfl) (by kernel_rfl) ?_
  simp only [Act.put, sA, sB, sC]
  refine list_want (d := 23) (v := .pointer (some ⟨be, oe + 7, none⟩)) rfl (by kernel_rfl) (by kernel_rfl) ?_
  simp only [Act.put, sA, sB, sC]
  refine list_want (d := 24) (v := .slice av n k) rfl (by kernel_rfl) (by go_simp) ?_
  simp only [Act.put, sA, sB, sC]
  clear c7
  refine list_want (d := 25) (v := .int .i64 (n : Int)) rfl (by kernel_rfl) (by kernel_rfl) ?_
  simp only [Act.put, sA, sB, sC]
  refine list_want (d := 26) (v := .int .i64 hi) rfl (by kernel_rfl) (by kernel_rfl) ?_
  simp only [Act.put, sA, sB, sC]
  refine list_want (d := 27) (v := .bool (decide (hi < (n : Int)))) rfl (by kernel_rfl) (by go_simp) ?_
  simp only [Act.put, sA, sB, sC]
  rw [e2]
  refine list_to (d := 28) (v := .bool false) rfl rfl (by kernel_rfl) ?_
  simp only [Act.put, sA, sB, sC]
  go_upto_region 4 with fail
  refine wp_region_list ?_
  have c0 := unhide HC0
  refine list_to (d := 31) (v := .pointer (some ⟨be, oe, none⟩)) rfl rfl (by kernel_rfl) ?_
  simp only [Act.put, sA, sB, sC]
  refine list_to (d := 32) (v := .pointer (some ⟨be, oe, none⟩)) rfl rfl (by kernel_rfl) ?_
  simp only [Act.put, sA, sB, sC]
  refine list_to (d := 33) (v := .pointer (some ⟨be, oe, none⟩)) rfl rfl (by kernel_rfl) ?_
  simp only [Act.put, sA, sB, sC]
  refine list_to (d := 34) (v := .int .i64 4) rfl rfl (by go_simp) ?_
  simp only [Act.put, sA, sB, sC]
  clear c0
  as_aux_lemma =>
    go_upto_region 12 with fail
    refine wp_region_list ?_
    refine list_to (d := 63) (v := .pointer (some ⟨pg, 0, none⟩)) rfl rfl (by kernel_rfl) ?_
    simp only [Act.put, sA, sB, sC]
    refine list_to (d := 64) (v := .pointer (some ⟨be, oe, none⟩)) rfl rfl (by kernel_rfl) ?_
    simp only [Act.put, sA, sB, sC]
    refine list_call rfl (some 65) rfl 72 #[.pointer (some ⟨pg, 0, none⟩), .pointer (some ⟨be, oe, none⟩)] (by kernel_rfl) (unhide HIN w0 (unhide HB)) ?_
    rintro e w5 ⟨rfl, hb⟩
    refine ⟨_, rfl, ?_⟩
    simp only [Act.put, sA, sB, sC]
    have HB := hide (trX (unhide HB) hb)
    have HV := hide ((unhide HV).below hb)
    clear hb
    refine list_to (d := 66) (v := .agg (gvC R.1).toArray) rfl rfl (by kernel_rfl) ?_
    simp only [Act.put, sA, sB, sC]
    refine list_to (d := 67) (v := errG R.2) rfl rfl (by kernel_rfl) ?_
    simp only [Act.put, sA, sB, sC]
    refine wpList_store_mid rfl 26 (.tmp 4) (.tmp 66) rfl w.heap.size 0 (gvC R.1).toArray rfl rfl (unhide HV).there sizeV (all_oneCell_toArray (gvC_one _)) ?_
    show wpList _ _ _ _ _ (w5.setCells w.heap.size 0 (gvC R.1))
    simp only [Act.put, sA, sB, sC]
    refine list_to (d := 5) (v := errG R.2) rfl rfl (by kernel_rfl) ?_
    simp only [Act.put, sA, sB, sC]
    go_wp2_with fail
    refine bodyPost_ret (((unhide HV).set R.1).result2 rfl _ rfl) rfl ?_
    rw [unhide HPP]
    exact ⟨rfl, below_setCells0 (unhide HB) (Nat.le_refl _) _⟩
set_option linter.unusedSimpArgs false in
set_option linter.unusedVariables false in
set_option maxHeartbeats 6400000 in
set_option maxRecDepth 20000 in
theorem eval_k5 (w : World) (pg be oe n k : Nat) (av : Option Addr) (lo hi : Int) (R : GV × Int) (c0 : w.cell? ⟨be, oe, none⟩ = some (.int .i64 5)) (c7 : w.cell? ⟨be, oe + 7, none⟩ = some (.slice av n k)) (har : ∀ W, Below w.heap.size w W → Calls Tryz.prog 68 #[.pointer (some ⟨be, oe, none⟩)] W fun e w' => e = .returned (.tuple #[.int .i64 lo, .int .i64 hi]) ∧ w' = W) (h1 : ¬ (n : Int) < lo) (h2 : ¬ hi < (n : Int)) (hin : ∀ W, Below w.heap.size w W → Calls Tryz.prog 73 #[.pointer (some ⟨pg, 0, none⟩), .slice av n k] W (GeP W R)) : Calls Tryz.prog 36 #[.pointer (some ⟨pg, 0, none⟩), .pointer (some ⟨be, oe, none⟩)] w (GeP w R) := by
  have HIN := hide hin
  clear hin
  have HC0 : Hid (w.cell? ⟨be, oe, none⟩ = some (.int .i64 5)) := c0
  have HBE : Hid (be < w.heap.size) := World.block_lt_of_cell? w _ c0
  have HC7 : Hid (w.cell? ⟨be, oe + 7, none⟩ = some (.slice av n k)) := c7
  have HAR := hide har
  clear c0 c7 har
  obtain ⟨PP, hPP⟩ : ∃ PP, PP = GeP w R := ⟨_, rfl⟩
  have HPP := hide hPP
  rw [← hPP]
  clear hPP
  go_enter Tryz.func36, Tryz.ntmps36
  go_upto_region 1 with fail
  obtain ⟨w0, hw0⟩ : ∃ w0, w0 = w.alloc (.cells (gvC nullG).toArray 26) := ⟨_, rfl⟩
  have hb0 : Below w.heap.size w w0 := by rw [hw0]; exact alX (Below.refl _ _) _
  have HV := hide (show VV w0 w.heap.size nullG by rw [hw0]; exact VV.new w nullG)
  have HB := hide hb0
  rw [show (gvC nullG).toArray = #[.int .i64 0, .int .i64 0, .string ⟨#[]⟩] from rfl] at hw0
  rw [← hw0]
  clear hw0 hb0
  have HC0 := hide (((unhide HB).cell (p := ⟨be, oe, none⟩) (unhide HBE)).trans (unhide HC0))
  have HC7 := hide (((unhide HB).cell (p := ⟨be, oe + 7, none⟩) (unhide HBE)).trans (unhide HC7))
  refine wp_region_list ?_
  refine list_to (d := 9) (v := .pointer (some ⟨be, oe, none⟩)) rfl rfl (by kernel_rfl) ?_
  simp only [Act.put, sA, sB, sC]
  refine list_call rfl (some 10) rfl 68 #[.pointer (some ⟨be, oe, none⟩)] (by kernel_rfl) (unhide HAR w0 (unhide HB)) ?_
  rintro e w9 ⟨rfl, hw9⟩
  refine ⟨_, rfl, ?_⟩
  simp only [Act.put, sA, sB, sC]
  rw [hw9]
  clear hw9 w9
  refine list_to (d := 8) (v := .tuple #[.int .i64 lo, .int .i64 hi]) rfl rfl (by kernel_rfl) ?_
  simp only [Act.put, sA, sB, sC]
  refine list_to (d := 11) (v := .int .i64 lo) rfl rfl (by kernel_rfl) ?_
  simp only [Act.put, sA, sB, sC]
  refine list_to (d := 12) (v := .int .i64 hi) rfl rfl (by kernel_rfl) ?_
  simp only [Act.put, sA, sB, sC]
  refine list_to (d := 6) (v := .int .i64 lo) rfl rfl (by kernel_rfl) ?_
  simp only [Act.put, sA, sB, sC]
  refine list_to (d := 7) (v := .int .i64 hi) rfl rfl (by kernel_rfl) ?_
  simp only [Act.put, sA, sB, sC]
  go_upto_region 2 with fail
  refine wp_region_list ?_
  have c7 := unhide HC7
  refine list_to (d := 13) (v := .pointer (some ⟨be, oe, none⟩)) rfl rfl (by kernel_rfl) ?_
  simp only [Act.put, sA, sB, sC]
  refine list_to (d := 14) (v := .pointer (some ⟨be, oe, none⟩)) rfl rfl (by kernel_rfl) ?_
  simp only [Act.put, sA, sB, sC]
  refine list_to (d := 15) (v := .pointer (some ⟨be, oe + 7, none⟩)) rfl rfl (by kernel_rfl) ?_
  simp only [Act.put, sA, sB, sC]
  refine list_to (d := 16) (v := .slice av n k) rfl rfl (by go_simp) ?_
  simp only [Act.put, sA, sB, sC]
  clear c7
  refine list_to (d := 17) (v := .int .i64 (n : Int)) rfl rfl (by kernel_rfl) ?_
  simp only [Act.put, sA, sB, sC]
  refine list_to (d := 18) (v := .int .i64 lo) rfl rfl (by kernel_rfl) ?_
  simp only [Act.put, sA, sB, sC]
  refine list_to (d := 19) (v := .bool (decide ((n : Int) < lo))) rfl rfl (by go_simp) ?_
  simp only [Act.put, sA, sB, sC]
  have e1 : decide ((n : Int) < lo) = false := decide_eq_false h1
  have e2 : decide (hi < (n : Int)) = false := decide_eq_false h2
  rw [e1]
  refine list_to (d := 20) (v := .bool false) rfl rfl (by kernel_rfl) ?_
  simp only [Act.put, sA, sB, sC]
  have c7 := unhide HC7
  refine list_want (d := 21) (v := .pointer (some ⟨be, oe, none⟩)) rfl (by kernel_rfl) (by kernel_rfl) ?_
  simp only [Act.put, sA, sB, sC]
  refine list_want (d := 22) (v := .pointer (some ⟨be, oe, none⟩)) rfl (by kernel_rfl) (by kernel_rfl) ?_
  simp only [Act.put, sA, sB, sC]
  refine list_want (d := 23) (v := .pointer (some ⟨be, oe + 7, none⟩)) rfl (by kernel_rfl) (by kernel_rfl) ?_
  simp only [Act.put, sA, sB, sC]
  refine list_want (d := 24) (v := .slice av n k) rfl (by kernel_rfl) (by go_simp) ?_
  simp only [Act.put, sA, sB, sC]
  clear c7
  refine list_want (d := 25) (v := .int .i64 (n : Int)) rfl (by kernel_rfl) (by kernel_rfl) ?_
  simp only [Act.put, sA, sB, sC]
  refine list_want (d := 26) (v := .int .i64 hi) rfl (by kernel_rfl) (by kernel_rfl) ?_
  simp only [Act.put, sA, sB, sC]
  refine list_want (d := 27) (v := .bool (decide (hi < (n : Int)))) rfl (by kernel_rfl) (by go_simp) ?_
  simp only [Act.put, sA, sB, sC]
  rw [e2]
  refine list_to (d := 28) (v := .bool false) rfl rfl (by kernel_rfl) ?_
  simp only [Act.put, sA, sB, sC]
  go_upto_region 4 with fail
  refine wp_region_list ?_
  have c0 := unhide HC0
  refine list_to (d := 31) (v := .pointer (some ⟨be, oe, none⟩)) rfl rfl (by kernel_rfl) ?_
  simp only [Act.put, sA, sB, sC]
  refine list_to (d := 32) (v := .pointer (some ⟨be, oe, none⟩)) rfl rfl (by kernel_rfl) ?_
  simp only [Act.put, sA, sB, sC]
  refine list_to (d := 33) (v := .pointer (some ⟨be, oe, none⟩)) rfl rfl (by kernel_rfl) ?_
  simp only [Act.put, sA, sB, sC]
  refine list_to (d := 34) (v := .int .i64 5) rfl rfl (by go_simp) ?_
  simp only [Act.put, sA, sB, sC]
  clear c0
  as_aux_lemma =>
    go_upto_region 14 with fail
    refine wp_region_list ?_
    refine list_to (d := 70) (v := .pointer (some ⟨pg, 0, none⟩)) rfl rfl (by kernel_rfl) ?_
    simp only [Act.put, sA, sB, sC]
    refine list_to (d := 71) (v := .pointer (some ⟨be, oe, none⟩)) rfl rfl (by kernel_rfl) ?_
    simp only [Act.put, sA, sB, sC]
    refine list_to (d := 72) (v := .pointer (some ⟨be, oe, none⟩)) rfl rfl (by kernel_rfl) ?_
    simp only [Act.put, sA, sB, sC]
    refine list_to (d := 73) (v := .pointer (some ⟨be, oe + 7, none⟩)) rfl rfl (by kernel_rfl) ?_
    simp only [Act.put, sA, sB, sC]
    have c7 := unhide HC7
    refine list_to (d := 74) (v := .slice av n k) rfl rfl (by go_simp) ?_
    simp only [Act.put, sA, sB, sC]
    clear c7
    refine list_call rfl (some 75) rfl 73 #[.pointer (some ⟨pg, 0, none⟩), .slice av n k] (by kernel_rfl) (unhide HIN w0 (unhide HB)) ?_
    rintro e w5 ⟨rfl, hb⟩
    refine ⟨_, rfl, ?_⟩
    simp only [Act.put, sA, sB, sC]
    have HB := hide (trX (unhide HB) hb)
    have HV := hide ((unhide HV).below hb)
    clear hb
    refine list_to (d := 76) (v := .agg (gvC R.1).toArray) rfl rfl (by kernel_rfl) ?_
    simp only [Act.put, sA, sB, sC]
    refine list_to (d := 77) (v := errG R.2) rfl rfl (by kernel_rfl) ?_
    simp only [Act.put, sA, sB, sC]
    refine wpList_store_mid rfl 26 (.tmp 4) (.tmp 76) rfl w.heap.size 0 (gvC R.1).toArray rfl rfl (unhide HV).there sizeV (all_oneCell_toArray (gvC_one _)) ?_
    show wpList _ _ _ _ _ (w5.setCells w.heap.size 0 (gvC R.1))
    simp only [Act.put, sA, sB, sC]
    refine list_to (d := 5) (v := errG R.2) rfl rfl (by kernel_rfl) ?_
    simp only [Act.put, sA, sB, sC]
    go_wp2_with fail
    refine bodyPost_ret (((unhide HV).set R.1).result2 rfl _ rfl) rfl ?_
    rw [unhide HPP]
    exact ⟨rfl, below_setCells0 (unhide HB) (Nat.le_refl _) _⟩
end Go.Proofs.YtehgoioinogmkaaGreatDoor
