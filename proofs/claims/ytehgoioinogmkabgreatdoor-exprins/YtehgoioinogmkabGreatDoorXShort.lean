/- The statement ExprShort. -/
import Derived.Test.YtehgoioinogmkabGreatDoorXKn
namespace Go.Proofs.YtehgoioinogmkabGreatDoor
open Go.RowKit Go.Lib

def oneT : GV := ⟨1, 1, ⟨#[]⟩⟩
set_option linter.unusedSimpArgs false in
set_option linter.unusedVariables false in
set_option maxHeartbeats 6400000 in
set_option maxRecDepth 20000 in
theorem of_one (w : World) : Calls Tryz.prog 8 #[.int .i64 1] w fun e w' => e = .returned oneT.agg ∧ Below w.heap.size w w' := by
  go_enter Tryz.func8, Tryz.ntmps8
  go_upto_region 3 with fail
  obtain ⟨w0, hw0⟩ : ∃ w0, w0 = w.alloc (.cells (gvC nullG).toArray 26) := ⟨_, rfl⟩
  have HV := hide (show VV w0 w.heap.size nullG by rw [hw0]; exact VV.new w nullG)
  have HB := hide (show Below w.heap.size w w0 by rw [hw0]; exact alX (Below.refl _ _) _)
  unfold gvC nullG at hw0
  rw [← hw0]
  clear hw0
  refine wp_region_list ?_
  refine list_to (d := 6) (v := .agg (gvC oneT).toArray) rfl rfl (by kernel_rfl) ?_
  simp only [Act.put, List.setIfInBounds_toArray, List.set_cons_zero, List.set_cons_succ]
  refine wpList_store_mid rfl 26 (.tmp 2) (.tmp 6) rfl w.heap.size 0 (gvC oneT).toArray rfl rfl (unhide HV).there sizeV (all_oneCell_toArray (gvC_one _)) ?_
  show wpList _ _ _ _ _ (w0.setCells w.heap.size 0 (gvC oneT))
  simp only [Act.put, List.setIfInBounds_toArray, List.set_cons_zero, List.set_cons_succ]
  go_wp2_with fail
  exact bodyPost_ret (((unhide HV).set oneT).result rfl _ rfl) rfl ⟨rfl, VV.below_set (unhide HB) _⟩
set_option linter.unusedSimpArgs false in
set_option linter.unusedVariables false in
set_option maxHeartbeats 6400000 in
set_option maxRecDepth 20000 in
theorem of_two (w : World) : Calls Tryz.prog 8 #[.int .i64 2] w fun e w' => e = .returned nullG.agg ∧ Below w.heap.size w w' := by
  go_enter Tryz.func8, Tryz.ntmps8
  go_upto_region 6 with fail
  obtain ⟨w0, hw0⟩ : ∃ w0, w0 = w.alloc (.cells (gvC nullG).toArray 26) := ⟨_, rfl⟩
  have HV := hide (show VV w0 w.heap.size nullG by rw [hw0]; exact VV.new w nullG)
  have HB := hide (show Below w.heap.size w w0 by rw [hw0]; exact alX (Below.refl _ _) _)
  unfold gvC nullG at hw0
  rw [← hw0]
  clear hw0
  refine wp_region_list ?_
  refine list_to (d := 10) (v := .agg (gvC nullG).toArray) rfl rfl (by kernel_rfl) ?_
  simp only [Act.put, List.setIfInBounds_toArray, List.set_cons_zero, List.set_cons_succ]
  refine wpList_store_mid rfl 26 (.tmp 2) (.tmp 10) rfl w.heap.size 0 (gvC nullG).toArray rfl rfl (unhide HV).there sizeV (all_oneCell_toArray (gvC_one _)) ?_
  show wpList _ _ _ _ _ (w0.setCells w.heap.size 0 (gvC nullG))
  simp only [Act.put, List.setIfInBounds_toArray, List.set_cons_zero, List.set_cons_succ]
  go_wp2_with fail
  exact bodyPost_ret (((unhide HV).set nullG).result rfl _ rfl) rfl ⟨rfl, VV.below_set (unhide HB) _⟩
end Go.Proofs.YtehgoioinogmkabGreatDoor
