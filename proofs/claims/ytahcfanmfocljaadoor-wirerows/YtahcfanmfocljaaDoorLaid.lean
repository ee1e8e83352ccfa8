/- From the row's condition on the listed variables to the facts that the walks ask. -/
import Derived.Test.YtahcfanmfocljaaDoorRows
import Derived.Test.YtahcfanmfocljaaDoorKnown
import Derived.ProofKit
import Derived.LaidMore
import Derived.LaidHandle
import Derived.LaidLaws
import Derived.Lib.LaidTab
import Derived.OpenShut
import Derived.Stop.Joined
namespace Go.Proofs.YtahcfanmfocljaaDoor
open Go.ChangeShapes Go.WideShapes Go.RowKit Go.Lib

abbrev laid2 : List (String × DataW Unit) := [("errors.errorType", Rows.laid_errors_errorType), ("consistory/wire.sumSteps", Rows.laid_consistory_wire_sumSteps)]
theorem Tryd.own : ownKnob Tryd.prog.godebug = none := by kernel_rfl
theorem Tryd.et : Tryd.prog.globalNamed "errors.errorType" = some 1 := by kernel_rfl
theorem Tryd.ss : Tryd.prog.globalNamed "consistory/wire.sumSteps" = some 0 := by kernel_rfl
theorem Tryd.ssT : (Tryd.prog.globals[0]?).map (·.type) = some 107 := by kernel_rfl
theorem Tryd.rt : (Tryd.prog.cutTypes.find? (·.1 == "internal/reflectlite.rtype")).map (·.2) = some 140 := by kernel_rfl
theorem Tryd.oneRow : ((List.range 194).filter fun t => Tryd.prog.rowNamed t [101, 114, 114, 111, 114]) = [30] := by kernel_rfl
theorem Tryd.size : Tryd.prog.types.size = 194 := by kernel_rfl

theorem handle_of_laid {W : World} (h : laidMetH Tryd.prog laid2 W) : ET W := by
  have h' : laidMet Tryd.prog [("consistory/wire.sumSteps", Rows.laid_consistory_wire_sumSteps)] W ∧ handlesMet Tryd.prog [("errors.errorType", Rows.laid_errors_errorType)] W := h
  obtain ⟨name, u, ty, e1, e2, e3, e4, e5⟩ := h'.2 _ (List.mem_singleton.2 rfl)
  have en : name = [101, 114, 114, 111, 114] := (Option.some.inj e1).symm
  subst en
  obtain rfl := Option.some.inj (Tryd.rt.symm.trans e2)
  have hm : ty ∈ (List.range 194).filter fun t => Tryd.prog.rowNamed t [101, 114, 114, 111, 114] := List.mem_filter.2 ⟨List.mem_range.2 (by rw [← Tryd.size]; exact e3), e4⟩
  rw [Tryd.oneRow] at hm
  obtain rfl := List.mem_singleton.1 hm
  have hh : typeHandle Tryd.prog 30 = .pointer (some ⟨3, 30, none⟩) := by kernel_rfl
  rw [hh] at e5
  unfold ET
  simpa using World.var?_cell Tryd.et e5 0
theorem table_of_laid {W : World} (h : laidMetH Tryd.prog laid2 W) : ST W := by
  have h' : laidMet Tryd.prog [("consistory/wire.sumSteps", tabData .u32 (tabL.map fun (n : Nat) => (n : Int)))] W ∧ handlesMet Tryd.prog [("errors.errorType", Rows.laid_errors_errorType)] W := h
  have ht := tabIs_of_head Tryd.ss Tryd.ssT Tryd.underlying107 Tryd.underlying71 (by kernel_rfl) (by kernel_rfl) h'.1
  intro i hi
  have := World.var?_cell Tryd.ss ht i
  simp only [List.map_map] at this
  have e : ((tabL.map ((fun z => Value.int .u32 z) ∘ fun (n : Nat) => (n : Int))).toArray)[i]? = some (.int .u32 ((tabL.getD i 0 : Nat) : Int)) := by
    have hl : i < tabL.length := by simpa [tabL] using hi
    simp [hl]
  rw [e] at this
  exact this
/-- The door's own heap meets the condition. -/
theorem door_met (os : Os) (args : Array Value) : laidMetH Tryd.prog laid2 ((World.doorLaid Tryd.prog 400 os).forCall (fun _ _ => 0) ⟨#[], args, []⟩).memory :=
  laidMetH_of_parts3 (fuel := 8) (laidMet_of_run' 8 (by kernel_rfl) (by kernel_rfl)) (by kernel_rfl) (by kernel_rfl)
end Go.Proofs.YtahcfanmfocljaaDoor
