/- For every two bytes the statement DiskHalts answers true (so many changing calls are done behind a Halt, and no more, until the power comes back), and its arguments read as they did. Conditions: none beyond the row's own; the listed package variable is tied to the program's text. -/
import Derived.Test.YtaigonekmhkkaaaDoorDLaid
import Derived.Test.YtaigonekmhkkaaaDoorDLawH
import Derived.Test.YtaigonekmhkkaaaDoorCards
import Derived.Test.YtaigonekmhkkaaaDoorTie
import Derived.SevenTiedAt
namespace Go.Proofs.YtaigonekmhkkaaaDoor
open Go.ChangeShapes Go.WideShapes Go.RowKit

set_option maxRecDepth 100000 in
theorem halts_lifted (os : Os) (started : os.Started) (H : Type) (enc : TypeId × Value → H) :
    ReturnsInHanded {} Tryd.checked os 5 .any (fun w args => (Rows.diskHaltsSpec.pre enc Tryd.prog Tryd.f5 [] false w args ∧ laidMetH Tryd.prog laid1 w) ∧ sizedMet enc Tryd.prog Tryd.f5 (OpenSpec.ofChange Rows.diskHaltsSpec) false w args)
      (Rows.diskHaltsSpec.post enc Tryd.prog Tryd.f5 false true false false) := by
  refine returnsInHanded_of_change_and (C := Tryd.checked) (X := fun w _ => laidMetH Tryd.prog laid1 w) (fun _ _ _ hh h => h.of_heap hh) Tryd.own started (by kernel_rfl) Tryd.func5
    (ChangeSpec.witness_shaped (enc := enc) (C := Tryd.checked) (os := os) (X := fun w _ => laidMetH Tryd.prog laid1 w) false (World.doorLaid Tryd.prog 400 os) #[.int .u8 0, .int .u8 0] 8 rfl (World.shaped_of_RefB (by kernel_rfl) (by kernel_rfl)) (by kernel_rfl) (by kernel_rfl) (by kernel_rfl) (door_met os _)) ?_
  intro W base args ds gs before hval0 hW _ _ hL _
  have hval : ∀ (j : Nat) t v, Tryd.f5.params[j]? = some t → args[j]? = some v → Value.okWide Tryd.prog W .any base t v := hval0
  have hW' := hW
  obtain ⟨p, q, hA0, hV, rfl, hfz, hnd⟩ := hW
  have hA : DataW.TrodAll enc Tryd.prog W 0 (fun _ => true) true Tryd.f5.params.toList args.toList ds p := hA0
  rw [Tryd.params5] at hA hval
  obtain ⟨v0, v1, d0, d1, p0, p1, rfl, rfl, rfl, h0, h1⟩ := trodAll_two hA
  obtain ⟨rfl, rfl⟩ := trodVars_none hV
  obtain ⟨n, rfl, rfl, rfl, hwn⟩ := open_int Tryd.underlying5 (hval 0 5 v0 rfl rfl) h0
  obtain ⟨k, rfl, rfl, rfl, hwk⟩ := open_int Tryd.underlying5 (hval 1 5 v1 rfl rfl) h1
  have hE := handle_of_laid hL
  have bn := bounds_u8 hwn
  have bk := bounds_u8 hwk
  obtain ⟨m, rfl⟩ := Int.eq_ofNat_of_zero_le bn.1
  obtain ⟨t, rfl⟩ := Int.eq_ofNat_of_zero_le bk.1
  refine (halts_law m t W hE (by omega) (by omega)).mono fun e W' ⟨he, hb⟩ => ?_
  subst he
  have e1 : Rows.diskHaltsSpec.fn H ([.lit (.int .u8 (m : Int)), .lit (.int .u8 (t : Int))] ++ []) = { results := [.lit (.bool true)], args := [.lit (.int .u8 (m : Int)), .lit (.int .u8 (t : Int))] } := by simp [Rows.diskHaltsSpec]
  refine ⟨_, rfl, _, _, _, [], [], [], hW', ?_, ?_, ?_, hb.frame _, fun h => by cases h⟩
  · rw [e1]; exact trodAll_mk1 (shut_bool Tryd.underlying4 true)
  · rw [e1]; exact trodAll_mk2 (shut_int Tryd.underlying5 hwn) (shut_int Tryd.underlying5 hwk)
  · rw [e1]; rfl

theorem halts_row : Rows.DiskHaltsSaid :=
  OpenClaim.holds_of_wide 5 Tryd.f5 rfl rfl rfl rfl rfl rfl rfl ⟨rfl, rfl, rfl, rfl, rfl⟩ rfl rfl rfl rfl rfl (by kernel_rfl) Tryd.func5 (by kernel_rfl)
    (of_decide_eq_true (by kernel_rfl)) (by unfold Func.isWrapper; first | (rw [if_pos (by decide +kernel)]; kernel_rfl) | (rw [if_neg (by decide +kernel)]; exact ⟨rfl, rfl⟩))
    (fun os started H enc _ => halts_lifted os started H enc)

theorem halts_holds : Rows.DiskHaltsCardSaid :=
  Claim7.holds_tied_plain_at .later [] [.handle] true _ true
    halts_row (fun _ h => by cases h) (by kernel_rfl) (fun _ h => by cases h) diskHalts_row_tie rfl ⟨rfl, rfl⟩ (by kernel_rfl) rfl
    (fun f fn hf hfn => by
      obtain rfl : f = 5 := Option.some.inj ((show Tryd.prog.funcNamed "consistory/consistorylaw2.DiskHalts" = some 5 by kernel_rfl).symm.trans hf) |>.symm
      obtain rfl : fn = Tryd.f5 := (Option.some.inj (Tryd.func5.symm.trans hfn)).symm
      exact ⟨by kernel_rfl, fun j t ht => by
        rw [Tryd.params5] at ht
        have hm : t ∈ [5, 5] := by simpa using Array.mem_of_getElem? ht
        have hall : ([5, 5].all fun u => !Tryd.prog.wantsStandIn u) = true := by kernel_rfl
        exact (show Tryd.prog.wantsStandIn t = false by simpa using List.all_eq_true.1 hall t hm)⟩)
    (by kernel_rfl)
#print axioms halts_holds
end Go.Proofs.YtaigonekmhkkaaaDoor
