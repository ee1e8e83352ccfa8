/- For every number and every integer the statement WireLengths answers true (a number has a byte for each seven of its bits; an integer and its opposite less one lie side by side), and its arguments read as they did. Conditions: none beyond the row's own; the listed package variables are tied to the program's text. -/
import Derived.Test.YtahcfanmfocljaaDoorLaid
import Derived.Test.YtahcfanmfocljaaDoorLawLengths
import Derived.Test.YtahcfanmfocljaaDoorCards
import Derived.Test.YtahcfanmfocljaaDoorTie
import Derived.SevenTiedAt
namespace Go.Proofs.YtahcfanmfocljaaDoor
open Go.ChangeShapes Go.WideShapes Go.RowKit

set_option maxRecDepth 100000 in
theorem lengths_lifted (os : Os) (started : os.Started) (H : Type) (enc : TypeId × Value → H) :
    ReturnsInHanded {} Tryd.checked os 7 .any (fun w args => (Rows.wireLengthsSpec.pre enc Tryd.prog Tryd.f7 [] false w args ∧ laidMetH Tryd.prog laid2 w) ∧ sizedMet enc Tryd.prog Tryd.f7 (OpenSpec.ofChange Rows.wireLengthsSpec) false w args)
      (Rows.wireLengthsSpec.post enc Tryd.prog Tryd.f7 false true false false) := by
  refine returnsInHanded_of_change_and (C := Tryd.checked) (X := fun w _ => laidMetH Tryd.prog laid2 w) (fun _ _ _ hh h => h.of_heap hh) Tryd.own started (by kernel_rfl) Tryd.func7
    (ChangeSpec.witness_shaped (enc := enc) (C := Tryd.checked) (os := os) (X := fun w _ => laidMetH Tryd.prog laid2 w) false (World.doorLaid Tryd.prog 400 os) #[.int .u64 0, .int .i64 0] 8 rfl (World.shaped_of_RefB (by kernel_rfl) (by kernel_rfl)) (by kernel_rfl) (by kernel_rfl) (by kernel_rfl) (door_met os _)) ?_
  intro W base args ds gs before hval0 hW _ _ hL _
  have hval : ∀ (j : Nat) t v, Tryd.f7.params[j]? = some t → args[j]? = some v → Value.okWide Tryd.prog W .any base t v := hval0
  have hW' := hW
  obtain ⟨p, q, hA0, hV, rfl, hfz, hnd⟩ := hW
  have hA : DataW.TrodAll enc Tryd.prog W 0 (fun _ => true) true Tryd.f7.params.toList args.toList ds p := hA0
  rw [Tryd.params7] at hA hval
  obtain ⟨v0, v1, d0, d1, p0, p1, rfl, rfl, rfl, h0, h1⟩ := trodAll_two hA
  obtain ⟨rfl, rfl⟩ := trodVars_none hV
  obtain ⟨n, rfl, rfl, rfl, hwn⟩ := open_int Tryd.underlying22 (hval 0 22 v0 rfl rfl) h0
  obtain ⟨k, rfl, rfl, rfl, hwk⟩ := open_int Tryd.underlying2 (hval 1 2 v1 rfl rfl) h1
  have hE := handle_of_laid hL
  have hT := table_of_laid hL
  have bn := bounds_u64 hwn
  have bk := bounds_i64 hwk
  obtain ⟨m, rfl⟩ := Int.eq_ofNat_of_zero_le bn.1
  refine (lengths_any m k W (by omega) bk.1 (by omega) hE hT).mono fun e W' ⟨he, hb⟩ => ?_
  subst he
  have e1 : Rows.wireLengthsSpec.fn H ([.lit (.int .u64 (m : Int)), .lit (.int .i64 k)] ++ []) = { results := [.lit (.bool true)], args := [.lit (.int .u64 (m : Int)), .lit (.int .i64 k)] } := by simp [Rows.wireLengthsSpec]
  refine ⟨_, rfl, _, _, _, [], [], [], hW', ?_, ?_, ?_, hb.frame _, fun h => by cases h⟩
  · rw [e1]; exact trodAll_mk1 (shut_bool Tryd.underlying4 true)
  · rw [e1]; exact trodAll_mk2 (shut_int Tryd.underlying22 hwn) (shut_int Tryd.underlying2 hwk)
  · rw [e1]; rfl

theorem lengths_row : Rows.WireLengthsSaid :=
  OpenClaim.holds_of_wide 7 Tryd.f7 rfl rfl rfl rfl rfl rfl rfl ⟨rfl, rfl, rfl, rfl, rfl⟩ rfl rfl rfl rfl rfl (by kernel_rfl) Tryd.func7 (by kernel_rfl)
    (of_decide_eq_true (by kernel_rfl)) (by unfold Func.isWrapper; first | (rw [if_pos (by decide +kernel)]; kernel_rfl) | (rw [if_neg (by decide +kernel)]; exact ⟨rfl, rfl⟩))
    (fun os started H enc _ => lengths_lifted os started H enc)

theorem lengths_holds : Rows.WireLengthsCardSaid :=
  Claim7.holds_tied_plain_at .later [] [.handle, .data] true _ true
    lengths_row (fun _ h => by cases h) (by kernel_rfl) (fun _ h => by cases h) wireLengths_row_tie rfl ⟨rfl, rfl⟩ (by kernel_rfl) rfl
    (fun f fn hf hfn => by
      obtain rfl : f = 7 := Option.some.inj ((show Tryd.prog.funcNamed "consistory/consistorylaw1.WireLengths" = some 7 by kernel_rfl).symm.trans hf) |>.symm
      obtain rfl : fn = Tryd.f7 := (Option.some.inj (Tryd.func7.symm.trans hfn)).symm
      exact ⟨by kernel_rfl, fun j t ht => by
        rw [Tryd.params7] at ht
        have hm : t ∈ [22, 2] := by simpa using Array.mem_of_getElem? ht
        have hall : ([22, 2].all fun u => !Tryd.prog.wantsStandIn u) = true := by kernel_rfl
        exact (show Tryd.prog.wantsStandIn t = false by simpa using List.all_eq_true.1 hall t hm)⟩)
    (by kernel_rfl)
#print axioms lengths_holds
end Go.Proofs.YtahcfanmfocljaaDoor
