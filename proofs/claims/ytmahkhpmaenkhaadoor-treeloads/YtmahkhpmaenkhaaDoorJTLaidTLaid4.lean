/- The tree's rows: what they list, and numbers that come in as arguments. -/
import Derived.Test.YtmahkhpmaenkhaaDoorRows
import Derived.Test.YtmahkhpmaenkhaaDoorTOne
import Derived.ProofKit
import Derived.LaidMore
import Derived.LaidHandle
import Derived.LaidLaws
import Derived.OpenShut
import Derived.ShutString
import Derived.ChangeOld
import Derived.Below
import Derived.Stop.Joined
import Derived.Deep.Strs
import Derived.Test.YtmahkhpmaenkhaaDoorTRead
namespace Go.Proofs.YtmahkhpmaenkhaaDoor
open Go.ChangeShapes Go.WideShapes Go.ChangeAt Go.RowKit Go.Lib

abbrev laid3 : List (String × DataW Unit) := [("math/bits.deBruijn32tab", Rows.laid_math_bits_deBruijn32tab), ("math/bits.deBruijn64tab", Rows.laid_math_bits_deBruijn64tab), ("internal/strconv.uint64pow10", Rows.laid_internal_strconv_uint64pow10)]
theorem Tryd.own : ownKnob Tryd.prog.godebug = none := by kernel_rfl
theorem Tryd.laidOut : laidOutB Tryd.prog = true := by kernel_rfl
/-- The door's own heap meets the condition. -/
theorem door_met3 (os : Os) (args : Array Value) : laidMetH Tryd.prog laid3 ((World.doorLaid Tryd.prog 400 os).forCall (fun _ _ => 0) ⟨#[], args, []⟩).memory :=
  laidMetH_of_parts3 (fuel := 8) (laidMet_of_run' 8 (by kernel_rfl) (by kernel_rfl)) (by kernel_rfl) (by kernel_rfl)
set_option maxRecDepth 100000 in
theorem addr_k16 {W : World} {base : Nat} {a : Addr} {len cap : Nat} (h : Value.okWide Tryd.prog W .any base 22 (.slice (some a) len cap)) : a.spot = none ∧ a.block < W.heap.size := by
  simp only [Value.okWide, Tryd.underlying22, Cell.okWide, Cell.ok] at h
  obtain ⟨_, _, _, h2, row, cells, h3, _⟩ := h
  refine ⟨h2, ?_⟩
  rcases Nat.lt_or_ge a.block W.heap.size with h' | h'
  · exact h'
  · simp [World.shape?, Array.getElem?_eq_none h'] at h3
set_option maxRecDepth 100000 in
theorem k16_in {H : Type} {enc : TypeId × Value → H} {W : World} {base b0 : Nat} {hd : Bool} {a : Option Addr} {len cap : Nat} {d : DataW H} {ps : List MemPlace}
    (hv : Value.okWide Tryd.prog W .any base 22 (.slice a len cap)) (hT : DataW.Trod enc Tryd.prog W b0 (fun _ => true) hd 22 (.slice a len cap) d ps) :
    ∃ os : List Nat, len = os.length ∧ InK W a os := by
  obtain ⟨fuel, hf⟩ := hT
  rcases open_ints Tryd.underlying22 Tryd.underlying29 (by kernel_rfl) hf with ⟨hcs, _⟩ | ⟨x, l, c, zs, hcs, _, hl, hm, hz, _, hcell, hwz⟩
  · simp [Value.cells] at hcs
    obtain ⟨rfl, rfl, rfl⟩ := hcs
    exact ⟨[], rfl, fun i hi => by cases hi⟩
  · simp [Value.cells] at hcs
    obtain ⟨rfl, rfl, rfl⟩ := hcs
    obtain ⟨hs, hb⟩ := addr_k16 hv
    obtain ⟨b, off, spot⟩ := x
    simp only at hs
    subst hs
    have hzl : zs.length = cap := by simpa using hz
    have hlen : ((zs.take len).map Int.toNat).length = len := by simp; omega
    refine ⟨(zs.take len).map Int.toNat, hlen.symm, fun i hi => ⟨b, off, rfl, hb, ?_⟩⟩
    have hi' : i < zs.length := by omega
    have hil : i < len := by omega
    have h1 := hcell i hi'
    rw [Go.WideShapes.add_plain] at h1
    rw [h1]
    have hw := hwz zs[i] (List.getElem_mem hi')
    have hbd := bounds_u16 hw
    have e : ((zs.take len).map Int.toNat).getD i 0 = zs[i].toNat := by
      simp [List.getD_eq_getElem?_getD, hil, hi']
    have e2 : zs.getD i 0 = zs[i] := by simp [hi']
    rw [e, e2]
    refine ⟨?_, by omega⟩
    congr 2
    omega
end Go.Proofs.YtmahkhpmaenkhaaDoor
/- TreeLoads' row: what it lists, and bytes that come in as an argument. -/
namespace Go.Proofs.YtmahkhpmaenkhaaDoor
open Go.ChangeShapes Go.WideShapes Go.ChangeAt Go.RowKit Go.Lib

abbrev laid4 : List (String × DataW Unit) := [("math/bits.deBruijn32tab", Rows.laid_math_bits_deBruijn32tab), ("math/bits.deBruijn64tab", Rows.laid_math_bits_deBruijn64tab), ("internal/strconv.uint64pow10", Rows.laid_internal_strconv_uint64pow10), ("errors.errorType", Rows.laid_errors_errorType)]
theorem Tryd.et : Tryd.prog.globalNamed "errors.errorType" = some 0 := by kernel_rfl
theorem Tryd.rt : (Tryd.prog.cutTypes.find? (·.1 == "internal/reflectlite.rtype")).map (·.2) = some 121 := by kernel_rfl
theorem Tryd.oneRow : ((List.range 186).filter fun t => Tryd.prog.rowNamed t [101, 114, 114, 111, 114]) = [35] := by kernel_rfl
theorem Tryd.size : Tryd.prog.types.size = 186 := by kernel_rfl
theorem handle_of_laid4 {W : World} (h : laidMetH Tryd.prog laid4 W) : ET W := by
  have h' : laidMet Tryd.prog [("math/bits.deBruijn32tab", Rows.laid_math_bits_deBruijn32tab), ("math/bits.deBruijn64tab", Rows.laid_math_bits_deBruijn64tab), ("internal/strconv.uint64pow10", Rows.laid_internal_strconv_uint64pow10)] W ∧ handlesMet Tryd.prog [("errors.errorType", Rows.laid_errors_errorType)] W := h
  obtain ⟨name, u, ty, e1, e2, e3, e4, e5⟩ := h'.2 _ (List.mem_singleton.2 rfl)
  have en : name = [101, 114, 114, 111, 114] := (Option.some.inj e1).symm
  subst en
  obtain rfl := Option.some.inj (Tryd.rt.symm.trans e2)
  have hm : ty ∈ (List.range 186).filter fun t => Tryd.prog.rowNamed t [101, 114, 114, 111, 114] := List.mem_filter.2 ⟨List.mem_range.2 (by rw [← Tryd.size]; exact e3), e4⟩
  rw [Tryd.oneRow] at hm
  obtain rfl := List.mem_singleton.1 hm
  have hh : typeHandle Tryd.prog 35 = .pointer (some ⟨5, 35, none⟩) := by kernel_rfl
  rw [hh] at e5
  unfold ET
  simpa using World.var?_cell Tryd.et e5 0
/-- The door's own heap meets the condition. -/
theorem door_met4 (os : Os) (args : Array Value) : laidMetH Tryd.prog laid4 ((World.doorLaid Tryd.prog 400 os).forCall (fun _ _ => 0) ⟨#[], args, []⟩).memory :=
  laidMetH_of_parts3 (fuel := 8) (laidMet_of_run' 8 (by kernel_rfl) (by kernel_rfl)) (by kernel_rfl) (by kernel_rfl)
set_option maxRecDepth 100000 in
theorem addr_b8 {W : World} {base : Nat} {a : Addr} {len cap : Nat} (h : Value.okWide Tryd.prog W .any base 27 (.slice (some a) len cap)) : a.spot = none ∧ a.block < W.heap.size := by
  simp only [Value.okWide, Tryd.underlying27, Cell.okWide, Cell.ok] at h
  obtain ⟨_, _, _, h2, row, cells, h3, _⟩ := h
  refine ⟨h2, ?_⟩
  rcases Nat.lt_or_ge a.block W.heap.size with h' | h'
  · exact h'
  · simp [World.shape?, Array.getElem?_eq_none h'] at h3
set_option maxRecDepth 100000 in
theorem b8_in {H : Type} {enc : TypeId × Value → H} {W : World} {base b0 : Nat} {hd : Bool} {a : Option Addr} {len cap : Nat} {d : DataW H} {ps : List MemPlace}
    (hv : Value.okWide Tryd.prog W .any base 27 (.slice a len cap)) (hT : DataW.Trod enc Tryd.prog W b0 (fun _ => true) hd 27 (.slice a len cap) d ps) :
    ∃ l : List UInt8, BL W W.heap.size (.slice a len cap) l := by
  obtain ⟨fuel, hf⟩ := hT
  rcases open_ints Tryd.underlying27 Tryd.underlying5 (by kernel_rfl) hf with ⟨hcs, _⟩ | ⟨x, l, c, zs, hcs, _, hl, hm, hz, _, hcell, hwz⟩
  · simp [Value.cells] at hcs
    obtain ⟨rfl, rfl, rfl⟩ := hcs
    exact ⟨[], .inl ⟨rfl, rfl⟩⟩
  · simp [Value.cells] at hcs
    obtain ⟨rfl, rfl, rfl⟩ := hcs
    obtain ⟨hs, hb⟩ := addr_b8 hv
    obtain ⟨b, off, spot⟩ := x
    simp only at hs hb
    subst hs
    have hzl : zs.length = cap := by simpa using hz
    have hlen : ((zs.take len).map fun z => z.toNat.toUInt8).length = len := by simp; omega
    refine ⟨(zs.take len).map fun z => z.toNat.toUInt8, .inr ⟨b, off, cap, by rw [hlen], by omega, hm, by omega, hb, fun i hi => ?_⟩⟩
    have hi' : i < zs.length := by omega
    have hil : i < len := by omega
    have h1 := hcell i hi'
    rw [Go.WideShapes.add_plain] at h1
    rw [h1]
    have hw := hwz zs[i] (List.getElem_mem hi')
    have hbd := bounds_u8 hw
    have e : ((zs.take len).map fun z => z.toNat.toUInt8).getD i 0 = zs[i].toNat.toUInt8 := by
      simp [List.getD_eq_getElem?_getD, hil, hi']
    have e2 : zs.getD i 0 = zs[i] := by simp [hi']
    have e3 : zs[i].toNat.toUInt8.toNat = zs[i].toNat := by
      show zs[i].toNat % 256 = _
      omega
    rw [e, e2, e3]
    congr 2
    omega
end Go.Proofs.YtmahkhpmaenkhaaDoor
