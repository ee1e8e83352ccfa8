/- Slices of bytes and of small integers that come in, as the disk's walks ask for them. -/
import Derived.Test.YtkfogibjlbkmgaaDoorDLaid
import Derived.Test.YtkfogibjlbkmgaaDoorDLawS
import Derived.ChangeOld
import Derived.Below
namespace Go.Proofs.YtkfogibjlbkmgaaDoor
open Go.ChangeShapes Go.WideShapes Go.ChangeAt Go.RowKit Go.Lib

theorem Tryd.laidOut : laidOutB Tryd.prog = true := by kernel_rfl

set_option maxRecDepth 100000 in
theorem addr_u8 {W : World} {base : Nat} {a : Addr} {len cap : Nat} (h : Value.okWide Tryd.prog W .any base 28 (.slice (some a) len cap)) : a.spot = none ∧ a.block < W.heap.size := by
  simp only [Value.okWide, Tryd.underlying28, Cell.okWide, Cell.ok] at h
  obtain ⟨_, _, _, h2, row, cells, h3, _⟩ := h
  refine ⟨h2, ?_⟩
  rcases Nat.lt_or_ge a.block W.heap.size with h' | h'
  · exact h'
  · simp [World.shape?, Array.getElem?_eq_none h'] at h3
set_option maxRecDepth 100000 in
theorem addr_i16 {W : World} {base : Nat} {a : Addr} {len cap : Nat} (h : Value.okWide Tryd.prog W .any base 63 (.slice (some a) len cap)) : a.spot = none ∧ a.block < W.heap.size := by
  simp only [Value.okWide, Tryd.underlying63, Cell.okWide, Cell.ok] at h
  obtain ⟨_, _, _, h2, row, cells, h3, _⟩ := h
  refine ⟨h2, ?_⟩
  rcases Nat.lt_or_ge a.block W.heap.size with h' | h'
  · exact h'
  · simp [World.shape?, Array.getElem?_eq_none h'] at h3

set_option maxRecDepth 100000 in
theorem u8_in {H : Type} {enc : TypeId × Value → H} {W : World} {base b0 : Nat} {hd : Bool} {a : Option Addr} {len cap : Nat} {d : DataW H} {ps : List MemPlace}
    (hv : Value.okWide Tryd.prog W .any base 28 (.slice a len cap)) (hT : DataW.Trod enc Tryd.prog W b0 (fun _ => true) hd 28 (.slice a len cap) d ps) :
    ∃ l : List UInt8, l.length = len ∧ len ≤ maxLen ∧ InB W a l := by
  obtain ⟨fuel, hf⟩ := hT
  rcases open_ints Tryd.underlying28 Tryd.underlying5 (by kernel_rfl) hf with ⟨hcs, _⟩ | ⟨x, l, c, zs, hcs, _, hl, hm, hz, _, hcell, hwz⟩
  · simp [Value.cells] at hcs
    obtain ⟨rfl, rfl, rfl⟩ := hcs
    exact ⟨[], rfl, Nat.zero_le _, fun i hi => by cases hi⟩
  · simp [Value.cells] at hcs
    obtain ⟨rfl, rfl, rfl⟩ := hcs
    obtain ⟨hs, hb⟩ := addr_u8 hv
    obtain ⟨b, off, spot⟩ := x
    simp only at hs
    subst hs
    have hzl : zs.length = cap := by simpa using hz
    have hlen : ((zs.take len).map fun z => z.toNat.toUInt8).length = len := by simp; omega
    refine ⟨(zs.take len).map fun z => z.toNat.toUInt8, hlen, by omega, fun i hi => ⟨b, off, rfl, hb, ?_⟩⟩
    have hi' : i < zs.length := by omega
    have hil : i < len := by omega
    have h1 := hcell i hi'
    rw [Go.WideShapes.add_plain] at h1
    rw [h1]
    have hw := hwz zs[i] (List.getElem_mem hi')
    have hbd := bounds_u8 hw
    have e : ((zs.take len).map fun z => z.toNat.toUInt8).getD i 0 = zs[i].toNat.toUInt8 := by
      simp [List.getD_eq_getElem?_getD, hil, hi']
    have e2 : zs.getD i 0 = zs[i] := by simp [hi']
    rw [e, e2]
    have e3 : (zs[i].toNat.toUInt8).toNat = zs[i].toNat := by simp; omega
    rw [e3]
    congr 2
    omega

set_option maxRecDepth 100000 in
theorem i16_in {H : Type} {enc : TypeId × Value → H} {W : World} {base b0 : Nat} {hd : Bool} {a : Option Addr} {len cap : Nat} {d : DataW H} {ps : List MemPlace}
    (hv : Value.okWide Tryd.prog W .any base 63 (.slice a len cap)) (hT : DataW.Trod enc Tryd.prog W b0 (fun _ => true) hd 63 (.slice a len cap) d ps) :
    ∃ ks : List Int, ks.length = len ∧ len ≤ maxLen ∧ InK W a ks := by
  obtain ⟨fuel, hf⟩ := hT
  rcases open_ints Tryd.underlying63 Tryd.underlying64 (by kernel_rfl) hf with ⟨hcs, _⟩ | ⟨x, l, c, zs, hcs, _, hl, hm, hz, _, hcell, hwz⟩
  · simp [Value.cells] at hcs
    obtain ⟨rfl, rfl, rfl⟩ := hcs
    exact ⟨[], rfl, Nat.zero_le _, fun x hx => (by cases hx), fun i hi => by cases hi⟩
  · simp [Value.cells] at hcs
    obtain ⟨rfl, rfl, rfl⟩ := hcs
    obtain ⟨hs, hb⟩ := addr_i16 hv
    obtain ⟨b, off, spot⟩ := x
    simp only at hs
    subst hs
    have hzl : zs.length = cap := by simpa using hz
    have hlen : (zs.take len).length = len := by simp; omega
    refine ⟨zs.take len, hlen, by omega, fun x hx => ?_, fun i hi => ⟨b, off, rfl, hb, ?_⟩⟩
    · have hw := hwz x (List.mem_of_mem_take hx)
      exact bounds_i16 hw
    · have hi' : i < zs.length := by omega
      have hil : i < len := by omega
      have h1 := hcell i hi'
      rw [Go.WideShapes.add_plain] at h1
      rw [h1]
      have e : (zs.take len).getD i 0 = zs.getD i 0 := by
        simp [List.getD_eq_getElem?_getD, hil, hi']
      rw [e]
end Go.Proofs.YtkfogibjlbkmgaaDoor
