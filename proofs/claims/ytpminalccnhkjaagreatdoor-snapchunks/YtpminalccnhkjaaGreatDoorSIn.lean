/- A snapshot and a row of small numbers that come in as arguments. -/
import Derived.Test.YtpminalccnhkjaaGreatDoorJLaidBytesInValsInLawWrites
import Derived.Test.YtpminalccnhkjaaGreatDoorSChunkW
import Derived.Deep.Strs
namespace Go.Proofs.YtpminalccnhkjaaGreatDoor
open Go.ChangeShapes Go.WideShapes Go.ChangeAt Go.RowKit Go.Lib

theorem Tryz.scells34 : Tryz.prog.cellsOf 34 = 3 := by kernel_rfl
theorem Tryz.scells32 : Tryz.prog.cellsOf 32 = 1 := by kernel_rfl
theorem Tryz.scells29 : Tryz.prog.cellsOf 29 = 1 := by kernel_rfl
theorem Tryz.typesS : Tryz.prog.cellTypes Tryz.prog.depth 34 = some [32, 32, 29] := by kernel_rfl
theorem array3 {α : Type} {cs : Array α} (h : cs.size = 3) : ∃ a b c, cs = #[a, b, c] := by
  obtain ⟨l⟩ := cs
  match l, h with
  | [a, b, c], _ => exact ⟨a, b, c, rfl⟩
set_option maxRecDepth 100000 in
theorem sdata_ok {W : World} {b0 : Nat} {c0 c1 c2 : Value} (h : Value.okWide Tryz.prog W .any b0 34 (.agg #[c0, c1, c2])) : Value.okWide Tryz.prog W .any b0 29 c2 := by
  simp only [Value.okWide, Tryz.underlying34] at h
  obtain ⟨cs, h1, _, ts, h2, _, h3⟩ := h
  injection h1 with h1
  subst h1
  rw [Tryz.typesS] at h2
  injection h2 with h2
  subst h2
  obtain ⟨u, hu, hc⟩ := h3 2 c2 rfl
  have : u = 29 := by simpa using hu.symm
  subst this
  simp only [Value.okWide, Tryz.underlying29]
  exact hc
set_option maxRecDepth 100000 in
theorem snap_in {H : Type} {enc : TypeId × Value → H} {W : World} {base b0 : Nat} {hd : Bool} {v : Value} {d : DataW H} {ps : List MemPlace}
    (hv : Value.okWide Tryz.prog W .any base 34 v) (hT : DataW.Trod enc Tryz.prog W b0 (fun _ => true) hd 34 v d ps) :
    ∃ (I T n dk : Nat) (da : Option Addr) (l : List UInt8), v = .agg #[.int .u64 (I : Int), .int .u64 (T : Int), .slice da n dk] ∧ n = l.length ∧ RBu W W.heap.size (.slice da n dk) l := by
  obtain ⟨cs, rfl, hsz⟩ := okWide_struct Tryz.underlying34 hv
  rw [Tryz.scells34] at hsz
  obtain ⟨c0, c1, c2, rfl⟩ := array3 hsz
  have hd2 := sdata_ok hv
  obtain ⟨da, n, dk, rfl⟩ := okWide_slice Tryz.underlying29 hd2
  obtain ⟨fuel, hf⟩ := hT
  obtain ⟨y0, y1, y2, f, _, hl, h0, h1, h2⟩ := Go.Deep.trod_struct3 Tryz.underlying34 hf
  simp [Value.cells, Tryz.scells32, Tryz.scells29] at h0 h1 h2
  obtain ⟨i, e0, _, w0⟩ := DataW.trod_int Tryz.underlying32 h0
  obtain ⟨t, e1, _, w1⟩ := DataW.trod_int Tryz.underlying32 h1
  simp at e0 e1
  subst e0 e1
  have b0' := bounds_u64 w0
  have b1' := bounds_u64 w1
  obtain ⟨I, rfl⟩ := Int.eq_ofNat_of_zero_le b0'.1
  obtain ⟨T, rfl⟩ := Int.eq_ofNat_of_zero_le b1'.1
  obtain ⟨l, hl2, _, hr⟩ := bytes_in hd2 (d := y2.1) (ps := y2.2) ⟨f, h2⟩
  exact ⟨I, T, n, dk, da, l, rfl, hl2.symm, hr⟩
set_option maxRecDepth 100000 in
theorem addr_u16 {W : World} {base : Nat} {a : Addr} {len cap : Nat} (h : Value.okWide Tryz.prog W .any base 53 (.slice (some a) len cap)) : a.spot = none ∧ a.block < W.heap.size := by
  simp only [Value.okWide, Tryz.underlying53, Cell.okWide, Cell.ok] at h
  obtain ⟨_, _, _, h2, row, cells, h3, _⟩ := h
  refine ⟨h2, ?_⟩
  rcases Nat.lt_or_ge a.block W.heap.size with h' | h'
  · exact h'
  · simp [World.shape?, Array.getElem?_eq_none h'] at h3
set_option maxRecDepth 100000 in
theorem u16_in {H : Type} {enc : TypeId × Value → H} {W : World} {base b0 : Nat} {hd : Bool} {a : Option Addr} {len cap : Nat} {d : DataW H} {ps : List MemPlace}
    (hv : Value.okWide Tryz.prog W .any base 53 (.slice a len cap)) (hT : DataW.Trod enc Tryz.prog W b0 (fun _ => true) hd 53 (.slice a len cap) d ps) :
    ∃ os : List Nat, len = os.length ∧ InU W a os := by
  obtain ⟨fuel, hf⟩ := hT
  rcases open_ints Tryz.underlying53 Tryz.underlying22 (by kernel_rfl) hf with ⟨hcs, _⟩ | ⟨x, l, c, zs, hcs, _, hl, hm, hz, _, hcell, hwz⟩
  · simp [Value.cells] at hcs
    obtain ⟨rfl, rfl, rfl⟩ := hcs
    exact ⟨[], rfl, fun i hi => by cases hi⟩
  · simp [Value.cells] at hcs
    obtain ⟨rfl, rfl, rfl⟩ := hcs
    obtain ⟨hs, hb⟩ := addr_u16 hv
    obtain ⟨b, off, spot⟩ := x
    simp only at hs
    subst hs
    have hzl : zs.length = cap := by simpa using hz
    have hlen : ((zs.take len).map Int.toNat).length = len := by simp; omega
    refine ⟨(zs.take len).map Int.toNat, hlen.symm, fun i hi => ⟨b, off, rfl, hb, ?_⟩⟩
    have hi' : i < zs.length := by omega
    have hil : i < len := by omega
    have h1 := hcell i hi'
    rw [Go.WideShapes.add_plain] at h1
    rw [h1]
    have hw := hwz zs[i] (List.getElem_mem hi')
    have hbd := bounds_u16 hw
    have e : ((zs.take len).map Int.toNat).getD i 0 = zs[i].toNat := by
      simp [List.getD_eq_getElem?_getD, hil, hi']
    have e2 : zs.getD i 0 = zs[i] := by simp [hi']
    rw [e, e2]
    refine ⟨?_, by omega⟩
    congr 2
    omega
end Go.Proofs.YtpminalccnhkjaaGreatDoor
