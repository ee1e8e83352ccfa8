/- The row of steps that comes in to SnapPlays. -/
import Derived.Test.YtpminalccnhkjaaGreatDoorJLaidBytesInValsInLawWrites
import Derived.Test.YtpminalccnhkjaaGreatDoorSXLaw
import Derived.Deep.Strs
namespace Go.Proofs.YtpminalccnhkjaaGreatDoor
open Go.ChangeShapes Go.WideShapes Go.ChangeAt Go.RowKit Go.Lib

theorem Tryz.xcellsInt : Tryz.prog.cellsOf 3 = 1 := by kernel_rfl
theorem Tryz.xcellsU : Tryz.prog.cellsOf 32 = 1 := by kernel_rfl
theorem Tryz.xcellsBy : Tryz.prog.cellsOf 29 = 1 := by kernel_rfl
theorem Tryz.xcellsIs : Tryz.prog.cellsOf 36 = 1 := by kernel_rfl
theorem Tryz.xcellsCr : Tryz.prog.cellsOf 38 = 1 := by kernel_rfl
theorem Tryz.xcellsSn : Tryz.prog.cellsOf 34 = 3 := by kernel_rfl
theorem Tryz.xcellsSt : Tryz.prog.cellsOf 47 = 6 := by kernel_rfl
theorem xfields_some {α : Type} {xs : List α} {fs : Array Field} {T : Field → Option α} (hlen : xs.length = fs.size) (hf : ∀ (i : Nat) (f : Field), fs[i]? = some f → T f = xs[i]?) (i : Nat) (f : Field) (h : fs[i]? = some f) : ∃ y, T f = some y := by
  have : i < xs.length := by rw [hlen]; exact (Array.getElem?_eq_some_iff.1 h).1
  exact ⟨xs[i], (hf i f h).trans (List.getElem?_eq_getElem this)⟩
theorem xlist6 {α : Type} {cs : List α} (h : cs.length = 6) : ∃ a b c d e f, cs = [a, b, c, d, e, f] := by
  match cs, h with
  | [a, b, c, d, e, f], _ => exact ⟨a, b, c, d, e, f, rfl⟩
theorem xlist_of {α : Type} (Q : Nat → α → Prop) : ∀ n, (∀ i, i < n → ∃ g, Q i g) → ∃ gs : List α, gs.length = n ∧ ∀ i g, gs[i]? = some g → Q i g := by
  intro n
  induction n with
  | zero => intro _; exact ⟨[], rfl, fun i g h => by simp at h⟩
  | succ n ih =>
    intro h
    obtain ⟨gs, hl, hg⟩ := ih fun i hi => h i (by omega)
    obtain ⟨g, hq⟩ := h n (by omega)
    refine ⟨gs ++ [g], by simp [hl], fun i x hx => ?_⟩
    by_cases hi : i < n
    · rw [List.getElem?_append_left (by omega)] at hx
      exact hg i x hx
    · rw [List.getElem?_append_right (by omega)] at hx
      have : i = n := by
        have := (List.getElem?_eq_some_iff.1 hx).1
        simp at this; omega
      subst this
      simp [hl] at hx
      subst hx; exact hq
section
variable {H : Type} {enc : TypeId × Value → H} {W : World} {base : Nat} {hd : Bool}
set_option maxRecDepth 100000 in
theorem xby_cells {fuel : Nat} {cs : List Value} {x : DataW H × List MemPlace} (h : DataW.trod enc Tryz.prog W base (fun _ => true) hd fuel 29 cs = some x) :
    ∃ (a : Option Addr) (k : Nat) (l : List UInt8), cs = [.slice a l.length k] ∧ l.length ≤ maxLen ∧ (l.length ≤ 1500 → RZ W (fun k => W.heap.size ≤ k) (.slice a l.length k) l) := by
  rcases open_ints Tryz.underlying29 Tryz.underlying5 (by kernel_rfl) h with ⟨hcs, _⟩ | ⟨x, len, cap, zs, hcs, _, hl, hm, hz, _, hcell, hwz⟩
  · exact ⟨none, 0, [], hcs, by simp, fun _ => .inl ⟨by simp, .inl ⟨rfl, rfl⟩⟩⟩
  · have hzl : zs.length = cap := by simpa using hz
    cases len with
    | zero => exact ⟨some x, cap, [], hcs, by simp, fun _ => .inr ⟨rfl, x, cap, rfl, hm⟩⟩
    | succ len =>
      have h0 := hcell 0 (by omega)
      have h0' : W.cell? x = some (.int .u8 (zs.getD 0 0)) := by simpa [Addr.add] using h0
      have hspot := World.cell?_spot h0'
      have hblk : x.block < W.heap.size := lt_of_cell h0'
      obtain ⟨b, off, spot⟩ := x
      dsimp only at hspot hblk
      subst hspot
      have hlen : ((zs.take (len + 1)).map fun z => z.toNat.toUInt8).length = len + 1 := by simp; omega
      refine ⟨_, cap, (zs.take (len + 1)).map fun z => z.toNat.toUInt8, by rw [hlen]; exact hcs, by omega, fun h300 => .inl ⟨by omega, .inr ⟨b, off, cap, hblk, by show ¬ W.heap.size ≤ b; omega, by omega, hm, rfl, fun i hi => ?_⟩⟩⟩
      have hi' : i < zs.length := by omega
      have hil : i < len + 1 := by omega
      have h1 := hcell i hi'
      rw [Go.WideShapes.add_plain] at h1
      rw [h1]
      have hw := hwz zs[i] (List.getElem_mem hi')
      have hbd := bounds_u8 hw
      have e : ((zs.take (len + 1)).map fun z => z.toNat.toUInt8).getD i 0 = zs[i].toNat.toUInt8 := by
        simp [List.getD_eq_getElem?_getD, hil, hi']
      have e2 : zs.getD i 0 = zs[i] := by simp [hi']
      rw [e, e2]
      have e3 : (zs[i].toNat.toUInt8).toNat = zs[i].toNat := by simp; omega
      rw [e3]
      congr 2
      omega
set_option maxRecDepth 100000 in
theorem xis_cells {fuel : Nat} {cs : List Value} {x : DataW H × List MemPlace} (h : DataW.trod enc Tryz.prog W base (fun _ => true) hd fuel 36 cs = some x) :
    ∃ (a : Option Addr) (k : Nat) (l : List Int), cs = [.slice a l.length k] ∧ l.length ≤ maxLen ∧ Dk.KeepAt W (fun k => W.heap.size ≤ k) (.slice a l.length k) l := by
  rcases open_ints Tryz.underlying36 Tryz.underlying3 (by kernel_rfl) h with ⟨hcs, _⟩ | ⟨x, len, cap, zs, hcs, _, hl, hm, hz, _, hcell, hwz⟩
  · exact ⟨none, 0, [], hcs, by simp, fun x hx => (by cases hx), .inl ⟨⟨none, 0, rfl⟩, rfl⟩⟩
  · have hzl : zs.length = cap := by simpa using hz
    cases len with
    | zero => exact ⟨some x, cap, [], hcs, by simp, fun x hx => (by cases hx), .inl ⟨⟨some x, cap, rfl⟩, rfl⟩⟩
    | succ len =>
      have h0 := hcell 0 (by omega)
      have h0' : W.cell? x = some (.int .i64 (zs.getD 0 0)) := by simpa [Addr.add] using h0
      have hspot := World.cell?_spot h0'
      have hblk : x.block < W.heap.size := lt_of_cell h0'
      obtain ⟨b, off, spot⟩ := x
      dsimp only at hspot hblk
      subst hspot
      have hlen : (zs.take (len + 1)).length = len + 1 := by simp; omega
      refine ⟨_, cap, zs.take (len + 1), by rw [hlen]; exact hcs, by omega, fun y hy => ?_, .inr ⟨b, off, cap, hblk, by show ¬ W.heap.size ≤ b; omega, by omega, hm, rfl, fun i y hi => ?_⟩⟩
      · have hw := hwz y (List.mem_of_mem_take hy)
        have := bounds_i64 hw
        omega
      · have hil := (List.getElem?_eq_some_iff.1 hi).1
        have hi' : i < zs.length := by omega
        have h1 := hcell i hi'
        rw [Go.WideShapes.add_plain] at h1
        rw [h1]
        rw [List.getElem?_take] at hi
        split at hi
        · rw [List.getD_eq_getElem?_getD, hi]; rfl
        · cases hi
set_option maxRecDepth 100000 in
theorem xstep_cells {fuel : Nat} {cs : List Value} {x : DataW H × List MemPlace} (h : DataW.trod enc Tryz.prog W base (fun _ => true) hd fuel 47 cs = some x) :
    ∃ s : GX, GX.ok W s ∧ cs = s.cells := by
  obtain ⟨xs, n, _, _, hl, hlen, hf⟩ := DataW.trod_struct Tryz.underlying47 h
  rw [Tryz.xcellsSt] at hl
  obtain ⟨c0, c1, c2, c3, c4, c5, rfl⟩ := xlist6 hl
  have g := xfields_some hlen hf
  clear h
  obtain ⟨y0, h0⟩ := g 0 _ rfl
  simp [Tryz.xcellsInt] at h0
  obtain ⟨y1, h1⟩ := g 1 _ rfl
  simp [Tryz.xcellsInt] at h1
  obtain ⟨y2, h2⟩ := g 2 _ rfl
  simp [Tryz.xcellsSn] at h2
  obtain ⟨y3, h3⟩ := g 3 _ rfl
  simp [Tryz.xcellsCr] at h3
  clear g hf hlen
  obtain ⟨s0, s1, s2, f, _, _, k0, k1, k2⟩ := Go.Deep.trod_struct3 Tryz.underlying34 h2
  simp [Tryz.xcellsU, Tryz.xcellsBy] at k0 k1 k2
  obtain ⟨xs', n', _, _, hl', hlen', hf'⟩ := DataW.trod_struct Tryz.underlying38 h3
  obtain ⟨y6, h6⟩ := xfields_some hlen' hf' 0 _ rfl
  simp [Tryz.xcellsIs] at h6
  clear h2 h3 hf' hlen' hl'
  obtain ⟨z0, e0, _, b0⟩ := DataW.trod_int Tryz.underlying3 h0
  obtain ⟨z1, e1, _, b1⟩ := DataW.trod_int Tryz.underlying3 h1
  obtain ⟨z2, e2, _, b2⟩ := DataW.trod_int Tryz.underlying32 k0
  obtain ⟨z3, e3, _, b3⟩ := DataW.trod_int Tryz.underlying32 k1
  obtain ⟨ba, bk, lb, e4, b4, hb⟩ := xby_cells k2
  obtain ⟨ka, kk, ks, e5, b5, hk⟩ := xis_cells h6
  simp at e0 e1 e2 e3 e4 e5
  subst e0 e1 e2 e3 e4 e5
  have r0 := bounds_i64 b0
  have r1 := bounds_i64 b1
  have r2 := bounds_u64 b2
  have r3 := bounds_u64 b3
  obtain ⟨I, rfl⟩ := Int.eq_ofNat_of_zero_le r2.1
  obtain ⟨T, rfl⟩ := Int.eq_ofNat_of_zero_le r3.1
  refine ⟨⟨z0, z1, I, T, ba, bk, lb, ka, kk, ks⟩, ⟨by dsimp only; omega, by dsimp only; omega, by dsimp only; omega, by dsimp only; omega, b4, b5, hb, hk⟩, ?_⟩
  unfold GX.cells
  dsimp only
set_option maxRecDepth 100000 in
theorem xsteps_addr {b0 : Nat} {a : Addr} {len cap : Nat} (h : Value.okWide Tryz.prog W .any b0 45 (.slice (some a) len cap)) : a.spot = none ∧ a.block < W.heap.size := by
  simp only [Value.okWide, Tryz.underlying45, Cell.okWide, Cell.ok] at h
  obtain ⟨_, _, _, h2, row, cells, h3, _⟩ := h
  refine ⟨h2, ?_⟩
  rcases Nat.lt_or_ge a.block W.heap.size with h' | h'
  · exact h'
  · simp [World.shape?, Array.getElem?_eq_none h'] at h3
set_option maxRecDepth 100000 in
theorem xsteps_in {b0 : Nat} {a : Option Addr} {len cap : Nat} {d : DataW H} {ps : List MemPlace}
    (hv : Value.okWide Tryz.prog W .any b0 45 (.slice a len cap)) (hT : DataW.Trod enc Tryz.prog W base (fun _ => true) hd 45 (.slice a len cap) d ps) :
    ∃ gs, gs.length = len ∧ len ≤ maxLen ∧ InX W a gs := by
  obtain ⟨fuel, hf⟩ := hT
  rcases DataW.trod_slice Tryz.underlying45 hf with ⟨hcs, _⟩ | ⟨x, l, c, elems, rest, n, _, hcs, _, hb, hl, hm, hlen, hel, _⟩
  · simp [Value.cells] at hcs
    obtain ⟨rfl, rfl, rfl⟩ := hcs
    exact ⟨[], rfl, Nat.zero_le _, fun i s hi => by simp at hi⟩
  · simp [Value.cells] at hcs
    obtain ⟨rfl, rfl, rfl⟩ := hcs
    obtain ⟨hs, hblk⟩ := xsteps_addr hv
    obtain ⟨b, off, spot⟩ := x
    simp only at hs
    subst hs
    rw [Tryz.xcellsSt] at hel
    have each : ∀ i, i < len → ∃ s : GX, GX.ok W s ∧ ∀ j v, s.cells[j]? = some v → W.cell? ⟨b, off + i * 6 + j, none⟩ = some v := by
      intro i hi
      have he := hel i hi
      rw [List.getElem?_eq_getElem (by omega), Option.bind_eq_some_iff] at he
      obtain ⟨cs, hc, ht⟩ := he
      obtain ⟨s, hs, rfl⟩ := xstep_cells ht
      obtain ⟨_, hl6, hcell⟩ := World.cells?_some hc
      rw [Go.WideShapes.add_plain] at hcell
      refine ⟨s, hs, fun j v hj => ?_⟩
      have hjl : j < 6 := (List.getElem?_eq_some_iff.1 hj).1
      have := hcell j hjl
      rw [Go.WideShapes.add_plain] at this
      rw [this, hj]
    obtain ⟨gs, hgl, hgs⟩ := xlist_of _ len each
    exact ⟨gs, hgl, by omega, fun i s hi => ⟨(hgs i s hi).1, b, off, rfl, hblk, (hgs i s hi).2⟩⟩
end
end Go.Proofs.YtpminalccnhkjaaGreatDoor
