/- The row of steps that comes in, as the statement's walk asks for it. -/
import Derived.Test.YthebgoadeecmpaaDoorQEnd
import Derived.Test.YthebgoadeecmpaaDoorDLaid
import Derived.ChangeOld
import Derived.Below
namespace Go.Proofs.YthebgoadeecmpaaDoor
open Go.ChangeShapes Go.WideShapes Go.ChangeAt Go.RowKit Go.Lib

theorem Tryd.laidOut : laidOutB Tryd.prog = true := by kernel_rfl
theorem Tryd.cellsInt : Tryd.prog.cellsOf 3 = 1 := by kernel_rfl
theorem Tryd.cellsStr : Tryd.prog.cellsOf 9 = 1 := by kernel_rfl
theorem Tryd.cellsBy : Tryd.prog.cellsOf 28 = 1 := by kernel_rfl
theorem Tryd.cellsIs : Tryd.prog.cellsOf 29 = 1 := by kernel_rfl
theorem Tryd.cellsCr : Tryd.prog.cellsOf 31 = 1 := by kernel_rfl
theorem Tryd.cellsSt : Tryd.prog.cellsOf 33 = 6 := by kernel_rfl

/-- A step: what, how many, the names, the bytes, what is kept. -/
structure GS where
  what : Int
  n : Int
  name : List UInt8
  to' : List UInt8
  ba : Option Addr
  bk : Nat
  bytes : List UInt8
  ka : Option Addr
  kk : Nat
  ks : List Int
structure GS.ok (w : World) (s : GS) : Prop where
  what : -9223372036854775808 ≤ s.what ∧ s.what ≤ 9223372036854775807
  n : -9223372036854775808 ≤ s.n ∧ s.n ≤ 9223372036854775807
  name : s.name.length ≤ maxLen
  to' : s.to'.length ≤ maxLen
  bl : s.bytes.length ≤ maxLen
  kl : s.ks.length ≤ maxLen
  bytes : ∀ w1, FrB w.heap.size w w1 → s.bytes.length ≤ 300 → RBz w1 (fun k => w.heap.size ≤ k) (.slice s.ba s.bytes.length s.bk) s.bytes
  ks : ∀ w1, FrB w.heap.size w w1 → KeepAt w1 (fun k => w.heap.size ≤ k) (.slice s.ka s.ks.length s.kk) s.ks
/-- The six cells of a step. -/
def GS.cells (s : GS) : List Value := [.int .i64 s.what, .int .i64 s.n, .string ⟨s.name.toArray⟩, .string ⟨s.to'.toArray⟩, .slice s.ba s.bytes.length s.bk, .slice s.ka s.ks.length s.kk]
/-- The row of steps. -/
def InS (w : World) (a : Option Addr) (gs : List GS) : Prop := ∀ i s, gs[i]? = some s → GS.ok w s ∧ ∃ b off, a = some ⟨b, off, none⟩ ∧ b < w.heap.size ∧ ∀ j v, s.cells[j]? = some v → w.cell? ⟨b, off + i * 6 + j, none⟩ = some v

theorem fields_some {α : Type} {xs : List α} {fs : Array Field} {T : Field → Option α} (hlen : xs.length = fs.size) (hf : ∀ (i : Nat) (f : Field), fs[i]? = some f → T f = xs[i]?) (i : Nat) (f : Field) (h : fs[i]? = some f) : ∃ y, T f = some y := by
  have : i < xs.length := by rw [hlen]; exact (Array.getElem?_eq_some_iff.1 h).1
  exact ⟨xs[i], (hf i f h).trans (List.getElem?_eq_getElem this)⟩
theorem list6 {α : Type} {cs : List α} (h : cs.length = 6) : ∃ a b c d e f, cs = [a, b, c, d, e, f] := by
  match cs, h with
  | [a, b, c, d, e, f], _ => exact ⟨a, b, c, d, e, f, rfl⟩
theorem list_of {α : Type} (Q : Nat → α → Prop) : ∀ n, (∀ i, i < n → ∃ g, Q i g) → ∃ gs : List α, gs.length = n ∧ ∀ i g, gs[i]? = some g → Q i g := by
  intro n
  induction n with
  | zero => intro _; exact ⟨[], rfl, fun i g h => by simp at h⟩
  | succ n ih =>
    intro h
    obtain ⟨gs, hl, hg⟩ := ih fun i hi => h i (by omega)
    obtain ⟨g, hq⟩ := h n (by omega)
    refine ⟨gs ++ [g], by simp [hl], fun i x hx => ?_⟩
    by_cases hi : i < n
    · rw [List.getElem?_append_left (by omega)] at hx
      exact hg i x hx
    · rw [List.getElem?_append_right (by omega)] at hx
      have : i = n := by
        have := (List.getElem?_eq_some_iff.1 hx).1
        simp at this; omega
      subst this
      simp [hl] at hx
      subst hx; exact hq
section
variable {H : Type} {enc : TypeId × Value → H} {W : World} {base : Nat} {hd : Bool}

set_option maxRecDepth 100000 in
theorem by_cells {fuel : Nat} {cs : List Value} {x : DataW H × List MemPlace} (h : DataW.trod enc Tryd.prog W base (fun _ => true) hd fuel 28 cs = some x) :
    ∃ (a : Option Addr) (k : Nat) (l : List UInt8), cs = [.slice a l.length k] ∧ l.length ≤ maxLen ∧ ∀ w1, FrB W.heap.size W w1 → l.length ≤ 300 → RBz w1 (fun k => W.heap.size ≤ k) (.slice a l.length k) l := by
  rcases open_ints Tryd.underlying28 Tryd.underlying5 (by kernel_rfl) h with ⟨hcs, _⟩ | ⟨x, len, cap, zs, hcs, _, hl, hm, hz, _, hcell, hwz⟩
  · exact ⟨none, 0, [], hcs, by simp, fun _ _ _ => .inl ⟨by simp, .inl ⟨rfl, rfl⟩⟩⟩
  · have hzl : zs.length = cap := by simpa using hz
    cases len with
    | zero => exact ⟨some x, cap, [], hcs, by simp, fun _ _ _ => .inr ⟨rfl, x, cap, rfl, hm⟩⟩
    | succ len =>
      have h0 := hcell 0 (by omega)
      have h0' : W.cell? x = some (.int .u8 (zs.getD 0 0)) := by simpa [Addr.add] using h0
      have hspot := World.cell?_spot h0'
      have hblk : x.block < W.heap.size := lt_of_cell h0'
      obtain ⟨b, off, spot⟩ := x
      dsimp only at hspot hblk
      subst hspot
      have hlen : ((zs.take (len + 1)).map fun z => z.toNat.toUInt8).length = len + 1 := by simp; omega
      refine ⟨_, cap, (zs.take (len + 1)).map fun z => z.toNat.toUInt8, by rw [hlen]; exact hcs, by omega, fun w1 hf h300 => .inl ⟨by omega, .inr ⟨b, off, cap, Nat.lt_of_lt_of_le hblk hf.size, by show ¬ W.heap.size ≤ b; omega, by omega, hm, rfl, fun i hi => ?_⟩⟩⟩
      rw [cell_same (hf.blk b hblk hblk)]
      have hi' : i < zs.length := by omega
      have hil : i < len + 1 := by omega
      have h1 := hcell i hi'
      rw [Go.WideShapes.add_plain] at h1
      rw [h1]
      have hw := hwz zs[i] (List.getElem_mem hi')
      have hbd := bounds_u8 hw
      have e : ((zs.take (len + 1)).map fun z => z.toNat.toUInt8).getD i 0 = zs[i].toNat.toUInt8 := by
        simp [List.getD_eq_getElem?_getD, hil, hi']
      have e2 : zs.getD i 0 = zs[i] := by simp [hi']
      rw [e, e2]
      have e3 : (zs[i].toNat.toUInt8).toNat = zs[i].toNat := by simp; omega
      rw [e3]
      congr 2
      omega

set_option maxRecDepth 100000 in
theorem is_cells {fuel : Nat} {cs : List Value} {x : DataW H × List MemPlace} (h : DataW.trod enc Tryd.prog W base (fun _ => true) hd fuel 29 cs = some x) :
    ∃ (a : Option Addr) (k : Nat) (l : List Int), cs = [.slice a l.length k] ∧ l.length ≤ maxLen ∧ ∀ w1, FrB W.heap.size W w1 → KeepAt w1 (fun k => W.heap.size ≤ k) (.slice a l.length k) l := by
  rcases open_ints Tryd.underlying29 Tryd.underlying3 (by kernel_rfl) h with ⟨hcs, _⟩ | ⟨x, len, cap, zs, hcs, _, hl, hm, hz, _, hcell, hwz⟩
  · exact ⟨none, 0, [], hcs, by simp, fun _ _ => ⟨fun x hx => (by cases hx), .inl ⟨⟨none, 0, rfl⟩, rfl⟩⟩⟩
  · have hzl : zs.length = cap := by simpa using hz
    cases len with
    | zero => exact ⟨some x, cap, [], hcs, by simp, fun _ _ => ⟨fun x hx => (by cases hx), .inl ⟨⟨some x, cap, rfl⟩, rfl⟩⟩⟩
    | succ len =>
      have h0 := hcell 0 (by omega)
      have h0' : W.cell? x = some (.int .i64 (zs.getD 0 0)) := by simpa [Addr.add] using h0
      have hspot := World.cell?_spot h0'
      have hblk : x.block < W.heap.size := lt_of_cell h0'
      obtain ⟨b, off, spot⟩ := x
      dsimp only at hspot hblk
      subst hspot
      have hlen : (zs.take (len + 1)).length = len + 1 := by simp; omega
      refine ⟨_, cap, zs.take (len + 1), by rw [hlen]; exact hcs, by omega, fun w1 hf => ⟨fun y hy => ?_, .inr ⟨b, off, cap, Nat.lt_of_lt_of_le hblk hf.size, by show ¬ W.heap.size ≤ b; omega, by omega, hm, rfl, fun i y hi => ?_⟩⟩⟩
      · have hw := hwz y (List.mem_of_mem_take hy)
        have := bounds_i64 hw
        omega
      · rw [cell_same (hf.blk b hblk hblk)]
        have hil := (List.getElem?_eq_some_iff.1 hi).1
        have hi' : i < zs.length := by omega
        have h1 := hcell i hi'
        rw [Go.WideShapes.add_plain] at h1
        rw [h1]
        rw [List.getElem?_take] at hi
        split at hi
        · rw [List.getD_eq_getElem?_getD, hi]; rfl
        · cases hi

set_option maxRecDepth 100000 in
theorem step_cells {fuel : Nat} {cs : List Value} {x : DataW H × List MemPlace} (h : DataW.trod enc Tryd.prog W base (fun _ => true) hd fuel 33 cs = some x) :
    ∃ s : GS, GS.ok W s ∧ cs = s.cells := by
  obtain ⟨xs, n, _, _, hl, hlen, hf⟩ := DataW.trod_struct Tryd.underlying33 h
  rw [Tryd.cellsSt] at hl
  obtain ⟨c0, c1, c2, c3, c4, c5, rfl⟩ := list6 hl
  have g := fields_some hlen hf
  clear h
  obtain ⟨y0, h0⟩ := g 0 _ rfl
  simp [Tryd.cellsInt] at h0
  obtain ⟨y1, h1⟩ := g 1 _ rfl
  simp [Tryd.cellsInt] at h1
  obtain ⟨y2, h2⟩ := g 2 _ rfl
  simp [Tryd.cellsStr] at h2
  obtain ⟨y3, h3⟩ := g 3 _ rfl
  simp [Tryd.cellsStr] at h3
  obtain ⟨y4, h4⟩ := g 4 _ rfl
  simp [Tryd.cellsBy] at h4
  obtain ⟨y5, h5⟩ := g 5 _ rfl
  simp [Tryd.cellsCr] at h5
  clear g hf hlen
  obtain ⟨xs', n', _, _, hl', hlen', hf'⟩ := DataW.trod_struct Tryd.underlying31 h5
  obtain ⟨y6, h6⟩ := fields_some hlen' hf' 0 _ rfl
  simp [Tryd.cellsIs] at h6
  clear h5 hf' hlen' hl'
  obtain ⟨z0, e0, _, b0⟩ := DataW.trod_int Tryd.underlying3 h0
  obtain ⟨z1, e1, _, b1⟩ := DataW.trod_int Tryd.underlying3 h1
  obtain ⟨s2, e2, _, b2⟩ := DataW.trod_string Tryd.underlying9 h2
  obtain ⟨s3, e3, _, b3⟩ := DataW.trod_string Tryd.underlying9 h3
  obtain ⟨ba, bk, lb, e4, b4, hb⟩ := by_cells h4
  obtain ⟨ka, kk, ks, e5, b5, hk⟩ := is_cells h6
  simp at e0 e1 e2 e3 e4 e5
  subst e0 e1 e2 e3 e4 e5
  have r0 := bounds_i64 b0
  have r1 := bounds_i64 b1
  refine ⟨⟨z0, z1, s2.data.toList, s3.data.toList, ba, bk, lb, ka, kk, ks⟩, ⟨by dsimp only; omega, by dsimp only; omega, b2, b3, b4, b5, hb, hk⟩, ?_⟩
  unfold GS.cells
  dsimp only

set_option maxRecDepth 100000 in
theorem steps_addr {b0 : Nat} {a : Addr} {len cap : Nat} (h : Value.okWide Tryd.prog W .any b0 22 (.slice (some a) len cap)) : a.spot = none ∧ a.block < W.heap.size := by
  simp only [Value.okWide, Tryd.underlying22, Cell.okWide, Cell.ok] at h
  obtain ⟨_, _, _, h2, row, cells, h3, _⟩ := h
  refine ⟨h2, ?_⟩
  rcases Nat.lt_or_ge a.block W.heap.size with h' | h'
  · exact h'
  · simp [World.shape?, Array.getElem?_eq_none h'] at h3
set_option maxRecDepth 100000 in
theorem steps_in {b0 : Nat} {a : Option Addr} {len cap : Nat} {d : DataW H} {ps : List MemPlace}
    (hv : Value.okWide Tryd.prog W .any b0 22 (.slice a len cap)) (hT : DataW.Trod enc Tryd.prog W base (fun _ => true) hd 22 (.slice a len cap) d ps) :
    ∃ gs, gs.length = len ∧ len ≤ maxLen ∧ InS W a gs := by
  obtain ⟨fuel, hf⟩ := hT
  rcases DataW.trod_slice Tryd.underlying22 hf with ⟨hcs, _⟩ | ⟨x, l, c, elems, rest, n, _, hcs, _, hb, hl, hm, hlen, hel, _⟩
  · simp [Value.cells] at hcs
    obtain ⟨rfl, rfl, rfl⟩ := hcs
    exact ⟨[], rfl, Nat.zero_le _, fun i s hi => by simp at hi⟩
  · simp [Value.cells] at hcs
    obtain ⟨rfl, rfl, rfl⟩ := hcs
    obtain ⟨hs, hblk⟩ := steps_addr hv
    obtain ⟨b, off, spot⟩ := x
    simp only at hs
    subst hs
    rw [Tryd.cellsSt] at hel
    have each : ∀ i, i < len → ∃ s : GS, GS.ok W s ∧ ∀ j v, s.cells[j]? = some v → W.cell? ⟨b, off + i * 6 + j, none⟩ = some v := by
      intro i hi
      have he := hel i hi
      rw [List.getElem?_eq_getElem (by omega), Option.bind_eq_some_iff] at he
      obtain ⟨cs, hc, ht⟩ := he
      obtain ⟨s, hs, rfl⟩ := step_cells ht
      obtain ⟨_, hl6, hcell⟩ := World.cells?_some hc
      rw [Go.WideShapes.add_plain] at hcell
      refine ⟨s, hs, fun j v hj => ?_⟩
      have hjl : j < 6 := (List.getElem?_eq_some_iff.1 hj).1
      have := hcell j hjl
      rw [Go.WideShapes.add_plain] at this
      rw [this, hj]
    obtain ⟨gs, hgl, hgs⟩ := list_of _ len each
    exact ⟨gs, hgl, by omega, fun i s hi => ⟨(hgs i s hi).1, b, off, rfl, hblk, (hgs i s hi).2⟩⟩
end
end Go.Proofs.YthebgoadeecmpaaDoor
