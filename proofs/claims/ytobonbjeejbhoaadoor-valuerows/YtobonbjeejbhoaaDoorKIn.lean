/- Rows of values that come in as arguments. -/
import Derived.Test.YtobonbjeejbhoaaDoorVIn
import Derived.Test.YtobonbjeejbhoaaDoorVFew
namespace Go.Proofs.YtobonbjeejbhoaaDoor
open Go.ChangeShapes Go.WideShapes Go.ChangeAt Go.RowKit Go.Lib

theorem list_of {α : Type} (Q : Nat → α → Prop) : ∀ n, (∀ i, i < n → ∃ g, Q i g) → ∃ gs : List α, gs.length = n ∧ ∀ i g, gs[i]? = some g → Q i g := by
  intro n
  induction n with
  | zero => intro _; exact ⟨[], rfl, fun i g h => by simp at h⟩
  | succ n ih =>
    intro h
    obtain ⟨gs, hl, hg⟩ := ih fun i hi => h i (by omega)
    obtain ⟨g, hq⟩ := h n (by omega)
    refine ⟨gs ++ [g], by simp [hl], fun i x hx => ?_⟩
    rcases Nat.lt_trichotomy i n with hi | hi | hi
    · rw [List.getElem?_append_left (by omega)] at hx; exact hg i x hx
    · subst hi
      rw [List.getElem?_append_right (by omega), hl] at hx
      simp at hx; subst hx; exact hq
    · rw [List.getElem?_eq_none (by simp; omega)] at hx; cases hx

section
variable {H : Type} {enc : TypeId × Value → H} {W : World} {base : Nat} {sp : Nat → Bool} {hd : Bool}

set_option maxRecDepth 100000 in
theorem vals_addr {b0 : Nat} {a : Addr} {len cap : Nat} (h : Value.okWide Tryd.prog W .any b0 22 (.slice (some a) len cap)) : a.spot = none ∧ a.block < W.heap.size := by
  simp only [Value.okWide, Tryd.underlying22, Cell.okWide, Cell.ok] at h
  obtain ⟨_, _, _, h2, row, cells, h3, _⟩ := h
  refine ⟨h2, ?_⟩
  rcases Nat.lt_or_ge a.block W.heap.size with h' | h'
  · exact h'
  · simp [World.shape?, Array.getElem?_eq_none h'] at h3

set_option maxRecDepth 100000 in
theorem vals_in {b0 : Nat} {a : Option Addr} {len cap : Nat} {d : DataW H} {ps : List MemPlace}
    (hv : Value.okWide Tryd.prog W .any b0 22 (.slice a len cap)) (hT : DataW.Trod enc Tryd.prog W base sp hd 22 (.slice a len cap) d ps) :
    ∃ gs : List GV, gs.length = len ∧ RVu W W.heap.size (.slice a len cap) gs := by
  obtain ⟨fuel, hf⟩ := hT
  rcases DataW.trod_slice Tryd.underlying22 hf with ⟨hcs, _⟩ | ⟨x, l, c, elems, rest, n, _, hcs, _, hb, hl, hm, hlen, hel, _⟩
  · simp [Value.cells] at hcs
    obtain ⟨rfl, rfl, rfl⟩ := hcs
    exact ⟨[], rfl, Nat.zero_le _, fun g hg => (by cases hg), .inl ⟨rfl, rfl⟩⟩
  · simp [Value.cells] at hcs
    obtain ⟨rfl, rfl, rfl⟩ := hcs
    obtain ⟨hs, hblk⟩ := vals_addr hv
    obtain ⟨b, off, spot⟩ := x
    simp only at hs
    subst hs
    rw [Tryd.cells42] at hel
    have each : ∀ i, i < len → ∃ g : GV, g.ok ∧ W.cell? ⟨b, off + i * 3, none⟩ = some (.int .i64 g.kind) ∧ W.cell? ⟨b, off + i * 3 + 1, none⟩ = some (.int .i64 g.int) ∧ W.cell? ⟨b, off + i * 3 + 2, none⟩ = some (.string g.text) := by
      intro i hi
      have he := hel i hi
      rw [List.getElem?_eq_getElem (by omega), Option.bind_eq_some_iff] at he
      obtain ⟨cs, hc, ht⟩ := he
      obtain ⟨g, hg, rfl⟩ := val_in ht
      obtain ⟨_, _, hcell⟩ := World.cells?_some hc
      rw [Go.WideShapes.add_plain] at hcell
      have c0 := hcell 0 (by omega)
      have c1 := hcell 1 (by omega)
      have c2 := hcell 2 (by omega)
      rw [Go.WideShapes.add_plain] at c0 c1 c2
      exact ⟨g, hg, by simpa using c0, by simpa using c1, by simpa using c2⟩
    obtain ⟨gs, hgl, hgs⟩ := list_of _ len each
    refine ⟨gs, hgl, by omega, fun g hg => ?_, .inr ⟨b, off, cap, hblk, by rw [hgl], fun i g hg => (hgs i g hg).2⟩⟩
    obtain ⟨i, hi⟩ := List.mem_iff_getElem?.1 hg
    exact (hgs i g hi).1

end
end Go.Proofs.YtobonbjeejbhoaaDoor
