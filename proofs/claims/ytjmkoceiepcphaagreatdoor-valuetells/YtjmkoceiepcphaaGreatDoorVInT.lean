/- A value that comes in as an argument. -/
import Derived.Test.YtjmkoceiepcphaaGreatDoorVLaidT
import Derived.Deep.Strs
import Derived.ShutString
import Derived.ChangeOld
import Derived.Below
namespace Go.Proofs.YtjmkoceiepcphaaGreatDoor
open Go.ChangeShapes Go.WideShapes Go.ChangeAt Go.RowKit Go.Lib

theorem list3 {α : Type} {l : List α} (h : l.length = 3) : ∃ a b c, l = [a, b, c] := by
  match l, h with
  | [a, b, c], _ => exact ⟨a, b, c, rfl⟩
theorem Tryz.cells23 : Tryz.prog.cellsOf 23 = 3 := by kernel_rfl
theorem Tryz.cells9 : Tryz.prog.cellsOf 9 = 1 := by kernel_rfl
theorem Tryz.cells2 : Tryz.prog.cellsOf 2 = 1 := by kernel_rfl
theorem Tryz.cells3 : Tryz.prog.cellsOf 3 = 1 := by kernel_rfl

theorem Tryz.laidOut : laidOutB Tryz.prog = true := by kernel_rfl

section
variable {H : Type} {enc : TypeId × Value → H} {W : World} {base : Nat} {sp : Nat → Bool} {hd : Bool}

theorem val_in {fuel : Nat} {cs : List Value} {x : DataW H × List MemPlace} (h : DataW.trod enc Tryz.prog W base sp hd fuel 23 cs = some x) :
    ∃ g : GV, g.ok ∧ cs = [.int .i64 g.kind, .int .i64 g.int, .string g.text] := by
  obtain ⟨y0, y1, y2, n, _, hl, h0, h1, h2⟩ := Go.Deep.trod_struct3 Tryz.underlying23 h
  rw [Tryz.cells23] at hl
  obtain ⟨a, b, c, rfl⟩ := list3 hl
  simp [Tryz.cells9, Tryz.cells2, Tryz.cells3] at h0 h1 h2
  obtain ⟨k, e0, _, _⟩ := DataW.trod_int Tryz.underlying3 h0
  obtain ⟨i, e1, _, w1⟩ := DataW.trod_int Tryz.underlying2 h1
  obtain ⟨t, e2, _, w2⟩ := DataW.trod_string Tryz.underlying9 h2
  simp at e0 e1 e2
  subst e0 e1 e2
  have := bounds_i64 w1
  exact ⟨⟨k, i, t⟩, ⟨by dsimp only; omega, by dsimp only; omega, w2⟩, rfl⟩
set_option maxRecDepth 100000 in
theorem value_in {b0 : Nat} {v : Value} {d : DataW H} {ps : List MemPlace}
    (hv : Value.okWide Tryz.prog W .any b0 23 v) (hT : DataW.Trod enc Tryz.prog W base sp hd 23 v d ps) : ∃ g : GV, g.ok ∧ v = g.agg := by
  obtain ⟨l, rfl, hsz⟩ := okWide_struct Tryz.underlying23 hv
  obtain ⟨fuel, hf⟩ := hT
  obtain ⟨g, hg, e⟩ := val_in hf
  refine ⟨g, hg, ?_⟩
  obtain ⟨l⟩ := l
  simp [Value.cells] at e
  subst e
  rfl
end
end Go.Proofs.YtjmkoceiepcphaaGreatDoor
