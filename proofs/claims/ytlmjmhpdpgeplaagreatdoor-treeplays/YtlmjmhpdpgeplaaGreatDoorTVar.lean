/- Variables of a node's type. -/
import Derived.Test.YtlmjmhpdpgeplaaGreatDoorTCat
namespace Go.Proofs.YtlmjmhpdpgeplaaGreatDoor
open Go.RowKit Go.Lib

theorem blk_below {w w' : World} {b : Nat} {o : Obj} (h : w.heap[b]? = some o) (hb : Below w.heap.size w w') : w'.heap[b]? = some o := (hb.block b (Array.getElem?_eq_some_iff.1 h).1).trans h
theorem blk_lt {w : World} {b : Nat} {o : Obj} (h : w.heap[b]? = some o) : b < w.heap.size := (Array.getElem?_eq_some_iff.1 h).1
theorem RN.below {w w' : World} {B : Nat} {v : Value} {l : List (Value × Value)} (h : RN w B v l) (hb : Below w.heap.size w w') : RN w' B v l := ⟨h.1.below hb, h.2⟩
theorem frzB2 {w : World} {b : Nat} {cur : Array Value} {T : TypeId} (h : w.heap[b]? = some (.cells cur T (0, 0))) (i : Nat) : w.frozen? ⟨b, i, none⟩ = false := by
  simp [World.frozen?, h]
theorem heap_set_at {w : World} {p : Nat} {cur : Array Value} {T : TypeId} (h : w.heap[p]? = some (.cells cur T (0, 0))) (i : Nat) (v : Value) : (w.setCell ⟨p, i, none⟩ v).heap[p]? = some (.cells (cur.setIfInBounds i v) T (0, 0)) := by
  simp only [World.setCell]
  rw [Array.getElem?_modify, if_pos rfl, h]
  rfl
/-- Two cells of a variable written. -/
theorem set2_at {w : World} {b : Nat} {x y u v : Value} {T : TypeId} (h : w.heap[b]? = some (.cells #[x, y] T (0, 0))) : ((w.setCell ⟨b, 0, none⟩ u).setCell ⟨b, 1, none⟩ v).heap[b]? = some (.cells #[u, v] T (0, 0)) := (heap_set_at (heap_set_at h _ _) _ _).trans rfl
theorem set2_ne {w : World} {b k : Nat} {u v : Value} (h : k ≠ b) : ((w.setCell ⟨b, 0, none⟩ u).setCell ⟨b, 1, none⟩ v).heap[k]? = w.heap[k]? := (Below.heap_setCell _ ⟨b, 1, none⟩ v k h).trans (Below.heap_setCell w ⟨b, 0, none⟩ u k h)
theorem set2_size {w : World} {b : Nat} {u v : Value} : ((w.setCell ⟨b, 0, none⟩ u).setCell ⟨b, 1, none⟩ v).heap.size = w.heap.size := by simp
theorem set2_below {w0 w : World} {B b : Nat} {u v : Value} (h : Below B w0 w) (hb : B ≤ b) : Below B w0 ((w.setCell ⟨b, 0, none⟩ u).setCell ⟨b, 1, none⟩ v) := (h.setCell (p := ⟨b, 0, none⟩) hb u).setCell (p := ⟨b, 1, none⟩) hb v
theorem results_cell1' {fn : Func} {p : Tmp} {ty : TypeId} (h : fn.results = #[.cell p ty]) (tmps : Array Value) (P : Program) (w : World) :
    (results fn tmps).run P w = ((asAddr (tmps.getD p undef)).run P w).andThen fun a w₁ => (loadVar ty a).run P w₁ := by
  simp only [results, h]
  simp [Sem.run_bind, Result.andThen]
/-- A variable of a node's type. -/
def NV (w : World) (b : Nat) (x y : Value) : Prop := w.heap[b]? = some (.cells #[x, y] 54 (0, 0))
theorem NV.below {w w' : World} {b : Nat} {x y : Value} (h : NV w b x y) (hb : Below w.heap.size w w') : NV w' b x y := blk_below h hb
theorem NV.cells {w : World} {b : Nat} {x y : Value} (h : NV w b x y) : w.cell? ⟨b, 0, none⟩ = some x ∧ w.cell? ⟨b, 1, none⟩ = some y ∧ w.frozen? ⟨b, 0, none⟩ = false ∧ w.frozen? ⟨b, 1, none⟩ = false := ⟨cellB2 h 0, cellB2 h 1, frzB2 h 0, frzB2 h 1⟩
theorem NV.new (w : World) (x y : Value) : NV (w.alloc (.cells #[x, y] 54)) w.heap.size x y := heap_alloc_new _ _
theorem below_al {w0 w : World} {B : Nat} (h : Below B w0 w) (hb : B ≤ w.heap.size) (o : Obj) : Below B w0 (w.alloc o) := h.alloc hb o
end Go.Proofs.YtlmjmhpdpgeplaaGreatDoor
