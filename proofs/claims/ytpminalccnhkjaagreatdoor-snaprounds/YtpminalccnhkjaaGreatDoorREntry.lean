/- The program's reader of an entry. -/
import Derived.Test.YtpminalccnhkjaaGreatDoorJJointRdAllRefRow
namespace Go.Proofs.YtpminalccnhkjaaGreatDoor
open Go.RowKit Go.Lib

/-- Bytes behind their number. -/
def rdData (l : List UInt8) (most : Nat) (s : Except Nat Nat) : List UInt8 × Except Nat Nat := rdTake l (rdBetween l 0 (most : Int) s).1.toNat (rdBetween l 0 (most : Int) s).2
theorem rdBetween_nat (l : List UInt8) (most : Nat) (s : Except Nat Nat) : ((rdBetween l 0 (most : Int) s).1.toNat : Int) = (rdBetween l 0 (most : Int) s).1 := by
  cases h : (rdBetween l 0 (most : Int) s).2 with
  | ok a => obtain ⟨n, e, _⟩ := rdBetween_ok (by omega) h; rw [e]; simp
  | error c => rw [rdBetween_err h]; rfl

/-- Five cells of a variable of a call's own. -/
structure B5 (w : World) (E : Nat) (a b c d e : Value) : Prop where
  lt : E < w.heap.size
  c0 : w.cell? ⟨E, 0, none⟩ = some a
  c1 : w.cell? ⟨E, 1, none⟩ = some b
  c2 : w.cell? ⟨E, 2, none⟩ = some c
  c3 : w.cell? ⟨E, 3, none⟩ = some d
  c4 : w.cell? ⟨E, 4, none⟩ = some e
  f0 : w.frozen? ⟨E, 0, none⟩ = false
  f1 : w.frozen? ⟨E, 1, none⟩ = false
  f2 : w.frozen? ⟨E, 2, none⟩ = false
  f3 : w.frozen? ⟨E, 3, none⟩ = false
  f4 : w.frozen? ⟨E, 4, none⟩ = false
theorem B5.new (w : World) (T : TypeId) (a b c d e : Value) : B5 (w.alloc (.cells #[a, b, c, d, e] T)) w.heap.size a b c d e := by
  constructor <;> simp
theorem B5.fq {w w' : World} {p E : Nat} {a b c d e : Value} (h : B5 w E a b c d e) (hf : Fq p w w') (hp : p < E) : B5 w' E a b c d e := by
  have hne : E ≠ p := by omega
  exact ⟨Nat.lt_of_lt_of_le h.lt hf.1.size, (hf.cell (a := ⟨E, 0, none⟩) h.lt hne).trans h.c0, (hf.cell (a := ⟨E, 1, none⟩) h.lt hne).trans h.c1, (hf.cell (a := ⟨E, 2, none⟩) h.lt hne).trans h.c2, (hf.cell (a := ⟨E, 3, none⟩) h.lt hne).trans h.c3, (hf.cell (a := ⟨E, 4, none⟩) h.lt hne).trans h.c4,
    (hf.frozen (a := ⟨E, 0, none⟩) h.lt hne).trans h.f0, (hf.frozen (a := ⟨E, 1, none⟩) h.lt hne).trans h.f1, (hf.frozen (a := ⟨E, 2, none⟩) h.lt hne).trans h.f2, (hf.frozen (a := ⟨E, 3, none⟩) h.lt hne).trans h.f3, (hf.frozen (a := ⟨E, 4, none⟩) h.lt hne).trans h.f4⟩
theorem B5.alloc {w : World} {E : Nat} {a b c d e : Value} (h : B5 w E a b c d e) (o : Obj) : B5 (w.alloc o) E a b c d e := by
  have hl := h.lt
  have hne := Nat.ne_of_lt hl
  exact ⟨by simp; omega, (World.cell?_alloc_lt _ _ ⟨E, 0, none⟩ hl).trans h.c0, (World.cell?_alloc_lt _ _ ⟨E, 1, none⟩ hl).trans h.c1, (World.cell?_alloc_lt _ _ ⟨E, 2, none⟩ hl).trans h.c2, (World.cell?_alloc_lt _ _ ⟨E, 3, none⟩ hl).trans h.c3, (World.cell?_alloc_lt _ _ ⟨E, 4, none⟩ hl).trans h.c4,
    (World.frozen?_alloc_old _ _ ⟨E, 0, none⟩ hne).trans h.f0, (World.frozen?_alloc_old _ _ ⟨E, 1, none⟩ hne).trans h.f1, (World.frozen?_alloc_old _ _ ⟨E, 2, none⟩ hne).trans h.f2, (World.frozen?_alloc_old _ _ ⟨E, 3, none⟩ hne).trans h.f3, (World.frozen?_alloc_old _ _ ⟨E, 4, none⟩ hne).trans h.f4⟩
theorem ne_off {b i j : Nat} (h : i ≠ j) : (⟨b, i, none⟩ : Addr) ≠ ⟨b, j, none⟩ := by intro e; injection e; contradiction
theorem ne_blk {b c i j : Nat} (h : b ≠ c) : (⟨b, i, none⟩ : Addr) ≠ ⟨c, j, none⟩ := by intro e; injection e; contradiction
theorem B5.other {w : World} {E k j : Nat} {a b c d e : Value} (h : B5 w E a b c d e) (hk : k ≠ E) (u : Value) : B5 (w.setCell ⟨k, j, none⟩ u) E a b c d e :=
  ⟨by simpa using h.lt, (World.cell?_setCell_other _ _ _ _ (ne_blk hk)).trans h.c0, (World.cell?_setCell_other _ _ _ _ (ne_blk hk)).trans h.c1, (World.cell?_setCell_other _ _ _ _ (ne_blk hk)).trans h.c2, (World.cell?_setCell_other _ _ _ _ (ne_blk hk)).trans h.c3, (World.cell?_setCell_other _ _ _ _ (ne_blk hk)).trans h.c4,
    by simpa using h.f0, by simpa using h.f1, by simpa using h.f2, by simpa using h.f3, by simpa using h.f4⟩
theorem B5.set1 {w : World} {E : Nat} {a b c d e : Value} (h : B5 w E a b c d e) (u : Value) : B5 (w.setCell ⟨E, 1, none⟩ u) E a u c d e :=
  ⟨by simpa using h.lt, (World.cell?_setCell_other _ _ _ _ (ne_off (by decide))).trans h.c0, World.cell?_setCell_same _ _ _ h.c1, (World.cell?_setCell_other _ _ _ _ (ne_off (by decide))).trans h.c2, (World.cell?_setCell_other _ _ _ _ (ne_off (by decide))).trans h.c3, (World.cell?_setCell_other _ _ _ _ (ne_off (by decide))).trans h.c4,
    by simpa using h.f0, by simpa using h.f1, by simpa using h.f2, by simpa using h.f3, by simpa using h.f4⟩
theorem B5.set2 {w : World} {E : Nat} {a b c d e : Value} (h : B5 w E a b c d e) (u : Value) : B5 (w.setCell ⟨E, 2, none⟩ u) E a b u d e :=
  ⟨by simpa using h.lt, (World.cell?_setCell_other _ _ _ _ (ne_off (by decide))).trans h.c0, (World.cell?_setCell_other _ _ _ _ (ne_off (by decide))).trans h.c1, World.cell?_setCell_same _ _ _ h.c2, (World.cell?_setCell_other _ _ _ _ (ne_off (by decide))).trans h.c3, (World.cell?_setCell_other _ _ _ _ (ne_off (by decide))).trans h.c4,
    by simpa using h.f0, by simpa using h.f1, by simpa using h.f2, by simpa using h.f3, by simpa using h.f4⟩
theorem B5.set3 {w : World} {E : Nat} {a b c d e : Value} (h : B5 w E a b c d e) (u : Value) : B5 (w.setCell ⟨E, 3, none⟩ u) E a b c u e :=
  ⟨by simpa using h.lt, (World.cell?_setCell_other _ _ _ _ (ne_off (by decide))).trans h.c0, (World.cell?_setCell_other _ _ _ _ (ne_off (by decide))).trans h.c1, (World.cell?_setCell_other _ _ _ _ (ne_off (by decide))).trans h.c2, World.cell?_setCell_same _ _ _ h.c3, (World.cell?_setCell_other _ _ _ _ (ne_off (by decide))).trans h.c4,
    by simpa using h.f0, by simpa using h.f1, by simpa using h.f2, by simpa using h.f3, by simpa using h.f4⟩
theorem B5.set4 {w : World} {E : Nat} {a b c d e : Value} (h : B5 w E a b c d e) (u : Value) : B5 (w.setCell ⟨E, 4, none⟩ u) E a b c d u :=
  ⟨by simpa using h.lt, (World.cell?_setCell_other _ _ _ _ (ne_off (by decide))).trans h.c0, (World.cell?_setCell_other _ _ _ _ (ne_off (by decide))).trans h.c1, (World.cell?_setCell_other _ _ _ _ (ne_off (by decide))).trans h.c2, (World.cell?_setCell_other _ _ _ _ (ne_off (by decide))).trans h.c3, World.cell?_setCell_same _ _ _ h.c4,
    by simpa using h.f0, by simpa using h.f1, by simpa using h.f2, by simpa using h.f3, by simpa using h.f4⟩
/-- Five cells written over. -/
abbrev over5 (w : World) (E : Nat) (a b c d e : Value) : World := ((((w.setCell ⟨E, 0, none⟩ a).setCell ⟨E, 1, none⟩ b).setCell ⟨E, 2, none⟩ c).setCell ⟨E, 3, none⟩ d).setCell ⟨E, 4, none⟩ e
theorem RS.over5 {w : World} {p E : Nat} {l : List UInt8} {s : Except Nat Nat} {x y : Int} {a0 c0 d0 e0 : Value} (h : RS w p l s) (hb : B5 w E a0 (.int .i64 x) c0 d0 e0) (hp : p < E) (a c d e : Value) : RS (over5 w E a (.int .i64 y) c d e) p l s := by
  have b0 : (w.setCell ⟨E, 0, none⟩ a).cell? ⟨E, 1, none⟩ = some (.int .i64 x) := (World.cell?_setCell_other _ _ _ _ (ne_off (by decide))).trans hb.c1
  have b1 : ((w.setCell ⟨E, 0, none⟩ a).setCell ⟨E, 1, none⟩ (.int .i64 y)).cell? ⟨E, 1, none⟩ = some (.int .i64 y) := World.cell?_setCell_same _ _ _ b0
  have b2 : (((w.setCell ⟨E, 0, none⟩ a).setCell ⟨E, 1, none⟩ (.int .i64 y)).setCell ⟨E, 2, none⟩ c).cell? ⟨E, 1, none⟩ = some (.int .i64 y) := (World.cell?_setCell_other _ _ _ _ (ne_off (by decide))).trans b1
  have b3 : ((((w.setCell ⟨E, 0, none⟩ a).setCell ⟨E, 1, none⟩ (.int .i64 y)).setCell ⟨E, 2, none⟩ c).setCell ⟨E, 3, none⟩ d).cell? ⟨E, 1, none⟩ = some (.int .i64 y) := (World.cell?_setCell_other _ _ _ _ (ne_off (by decide))).trans b2
  exact ((((h.setOther hp hb.c1 0 a).setOther hp b0 1 _).setOther hp b1 2 c).setOther hp b2 3 d).setOther hp b3 4 e
theorem Fq.over5 {p : Nat} {a0 w : World} (h : Fq p a0 w) {E : Nat} (hE : a0.heap.size ≤ E) (hp : p ≤ E) (a b c d e : Value) : Fq p a0 (over5 w E a b c d e) :=
  ((((h.setNew hE hp 0 a).setNew hE hp 1 b).setNew hE hp 2 c).setNew hE hp 3 d).setNew hE hp 4 e

theorem results_cell1 {fn : Func} {p : Tmp} {ty : TypeId} (h : fn.results = #[.cell p ty]) (tmps : Array Value) (P : Program) (w : World) :
    (results fn tmps).run P w = ((asAddr (tmps.getD p undef)).run P w).andThen fun a w₁ => (loadVar ty a).run P w₁ := by
  simp only [results, h]
  simp [Sem.run_bind, Result.andThen]

end Go.Proofs.YtpminalccnhkjaaGreatDoor
