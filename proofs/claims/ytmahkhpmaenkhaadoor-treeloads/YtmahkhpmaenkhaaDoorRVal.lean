/- Contract of the reader's value. -/
import Derived.Test.YtmahkhpmaenkhaaDoorJTakeTextV
import Derived.Test.YtmahkhpmaenkhaaDoorJFaultsWriter
namespace Go.Proofs.YtmahkhpmaenkhaaDoor
open Go.RowKit Go.Lib

def unzig (n : Nat) : Int := if n % 2 = 0 then ((n / 2 : Nat) : Int) else -((n / 2 : Nat) : Int) - 1

theorem xor_zero_i64 (x : Nat) (hx : x < 9223372036854775808) : bits BinOp.xor IntKind.i64 (x : Int) 0 = (x : Int) := by
  show IntKind.i64.wrap ((BitVec.ofInt 64 (x : Int) ^^^ BitVec.ofInt 64 0).toNat : Int) = _
  have h2 : (BitVec.ofInt 64 (x : Int)).toNat = x := by
    rw [BitVec.ofInt_natCast, BitVec.toNat_ofNat]; exact Nat.mod_eq_of_lt (by omega)
  have h1 : (BitVec.ofInt 64 0).toNat = 0 := by decide
  rw [BitVec.toNat_xor, h1, h2, Nat.xor_zero, IntKind.wrap_i64]
  omega
theorem unzig_walk (n : Nat) (hn : n < 18446744073709551616) :
    bits BinOp.xor IntKind.i64 ((n : Int) / 2) (wrap64 (-wrap64 (bits BinOp.and IntKind.u64 (n : Int) 1))) = unzig n := by
  rw [u64_and1 (n : Int) (by omega) (by omega)]
  have e : ((n : Int) / 2) = ((n / 2 : Nat) : Int) := by omega
  unfold unzig
  by_cases h : n % 2 = 0
  · have e2 : ((n : Int) % 2) = 0 := by omega
    rw [if_pos h, e2, e, show wrap64 (-wrap64 0) = 0 by decide +kernel, xor_zero_i64 _ (by omega)]
  · have e2 : ((n : Int) % 2) = 1 := by omega
    have hc : bits BinOp.xor IntKind.i64 ((n / 2 : Nat) : Int) (-1) = bits BinOp.xor IntKind.i64 (-1) ((n / 2 : Nat) : Int) := by simp only [bits, BitVec.xor_comm]
    rw [if_neg h, e2, e, show wrap64 (-wrap64 1) = -1 by decide +kernel, hc, i64_not _ (by omega)]
theorem new_box {w w1 : World} {p : Nat} {T : TypeId} {a b c : Value} (hp : p < w.heap.size) (hf : Fq p (w.alloc (.cells #[a, b, c] T)) w1) :
    w1.cell? ⟨w.heap.size, 0, none⟩ = some a ∧ w1.cell? ⟨w.heap.size, 1, none⟩ = some b ∧ w1.cell? ⟨w.heap.size, 2, none⟩ = some c ∧
    w1.frozen? ⟨w.heap.size, 0, none⟩ = false ∧ w1.frozen? ⟨w.heap.size, 1, none⟩ = false ∧ w1.frozen? ⟨w.heap.size, 2, none⟩ = false ∧ w.heap.size < w1.heap.size := by
  have hz := hf.1.size
  have hne : w.heap.size ≠ p := by omega
  refine ⟨?_, ?_, ?_, ?_, ?_, ?_, by simp at hz; omega⟩
  · rw [hf.cell (a := ⟨w.heap.size, 0, none⟩) (by simp) hne]; simp
  · rw [hf.cell (a := ⟨w.heap.size, 1, none⟩) (by simp) hne]; simp
  · rw [hf.cell (a := ⟨w.heap.size, 2, none⟩) (by simp) hne]; simp
  · rw [hf.frozen (a := ⟨w.heap.size, 0, none⟩) (by simp) hne]; simp
  · rw [hf.frozen (a := ⟨w.heap.size, 1, none⟩) (by simp) hne]; simp
  · rw [hf.frozen (a := ⟨w.heap.size, 2, none⟩) (by simp) hne]; simp

theorem Fq.setNew {p : Nat} {a w : World} (h : Fq p a w) {k : Nat} (hk : a.heap.size ≤ k) (hp : p ≤ k) (j : Nat) (u : Value) : Fq p a (w.setCell ⟨k, j, none⟩ u) :=
  ⟨h.1.setCell (p := ⟨k, j, none⟩) hp u, fun i hi hip => (Below.heap_setCell w ⟨k, j, none⟩ u i (show i ≠ k by omega)).trans (h.2 i hi hip)⟩
theorem RS.setOther {w : World} {p k : Nat} {l : List UInt8} {s : Except Nat Nat} {x : Int} (h : RS w p l s) (hk : p < k) (hx : w.cell? ⟨k, 1, none⟩ = some (.int .i64 x)) (j : Nat) (u : Value) : RS (w.setCell ⟨k, j, none⟩ u) p l s := by
  obtain ⟨hE, hG, f1, f2, ⟨v, h0, hv⟩, hs⟩ := h
  have hb := (Below.refl (p + 1) w).setCell (p := ⟨k, j, none⟩) hk u
  refine ⟨hE.below hb (by omega), hG, by simpa using f1, by simpa using f2, ⟨v, (hb.cell (p := ⟨p, 0, none⟩) (by simp)).trans h0, hv.below hb (by omega)⟩, ?_⟩
  cases s with
  | ok a => exact ⟨hs.1, (hb.cell (p := ⟨p, 1, none⟩) (by simp)).trans hs.2.1, (hb.cell (p := ⟨p, 2, none⟩) (by simp)).trans hs.2.2⟩
  | error c =>
    obtain ⟨a, b, pl, g1, g2, g3, g4, g5⟩ := hs
    have hbk : b ≠ k := by
      intro e
      subst e
      have := g5.2
      rw [hx] at this
      injection this with this
      cases this
    refine ⟨a, b, pl, g1, (hb.cell (p := ⟨p, 1, none⟩) (by simp)).trans g2, (hb.cell (p := ⟨p, 2, none⟩) (by simp)).trans g3, g4, ?_, ?_⟩
    · rw [World.cell?_setCell_other _ _ _ _ (by intro h; injection h; omega)]; exact g5.1
    · rw [World.cell?_setCell_other _ _ _ _ (by intro h; injection h; omega)]; exact g5.2
theorem RS.set3 {w : World} {p k : Nat} {l : List UInt8} {s : Except Nat Nat} {x y : Int} (h : RS w p l s) (hk : p < k) (hx : w.cell? ⟨k, 1, none⟩ = some (.int .i64 x)) (A C : Value) :
    RS (((w.setCell ⟨k, 0, none⟩ A).setCell ⟨k, 1, none⟩ (.int .i64 y)).setCell ⟨k, 2, none⟩ C) p l s := by
  have c1 : (w.setCell ⟨k, 0, none⟩ A).cell? ⟨k, 1, none⟩ = some (.int .i64 x) := (World.cell?_setCell_other _ _ _ _ (ne01 k)).trans hx
  have c2 : ((w.setCell ⟨k, 0, none⟩ A).setCell ⟨k, 1, none⟩ (.int .i64 y)).cell? ⟨k, 1, none⟩ = some (.int .i64 y) := World.cell?_setCell_same _ _ _ c1
  exact ((h.setOther hk hx 0 A).setOther hk c1 1 _).setOther hk c2 2 C
theorem Fq.set3 {p : Nat} {a w : World} (h : Fq p a w) {k : Nat} (hk : a.heap.size ≤ k) (hp : p ≤ k) (A B C : Value) : Fq p a (((w.setCell ⟨k, 0, none⟩ A).setCell ⟨k, 1, none⟩ B).setCell ⟨k, 2, none⟩ C) :=
  ((h.setNew hk hp 0 A).setNew hk hp 1 B).setNew hk hp 2 C

/-- Reading a value. -/
def rdVal (l : List UInt8) (s : Except Nat Nat) : GV × Except Nat Nat :=
  if (rdBetween l 0 3 s).1 = 1 then (⟨1, (rdBetween l 0 1 (rdBetween l 0 3 s).2).1, ⟨#[]⟩⟩, (rdBetween l 0 1 (rdBetween l 0 3 s).2).2)
  else if (rdBetween l 0 3 s).1 = 2 then (⟨2, unzig (rdUp l 18446744073709551615 (rdBetween l 0 3 s).2).1, ⟨#[]⟩⟩, (rdUp l 18446744073709551615 (rdBetween l 0 3 s).2).2)
  else if (rdBetween l 0 3 s).1 = 3 then (⟨3, 0, ⟨(rdText l (rdBetween l 0 3 s).2).1.toArray⟩⟩, (rdText l (rdBetween l 0 3 s).2).2)
  else (⟨(rdBetween l 0 3 s).1, 0, ⟨#[]⟩⟩, (rdBetween l 0 3 s).2)

theorem old_box {w1 w2 : World} {p r : Nat} {a b c : Value} (hr : r < w1.heap.size) (hrp : r ≠ p) {o : Obj} (hf : Fq p (w1.alloc o) w2)
    (h1 : w1.cell? ⟨r, 0, none⟩ = some a) (h2 : w1.cell? ⟨r, 1, none⟩ = some b) (h3 : w1.cell? ⟨r, 2, none⟩ = some c) (g1 : w1.frozen? ⟨r, 0, none⟩ = false) (g2 : w1.frozen? ⟨r, 1, none⟩ = false) (g3 : w1.frozen? ⟨r, 2, none⟩ = false) :
    w2.cell? ⟨r, 0, none⟩ = some a ∧ w2.cell? ⟨r, 1, none⟩ = some b ∧ w2.cell? ⟨r, 2, none⟩ = some c ∧ w2.frozen? ⟨r, 0, none⟩ = false ∧ w2.frozen? ⟨r, 1, none⟩ = false ∧ w2.frozen? ⟨r, 2, none⟩ = false := by
  have hs : r < (w1.alloc o).heap.size := by simp; omega
  refine ⟨?_, ?_, ?_, ?_, ?_, ?_⟩
  · rw [hf.cell (a := ⟨r, 0, none⟩) hs hrp, World.cell?_alloc_lt _ _ ⟨r, 0, none⟩ hr]; exact h1
  · rw [hf.cell (a := ⟨r, 1, none⟩) hs hrp, World.cell?_alloc_lt _ _ ⟨r, 1, none⟩ hr]; exact h2
  · rw [hf.cell (a := ⟨r, 2, none⟩) hs hrp, World.cell?_alloc_lt _ _ ⟨r, 2, none⟩ hr]; exact h3
  · rw [hf.frozen (a := ⟨r, 0, none⟩) hs hrp, World.frozen?_alloc_old _ _ ⟨r, 0, none⟩ (Nat.ne_of_lt hr)]; exact g1
  · rw [hf.frozen (a := ⟨r, 1, none⟩) hs hrp, World.frozen?_alloc_old _ _ ⟨r, 1, none⟩ (Nat.ne_of_lt hr)]; exact g2
  · rw [hf.frozen (a := ⟨r, 2, none⟩) hs hrp, World.frozen?_alloc_old _ _ ⟨r, 2, none⟩ (Nat.ne_of_lt hr)]; exact g3

theorem rdUp_lt {l : List UInt8} {s : Except Nat Nat} {most : Nat} (hm : most < 18446744073709551616) : (rdUp l most s).1 < 18446744073709551616 := by
  cases hr : (rdUp l most s).2 with
  | ok a => have := rdUp_le hr; omega
  | error c =>
    cases s with
    | error c' => simp [rdUp]
    | ok b =>
      unfold rdUp at hr ⊢
      dsimp only at hr ⊢
      by_cases h1 : (decU (l.drop b)).2.2.1 = 0
      · by_cases h2 : (decU (l.drop b)).1 ≤ most
        · simp [h1, h2] at hr
        · simp [h1, h2]
      · rw [if_neg h1]; split <;> simp

end Go.Proofs.YtmahkhpmaenkhaaDoor
