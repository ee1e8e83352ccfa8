/- Contracts of the reader's take and of string(bytes). -/
import Derived.Test.YtmahkhpmaenkhaaDoorJValsRead3Vals2Vals3Rows2
import Derived.Laws.BytesArg
import Derived.Lib.IndexLaws
import Derived.Test.YtmahkhpmaenkhaaDoorJFaultsWriter
namespace Go.Proofs.YtmahkhpmaenkhaaDoor
open Go.RowKit Go.Lib

theorem nums_eq (l : List UInt8) : strOfNums (l.map fun c => (c.toNat : Int)) = ⟨l.toArray⟩ := by
  apply ByteArray.ext
  apply Array.ext'
  have e : ((fun n : Int => UInt8.ofNat n.toNat) ∘ fun c : UInt8 => (c.toNat : Int)) = id := by funext c; simp
  rw [strOfNums_data, List.map_map, e, List.map_id]
theorem conv_any (v : Value) (B : Nat) (l : List UInt8) (w : World) (hv : RBp w B v l) : (convert 27 9 v).run Tryd.prog w = .ok (.string ⟨l.toArray⟩) w := by
  obtain ⟨hlen, ⟨rfl, rfl⟩ | ⟨b, off, cap, hbB, hcap, hm, rfl, hcell⟩⟩ := hv
  · exact run_convert_bytes_nil w _ _ Tryd.underlying27 Tryd.underlying5 0 0 _ Tryd.underlying9
  · have h := run_convert_bytes_arg (P := Tryd.prog) w 27 5 Tryd.underlying27 Tryd.underlying5 b off l.length cap (l.map fun c => (c.toNat : Int)) (by simp) (fun i hi => by
      rw [hcell i hi]; simp [hi]) 9 Tryd.underlying9
    rw [h, nums_eq]

theorem rb_len {w : World} {B : Nat} {v : Value} {l : List UInt8} (h : RBp w B v l) : ∃ a k, v = .slice a l.length k := by
  obtain ⟨hlen, ⟨rfl, rfl⟩ | ⟨b, off, cap, hbB, hcap, hm, rfl, hcell⟩⟩ := h
  · exact ⟨none, 0, rfl⟩
  · exact ⟨_, _, rfl⟩
theorem rb_take {w : World} {B b off cap a n : Nat} {l : List UInt8} (hbB : b < B) (hl : a ≤ l.length) (hn : n ≤ l.length - a) (hcap : l.length ≤ cap) (hm : cap ≤ maxLen) (hlen : l.length ≤ 1000000000000)
    (hcell : ∀ i, i < l.length → w.cell? ⟨b, off + i, none⟩ = some (.int .u8 ((l.getD i 0).toNat : Int))) : RBp w B (.slice (some ⟨b, off + a, none⟩) (a + n - a) (cap - a)) ((l.drop a).take n) := by
  have e0 : ((l.drop a).take n).length = a + n - a := by simp; omega
  refine ⟨by omega, .inr ⟨b, off + a, cap - a, hbB, by omega, by omega, by rw [e0], fun i hi => ?_⟩⟩
  have hi' : i < n := by omega
  have e : ((l.drop a).take n).getD i 0 = l.getD (a + i) 0 := by
    simp [List.getD_eq_getElem?_getD, hi']
  rw [e, Nat.add_assoc]; exact hcell (a + i) (by omega)
theorem rb_take0 {w : World} {B b off cap a n : Nat} {l : List UInt8} (hbB : b < B) (hn : n ≤ l.length - a) (hcap : l.length ≤ cap) (hce : cap = a) (k : Nat) (hk : k ≤ maxLen) :
    RBp w B (.slice (some ⟨b, off, none⟩) (a + n - a) k) ((l.drop a).take n) := by
  have hn0 : n = 0 := by omega
  subst hn0
  refine ⟨by simp, .inr ⟨b, off, k, hbB, by simp, hk, by simp, fun i hi => by simp at hi⟩⟩

end Go.Proofs.YtmahkhpmaenkhaaDoor
/- Contracts of bytes.IndexByte and of the reader's textValue. -/
namespace Go.Proofs.YtmahkhpmaenkhaaDoor
open Go.RowKit Go.Lib

theorem bytesOf_map (l : List UInt8) : bytesOf (l.map fun c => (c.toNat : Int)) = l := by
  induction l with
  | nil => rfl
  | cons c r ih =>
    have e : bytesOf ((c.toNat : Int) :: r.map fun c => (c.toNat : Int)) = ((c.toNat : Int).toNat.toUInt8) :: bytesOf (r.map fun c => (c.toNat : Int)) := rfl
    rw [List.map_cons, e, ih]
    simp [Nat.toUInt8]

theorem indexByte_le : ∀ (l : List UInt8) (c : UInt8), indexByte l c ≤ l.length := by
  intro l c
  rcases Int.lt_or_le (indexByte l c) 0 with h | h
  · omega
  · obtain ⟨o, ho⟩ := Int.eq_ofNat_of_zero_le h
    have := (indexByte_some ho).1
    have h2 := (List.getElem?_eq_some_iff.1 this).1
    omega
theorem rb_first {w : World} {B k n : Nat} {ad : Option Addr} {l : List UInt8} (h : RBp w B (.slice ad l.length k) l) (hn : n ≤ l.length) : RBp w B (.slice ad n k) (l.take n) := by
  obtain ⟨hlen, ⟨hv, rfl⟩ | ⟨b, off, cap, hbB, hcap, hm, hv, hcell⟩⟩ := h
  · injection hv with h1 h2 h3
    have hn0 : n = 0 := by simpa using hn
    subst h1; subst h3; subst hn0
    exact ⟨by simp, .inl ⟨rfl, rfl⟩⟩
  · injection hv with h1 h2 h3
    subst h1; subst h3
    have e : (l.take n).length = n := by simp; omega
    refine ⟨by omega, .inr ⟨b, off, k, hbB, by omega, hm, by rw [e], fun i hi => ?_⟩⟩
    have hi' : i < n := by omega
    have e : (l.take n).getD i 0 = l.getD i 0 := by simp [List.getD_eq_getElem?_getD, hi']
    rw [e]; exact hcell i (by omega)

theorem rb_len' {w : World} {B : Nat} {v : Value} {l : List UInt8} (h : RBp w B v l) : ∃ a k, v = .slice a l.length k ∧ l.length ≤ k := by
  obtain ⟨hlen, ⟨rfl, rfl⟩ | ⟨b, off, cap, hbB, hcap, hm, rfl, hcell⟩⟩ := h
  · exact ⟨none, 0, rfl, by simp⟩
  · exact ⟨_, _, rfl, hcap⟩
theorem rb_first' {w : World} {B k n a : Nat} {ad : Option Addr} {l : List UInt8} (h : RBp w B (.slice ad (l.length - a) k) (l.drop a)) (hn : n ≤ l.length - a) : RBp w B (.slice ad n k) ((l.drop a).take n) :=
  rb_first (l := l.drop a) (by simpa using h) (by simpa using hn)

/-- Reading a text of a row. -/
def rdText (l : List UInt8) (s : Except Nat Nat) : List UInt8 × Except Nat Nat :=
  match (rdBetween l 0 40 s).2 with
  | .error c => ([], .error c)
  | .ok a => if 0 ≤ indexByte ((l.drop a).take (rdBetween l 0 40 s).1.toNat) 0 then ([], .error 20) else rdTake l (rdBetween l 0 40 s).1.toNat (.ok a)

theorem rdBetween_ok {l : List UInt8} {lo hi : Int} {s : Except Nat Nat} {a : Nat} (hlh : lo ≤ hi) (h : (rdBetween l lo hi s).2 = .ok a) : ∃ n : Nat, rdBetween l lo hi s = (lo + n, .ok a) ∧ (n : Int) ≤ hi - lo := by
  unfold rdBetween at h ⊢
  cases hr : (rdUp l (hi - lo).toNat s).2 with
  | error c => rw [hr] at h; cases h
  | ok b =>
    rw [hr] at h
    dsimp only at h ⊢
    have := rdUp_le hr
    injection h with h
    subst h
    exact ⟨_, rfl, by omega⟩
theorem rdBetween_err {l : List UInt8} {lo hi : Int} {s : Except Nat Nat} {c : Nat} (h : (rdBetween l lo hi s).2 = .error c) : rdBetween l lo hi s = (0, .error c) := by
  unfold rdBetween at h ⊢
  cases hr : (rdUp l (hi - lo).toNat s).2 with
  | error c' => rw [hr] at h; dsimp only at h ⊢; injection h with h; subst h; rfl
  | ok b => rw [hr] at h; cases h

end Go.Proofs.YtmahkhpmaenkhaaDoor
/- Contract of the reader's value. -/
namespace Go.Proofs.YtmahkhpmaenkhaaDoor
open Go.RowKit Go.Lib

def unzig (n : Nat) : Int := if n % 2 = 0 then ((n / 2 : Nat) : Int) else -((n / 2 : Nat) : Int) - 1

theorem xor_zero_i64 (x : Nat) (hx : x < 9223372036854775808) : bits BinOp.xor IntKind.i64 (x : Int) 0 = (x : Int) := by
  show IntKind.i64.wrap ((BitVec.ofInt 64 (x : Int) ^^^ BitVec.ofInt 64 0).toNat : Int) = _
  have h2 : (BitVec.ofInt 64 (x : Int)).toNat = x := by
    rw [BitVec.ofInt_natCast, BitVec.toNat_ofNat]; exact Nat.mod_eq_of_lt (by omega)
  have h1 : (BitVec.ofInt 64 0).toNat = 0 := by decide
  rw [BitVec.toNat_xor, h1, h2, Nat.xor_zero, IntKind.wrap_i64]
  omega
theorem unzig_walk (n : Nat) (hn : n < 18446744073709551616) :
    bits BinOp.xor IntKind.i64 ((n : Int) / 2) (wrap64 (-wrap64 (bits BinOp.and IntKind.u64 (n : Int) 1))) = unzig n := by
  rw [u64_and1 (n : Int) (by omega) (by omega)]
  have e : ((n : Int) / 2) = ((n / 2 : Nat) : Int) := by omega
  unfold unzig
  by_cases h : n % 2 = 0
  · have e2 : ((n : Int) % 2) = 0 := by omega
    rw [if_pos h, e2, e, show wrap64 (-wrap64 0) = 0 by decide +kernel, xor_zero_i64 _ (by omega)]
  · have e2 : ((n : Int) % 2) = 1 := by omega
    have hc : bits BinOp.xor IntKind.i64 ((n / 2 : Nat) : Int) (-1) = bits BinOp.xor IntKind.i64 (-1) ((n / 2 : Nat) : Int) := by simp only [bits, BitVec.xor_comm]
    rw [if_neg h, e2, e, show wrap64 (-wrap64 1) = -1 by decide +kernel, hc, i64_not _ (by omega)]
theorem new_box {w w1 : World} {p : Nat} {T : TypeId} {a b c : Value} (hp : p < w.heap.size) (hf : Fq p (w.alloc (.cells #[a, b, c] T)) w1) :
    w1.cell? ⟨w.heap.size, 0, none⟩ = some a ∧ w1.cell? ⟨w.heap.size, 1, none⟩ = some b ∧ w1.cell? ⟨w.heap.size, 2, none⟩ = some c ∧
    w1.frozen? ⟨w.heap.size, 0, none⟩ = false ∧ w1.frozen? ⟨w.heap.size, 1, none⟩ = false ∧ w1.frozen? ⟨w.heap.size, 2, none⟩ = false ∧ w.heap.size < w1.heap.size := by
  have hz := hf.1.size
  have hne : w.heap.size ≠ p := by omega
  refine ⟨?_, ?_, ?_, ?_, ?_, ?_, by simp at hz; omega⟩
  · rw [hf.cell (a := ⟨w.heap.size, 0, none⟩) (by simp) hne]; simp
  · rw [hf.cell (a := ⟨w.heap.size, 1, none⟩) (by simp) hne]; simp
  · rw [hf.cell (a := ⟨w.heap.size, 2, none⟩) (by simp) hne]; simp
  · rw [hf.frozen (a := ⟨w.heap.size, 0, none⟩) (by simp) hne]; simp
  · rw [hf.frozen (a := ⟨w.heap.size, 1, none⟩) (by simp) hne]; simp
  · rw [hf.frozen (a := ⟨w.heap.size, 2, none⟩) (by simp) hne]; simp

theorem Fq.setNew {p : Nat} {a w : World} (h : Fq p a w) {k : Nat} (hk : a.heap.size ≤ k) (hp : p ≤ k) (j : Nat) (u : Value) : Fq p a (w.setCell ⟨k, j, none⟩ u) :=
  ⟨h.1.setCell (p := ⟨k, j, none⟩) hp u, fun i hi hip => (Below.heap_setCell w ⟨k, j, none⟩ u i (show i ≠ k by omega)).trans (h.2 i hi hip)⟩
theorem RS.setOther {w : World} {p k : Nat} {l : List UInt8} {s : Except Nat Nat} {x : Int} (h : RS w p l s) (hk : p < k) (hx : w.cell? ⟨k, 1, none⟩ = some (.int .i64 x)) (j : Nat) (u : Value) : RS (w.setCell ⟨k, j, none⟩ u) p l s := by
  obtain ⟨hE, hG, f1, f2, ⟨v, h0, hv⟩, hs⟩ := h
  have hb := (Below.refl (p + 1) w).setCell (p := ⟨k, j, none⟩) hk u
  refine ⟨hE.below hb (by omega), hG, by simpa using f1, by simpa using f2, ⟨v, (hb.cell (p := ⟨p, 0, none⟩) (by simp)).trans h0, hv.below hb (by omega)⟩, ?_⟩
  cases s with
  | ok a => exact ⟨hs.1, (hb.cell (p := ⟨p, 1, none⟩) (by simp)).trans hs.2.1, (hb.cell (p := ⟨p, 2, none⟩) (by simp)).trans hs.2.2⟩
  | error c =>
    obtain ⟨a, b, pl, g1, g2, g3, g4, g5⟩ := hs
    have hbk : b ≠ k := by
      intro e
      subst e
      have := g5.2
      rw [hx] at this
      injection this with this
      cases this
    refine ⟨a, b, pl, g1, (hb.cell (p := ⟨p, 1, none⟩) (by simp)).trans g2, (hb.cell (p := ⟨p, 2, none⟩) (by simp)).trans g3, g4, ?_, ?_⟩
    · rw [World.cell?_setCell_other _ _ _ _ (by intro h; injection h; omega)]; exact g5.1
    · rw [World.cell?_setCell_other _ _ _ _ (by intro h; injection h; omega)]; exact g5.2
theorem RS.set3 {w : World} {p k : Nat} {l : List UInt8} {s : Except Nat Nat} {x y : Int} (h : RS w p l s) (hk : p < k) (hx : w.cell? ⟨k, 1, none⟩ = some (.int .i64 x)) (A C : Value) :
    RS (((w.setCell ⟨k, 0, none⟩ A).setCell ⟨k, 1, none⟩ (.int .i64 y)).setCell ⟨k, 2, none⟩ C) p l s := by
  have c1 : (w.setCell ⟨k, 0, none⟩ A).cell? ⟨k, 1, none⟩ = some (.int .i64 x) := (World.cell?_setCell_other _ _ _ _ (ne01 k)).trans hx
  have c2 : ((w.setCell ⟨k, 0, none⟩ A).setCell ⟨k, 1, none⟩ (.int .i64 y)).cell? ⟨k, 1, none⟩ = some (.int .i64 y) := World.cell?_setCell_same _ _ _ c1
  exact ((h.setOther hk hx 0 A).setOther hk c1 1 _).setOther hk c2 2 C
theorem Fq.set3 {p : Nat} {a w : World} (h : Fq p a w) {k : Nat} (hk : a.heap.size ≤ k) (hp : p ≤ k) (A B C : Value) : Fq p a (((w.setCell ⟨k, 0, none⟩ A).setCell ⟨k, 1, none⟩ B).setCell ⟨k, 2, none⟩ C) :=
  ((h.setNew hk hp 0 A).setNew hk hp 1 B).setNew hk hp 2 C

/-- Reading a value. -/
def rdVal (l : List UInt8) (s : Except Nat Nat) : GV × Except Nat Nat :=
  if (rdBetween l 0 3 s).1 = 1 then (⟨1, (rdBetween l 0 1 (rdBetween l 0 3 s).2).1, ⟨#[]⟩⟩, (rdBetween l 0 1 (rdBetween l 0 3 s).2).2)
  else if (rdBetween l 0 3 s).1 = 2 then (⟨2, unzig (rdUp l 18446744073709551615 (rdBetween l 0 3 s).2).1, ⟨#[]⟩⟩, (rdUp l 18446744073709551615 (rdBetween l 0 3 s).2).2)
  else if (rdBetween l 0 3 s).1 = 3 then (⟨3, 0, ⟨(rdText l (rdBetween l 0 3 s).2).1.toArray⟩⟩, (rdText l (rdBetween l 0 3 s).2).2)
  else (⟨(rdBetween l 0 3 s).1, 0, ⟨#[]⟩⟩, (rdBetween l 0 3 s).2)

theorem old_box {w1 w2 : World} {p r : Nat} {a b c : Value} (hr : r < w1.heap.size) (hrp : r ≠ p) {o : Obj} (hf : Fq p (w1.alloc o) w2)
    (h1 : w1.cell? ⟨r, 0, none⟩ = some a) (h2 : w1.cell? ⟨r, 1, none⟩ = some b) (h3 : w1.cell? ⟨r, 2, none⟩ = some c) (g1 : w1.frozen? ⟨r, 0, none⟩ = false) (g2 : w1.frozen? ⟨r, 1, none⟩ = false) (g3 : w1.frozen? ⟨r, 2, none⟩ = false) :
    w2.cell? ⟨r, 0, none⟩ = some a ∧ w2.cell? ⟨r, 1, none⟩ = some b ∧ w2.cell? ⟨r, 2, none⟩ = some c ∧ w2.frozen? ⟨r, 0, none⟩ = false ∧ w2.frozen? ⟨r, 1, none⟩ = false ∧ w2.frozen? ⟨r, 2, none⟩ = false := by
  have hs : r < (w1.alloc o).heap.size := by simp; omega
  refine ⟨?_, ?_, ?_, ?_, ?_, ?_⟩
  · rw [hf.cell (a := ⟨r, 0, none⟩) hs hrp, World.cell?_alloc_lt _ _ ⟨r, 0, none⟩ hr]; exact h1
  · rw [hf.cell (a := ⟨r, 1, none⟩) hs hrp, World.cell?_alloc_lt _ _ ⟨r, 1, none⟩ hr]; exact h2
  · rw [hf.cell (a := ⟨r, 2, none⟩) hs hrp, World.cell?_alloc_lt _ _ ⟨r, 2, none⟩ hr]; exact h3
  · rw [hf.frozen (a := ⟨r, 0, none⟩) hs hrp, World.frozen?_alloc_old _ _ ⟨r, 0, none⟩ (Nat.ne_of_lt hr)]; exact g1
  · rw [hf.frozen (a := ⟨r, 1, none⟩) hs hrp, World.frozen?_alloc_old _ _ ⟨r, 1, none⟩ (Nat.ne_of_lt hr)]; exact g2
  · rw [hf.frozen (a := ⟨r, 2, none⟩) hs hrp, World.frozen?_alloc_old _ _ ⟨r, 2, none⟩ (Nat.ne_of_lt hr)]; exact g3

theorem rdUp_lt {l : List UInt8} {s : Except Nat Nat} {most : Nat} (hm : most < 18446744073709551616) : (rdUp l most s).1 < 18446744073709551616 := by
  cases hr : (rdUp l most s).2 with
  | ok a => have := rdUp_le hr; omega
  | error c =>
    cases s with
    | error c' => simp [rdUp]
    | ok b =>
      unfold rdUp at hr ⊢
      dsimp only at hr ⊢
      by_cases h1 : (decU (l.drop b)).2.2.1 = 0
      · by_cases h2 : (decU (l.drop b)).1 ≤ most
        · simp [h1, h2] at hr
        · simp [h1, h2]
      · rw [if_neg h1]; split <;> simp

end Go.Proofs.YtmahkhpmaenkhaaDoor
