/- Plain facts on bytes and lists, without the program: they serve the proofs about package wire. -/
import Derived.WalkKit
import Derived.Lib.Varint
import Derived.Lib.VarintMem
import Derived.Lib.Zigzag
import Derived.Lib.UnsafeStr
import Derived.Deep.RegionHeld3
namespace Go.Proofs.YtmahkhpmaenkhaaDoor
open Go.RowKit Go.Lib

theorem hide {p : Prop} (h : p) : Hid p := h
theorem unhide {p : Prop} (h : Hid p) : p := h
theorem max64 : IntKind.u64.max = 18446744073709551615 := by decide

/-- The cells of a new block of one value. -/
theorem one_new (w : World) (u : Value) (e : TypeId) : ∀ j v, ([u] : List Value)[j]? = some v → (w.alloc (.cells #[u] e)).cell? ((⟨w.heap.size, 0, none⟩ : Addr).add j) = some v := by
  intro j v hj
  match j, hj with
  | 0, hj => simp at hj; subst hj; simp [Addr.add]

theorem one_cell {k : IntKind} {n : Int} : ∀ u ∈ ([Value.int k n] : List Value), u.oneCell' = true := by
  intro u hu; simp at hu; subst hu; rfl

theorem byteCells_length (l : List UInt8) : (byteCells l).length = l.length := by simp [byteCells]
theorem uv_done {x y : Nat} {done : List UInt8} (hx : x < 18446744073709551616) (h : done ++ uvarint y = uvarint x) : done.length ≤ 9 := by
  have h1 := uvarint_length64 hx
  have h2 := uvarint_pos y
  have h3 := congrArg List.length h
  simp at h3; omega
theorem or128_mod (y : Nat) : bits BinOp.or IntKind.u8 ((y : Int) % 256) 128 = ((y % 128 + 128 : Nat) : Int) := by
  rw [u8_or128_any _ (by omega) (by omega)]; omega
/-- One byte more of a number that has more. -/
theorem uv_more {x y : Nat} {done : List UInt8} (hge : 128 ≤ y) (h : done ++ uvarint y = uvarint x) : (done ++ [(y % 128 + 128).toUInt8]) ++ uvarint (y / 128) = uvarint x := by
  rw [← h, uvarint_big hge]; simp
theorem uv_last {x y : Nat} {done : List UInt8} (hlt : y < 128) (h : done ++ uvarint y = uvarint x) : done ++ [y.toUInt8] = uvarint x := by
  rw [← h, uvarint_small hlt]
theorem cells_more (xs : List Value) (done : List UInt8) (y : Nat) :
    xs ++ (byteCells done ++ [Value.int IntKind.u8 (bits BinOp.or IntKind.u8 ((y : Int) % 256) 128)]) = xs ++ byteCells (done ++ [(y % 128 + 128).toUInt8]) := by
  rw [or128_mod, byteCells_snoc done (by omega)]
theorem cells_last (xs : List Value) (done : List UInt8) (y : Nat) (h : y < 128) :
    xs ++ (byteCells done ++ [Value.int IntKind.u8 (y : Int)]) = xs ++ byteCells (done ++ [y.toUInt8]) := by
  rw [byteCells_snoc done (by omega)]
theorem own_block_ge {w : World} {B : Nat} {e : TypeId} {s : Nat} {v : Value} {n : Nat} {xs : List Value} (h : w.ownsRow B e s v n xs) : ∀ k, v.ownBlock = some k → B ≤ k := fun k hk => (h.lt k hk).1
theorem ret_int {k : IntKind} {a b : Int} (h : a = b) : Ending.returned (.int k a) = .returned (.int k b) := by rw [h]
theorem fold_pos {n : Int} (h0 : 0 ≤ n) (h1 : n < 9223372036854775808) : bits BinOp.xor IntKind.u64 (n * 2) (n / 9223372036854775808) = ((zigzag n : Nat) : Int) := by
  obtain ⟨k, rfl⟩ := Int.eq_ofNat_of_zero_le h0
  have e : ((k : Int) / 9223372036854775808) = ((0 : Nat) : Int) := by omega
  have e2 : ((k : Int) * 2) = ((k * 2 : Nat) : Int) := by omega
  rw [e, e2, bits_xor_u64_nat _ _ (by omega) (by omega), Nat.xor_zero, zigzag_nonneg h0, e2]
theorem fold_neg {n : Int} (h0 : n < 0) (h1 : -9223372036854775808 ≤ n) :
    bits BinOp.xor IntKind.u64 (IntKind.u64.wrap (IntKind.u64.wrap n * 2)) (IntKind.u64.wrap (n / 9223372036854775808)) = ((zigzag n : Nat) : Int) := by
  have e1 : IntKind.u64.wrap (IntKind.u64.wrap n * 2) = (((2 * n + 18446744073709551616).toNat : Nat) : Int) := by
    rw [IntKind.wrap_u64, IntKind.wrap_u64]; omega
  have e2 : IntKind.u64.wrap (n / 9223372036854775808) = ((2 ^ 64 - 1 : Nat) : Int) := by
    rw [IntKind.wrap_u64]; omega
  rw [e1, e2, bits_xor_u64_nat _ _ (by omega) (by decide), Nat.xor_comm, xor_ones64 _ (by omega)]
  unfold zigzag
  rw [if_neg (by omega)]
  omega

/-- No block but rows of this element type turns. -/
def KeepT (T : TypeId) (w w' : World) : Prop := w.heap.size ≤ w'.heap.size ∧ ∀ k, k < w.heap.size → (∀ cur, w.heap[k]? ≠ some (.cells cur T (0, 0))) → w'.heap[k]? = w.heap[k]?
theorem KeepT.refl (T : TypeId) (w : World) : KeepT T w w := ⟨Nat.le_refl _, fun _ _ _ => rfl⟩
theorem KeepT.trans {T : TypeId} {a b c : World} (h : KeepT T a b) (h' : KeepT T b c) : KeepT T a c :=
  ⟨Nat.le_trans h.1 h'.1, fun k hk hn => (h'.2 k (Nat.lt_of_lt_of_le hk h.1) (by rw [h.2 k hk hn]; exact hn)).trans (h.2 k hk hn)⟩
theorem KeepT.of_alloc {T : TypeId} (w : World) (o : Obj) : KeepT T w (w.alloc o) := ⟨by simp, fun k hk _ => Below.heap_alloc w o k hk⟩
theorem KeepT.of_grown {T : TypeId} {w w' : World} {B s n : Nat} {v : Value} {xs : List Value} (ho : w.ownsRow B T s v n xs) (hg : w.grownBy w' v.ownBlock) : KeepT T w w' := by
  refine ⟨hg.size, fun k hk hn => hg.block k hk ?_⟩
  intro e
  rcases ho.2 with ⟨rfl, _⟩ | ⟨g, cap, cur, rfl, _, hc, _⟩
  · simp [Value.ownBlock] at e
  · simp [Value.ownBlock] at e
    subst e
    exact hn cur hc
theorem KeepT.of_below {T : TypeId} {w w' : World} (h : Below w.heap.size w w') : KeepT T w w' := ⟨h.size, fun k hk _ => h.block k hk⟩
/-- Nothing below p turns; above it no block but rows of this element type. -/
def Fr (T : TypeId) (p : Nat) (w w' : World) : Prop :=
  Below p w w' ∧ ∀ k, k < w.heap.size → k ≠ p → (∀ cur, w.heap[k]? ≠ some (.cells cur T (0, 0))) → w'.heap[k]? = w.heap[k]?
theorem Fr.refl (T : TypeId) (p : Nat) (w : World) : Fr T p w w := ⟨Below.refl _ _, fun _ _ _ _ => rfl⟩
theorem Fr.trans {T : TypeId} {p : Nat} {a b c : World} (h : Fr T p a b) (h' : Fr T p b c) : Fr T p a c :=
  ⟨h.1.trans h'.1, fun k hk hp hn => (h'.2 k (Nat.lt_of_lt_of_le hk h.1.size) hp (by rw [h.2 k hk hp hn]; exact hn)).trans (h.2 k hk hp hn)⟩
theorem Fr.of {T : TypeId} {p : Nat} {w w' : World} (h : Below p w w') (k : KeepT T w w') : Fr T p w w' := ⟨h, fun i hi _ hn => k.2 i hi hn⟩
theorem Fr.alloc {T : TypeId} {p : Nat} {a w : World} (h : Fr T p a w) (hp : p ≤ w.heap.size) (o : Obj) : Fr T p a (w.alloc o) :=
  ⟨h.1.alloc hp o, fun k hk hkp hn => (Below.heap_alloc w o k (Nat.lt_of_lt_of_le hk h.1.size)).trans (h.2 k hk hkp hn)⟩
theorem Fr.setCell {T : TypeId} {p : Nat} {a w : World} (h : Fr T p a w) (j : Nat) (u : Value) : Fr T p a (w.setCell ⟨p, j, none⟩ u) :=
  ⟨h.1.setCell (Nat.le_refl _) u, fun k hk hkp hn => (Below.heap_setCell w ⟨p, j, none⟩ u k hkp).trans (h.2 k hk hkp hn)⟩
theorem Fr.below {T : TypeId} {p : Nat} {w w' : World} (h : Below w.heap.size w w') (hp : p ≤ w.heap.size) : Fr T p w w' := Fr.of (h.mono hp) (KeepT.of_below h)
/-- A cell of a block that is no such row stays. -/
theorem Fr.cell {T : TypeId} {p : Nat} {w w' : World} (h : Fr T p w w') {k o : Nat} {cur : Array Value} {T' : TypeId} {fz : Nat × Nat} (hb : w.heap[k]? = some (.cells cur T' fz)) (hT : T' ≠ T) (hp : k ≠ p) :
    w'.cell? ⟨k, o, none⟩ = w.cell? ⟨k, o, none⟩ ∧ w'.frozen? ⟨k, o, none⟩ = w.frozen? ⟨k, o, none⟩ ∧ w'.heap[k]? = some (.cells cur T' fz) := by
  have hk : k < w.heap.size := by
    rcases Nat.lt_or_ge k w.heap.size with h' | h'
    · exact h'
    · rw [Array.getElem?_eq_none h'] at hb; cases hb
  have e := h.2 k hk hp (by rw [hb]; intro c hc; injection hc with hc; injection hc with _ h2; exact hT h2)
  exact ⟨World.cell?_of_block (w := w) (a := ⟨k, o, none⟩) e, World.frozen?_of_block (w := w) (a := ⟨k, o, none⟩) e, e.trans hb⟩
end Go.Proofs.YtmahkhpmaenkhaaDoor
/- A region that draws its order, taken by hand: a read's value goes to its slot. -/
namespace Go.Proofs.YtmahkhpmaenkhaaDoor
open Go.RowKit Go.Lib

/-- Take number i first: its value goes to slot d. -/
theorem hand_to {P : Program} {ops : Array Oper} {Q : Exit → Act → World → Prop} {md : Region.Mode} {S : World → Prop} {i d : Nat} {oi : Oper} {v : Value} {fuel : Nat} {listed : Array Bool} {a : Act} {w : World} (hi : ops[i]? = some oi) (hd : oi.dst = some d)
    (hs : Region.noSelect ops = true) (hf : Region.free md ops listed i = true) (hr : (Region.ready md ops listed).contains i = true)
    (hQ : ∀ c a w, Q (.panic c) (a.put (some d) v) w → Q (.panic c) a w) (hy : YieldsIf P ops S oi v a) (hS : S w)
    (h : wpAnyH P md ops Q S fuel (listed.setIfInBounds i true) (a.put (some d) v) w) : wpAnyH P md ops Q S (fuel + 1) listed a w := by
  rw [← hd] at hQ h
  exact wpAnyH_take hi hs hf hr hQ hy hS h
end Go.Proofs.YtmahkhpmaenkhaaDoor
