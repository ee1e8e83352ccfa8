/- Plain facts on bytes and lists, without the program: they serve the proofs about package wire. -/
import Derived.WalkKit
import Derived.Lib.Varint
import Derived.Lib.VarintMem
import Derived.Lib.Zigzag
import Derived.Lib.UnsafeStr
import Derived.Deep.MidRow
import Derived.Deep.WholeRow
import Derived.Great.BuildSlice
import Derived.Deep.RegionHeld3
namespace Go.Proofs.YtehgoioinogmkaaGreatDoor
open Go.RowKit Go.Lib

theorem hide {p : Prop} (h : p) : Hid p := h
theorem unhide {p : Prop} (h : Hid p) : p := h
theorem max64 : IntKind.u64.max = 18446744073709551615 := by decide

/-- The cells of a new block of one value. -/
theorem one_new (w : World) (u : Value) (e : TypeId) : ∀ j v, ([u] : List Value)[j]? = some v → (w.alloc (.cells #[u] e)).cell? ((⟨w.heap.size, 0, none⟩ : Addr).add j) = some v := by
  intro j v hj
  match j, hj with
  | 0, hj => simp at hj; subst hj; simp [Addr.add]

theorem one_cell {k : IntKind} {n : Int} : ∀ u ∈ ([Value.int k n] : List Value), u.oneCell' = true := by
  intro u hu; simp at hu; subst hu; rfl

theorem byteCells_length (l : List UInt8) : (byteCells l).length = l.length := by simp [byteCells]
theorem uv_done {x y : Nat} {done : List UInt8} (hx : x < 18446744073709551616) (h : done ++ uvarint y = uvarint x) : done.length ≤ 9 := by
  have h1 := uvarint_length64 hx
  have h2 := uvarint_pos y
  have h3 := congrArg List.length h
  simp at h3; omega
theorem or128_mod (y : Nat) : bits BinOp.or IntKind.u8 ((y : Int) % 256) 128 = ((y % 128 + 128 : Nat) : Int) := by
  rw [u8_or128_any _ (by omega) (by omega)]; omega
/-- One byte more of a number that has more. -/
theorem uv_more {x y : Nat} {done : List UInt8} (hge : 128 ≤ y) (h : done ++ uvarint y = uvarint x) : (done ++ [(y % 128 + 128).toUInt8]) ++ uvarint (y / 128) = uvarint x := by
  rw [← h, uvarint_big hge]; simp
theorem uv_last {x y : Nat} {done : List UInt8} (hlt : y < 128) (h : done ++ uvarint y = uvarint x) : done ++ [y.toUInt8] = uvarint x := by
  rw [← h, uvarint_small hlt]
theorem cells_more (xs : List Value) (done : List UInt8) (y : Nat) :
    xs ++ (byteCells done ++ [Value.int IntKind.u8 (bits BinOp.or IntKind.u8 ((y : Int) % 256) 128)]) = xs ++ byteCells (done ++ [(y % 128 + 128).toUInt8]) := by
  rw [or128_mod, byteCells_snoc done (by omega)]
theorem cells_last (xs : List Value) (done : List UInt8) (y : Nat) (h : y < 128) :
    xs ++ (byteCells done ++ [Value.int IntKind.u8 (y : Int)]) = xs ++ byteCells (done ++ [y.toUInt8]) := by
  rw [byteCells_snoc done (by omega)]
theorem own_block_ge {w : World} {B : Nat} {e : TypeId} {s : Nat} {v : Value} {n : Nat} {xs : List Value} (h : w.ownsRow B e s v n xs) : ∀ k, v.ownBlock = some k → B ≤ k := fun k hk => (h.lt k hk).1
theorem ret_int {k : IntKind} {a b : Int} (h : a = b) : Ending.returned (.int k a) = .returned (.int k b) := by rw [h]
theorem fold_pos {n : Int} (h0 : 0 ≤ n) (h1 : n < 9223372036854775808) : bits BinOp.xor IntKind.u64 (n * 2) (n / 9223372036854775808) = ((zigzag n : Nat) : Int) := by
  obtain ⟨k, rfl⟩ := Int.eq_ofNat_of_zero_le h0
  have e : ((k : Int) / 9223372036854775808) = ((0 : Nat) : Int) := by omega
  have e2 : ((k : Int) * 2) = ((k * 2 : Nat) : Int) := by omega
  rw [e, e2, bits_xor_u64_nat _ _ (by omega) (by omega), Nat.xor_zero, zigzag_nonneg h0, e2]
theorem fold_neg {n : Int} (h0 : n < 0) (h1 : -9223372036854775808 ≤ n) :
    bits BinOp.xor IntKind.u64 (IntKind.u64.wrap (IntKind.u64.wrap n * 2)) (IntKind.u64.wrap (n / 9223372036854775808)) = ((zigzag n : Nat) : Int) := by
  have e1 : IntKind.u64.wrap (IntKind.u64.wrap n * 2) = (((2 * n + 18446744073709551616).toNat : Nat) : Int) := by
    rw [IntKind.wrap_u64, IntKind.wrap_u64]; omega
  have e2 : IntKind.u64.wrap (n / 9223372036854775808) = ((2 ^ 64 - 1 : Nat) : Int) := by
    rw [IntKind.wrap_u64]; omega
  rw [e1, e2, bits_xor_u64_nat _ _ (by omega) (by decide), Nat.xor_comm, xor_ones64 _ (by omega)]
  unfold zigzag
  rw [if_neg (by omega)]
  omega

/-- No block but rows of this element type turns. -/
def KeepT (T : TypeId) (w w' : World) : Prop := w.heap.size ≤ w'.heap.size ∧ ∀ k, k < w.heap.size → (∀ cur, w.heap[k]? ≠ some (.cells cur T (0, 0))) → w'.heap[k]? = w.heap[k]?
theorem KeepT.refl (T : TypeId) (w : World) : KeepT T w w := ⟨Nat.le_refl _, fun _ _ _ => rfl⟩
theorem KeepT.trans {T : TypeId} {a b c : World} (h : KeepT T a b) (h' : KeepT T b c) : KeepT T a c :=
  ⟨Nat.le_trans h.1 h'.1, fun k hk hn => (h'.2 k (Nat.lt_of_lt_of_le hk h.1) (by rw [h.2 k hk hn]; exact hn)).trans (h.2 k hk hn)⟩
theorem KeepT.of_alloc {T : TypeId} (w : World) (o : Obj) : KeepT T w (w.alloc o) := ⟨by simp, fun k hk _ => Below.heap_alloc w o k hk⟩
theorem KeepT.of_grown {T : TypeId} {w w' : World} {B s n : Nat} {v : Value} {xs : List Value} (ho : w.ownsRow B T s v n xs) (hg : w.grownBy w' v.ownBlock) : KeepT T w w' := by
  refine ⟨hg.size, fun k hk hn => hg.block k hk ?_⟩
  intro e
  rcases ho.2 with ⟨rfl, _⟩ | ⟨g, cap, cur, rfl, _, hc, _⟩
  · simp [Value.ownBlock] at e
  · simp [Value.ownBlock] at e
    subst e
    exact hn cur hc
theorem KeepT.of_below {T : TypeId} {w w' : World} (h : Below w.heap.size w w') : KeepT T w w' := ⟨h.size, fun k hk _ => h.block k hk⟩
/-- Nothing below p turns; above it no block but rows of this element type. -/
def Fr (T : TypeId) (p : Nat) (w w' : World) : Prop :=
  Below p w w' ∧ ∀ k, k < w.heap.size → k ≠ p → (∀ cur, w.heap[k]? ≠ some (.cells cur T (0, 0))) → w'.heap[k]? = w.heap[k]?
theorem Fr.refl (T : TypeId) (p : Nat) (w : World) : Fr T p w w := ⟨Below.refl _ _, fun _ _ _ _ => rfl⟩
theorem Fr.trans {T : TypeId} {p : Nat} {a b c : World} (h : Fr T p a b) (h' : Fr T p b c) : Fr T p a c :=
  ⟨h.1.trans h'.1, fun k hk hp hn => (h'.2 k (Nat.lt_of_lt_of_le hk h.1.size) hp (by rw [h.2 k hk hp hn]; exact hn)).trans (h.2 k hk hp hn)⟩
theorem Fr.of {T : TypeId} {p : Nat} {w w' : World} (h : Below p w w') (k : KeepT T w w') : Fr T p w w' := ⟨h, fun i hi _ hn => k.2 i hi hn⟩
theorem Fr.alloc {T : TypeId} {p : Nat} {a w : World} (h : Fr T p a w) (hp : p ≤ w.heap.size) (o : Obj) : Fr T p a (w.alloc o) :=
  ⟨h.1.alloc hp o, fun k hk hkp hn => (Below.heap_alloc w o k (Nat.lt_of_lt_of_le hk h.1.size)).trans (h.2 k hk hkp hn)⟩
theorem Fr.setCell {T : TypeId} {p : Nat} {a w : World} (h : Fr T p a w) (j : Nat) (u : Value) : Fr T p a (w.setCell ⟨p, j, none⟩ u) :=
  ⟨h.1.setCell (Nat.le_refl _) u, fun k hk hkp hn => (Below.heap_setCell w ⟨p, j, none⟩ u k hkp).trans (h.2 k hk hkp hn)⟩
theorem Fr.below {T : TypeId} {p : Nat} {w w' : World} (h : Below w.heap.size w w') (hp : p ≤ w.heap.size) : Fr T p w w' := Fr.of (h.mono hp) (KeepT.of_below h)
/-- A cell of a block that is no such row stays. -/
theorem Fr.cell {T : TypeId} {p : Nat} {w w' : World} (h : Fr T p w w') {k o : Nat} {cur : Array Value} {T' : TypeId} {fz : Nat × Nat} (hb : w.heap[k]? = some (.cells cur T' fz)) (hT : T' ≠ T) (hp : k ≠ p) :
    w'.cell? ⟨k, o, none⟩ = w.cell? ⟨k, o, none⟩ ∧ w'.frozen? ⟨k, o, none⟩ = w.frozen? ⟨k, o, none⟩ ∧ w'.heap[k]? = some (.cells cur T' fz) := by
  have hk : k < w.heap.size := by
    rcases Nat.lt_or_ge k w.heap.size with h' | h'
    · exact h'
    · rw [Array.getElem?_eq_none h'] at hb; cases hb
  have e := h.2 k hk hp (by rw [hb]; intro c hc; injection hc with hc; injection hc with _ h2; exact hT h2)
  exact ⟨World.cell?_of_block (w := w) (a := ⟨k, o, none⟩) e, World.frozen?_of_block (w := w) (a := ⟨k, o, none⟩) e, e.trans hb⟩
end Go.Proofs.YtehgoioinogmkaaGreatDoor
/- The reader of a number, as a function on bytes; and a value that reads as bytes. -/
namespace Go.Proofs.YtehgoioinogmkaaGreatDoor
open Go.RowKit Go.Lib

/-- The number at the beginning, its size, its class (0: none), the place of the fault. -/
def decFrom (i acc : Nat) : List UInt8 → Nat × Nat × Nat × Nat
  | [] => (0, 0, 22, i)
  | c :: r => if (i = 9 ∧ 1 < c.toNat) ∨ (0 < i ∧ c.toNat = 0) then (0, 0, 20, i)
      else if c.toNat < 128 then (acc + c.toNat % 128 * 2 ^ (7 * i), i + 1, 0, 0)
      else decFrom (i + 1) (acc + c.toNat % 128 * 2 ^ (7 * i)) r
def decU (l : List UInt8) : Nat × Nat × Nat × Nat := decFrom 0 0 l

/-- A slice's value that reads as these bytes. -/
def RB (w : World) (v : Value) (l : List UInt8) : Prop :=
  l.length ≤ maxLen ∧ ((v = .slice none 0 0 ∧ l = []) ∨
    ∃ b off cap, v = .slice (some ⟨b, off, none⟩) l.length cap ∧ ∀ i, i < l.length → w.cell? ⟨b, off + i, none⟩ = some (.int .u8 ((l.getD i 0).toNat : Int)))

set_option maxRecDepth 100000 in
theorem andNot128 : ∀ a : Fin 256, bits BinOp.andNot IntKind.u8 ((a.val : Nat) : Int) 128 = ((a.val % 128 : Nat) : Int) := by decide
theorem andNot128' (c : UInt8) : bits BinOp.andNot IntKind.u8 (c.toNat : Int) 128 = ((c.toNat % 128 : Nat) : Int) := andNot128 ⟨c.toNat, c.toNat_lt⟩

theorem pow64 {k : Nat} (h : k ≤ 9) : 2 ^ (7 * k) ≤ 9223372036854775808 := by
  have : 2 ^ (7 * k) ≤ 2 ^ 63 := Nat.pow_le_pow_right (by decide) (by omega)
  simpa using this
theorem term_lt {k d : Nat} (h : k ≤ 9) (hd : d < 128) (h9 : k = 9 → d ≤ 1) : d * 2 ^ (7 * k) < 18446744073709551616 := by
  by_cases hk : k = 9
  · subst hk; have := h9 rfl; have : d * 2 ^ (7 * 9) ≤ 1 * 2 ^ (7 * 9) := Nat.mul_le_mul_right _ this
    simp at this ⊢; omega
  · have h1 : 2 ^ (7 * k) ≤ 2 ^ 56 := Nat.pow_le_pow_right (by decide) (by omega)
    have h2 : d * 2 ^ (7 * k) ≤ 127 * 2 ^ 56 := Nat.mul_le_mul (by omega) h1
    simp at h2; omega
theorem or_term {k d acc : Nat} (h : k ≤ 9) (hd : d < 128) (h9 : k = 9 → d ≤ 1) (ha : acc < 2 ^ (7 * k)) :
    bits BinOp.or IntKind.u64 (acc : Int) ((d * 2 ^ (7 * k) : Nat) : Int) = ((acc + d * 2 ^ (7 * k) : Nat) : Int) := by
  have hp := pow64 h
  have ht := term_lt h hd h9
  rw [bits_or_u64_nat _ _ (by omega) ht]
  congr 1
  rw [Nat.or_comm, Nat.mul_comm d, ← Nat.two_pow_add_eq_or_of_lt ha, Nat.add_comm]
theorem acc_lt {k d acc : Nat} (hd : d < 128) (ha : acc < 2 ^ (7 * k)) : acc + d * 2 ^ (7 * k) < 2 ^ (7 * (k + 1)) := by
  have : 2 ^ (7 * (k + 1)) = 128 * 2 ^ (7 * k) := by rw [show 7 * (k + 1) = 7 + 7 * k by omega, Nat.pow_add]
  have h2 : d * 2 ^ (7 * k) ≤ 127 * 2 ^ (7 * k) := Nat.mul_le_mul_right _ (by omega)
  omega
theorem drop_at (l : List UInt8) (k : Nat) (h : k < l.length) : l.drop k = l.getD k 0 :: l.drop (k + 1) := by
  rw [List.drop_eq_getElem_cons h]; simp [h]

theorem dec_form {k acc : Nat} {c : UInt8} {r : List UInt8} (h : (k = 9 ∧ 1 < c.toNat) ∨ (0 < k ∧ c.toNat = 0)) : decFrom k acc (c :: r) = (0, 0, 20, k) := by
  rw [decFrom, if_pos h]
theorem dec_done {k acc : Nat} {c : UInt8} {r : List UInt8} (h : ¬ ((k = 9 ∧ 1 < c.toNat) ∨ (0 < k ∧ c.toNat = 0))) (hc : c.toNat < 128) :
    decFrom k acc (c :: r) = (acc + c.toNat % 128 * 2 ^ (7 * k), k + 1, 0, 0) := by
  rw [decFrom, if_neg h, if_pos hc]
theorem dec_more {k acc : Nat} {c : UInt8} {r : List UInt8} (h : ¬ ((k = 9 ∧ 1 < c.toNat) ∨ (0 < k ∧ c.toNat = 0))) (hc : ¬ c.toNat < 128) :
    decFrom k acc (c :: r) = decFrom (k + 1) (acc + c.toNat % 128 * 2 ^ (7 * k)) r := by
  rw [decFrom, if_neg h, if_neg hc]
/-- How the walk writes the sum. -/
theorem or_walk {k acc : Nat} {c : UInt8} (h : k ≤ 9) (h9 : ¬ ((k = 9 ∧ 1 < c.toNat) ∨ (0 < k ∧ c.toNat = 0))) (ha : acc < 2 ^ (7 * k)) :
    bits BinOp.or IntKind.u64 (acc : Int) (IntKind.u64.wrap (((c.toNat : Nat) : Int) % 128 * 2 ^ (7 * k))) = ((acc + c.toNat % 128 * 2 ^ (7 * k) : Nat) : Int) := by
  have hc := c.toNat_lt
  have hd : c.toNat % 128 < 128 := by omega
  have h9' : k = 9 → c.toNat % 128 ≤ 1 := by omega
  have ht := term_lt h hd h9'
  have e : (((c.toNat : Nat) : Int) % 128 * 2 ^ (7 * k)) = ((c.toNat % 128 * 2 ^ (7 * k) : Nat) : Int) := by
    push_cast; rfl
  rw [e, IntKind.wrap_u64, show ((c.toNat % 128 * 2 ^ (7 * k) : Nat) : Int) % 18446744073709551616 = ((c.toNat % 128 * 2 ^ (7 * k) : Nat) : Int) by omega]
  exact or_term h hd h9' ha

/-- What is told of a number that was read: it, or a fault in new memory. -/
def UPost (pl cl st : TypeId) (r : Nat × Nat × Nat × Nat) (w : World) (e : Ending) (w' : World) : Prop :=
  if r.2.2.1 = 0 then e = .returned (.tuple #[.int .u64 r.1, .int .i64 r.2.1, .nilIface]) ∧ w' = w
  else e = .returned (.tuple #[.int .u64 0, .int .i64 0, .iface pl (.pointer (some ⟨w.heap.size, 0, none⟩))]) ∧
    w' = w.alloc (.cells #[.int .i64 r.2.2.2, .iface cl (.int .i64 r.2.2.1)] st)
theorem upost_form {pl cl st : TypeId} {r : Nat × Nat × Nat × Nat} {w : World} {c k : Nat} (hc : c ≠ 0) (h : r = (0, 0, c, k)) :
    UPost pl cl st r w (.returned (.tuple #[.int .u64 0, .int .i64 0, .iface pl (.pointer (some ⟨w.heap.size, 0, none⟩))])) (w.alloc (.cells #[.int .i64 (k : Int), .iface cl (.int .i64 (c : Int))] st)) := by
  subst h; unfold UPost; rw [if_neg hc]; exact ⟨rfl, rfl⟩
theorem upost_done {pl cl st : TypeId} {r : Nat × Nat × Nat × Nat} {w : World} {n : Int} {k a p : Nat} (h : r = (a, k + 1, 0, p)) (hn : n = (a : Int)) :
    UPost pl cl st r w (.returned (.tuple #[.int .u64 n, .int .i64 ((k : Int) + 1), .nilIface])) w := by
  subst h; subst hn; unfold UPost; rw [if_pos rfl]; exact ⟨rfl, rfl⟩
theorem or_walk9 {acc : Nat} {c : UInt8} (hc : c.toNat ≤ 1) (ha : acc < 2 ^ (7 * 9)) :
    bits BinOp.or IntKind.u64 (acc : Int) (((c.toNat : Nat) : Int) % 128 * 9223372036854775808) = ((acc + c.toNat % 128 * 2 ^ (7 * 9) : Nat) : Int) := by
  have h := or_term (k := 9) (d := c.toNat % 128) (by omega) (by omega) (by omega) ha
  have e2 : 2 ^ (7 * 9) = 9223372036854775808 := by decide
  rw [e2] at h ⊢
  have e : (((c.toNat : Nat) : Int) % 128 * 9223372036854775808) = ((c.toNat % 128 * 9223372036854775808 : Nat) : Int) := by omega
  rw [e, h]
theorem zero_of {c : UInt8} (h : (((c.toNat : Nat) : Int) == 0) = true) : c.toNat = 0 := by have := beq_iff_eq.1 h; omega
theorem nonzero_of {c : UInt8} (h : (((c.toNat : Nat) : Int) == 0) = false) : c.toNat ≠ 0 := by
  intro e; rw [e] at h; simp at h
end Go.Proofs.YtehgoioinogmkaaGreatDoor
/- Structs of many cells: a new variable that is written whole, read whole; a message as a list of cells. -/
namespace Go.Proofs.YtehgoioinogmkaaGreatDoor
open Go.RowKit Go.Lib

theorem setCells_pre (w : World) (T : TypeId) : ∀ (pre zs cs : List Value), zs.length = cs.length → (w.alloc (.cells (pre ++ zs).toArray T)).setCells w.heap.size pre.length cs = w.alloc (.cells (pre ++ cs).toArray T)
  | pre, [], [], _ => rfl
  | pre, z :: zs, c :: cs, h => by
    have ih := setCells_pre w T (pre ++ [c]) zs cs (by simpa using h)
    rw [World.setCells, World.setCell_alloc_new]
    have e : (pre ++ z :: zs).toArray.setIfInBounds pre.length c = (pre ++ [c] ++ zs).toArray := by
      simp
    rw [e]
    have e2 : pre.length + 1 = (pre ++ [c]).length := by simp
    rw [e2, ih]
    simp
  | _, [], _ :: _, h => by simp at h
  | _, _ :: _, [], h => by simp at h
theorem setCells_new (w : World) (T : TypeId) (zs : Array Value) (cs : List Value) (h : zs.size = cs.length) : (w.alloc (.cells zs T)).setCells w.heap.size 0 cs = w.alloc (.cells cs.toArray T) := by
  have := setCells_pre w T [] zs.toList cs (by simpa using h)
  simpa using this
theorem there_new (w : World) (T : TypeId) (zs : Array Value) (n : Nat) (h : zs.size = n) : (w.alloc (.cells zs T)).there w.heap.size 0 n := fun j hj => by
  constructor
  · rw [World.cell?_alloc_at _ _ _ _ rfl, Nat.zero_add, Array.getElem?_eq_getElem (by omega)]; rfl
  · exact World.frozen?_alloc_new _ _ _ _
theorem range_new (w : World) (T : TypeId) (cs : List Value) : (w.alloc (.cells cs.toArray T)).rangeAt w.heap.size 0 cs := fun j v hj => by
  rw [World.cell?_alloc_at _ _ _ _ rfl, Nat.zero_add]
  simpa using hj
/-- An operation of a plain region that only tells a value. -/
theorem list_to {P : Program} {ops : Array Oper} {Q : Exit → Act → World → Prop} {rest : List Oper} {o : Oper} {a : Act} {w : World} {d : Nat} {v : Value} (hgd : o.guard = none) (hd : o.dst = some d) (hrun : (execOp a.eval o).run P w = .ok (.value v) w) (h : wpList P ops Q rest (a.put (some d) v) w) : wpList P ops Q (o :: rest) a w :=
  wpList_plain hgd fun K hK => by
    unfold Oper.wp
    rw [hrun]
    show K (a.put o.dst v) w
    rw [hd]
    exact hK _ _ h
end Go.Proofs.YtehgoioinogmkaaGreatDoor
/- A region's operations one behind the other, by hand. -/
namespace Go.Proofs.YtehgoioinogmkaaGreatDoor
open Go.RowKit Go.Lib

theorem list_call {P : Program} {ops : Array Oper} {rest : List Oper} {o : Oper} {a : Act} {w : World} {Q : Exit → Act → World → Prop} {Post : Ending → World → Prop} (hg : o.guard = none) (d : Option Tmp) (hd : o.dst = d) (f : FuncId) (args : Array Value)
    (hrun : (execOp a.eval o).run P w = .ok (.enter f args) w) (hc : Calls P f args w Post) (h : ∀ e w', Post e w' → ∃ v, e = .returned v ∧ wpList P ops Q rest (a.put d v) w') : wpList P ops Q (o :: rest) a w := by
  subst hd
  refine wpList_plain hg fun K hK => ?_
  unfold Oper.wp
  rw [hrun, Oper.upon_enter]
  refine hc.mono fun e w'' hh => ?_
  obtain ⟨v, rfl, h2⟩ := h e w'' hh
  exact hK _ _ h2
theorem list_new {P : Program} {ops : Array Oper} {rest : List Oper} {o : Oper} {a : Act} {w : World} {Q : Exit → Act → World → Prop} (hgd : o.guard = none) (ty : TypeId) (ho : o.op = .alloc ty) (cs : Array Value) (hz : ∀ w, (zeroValue ty).run P w = .ok (.agg cs) w)
    (h : wpList P ops Q rest (a.put o.dst (.pointer (some ⟨w.heap.size, 0, none⟩))) (w.alloc (.cells cs ty))) : wpList P ops Q (o :: rest) a w :=
  wpList_plain hgd fun K hK => by
    unfold Oper.wp execOp
    simp only [ho, Instr.alloc, Sem.run_bind, hz, Sem.run_pure, Result.andThen_ok, newVar, newRow, run_newObj_alloc, Value.cells]
    exact hK _ _ h
end Go.Proofs.YtehgoioinogmkaaGreatDoor
/- An operation of a region that draws, by hand. -/
namespace Go.Proofs.YtehgoioinogmkaaGreatDoor
open Go.RowKit Go.Lib

theorem op_call {P : Program} {o : Oper} {a : Act} {w : World} {K : Act → World → Prop} {Q : Exit → Act → World → Prop} {Post : Ending → World → Prop} (d : Option Tmp) (hd : o.dst = d) (f : FuncId) (args : Array Value)
    (hrun : (execOp a.eval o).run P w = .ok (.enter f args) w) (hc : Calls P f args w Post) (h : ∀ e w', Post e w' → ∃ v, e = .returned v ∧ K (a.put d v) w') : o.wp P a w K Q := by
  subst hd
  unfold Oper.wp
  rw [hrun, Oper.upon_enter]
  refine hc.mono fun e w'' hh => ?_
  obtain ⟨v, rfl, h2⟩ := h e w'' hh
  exact h2
theorem op_new {P : Program} {o : Oper} {a : Act} {w : World} {K : Act → World → Prop} {Q : Exit → Act → World → Prop} (d : Option Tmp) (hd : o.dst = d) (ty : TypeId) (ho : o.op = .alloc ty) (cs : Array Value) (hz : ∀ w, (zeroValue ty).run P w = .ok (.agg cs) w)
    (h : K (a.put d (.pointer (some ⟨w.heap.size, 0, none⟩))) (w.alloc (.cells cs ty))) : o.wp P a w K Q := by
  subst hd
  unfold Oper.wp execOp
  simp only [ho, Instr.alloc, Sem.run_bind, hz, Sem.run_pure, Result.andThen_ok, newVar, newRow, run_newObj_alloc, Value.cells]
  exact h
theorem op_store {P : Program} {o : Oper} {a : Act} {w : World} {K : Act → World → Prop} {Q : Exit → Act → World → Prop} (hd : o.dst = none) (ty : TypeId) (x y : Operand) (ho : o.op = .store ty x y)
    (b i : Nat) (M : List Value) (hx : a.eval x = .pointer (some ⟨b, i, none⟩)) (hy : a.eval y = .agg M.toArray)
    (ht : w.there b i M.toArray.size) (hi : (P.info? ty).map (·.size) = some M.toArray.size) (h1 : M.toArray.all (·.oneCell') = true)
    (h : K a (w.setCells b i M)) : o.wp P a w K Q := by
  refine wp_store_mid ty x y ho b i M.toArray hx hy ht hi h1 ?_
  rw [hd]
  exact h
section
variable {P : Program} {ops : Array Oper} {Q : Exit → Act → World → Prop} {md : Region.Mode} {S : World → Prop}
/-- Two operations are ready: either may be next. -/
theorem any_two {i j : Nat} {oi oj : Oper} {fuel : Nat} {listed : Array Bool} {a : Act} {w : World} (hr : Region.ready md ops listed = [i, j]) (hi : ops[i]? = some oi) (hj : ops[j]? = some oj)
    (h1 : ∀ K' : Act → World → Prop, Shut (∀ a w, S w → (S w → wpAnyH P md ops Q S fuel (listed.setIfInBounds i true) a w) → K' a w) → if Region.wanted oi (yielded ops a.tmps) = true then Oper.wp P oi a w K' Q else K' (a.put oi.dst undef) w)
    (h2 : ∀ K' : Act → World → Prop, Shut (∀ a w, S w → (S w → wpAnyH P md ops Q S fuel (listed.setIfInBounds j true) a w) → K' a w) → if Region.wanted oj (yielded ops a.tmps) = true then Oper.wp P oj a w K' Q else K' (a.put oj.dst undef) w) : wpAnyH P md ops Q S (fuel + 1) listed a w :=
  wpAnyH_ready hr (by simp) (AllReadyH.cons hi h1 (AllReadyH.cons hj h2 AllReadyH.nil))
end
end Go.Proofs.YtehgoioinogmkaaGreatDoor
/- Operations under a guard, one behind the other, by hand. -/
namespace Go.Proofs.YtehgoioinogmkaaGreatDoor
open Go.RowKit Go.Lib

section
variable {P : Program} {ops : Array Oper} {Q : Exit → Act → World → Prop} {rest : List Oper} {o : Oper} {a : Act} {w : World}
theorem list_skip {d : Nat} (hd : o.dst = some d) (hg : Region.wanted o (yielded ops a.tmps) = false) (h : wpList P ops Q rest (a.put (some d) undef) w) : wpList P ops Q (o :: rest) a w :=
  wpList_step fun K hK => by
    rw [if_neg (by rw [hg]; decide), hd]
    exact hK _ _ h
theorem list_want {d : Nat} {v : Value} (hd : o.dst = some d) (hg : Region.wanted o (yielded ops a.tmps) = true) (hrun : (execOp a.eval o).run P w = .ok (.value v) w) (h : wpList P ops Q rest (a.put (some d) v) w) : wpList P ops Q (o :: rest) a w :=
  wpList_step fun K hK => by
    rw [if_pos hg]
    unfold Oper.wp
    rw [hrun]
    show K (a.put o.dst v) w
    rw [hd]
    exact hK _ _ h
end
end Go.Proofs.YtehgoioinogmkaaGreatDoor
