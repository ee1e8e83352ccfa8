/- The reader of a number, as a function on bytes; and a value that reads as bytes. -/
import Derived.Test.YtmahkhpmaenkhaaDoorJPlainHand
namespace Go.Proofs.YtmahkhpmaenkhaaDoor
open Go.RowKit Go.Lib

/-- The number at the beginning, its size, its class (0: none), the place of the fault. -/
def decFrom (i acc : Nat) : List UInt8 → Nat × Nat × Nat × Nat
  | [] => (0, 0, 22, i)
  | c :: r => if (i = 9 ∧ 1 < c.toNat) ∨ (0 < i ∧ c.toNat = 0) then (0, 0, 20, i)
      else if c.toNat < 128 then (acc + c.toNat % 128 * 2 ^ (7 * i), i + 1, 0, 0)
      else decFrom (i + 1) (acc + c.toNat % 128 * 2 ^ (7 * i)) r
def decU (l : List UInt8) : Nat × Nat × Nat × Nat := decFrom 0 0 l

/-- A slice's value that reads as these bytes. -/
def RB (w : World) (v : Value) (l : List UInt8) : Prop :=
  l.length ≤ maxLen ∧ ((v = .slice none 0 0 ∧ l = []) ∨
    ∃ b off cap, v = .slice (some ⟨b, off, none⟩) l.length cap ∧ ∀ i, i < l.length → w.cell? ⟨b, off + i, none⟩ = some (.int .u8 ((l.getD i 0).toNat : Int)))

set_option maxRecDepth 100000 in
theorem andNot128 : ∀ a : Fin 256, bits BinOp.andNot IntKind.u8 ((a.val : Nat) : Int) 128 = ((a.val % 128 : Nat) : Int) := by decide
theorem andNot128' (c : UInt8) : bits BinOp.andNot IntKind.u8 (c.toNat : Int) 128 = ((c.toNat % 128 : Nat) : Int) := andNot128 ⟨c.toNat, c.toNat_lt⟩

theorem pow64 {k : Nat} (h : k ≤ 9) : 2 ^ (7 * k) ≤ 9223372036854775808 := by
  have : 2 ^ (7 * k) ≤ 2 ^ 63 := Nat.pow_le_pow_right (by decide) (by omega)
  simpa using this
theorem term_lt {k d : Nat} (h : k ≤ 9) (hd : d < 128) (h9 : k = 9 → d ≤ 1) : d * 2 ^ (7 * k) < 18446744073709551616 := by
  by_cases hk : k = 9
  · subst hk; have := h9 rfl; have : d * 2 ^ (7 * 9) ≤ 1 * 2 ^ (7 * 9) := Nat.mul_le_mul_right _ this
    simp at this ⊢; omega
  · have h1 : 2 ^ (7 * k) ≤ 2 ^ 56 := Nat.pow_le_pow_right (by decide) (by omega)
    have h2 : d * 2 ^ (7 * k) ≤ 127 * 2 ^ 56 := Nat.mul_le_mul (by omega) h1
    simp at h2; omega
theorem or_term {k d acc : Nat} (h : k ≤ 9) (hd : d < 128) (h9 : k = 9 → d ≤ 1) (ha : acc < 2 ^ (7 * k)) :
    bits BinOp.or IntKind.u64 (acc : Int) ((d * 2 ^ (7 * k) : Nat) : Int) = ((acc + d * 2 ^ (7 * k) : Nat) : Int) := by
  have hp := pow64 h
  have ht := term_lt h hd h9
  rw [bits_or_u64_nat _ _ (by omega) ht]
  congr 1
  rw [Nat.or_comm, Nat.mul_comm d, ← Nat.two_pow_add_eq_or_of_lt ha, Nat.add_comm]
theorem acc_lt {k d acc : Nat} (hd : d < 128) (ha : acc < 2 ^ (7 * k)) : acc + d * 2 ^ (7 * k) < 2 ^ (7 * (k + 1)) := by
  have : 2 ^ (7 * (k + 1)) = 128 * 2 ^ (7 * k) := by rw [show 7 * (k + 1) = 7 + 7 * k by omega, Nat.pow_add]
  have h2 : d * 2 ^ (7 * k) ≤ 127 * 2 ^ (7 * k) := Nat.mul_le_mul_right _ (by omega)
  omega
theorem drop_at (l : List UInt8) (k : Nat) (h : k < l.length) : l.drop k = l.getD k 0 :: l.drop (k + 1) := by
  rw [List.drop_eq_getElem_cons h]; simp [h]

theorem dec_form {k acc : Nat} {c : UInt8} {r : List UInt8} (h : (k = 9 ∧ 1 < c.toNat) ∨ (0 < k ∧ c.toNat = 0)) : decFrom k acc (c :: r) = (0, 0, 20, k) := by
  rw [decFrom, if_pos h]
theorem dec_done {k acc : Nat} {c : UInt8} {r : List UInt8} (h : ¬ ((k = 9 ∧ 1 < c.toNat) ∨ (0 < k ∧ c.toNat = 0))) (hc : c.toNat < 128) :
    decFrom k acc (c :: r) = (acc + c.toNat % 128 * 2 ^ (7 * k), k + 1, 0, 0) := by
  rw [decFrom, if_neg h, if_pos hc]
theorem dec_more {k acc : Nat} {c : UInt8} {r : List UInt8} (h : ¬ ((k = 9 ∧ 1 < c.toNat) ∨ (0 < k ∧ c.toNat = 0))) (hc : ¬ c.toNat < 128) :
    decFrom k acc (c :: r) = decFrom (k + 1) (acc + c.toNat % 128 * 2 ^ (7 * k)) r := by
  rw [decFrom, if_neg h, if_neg hc]
/-- How the walk writes the sum. -/
theorem or_walk {k acc : Nat} {c : UInt8} (h : k ≤ 9) (h9 : ¬ ((k = 9 ∧ 1 < c.toNat) ∨ (0 < k ∧ c.toNat = 0))) (ha : acc < 2 ^ (7 * k)) :
    bits BinOp.or IntKind.u64 (acc : Int) (IntKind.u64.wrap (((c.toNat : Nat) : Int) % 128 * 2 ^ (7 * k))) = ((acc + c.toNat % 128 * 2 ^ (7 * k) : Nat) : Int) := by
  have hc := c.toNat_lt
  have hd : c.toNat % 128 < 128 := by omega
  have h9' : k = 9 → c.toNat % 128 ≤ 1 := by omega
  have ht := term_lt h hd h9'
  have e : (((c.toNat : Nat) : Int) % 128 * 2 ^ (7 * k)) = ((c.toNat % 128 * 2 ^ (7 * k) : Nat) : Int) := by
    push_cast; rfl
  rw [e, IntKind.wrap_u64, show ((c.toNat % 128 * 2 ^ (7 * k) : Nat) : Int) % 18446744073709551616 = ((c.toNat % 128 * 2 ^ (7 * k) : Nat) : Int) by omega]
  exact or_term h hd h9' ha

/-- What is told of a number that was read: it, or a fault in new memory. -/
def UPost (pl cl st : TypeId) (r : Nat × Nat × Nat × Nat) (w : World) (e : Ending) (w' : World) : Prop :=
  if r.2.2.1 = 0 then e = .returned (.tuple #[.int .u64 r.1, .int .i64 r.2.1, .nilIface]) ∧ w' = w
  else e = .returned (.tuple #[.int .u64 0, .int .i64 0, .iface pl (.pointer (some ⟨w.heap.size, 0, none⟩))]) ∧
    w' = w.alloc (.cells #[.int .i64 r.2.2.2, .iface cl (.int .i64 r.2.2.1)] st)
theorem upost_form {pl cl st : TypeId} {r : Nat × Nat × Nat × Nat} {w : World} {c k : Nat} (hc : c ≠ 0) (h : r = (0, 0, c, k)) :
    UPost pl cl st r w (.returned (.tuple #[.int .u64 0, .int .i64 0, .iface pl (.pointer (some ⟨w.heap.size, 0, none⟩))])) (w.alloc (.cells #[.int .i64 (k : Int), .iface cl (.int .i64 (c : Int))] st)) := by
  subst h; unfold UPost; rw [if_neg hc]; exact ⟨rfl, rfl⟩
theorem upost_done {pl cl st : TypeId} {r : Nat × Nat × Nat × Nat} {w : World} {n : Int} {k a p : Nat} (h : r = (a, k + 1, 0, p)) (hn : n = (a : Int)) :
    UPost pl cl st r w (.returned (.tuple #[.int .u64 n, .int .i64 ((k : Int) + 1), .nilIface])) w := by
  subst h; subst hn; unfold UPost; rw [if_pos rfl]; exact ⟨rfl, rfl⟩
theorem or_walk9 {acc : Nat} {c : UInt8} (hc : c.toNat ≤ 1) (ha : acc < 2 ^ (7 * 9)) :
    bits BinOp.or IntKind.u64 (acc : Int) (((c.toNat : Nat) : Int) % 128 * 9223372036854775808) = ((acc + c.toNat % 128 * 2 ^ (7 * 9) : Nat) : Int) := by
  have h := or_term (k := 9) (d := c.toNat % 128) (by omega) (by omega) (by omega) ha
  have e2 : 2 ^ (7 * 9) = 9223372036854775808 := by decide
  rw [e2] at h ⊢
  have e : (((c.toNat : Nat) : Int) % 128 * 9223372036854775808) = ((c.toNat % 128 * 9223372036854775808 : Nat) : Int) := by omega
  rw [e, h]
theorem zero_of {c : UInt8} (h : (((c.toNat : Nat) : Int) == 0) = true) : c.toNat = 0 := by have := beq_iff_eq.1 h; omega
theorem nonzero_of {c : UInt8} (h : (((c.toNat : Nat) : Int) == 0) = false) : c.toNat ≠ 0 := by
  intro e; rw [e] at h; simp at h
end Go.Proofs.YtmahkhpmaenkhaaDoor
