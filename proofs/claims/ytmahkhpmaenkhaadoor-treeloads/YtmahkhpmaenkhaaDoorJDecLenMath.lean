/- The reader of a number, as a function on bytes; and a value that reads as bytes. -/
import Derived.Test.YtmahkhpmaenkhaaDoorJPlainHand
namespace Go.Proofs.YtmahkhpmaenkhaaDoor
open Go.RowKit Go.Lib

/-- The number at the beginning, its size, its class (0: none), the place of the fault. -/
def decFrom (i acc : Nat) : List UInt8 → Nat × Nat × Nat × Nat
  | [] => (0, 0, 22, i)
  | c :: r => if (i = 9 ∧ 1 < c.toNat) ∨ (0 < i ∧ c.toNat = 0) then (0, 0, 20, i)
      else if c.toNat < 128 then (acc + c.toNat % 128 * 2 ^ (7 * i), i + 1, 0, 0)
      else decFrom (i + 1) (acc + c.toNat % 128 * 2 ^ (7 * i)) r
def decU (l : List UInt8) : Nat × Nat × Nat × Nat := decFrom 0 0 l

/-- A slice's value that reads as these bytes. -/
def RB (w : World) (v : Value) (l : List UInt8) : Prop :=
  l.length ≤ maxLen ∧ ((v = .slice none 0 0 ∧ l = []) ∨
    ∃ b off cap, v = .slice (some ⟨b, off, none⟩) l.length cap ∧ ∀ i, i < l.length → w.cell? ⟨b, off + i, none⟩ = some (.int .u8 ((l.getD i 0).toNat : Int)))

set_option maxRecDepth 100000 in
theorem andNot128 : ∀ a : Fin 256, bits BinOp.andNot IntKind.u8 ((a.val : Nat) : Int) 128 = ((a.val % 128 : Nat) : Int) := by decide
theorem andNot128' (c : UInt8) : bits BinOp.andNot IntKind.u8 (c.toNat : Int) 128 = ((c.toNat % 128 : Nat) : Int) := andNot128 ⟨c.toNat, c.toNat_lt⟩

theorem pow64 {k : Nat} (h : k ≤ 9) : 2 ^ (7 * k) ≤ 9223372036854775808 := by
  have : 2 ^ (7 * k) ≤ 2 ^ 63 := Nat.pow_le_pow_right (by decide) (by omega)
  simpa using this
theorem term_lt {k d : Nat} (h : k ≤ 9) (hd : d < 128) (h9 : k = 9 → d ≤ 1) : d * 2 ^ (7 * k) < 18446744073709551616 := by
  by_cases hk : k = 9
  · subst hk; have := h9 rfl; have : d * 2 ^ (7 * 9) ≤ 1 * 2 ^ (7 * 9) := Nat.mul_le_mul_right _ this
    simp at this ⊢; omega
  · have h1 : 2 ^ (7 * k) ≤ 2 ^ 56 := Nat.pow_le_pow_right (by decide) (by omega)
    have h2 : d * 2 ^ (7 * k) ≤ 127 * 2 ^ 56 := Nat.mul_le_mul (by omega) h1
    simp at h2; omega
theorem or_term {k d acc : Nat} (h : k ≤ 9) (hd : d < 128) (h9 : k = 9 → d ≤ 1) (ha : acc < 2 ^ (7 * k)) :
    bits BinOp.or IntKind.u64 (acc : Int) ((d * 2 ^ (7 * k) : Nat) : Int) = ((acc + d * 2 ^ (7 * k) : Nat) : Int) := by
  have hp := pow64 h
  have ht := term_lt h hd h9
  rw [bits_or_u64_nat _ _ (by omega) ht]
  congr 1
  rw [Nat.or_comm, Nat.mul_comm d, ← Nat.two_pow_add_eq_or_of_lt ha, Nat.add_comm]
theorem acc_lt {k d acc : Nat} (hd : d < 128) (ha : acc < 2 ^ (7 * k)) : acc + d * 2 ^ (7 * k) < 2 ^ (7 * (k + 1)) := by
  have : 2 ^ (7 * (k + 1)) = 128 * 2 ^ (7 * k) := by rw [show 7 * (k + 1) = 7 + 7 * k by omega, Nat.pow_add]
  have h2 : d * 2 ^ (7 * k) ≤ 127 * 2 ^ (7 * k) := Nat.mul_le_mul_right _ (by omega)
  omega
theorem drop_at (l : List UInt8) (k : Nat) (h : k < l.length) : l.drop k = l.getD k 0 :: l.drop (k + 1) := by
  rw [List.drop_eq_getElem_cons h]; simp [h]

theorem dec_form {k acc : Nat} {c : UInt8} {r : List UInt8} (h : (k = 9 ∧ 1 < c.toNat) ∨ (0 < k ∧ c.toNat = 0)) : decFrom k acc (c :: r) = (0, 0, 20, k) := by
  rw [decFrom, if_pos h]
theorem dec_done {k acc : Nat} {c : UInt8} {r : List UInt8} (h : ¬ ((k = 9 ∧ 1 < c.toNat) ∨ (0 < k ∧ c.toNat = 0))) (hc : c.toNat < 128) :
    decFrom k acc (c :: r) = (acc + c.toNat % 128 * 2 ^ (7 * k), k + 1, 0, 0) := by
  rw [decFrom, if_neg h, if_pos hc]
theorem dec_more {k acc : Nat} {c : UInt8} {r : List UInt8} (h : ¬ ((k = 9 ∧ 1 < c.toNat) ∨ (0 < k ∧ c.toNat = 0))) (hc : ¬ c.toNat < 128) :
    decFrom k acc (c :: r) = decFrom (k + 1) (acc + c.toNat % 128 * 2 ^ (7 * k)) r := by
  rw [decFrom, if_neg h, if_neg hc]
/-- How the walk writes the sum. -/
theorem or_walk {k acc : Nat} {c : UInt8} (h : k ≤ 9) (h9 : ¬ ((k = 9 ∧ 1 < c.toNat) ∨ (0 < k ∧ c.toNat = 0))) (ha : acc < 2 ^ (7 * k)) :
    bits BinOp.or IntKind.u64 (acc : Int) (IntKind.u64.wrap (((c.toNat : Nat) : Int) % 128 * 2 ^ (7 * k))) = ((acc + c.toNat % 128 * 2 ^ (7 * k) : Nat) : Int) := by
  have hc := c.toNat_lt
  have hd : c.toNat % 128 < 128 := by omega
  have h9' : k = 9 → c.toNat % 128 ≤ 1 := by omega
  have ht := term_lt h hd h9'
  have e : (((c.toNat : Nat) : Int) % 128 * 2 ^ (7 * k)) = ((c.toNat % 128 * 2 ^ (7 * k) : Nat) : Int) := by
    push_cast; rfl
  rw [e, IntKind.wrap_u64, show ((c.toNat % 128 * 2 ^ (7 * k) : Nat) : Int) % 18446744073709551616 = ((c.toNat % 128 * 2 ^ (7 * k) : Nat) : Int) by omega]
  exact or_term h hd h9' ha

/-- What is told of a number that was read: it, or a fault in new memory. -/
def UPost (pl cl st : TypeId) (r : Nat × Nat × Nat × Nat) (w : World) (e : Ending) (w' : World) : Prop :=
  if r.2.2.1 = 0 then e = .returned (.tuple #[.int .u64 r.1, .int .i64 r.2.1, .nilIface]) ∧ w' = w
  else e = .returned (.tuple #[.int .u64 0, .int .i64 0, .iface pl (.pointer (some ⟨w.heap.size, 0, none⟩))]) ∧
    w' = w.alloc (.cells #[.int .i64 r.2.2.2, .iface cl (.int .i64 r.2.2.1)] st)
theorem upost_form {pl cl st : TypeId} {r : Nat × Nat × Nat × Nat} {w : World} {c k : Nat} (hc : c ≠ 0) (h : r = (0, 0, c, k)) :
    UPost pl cl st r w (.returned (.tuple #[.int .u64 0, .int .i64 0, .iface pl (.pointer (some ⟨w.heap.size, 0, none⟩))])) (w.alloc (.cells #[.int .i64 (k : Int), .iface cl (.int .i64 (c : Int))] st)) := by
  subst h; unfold UPost; rw [if_neg hc]; exact ⟨rfl, rfl⟩
theorem upost_done {pl cl st : TypeId} {r : Nat × Nat × Nat × Nat} {w : World} {n : Int} {k a p : Nat} (h : r = (a, k + 1, 0, p)) (hn : n = (a : Int)) :
    UPost pl cl st r w (.returned (.tuple #[.int .u64 n, .int .i64 ((k : Int) + 1), .nilIface])) w := by
  subst h; subst hn; unfold UPost; rw [if_pos rfl]; exact ⟨rfl, rfl⟩
theorem or_walk9 {acc : Nat} {c : UInt8} (hc : c.toNat ≤ 1) (ha : acc < 2 ^ (7 * 9)) :
    bits BinOp.or IntKind.u64 (acc : Int) (((c.toNat : Nat) : Int) % 128 * 9223372036854775808) = ((acc + c.toNat % 128 * 2 ^ (7 * 9) : Nat) : Int) := by
  have h := or_term (k := 9) (d := c.toNat % 128) (by omega) (by omega) (by omega) ha
  have e2 : 2 ^ (7 * 9) = 9223372036854775808 := by decide
  rw [e2] at h ⊢
  have e : (((c.toNat : Nat) : Int) % 128 * 9223372036854775808) = ((c.toNat % 128 * 9223372036854775808 : Nat) : Int) := by omega
  rw [e, h]
theorem zero_of {c : UInt8} (h : (((c.toNat : Nat) : Int) == 0) = true) : c.toNat = 0 := by have := beq_iff_eq.1 h; omega
theorem nonzero_of {c : UInt8} (h : (((c.toNat : Nat) : Int) == 0) = false) : c.toNat ≠ 0 := by
  intro e; rw [e] at h; simp at h
end Go.Proofs.YtmahkhpmaenkhaaDoor
/- Plain facts on the bytes of a number: how many, which bear the mark, and that they are read as it. -/
namespace Go.Proofs.YtmahkhpmaenkhaaDoor
open Go.RowKit Go.Lib

/-- How many bits a number has. -/
def nbits (n : Nat) : Nat := if n = 0 then 0 else Nat.log2 n + 1
theorem nbits_zero : nbits 0 = 0 := rfl
theorem nbits_pos {n : Nat} (h : 0 < n) : nbits n = nbits (n / 2) + 1 := by
  unfold nbits
  rw [if_neg (by omega), Nat.log2_def]
  by_cases h2 : 2 ≤ n
  · rw [if_pos h2, if_neg (by omega)]
  · rw [if_neg h2, if_pos (by omega)]
theorem nbits_le : ∀ (k n : Nat), n < 2 ^ k → nbits n ≤ k
  | 0, n, h => by have : n = 0 := by simpa using h
                  subst this; rw [nbits_zero]; exact Nat.le_refl _
  | k + 1, n, h => by
    by_cases h0 : n = 0
    · subst h0; rw [nbits_zero]; omega
    · rw [nbits_pos (by omega)]
      have := nbits_le k (n / 2) (by rw [Nat.pow_succ] at h; omega)
      omega
theorem nbits_shift : ∀ (k n : Nat), 2 ^ k ≤ n → nbits n = k + nbits (n / 2 ^ k)
  | 0, n, h => by simp
  | k + 1, n, h => by
    have hp : 0 < 2 ^ k := Nat.two_pow_pos k
    have h2 : 2 ^ k ≤ n / 2 := by rw [Nat.pow_succ] at h; omega
    rw [nbits_pos (by omega), nbits_shift k (n / 2) h2, Nat.div_div_eq_div_mul, show 2 * 2 ^ k = 2 ^ (k + 1) by rw [Nat.pow_succ]; omega]
    omega
theorem uv_length (n : Nat) : (uvarint n).length = max 1 ((nbits n + 6) / 7) := by
  induction n using Nat.strongRecOn with
  | ind n ih =>
    by_cases h : n < 128
    · rw [uvarint_small h]
      have := nbits_le 7 n h
      simp; omega
    · rw [uvarint_big (by omega), List.length_cons, ih (n / 128) (by omega), nbits_shift 7 n (by omega)]
      have e : n / 2 ^ 7 = n / 128 := rfl
      rw [e]
      have h1 : 0 < nbits (n / 128) := by rw [nbits_pos (by omega)]; omega
      omega
theorem uv_mark (n : Nat) : ∀ i, i < (uvarint n).length → (128 ≤ ((uvarint n).getD i 0).toNat ↔ i + 1 < (uvarint n).length) := by
  induction n using Nat.strongRecOn with
  | ind n ih =>
    intro i hi
    by_cases h : n < 128
    · rw [uvarint_small h] at hi ⊢
      have hi0 : i = 0 := by simpa using hi
      subst hi0
      have : ([n.toUInt8].getD 0 0).toNat = n := toUInt8_toNat (by omega)
      rw [this]; simp; omega
    · rw [uvarint_big (by omega)] at hi ⊢
      cases i with
      | zero =>
        have : ((((n % 128 + 128).toUInt8) :: uvarint (n / 128)).getD 0 0).toNat = n % 128 + 128 := toUInt8_toNat (by omega)
        have hp := uvarint_pos (n / 128)
        rw [this]; simp; omega
      | succ i =>
        have := ih (n / 128) (by omega) i (by simpa using hi)
        simpa using this
theorem dec_uv (more : List UInt8) (y : Nat) : ∀ (i acc : Nat), (i = 0 ∨ 0 < y) → i ≤ 9 → y * 2 ^ (7 * i) < 18446744073709551616 → decFrom i acc (uvarint y ++ more) = (acc + y * 2 ^ (7 * i), i + (uvarint y).length, 0, 0) := by
  induction y using Nat.strongRecOn with
  | ind y ih =>
    intro i acc h0 hi hy
    have hp : 0 < 2 ^ (7 * i) := Nat.two_pow_pos _
    by_cases h : y < 128
    · rw [uvarint_small h]
      have ht : (y.toUInt8).toNat = y := toUInt8_toNat (by omega)
      have hn : ¬ ((i = 9 ∧ 1 < (y.toUInt8).toNat) ∨ (0 < i ∧ (y.toUInt8).toNat = 0)) := by
        rw [ht]
        rintro (⟨rfl, h1⟩ | ⟨h1, h2⟩)
        · have : 2 * 2 ^ (7 * 9) ≤ y * 2 ^ (7 * 9) := Nat.mul_le_mul_right _ h1
          simp at this hy; omega
        · omega
      have := dec_done (acc := acc) (r := more) hn (by omega)
      rw [ht, Nat.mod_eq_of_lt h] at this
      simpa using this
    · rw [uvarint_big (by omega)]
      have ht : ((y % 128 + 128).toUInt8).toNat = y % 128 + 128 := toUInt8_toNat (by omega)
      have hi9 : i ≠ 9 := by
        rintro rfl
        have : 128 * 2 ^ (7 * 9) ≤ y * 2 ^ (7 * 9) := Nat.mul_le_mul_right _ (by omega)
        simp at this hy; omega
      have hn : ¬ ((i = 9 ∧ 1 < ((y % 128 + 128).toUInt8).toNat) ∨ (0 < i ∧ ((y % 128 + 128).toUInt8).toNat = 0)) := by
        rw [ht]; omega
      rw [List.cons_append, dec_more hn (by omega), ht]
      have e128 : 2 ^ (7 * (i + 1)) = 128 * 2 ^ (7 * i) := by rw [show 7 * (i + 1) = 7 + 7 * i by omega, Nat.pow_add]
      have hy2 : y / 128 * 2 ^ (7 * (i + 1)) ≤ y * 2 ^ (7 * i) := by
        rw [e128, ← Nat.mul_assoc]; exact Nat.mul_le_mul_right _ (by omega)
      rw [ih (y / 128) (by omega) (i + 1) _ (Or.inr (by omega)) (by omega) (by omega)]
      have ev : acc + (y % 128 + 128) % 128 * 2 ^ (7 * i) + y / 128 * 2 ^ (7 * (i + 1)) = acc + y * 2 ^ (7 * i) := by
        rw [e128, ← Nat.mul_assoc, Nat.add_assoc, ← Nat.add_mul]
        congr 2
        omega
      rw [ev, List.length_cons]
      congr 2
      omega
/-- What is written is read, whatever stands behind. -/
theorem decU_uv (x : Nat) (hx : x < 18446744073709551616) (more : List UInt8) : decU (uvarint x ++ more) = (x, (uvarint x).length, 0, 0) := by
  have := dec_uv more x 0 0 (Or.inl rfl) (by omega) (by simpa using hx)
  simpa [decU] using this
theorem zig_even {k : Int} (h0 : 0 ≤ k) (h1 : k < 9223372036854775808) : zigzag k % 2 = 0 ∧ zigzag (-k - 1) = zigzag k + 1 ∧ zigzag k + 1 < 18446744073709551616 := by
  unfold zigzag
  rw [if_pos h0, if_neg (by omega)]
  omega
end Go.Proofs.YtmahkhpmaenkhaaDoor
