/- Plain facts on the bytes of a number: how many, which bear the mark, and that they are read as it. -/
import Derived.Test.YtmahkhpmaenkhaaDoorDec
namespace Go.Proofs.YtmahkhpmaenkhaaDoor
open Go.RowKit Go.Lib

/-- How many bits a number has. -/
def nbits (n : Nat) : Nat := if n = 0 then 0 else Nat.log2 n + 1
theorem nbits_zero : nbits 0 = 0 := rfl
theorem nbits_pos {n : Nat} (h : 0 < n) : nbits n = nbits (n / 2) + 1 := by
  unfold nbits
  rw [if_neg (by omega), Nat.log2_def]
  by_cases h2 : 2 ≤ n
  · rw [if_pos h2, if_neg (by omega)]
  · rw [if_neg h2, if_pos (by omega)]
theorem nbits_le : ∀ (k n : Nat), n < 2 ^ k → nbits n ≤ k
  | 0, n, h => by have : n = 0 := by simpa using h
                  subst this; rw [nbits_zero]; exact Nat.le_refl _
  | k + 1, n, h => by
    by_cases h0 : n = 0
    · subst h0; rw [nbits_zero]; omega
    · rw [nbits_pos (by omega)]
      have := nbits_le k (n / 2) (by rw [Nat.pow_succ] at h; omega)
      omega
theorem nbits_shift : ∀ (k n : Nat), 2 ^ k ≤ n → nbits n = k + nbits (n / 2 ^ k)
  | 0, n, h => by simp
  | k + 1, n, h => by
    have hp : 0 < 2 ^ k := Nat.two_pow_pos k
    have h2 : 2 ^ k ≤ n / 2 := by rw [Nat.pow_succ] at h; omega
    rw [nbits_pos (by omega), nbits_shift k (n / 2) h2, Nat.div_div_eq_div_mul, show 2 * 2 ^ k = 2 ^ (k + 1) by rw [Nat.pow_succ]; omega]
    omega
theorem uv_length (n : Nat) : (uvarint n).length = max 1 ((nbits n + 6) / 7) := by
  induction n using Nat.strongRecOn with
  | ind n ih =>
    by_cases h : n < 128
    · rw [uvarint_small h]
      have := nbits_le 7 n h
      simp; omega
    · rw [uvarint_big (by omega), List.length_cons, ih (n / 128) (by omega), nbits_shift 7 n (by omega)]
      have e : n / 2 ^ 7 = n / 128 := rfl
      rw [e]
      have h1 : 0 < nbits (n / 128) := by rw [nbits_pos (by omega)]; omega
      omega
theorem uv_mark (n : Nat) : ∀ i, i < (uvarint n).length → (128 ≤ ((uvarint n).getD i 0).toNat ↔ i + 1 < (uvarint n).length) := by
  induction n using Nat.strongRecOn with
  | ind n ih =>
    intro i hi
    by_cases h : n < 128
    · rw [uvarint_small h] at hi ⊢
      have hi0 : i = 0 := by simpa using hi
      subst hi0
      have : ([n.toUInt8].getD 0 0).toNat = n := toUInt8_toNat (by omega)
      rw [this]; simp; omega
    · rw [uvarint_big (by omega)] at hi ⊢
      cases i with
      | zero =>
        have : ((((n % 128 + 128).toUInt8) :: uvarint (n / 128)).getD 0 0).toNat = n % 128 + 128 := toUInt8_toNat (by omega)
        have hp := uvarint_pos (n / 128)
        rw [this]; simp; omega
      | succ i =>
        have := ih (n / 128) (by omega) i (by simpa using hi)
        simpa using this
theorem dec_uv (more : List UInt8) (y : Nat) : ∀ (i acc : Nat), (i = 0 ∨ 0 < y) → i ≤ 9 → y * 2 ^ (7 * i) < 18446744073709551616 → decFrom i acc (uvarint y ++ more) = (acc + y * 2 ^ (7 * i), i + (uvarint y).length, 0, 0) := by
  induction y using Nat.strongRecOn with
  | ind y ih =>
    intro i acc h0 hi hy
    have hp : 0 < 2 ^ (7 * i) := Nat.two_pow_pos _
    by_cases h : y < 128
    · rw [uvarint_small h]
      have ht : (y.toUInt8).toNat = y := toUInt8_toNat (by omega)
      have hn : ¬ ((i = 9 ∧ 1 < (y.toUInt8).toNat) ∨ (0 < i ∧ (y.toUInt8).toNat = 0)) := by
        rw [ht]
        rintro (⟨rfl, h1⟩ | ⟨h1, h2⟩)
        · have : 2 * 2 ^ (7 * 9) ≤ y * 2 ^ (7 * 9) := Nat.mul_le_mul_right _ h1
          simp at this hy; omega
        · omega
      have := dec_done (acc := acc) (r := more) hn (by omega)
      rw [ht, Nat.mod_eq_of_lt h] at this
      simpa using this
    · rw [uvarint_big (by omega)]
      have ht : ((y % 128 + 128).toUInt8).toNat = y % 128 + 128 := toUInt8_toNat (by omega)
      have hi9 : i ≠ 9 := by
        rintro rfl
        have : 128 * 2 ^ (7 * 9) ≤ y * 2 ^ (7 * 9) := Nat.mul_le_mul_right _ (by omega)
        simp at this hy; omega
      have hn : ¬ ((i = 9 ∧ 1 < ((y % 128 + 128).toUInt8).toNat) ∨ (0 < i ∧ ((y % 128 + 128).toUInt8).toNat = 0)) := by
        rw [ht]; omega
      rw [List.cons_append, dec_more hn (by omega), ht]
      have e128 : 2 ^ (7 * (i + 1)) = 128 * 2 ^ (7 * i) := by rw [show 7 * (i + 1) = 7 + 7 * i by omega, Nat.pow_add]
      have hy2 : y / 128 * 2 ^ (7 * (i + 1)) ≤ y * 2 ^ (7 * i) := by
        rw [e128, ← Nat.mul_assoc]; exact Nat.mul_le_mul_right _ (by omega)
      rw [ih (y / 128) (by omega) (i + 1) _ (Or.inr (by omega)) (by omega) (by omega)]
      have ev : acc + (y % 128 + 128) % 128 * 2 ^ (7 * i) + y / 128 * 2 ^ (7 * (i + 1)) = acc + y * 2 ^ (7 * i) := by
        rw [e128, ← Nat.mul_assoc, Nat.add_assoc, ← Nat.add_mul]
        congr 2
        omega
      rw [ev, List.length_cons]
      congr 2
      omega
/-- What is written is read, whatever stands behind. -/
theorem decU_uv (x : Nat) (hx : x < 18446744073709551616) (more : List UInt8) : decU (uvarint x ++ more) = (x, (uvarint x).length, 0, 0) := by
  have := dec_uv more x 0 0 (Or.inl rfl) (by omega) (by simpa using hx)
  simpa [decU] using this
theorem zig_even {k : Int} (h0 : 0 ≤ k) (h1 : k < 9223372036854775808) : zigzag k % 2 = 0 ∧ zigzag (-k - 1) = zigzag k + 1 ∧ zigzag k + 1 < 18446744073709551616 := by
  unfold zigzag
  rw [if_pos h0, if_neg (by omega)]
  omega
end Go.Proofs.YtmahkhpmaenkhaaDoor
