/- The document's sum, a bit at a time, is the table's, four bits at a time. -/
import Derived.Test.YtahcfanmfocljaaDoorSum
namespace Go.Proofs.YtahcfanmfocljaaDoor
open Go.RowKit Go.Lib

def bit1 (c : Nat) : Nat := if c % 2 = 1 then (c / 2) ^^^ 3988292384 else c / 2
def bitsN (c : Nat) : Nat → Nat
  | 0 => c
  | n + 1 => bit1 (bitsN c n)
theorem bit1_lt {c : Nat} (h : c < 4294967296) : bit1 c < 4294967296 := by
  unfold bit1
  split
  · exact Nat.xor_lt_two_pow (n := 32) (by omega) (by decide)
  · omega
theorem bitsN_lt {c : Nat} (h : c < 4294967296) (n : Nat) : bitsN c n < 4294967296 := by
  induction n with
  | zero => exact h
  | succ n ih => exact bit1_lt ih
def refByte (s : Nat) (c : UInt8) : Nat := bitsN (s ^^^ c.toNat) 8
theorem mod_bit (n : Nat) : n % 2 = (n.testBit 0).toNat := by
  rw [Nat.testBit_zero]
  rcases Nat.mod_two_eq_zero_or_one n with h | h <;> simp [h]
theorem bit1_xor (a b : Nat) : bit1 (a ^^^ b) = bit1 a ^^^ bit1 b := by
  have h1 : (a ^^^ b) / 2 = a / 2 ^^^ b / 2 := Nat.xor_div_two
  have h2 : (a ^^^ b) % 2 = (a % 2 + b % 2) % 2 := by
    rw [mod_bit (a ^^^ b), Nat.testBit_xor, mod_bit a, mod_bit b]; cases a.testBit 0 <;> cases b.testBit 0 <;> rfl
  unfold bit1
  rw [h1, h2]
  rcases Nat.mod_two_eq_zero_or_one a with ha | ha <;> rcases Nat.mod_two_eq_zero_or_one b with hb | hb
  · rw [if_neg (by omega), if_neg (by omega), if_neg (by omega)]
  · rw [if_pos (by omega), if_neg (by omega), if_pos (by omega), Nat.xor_assoc]
  · rw [if_pos (by omega), if_pos (by omega), if_neg (by omega), Nat.xor_assoc, Nat.xor_assoc, Nat.xor_comm 3988292384]
  · rw [if_neg (by omega), if_pos (by omega), if_pos (by omega), Nat.xor_assoc, Nat.xor_comm 3988292384 (b / 2 ^^^ 3988292384), Nat.xor_assoc, Nat.xor_self, Nat.xor_zero]
theorem bitsN_xor (a b n : Nat) : bitsN (a ^^^ b) n = bitsN a n ^^^ bitsN b n := by
  induction n with
  | zero => rfl
  | succ n ih => simp only [bitsN]; rw [ih, bit1_xor]
theorem bit1_even (x : Nat) : bit1 (2 * x) = x := by
  unfold bit1; rw [if_neg (by omega)]; omega
theorem bitsN_add (c m n : Nat) : bitsN c (m + n) = bitsN (bitsN c m) n := by
  induction n with
  | zero => rfl
  | succ n ih => show bit1 (bitsN c (m + n)) = bit1 _; rw [ih]
theorem bits4_16 (q : Nat) : bitsN (16 * q) 4 = q := by
  show bit1 (bit1 (bit1 (bit1 (16 * q)))) = q
  rw [show 16 * q = 2 * (2 * (2 * (2 * q))) by omega, bit1_even, bit1_even, bit1_even, bit1_even]
theorem bits4_tab (r : Nat) (h : r < 16) : bitsN r 4 = tabL.getD r 0 := by
  have : ∀ i : Fin 16, bitsN i.val 4 = tabL.getD i.val 0 := by decide +kernel
  exact this ⟨r, h⟩
theorem bits4_step (s : Nat) : bitsN s 4 = step4 s := by
  have e : s = (16 * (s / 16)) ^^^ (s % 16) := by
    have h := Nat.two_pow_add_eq_or_of_lt (i := 4) (b := s % 16) (by omega) (s / 16)
    have hd : (2 ^ 4 * (s / 16)) &&& (s % 16) = 0 := by
      apply Nat.eq_of_testBit_eq
      intro i
      rw [Nat.testBit_and, Nat.zero_testBit]
      by_cases hi : i < 4
      · rw [Nat.testBit_two_pow_mul]; simp; omega
      · have : (s % 16).testBit i = false := Nat.testBit_lt_two_pow (Nat.lt_of_lt_of_le (by omega : s % 16 < 2 ^ 4) (Nat.pow_le_pow_right (by decide) (by omega)))
        simp [this]
    have hx : (2 ^ 4 * (s / 16)) ^^^ (s % 16) = (2 ^ 4 * (s / 16)) ||| (s % 16) := by
      apply Nat.eq_of_testBit_eq
      intro i
      have hi := congrArg (fun x => x.testBit i) hd
      simp only [Nat.testBit_and, Nat.zero_testBit] at hi
      rw [Nat.testBit_xor, Nat.testBit_or]
      cases h1 : (2 ^ 4 * (s / 16)).testBit i <;> cases h2 : (s % 16).testBit i <;> simp_all
    have e2 : (16 * (s / 16)) ^^^ (s % 16) = 2 ^ 4 * (s / 16) + s % 16 := by
      rw [h]; exact hx
    rw [e2]; omega
  conv => lhs; rw [e]
  rw [bitsN_xor, bits4_16, bits4_tab _ (by omega)]
  rfl
theorem refByte_eq (s : Nat) (c : UInt8) : refByte s c = byteStep s c := by
  unfold refByte byteStep
  rw [show 8 = 4 + 4 from rfl, bitsN_add, bits4_step, bits4_step]
theorem refFold_eq (l : List UInt8) (s : Nat) : l.foldl refByte s = l.foldl byteStep s := by
  induction l generalizing s with
  | nil => rfl
  | cons c r ih => simp only [List.foldl_cons]; rw [refByte_eq]; exact ih _
end Go.Proofs.YtahcfanmfocljaaDoor
