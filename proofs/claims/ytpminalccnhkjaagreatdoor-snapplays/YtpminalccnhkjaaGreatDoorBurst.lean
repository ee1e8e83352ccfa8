/- A sum tells bytes apart that differ within thirty-two bits. -/
import Derived.Test.YtpminalccnhkjaaGreatDoorUnAll
namespace Go.Proofs.YtpminalccnhkjaaGreatDoor
open Go.RowKit Go.Lib

theorem bits8_256 (q : Nat) : bitsN (256 * q) 8 = q := by
  rw [show 8 = 4 + 4 from rfl, bitsN_add, show 256 * q = 16 * (16 * q) by omega, bits4_16, bits4_16]
theorem or_xor {k a q : Nat} (h : a < 2 ^ k) : (2 ^ k * q) ^^^ a = 2 ^ k * q + a := by
  have hd : (2 ^ k * q) &&& a = 0 := by
    apply Nat.eq_of_testBit_eq
    intro i
    rw [Nat.testBit_and, Nat.zero_testBit]
    by_cases hi : i < k
    · rw [Nat.testBit_two_pow_mul]; simp; omega
    · have : a.testBit i = false := Nat.testBit_lt_two_pow (Nat.lt_of_lt_of_le h (Nat.pow_le_pow_right (by decide) (by omega)))
      simp [this]
  have hx : (2 ^ k * q) ^^^ a = (2 ^ k * q) ||| a := by
    apply Nat.eq_of_testBit_eq
    intro i
    have hi := congrArg (fun x => x.testBit i) hd
    simp only [Nat.testBit_and, Nat.zero_testBit] at hi
    rw [Nat.testBit_xor, Nat.testBit_or]
    cases h1 : (2 ^ k * q).testBit i <;> cases h2 : a.testBit i <;> simp_all
  rw [hx, ← Nat.two_pow_add_eq_or_of_lt h]
theorem byte_parts (n : Nat) : (256 * (n / 256)) ^^^ (n % 256) = n := by
  have := or_xor (k := 8) (a := n % 256) (q := n / 256) (by omega)
  have e : (2 : Nat) ^ 8 = 256 := by decide
  rw [e] at this
  rw [this]; omega

/-- Bytes turned at the places of a number's bits, the lowest first. -/
def xorBytes : List UInt8 → Nat → List UInt8
  | [], _ => []
  | c :: r, n => (c ^^^ (n % 256).toUInt8) :: xorBytes r (n / 256)
theorem xorBytes_length : ∀ (l : List UInt8) (n : Nat), (xorBytes l n).length = l.length
  | [], _ => rfl
  | c :: r, n => by simp [xorBytes, xorBytes_length r]
theorem xorBytes_zero : ∀ l : List UInt8, xorBytes l 0 = l
  | [] => rfl
  | c :: r => by simp [xorBytes, xorBytes_zero r]
theorem xorBytes_append : ∀ (l m : List UInt8) (n : Nat), xorBytes (l ++ m) n = xorBytes l n ++ xorBytes m (n / 2 ^ (8 * l.length))
  | [], m, n => by simp [xorBytes]
  | c :: r, m, n => by
    have e : n / 256 / 2 ^ (8 * r.length) = n / 2 ^ (8 * (c :: r).length) := by
      rw [Nat.div_div_eq_div_mul, show (256 : Nat) = 2 ^ 8 by decide, ← Nat.pow_add]
      congr 2
      simp; omega
    simp only [List.cons_append, xorBytes, xorBytes_append r m, e]
theorem fold_turned : ∀ (l : List UInt8) (s d n : Nat),
    (xorBytes l n).foldl refByte (s ^^^ d) ^^^ l.foldl refByte s ^^^ (n / 2 ^ (8 * l.length)) = bitsN (d ^^^ n) (8 * l.length)
  | [], s, d, n => by
    simp only [xorBytes, List.foldl_nil, List.length_nil, Nat.mul_zero, Nat.pow_zero, Nat.div_one, bitsN]
    rw [Nat.xor_comm s d, Nat.xor_assoc d s s, Nat.xor_self, Nat.xor_zero]
  | c :: r, s, d, n => by
    have hb : ((n % 256).toUInt8).toNat = n % 256 := toUInt8_toNat (by omega)
    have e1 : refByte (s ^^^ d) (c ^^^ (n % 256).toUInt8) = refByte s c ^^^ bitsN (d ^^^ (n % 256)) 8 := by
      unfold refByte
      rw [UInt8.toNat_xor, hb, ← bitsN_xor]
      congr 1
      rw [Nat.xor_assoc, Nat.xor_assoc, ← Nat.xor_assoc d, Nat.xor_comm d c.toNat, Nat.xor_assoc c.toNat]
    have e2 : n / 2 ^ (8 * (c :: r).length) = n / 256 / 2 ^ (8 * r.length) := by
      rw [Nat.div_div_eq_div_mul, show (256 : Nat) = 2 ^ 8 by decide, ← Nat.pow_add]
      congr 2
      simp; omega
    have e3 : bitsN (d ^^^ n) (8 * (c :: r).length) = bitsN (bitsN (d ^^^ (n % 256)) 8 ^^^ n / 256) (8 * r.length) := by
      rw [show 8 * (c :: r).length = 8 + 8 * r.length by simp; omega, bitsN_add]
      congr 1
      conv => lhs; rw [← byte_parts n]
      rw [← Nat.xor_assoc, Nat.xor_comm d (256 * (n / 256)), Nat.xor_assoc, bitsN_xor, bits8_256, Nat.xor_comm]
    simp only [xorBytes, List.foldl_cons]
    rw [e1, e2, e3]
    exact fold_turned r (refByte s c) (bitsN (d ^^^ (n % 256)) 8) (n / 256)

theorem bit1_ne {x : Nat} (h : x < 4294967296) (h0 : x ≠ 0) : bit1 x ≠ 0 := by
  unfold bit1
  split
  · intro e
    have hx : x / 2 = 3988292384 := by
      have := congrArg (fun y => y ^^^ 3988292384) e
      simpa [Nat.xor_assoc] using this
    omega
  · omega
theorem bitsN_ne {x : Nat} (h : x < 4294967296) (h0 : x ≠ 0) : ∀ n, bitsN x n ≠ 0
  | 0 => h0
  | n + 1 => bit1_ne (bitsN_lt h n) (bitsN_ne h h0 n)
theorem bitsN_shift (x : Nat) : ∀ n, bitsN (x * 2 ^ n) n = x
  | 0 => by simp [bitsN]
  | n + 1 => by
    rw [show n + 1 = 1 + n by omega, bitsN_add]
    have e : bitsN (x * 2 ^ (1 + n)) 1 = x * 2 ^ n := by
      show bit1 (x * 2 ^ (1 + n)) = _
      rw [show x * 2 ^ (1 + n) = 2 * (x * 2 ^ n) by rw [Nat.pow_add]; simp [Nat.mul_left_comm], bit1_even]
    rw [e]
    exact bitsN_shift x n
theorem burst_ne {x at' m : Nat} (h : x < 4294967296) (h0 : x ≠ 0) : bitsN (x * 2 ^ at') m ≠ 0 := by
  rcases Nat.le_total at' m with hm | hm
  · obtain ⟨k, rfl⟩ := Nat.exists_eq_add_of_le hm
    rw [bitsN_add, bitsN_shift]
    exact bitsN_ne h h0 k
  · obtain ⟨k, rfl⟩ := Nat.exists_eq_add_of_le hm
    rw [show x * 2 ^ (m + k) = x * 2 ^ k * 2 ^ m by rw [Nat.pow_add, Nat.mul_assoc, Nat.mul_comm (2 ^ k)], bitsN_shift]
    intro e
    rcases Nat.mul_eq_zero.1 e with e | e
    · exact h0 e
    · have := Nat.two_pow_pos k; omega

theorem byte_xor (a b i : Nat) : ((a / 2 ^ i % 256).toUInt8) ^^^ ((b / 2 ^ i % 256).toUInt8) = (((a ^^^ b) / 2 ^ i % 256).toUInt8) := by
  apply UInt8.toNat_inj.1
  rw [UInt8.toNat_xor, toUInt8_toNat (by omega), toUInt8_toNat (by omega), toUInt8_toNat (by omega), Nat.xor_div_two_pow, show (256 : Nat) = 2 ^ 8 by decide, Nat.xor_mod_two_pow]
theorem xor_word4 (s t : Nat) : xorBytes (word4 s) t = word4 (s ^^^ t) := by
  have h0 := byte_xor s t 0
  have h1 := byte_xor s t 8
  have h2 := byte_xor s t 16
  have h3 := byte_xor s t 24
  simp only [Nat.pow_zero, Nat.div_one] at h0
  rw [show (2 : Nat) ^ 8 = 256 by decide] at h1
  rw [show (2 : Nat) ^ 16 = 65536 by decide] at h2
  rw [show (2 : Nat) ^ 24 = 16777216 by decide] at h3
  have d2 : t / 256 / 256 = t / 65536 := by omega
  have d3 : t / 65536 / 256 = t / 16777216 := by omega
  simp only [word4, xorBytes, h0, h1, d2, h2, d3, h3]

theorem ones_xor {a b t : Nat} (ha : a < 2 ^ 32) (hb : b < 2 ^ 32) (h : 4294967295 - a = (4294967295 - b) ^^^ t) : a ^^^ b ^^^ t = 0 := by
  have ea := xor_ones32 a ha
  have eb := xor_ones32 b hb
  have e : (2 ^ 32 - 1 : Nat) = 4294967295 := by decide
  rw [e] at ea eb
  rw [← ea, ← eb, Nat.xor_assoc] at h
  have h2 := congrArg (fun y => 4294967295 ^^^ y) h
  simp only [← Nat.xor_assoc, Nat.xor_self, Nat.zero_xor] at h2
  rw [h2]
  rw [Nat.xor_assoc b t b, Nat.xor_comm t b, ← Nat.xor_assoc b b t, Nat.xor_self, Nat.zero_xor, Nat.xor_self]

/-- A frame turned within thirty-two bits of its payload and sum is told. -/
theorem crc_turned (p b : List UInt8) (x at' : Nat) (hx : x < 4294967296) (h0 : x ≠ 0) (hN : x * 2 ^ at' < 2 ^ (8 * (b.length + 4))) :
    crc (p ++ xorBytes b (x * 2 ^ at')) ≠ wdOf (xorBytes (word4 (crc (p ++ b))) (x * 2 ^ at' / 2 ^ (8 * b.length))) := by
  generalize hNn : x * 2 ^ at' = N at *
  have ht : N / 2 ^ (8 * b.length) < 2 ^ 32 := by
    rw [Nat.div_lt_iff_lt_mul (Nat.two_pow_pos _), ← Nat.pow_add]
    rwa [show 32 + 8 * b.length = 8 * (b.length + 4) by omega]
  have hc := crc_lt (p ++ b)
  rw [xor_word4, wd_word4 _ (by have := Nat.xor_lt_two_pow (n := 32) (by omega : crc (p ++ b) < 2 ^ 32) ht; omega)]
  intro e
  unfold crc at e
  rw [← refFold_eq, ← refFold_eq] at e
  simp only [List.foldl_append] at e
  have l1 : (xorBytes b N).foldl refByte (p.foldl refByte 4294967295) < 2 ^ 32 := by
    have := crcs_lt (xorBytes b N) _ (crcs_lt p 4294967295 (by decide)); rw [refFold_eq, refFold_eq]; omega
  have l2 : b.foldl refByte (p.foldl refByte 4294967295) < 2 ^ 32 := by
    have := crcs_lt b _ (crcs_lt p 4294967295 (by decide)); rw [refFold_eq, refFold_eq]; omega
  have hz := ones_xor l1 l2 e
  have hf := fold_turned b (p.foldl refByte 4294967295) 0 N
  rw [Nat.xor_zero, Nat.zero_xor, hz] at hf
  exact burst_ne hx h0 (by rw [hNn]; exact hf.symm)
end Go.Proofs.YtpminalccnhkjaaGreatDoor
namespace Go.Proofs.YtpminalccnhkjaaGreatDoor
open Go.RowKit Go.Lib

theorem xorBytes_get : ∀ (l : List UInt8) (n j : Nat), j < l.length → (xorBytes l n).getD j 0 = l.getD j 0 ^^^ (n / 2 ^ (8 * j) % 256).toUInt8
  | [], n, j, h => by simp at h
  | c :: r, n, 0, h => by simp [xorBytes]
  | c :: r, n, j + 1, h => by
    have ih := xorBytes_get r (n / 256) j (by simpa using h)
    have e : n / 256 / 2 ^ (8 * j) = n / 2 ^ (8 * (j + 1)) := by
      rw [Nat.div_div_eq_div_mul, show (256 : Nat) = 2 ^ 8 by decide, ← Nat.pow_add]
      congr 2; omega
    rw [e] at ih
    simpa [xorBytes] using ih
theorem pow_byte (i j : Nat) : 2 ^ i / 2 ^ (8 * j) % 256 = if j = i / 8 then 2 ^ (i % 8) else 0 := by
  split
  · rename_i h
    subst h
    rw [Nat.pow_div (by omega) (by decide), show i - 8 * (i / 8) = i % 8 by omega]
    have : 2 ^ (i % 8) ≤ 2 ^ 7 := Nat.pow_le_pow_right (by decide) (by omega)
    have e : (2 : Nat) ^ 7 = 128 := by decide
    exact Nat.mod_eq_of_lt (by omega)
  · rename_i h
    rcases Nat.lt_or_ge i (8 * j) with hi | hi
    · rw [Nat.div_eq_of_lt (Nat.pow_lt_pow_right (by decide) hi)]
    · rw [Nat.pow_div hi (by decide)]
      obtain ⟨k, hk⟩ := Nat.exists_eq_add_of_le (show 8 ≤ i - 8 * j by omega)
      rw [hk, Nat.pow_add, show (2 : Nat) ^ 8 = 256 by decide, Nat.mul_mod_right]
/-- A bit more turned. -/
theorem xor_more (l : List UInt8) (n i j : Nat) (hj : j < l.length) :
    (xorBytes l (n ^^^ 2 ^ i)).getD j 0 = if j = i / 8 then (xorBytes l n).getD j 0 ^^^ (2 ^ (i % 8)).toUInt8 else (xorBytes l n).getD j 0 := by
  rw [xorBytes_get l _ j hj, xorBytes_get l n j hj, ← byte_xor, pow_byte]
  split
  · rw [UInt8.xor_assoc]
  · have : (0 : Nat).toUInt8 = 0 := rfl
    rw [this, UInt8.xor_zero]
theorem xorBytes_high : ∀ (l : List UInt8) (q : Nat), xorBytes l (q * 2 ^ (8 * l.length)) = l
  | [], q => rfl
  | c :: r, q => by
    have e : q * 2 ^ (8 * (c :: r).length) = 256 * (q * 2 ^ (8 * r.length)) := by
      rw [show 8 * (c :: r).length = 8 + 8 * r.length by simp; omega, Nat.pow_add, show (2 : Nat) ^ 8 = 256 by decide]
      exact Nat.mul_left_comm _ _ _
    rw [e, xorBytes, Nat.mul_mod_right, Nat.mul_div_cancel_left _ (by decide), xorBytes_high r q]
    simp
theorem wdOf_app (m r : List UInt8) (h : 4 ≤ m.length) : wdOf (m ++ r) = wdOf m := by
  have e : ∀ i, i < 4 → (m ++ r).getD i 0 = m.getD i 0 := by
    intro i hi
    simp [List.getD_eq_getElem?_getD, List.getElem?_append_left (show i < m.length by omega)]
  unfold wdOf
  rw [e 0 (by omega), e 1 (by omega), e 2 (by omega), e 3 (by omega)]
theorem unfr_frame (b more : List UInt8) (hb : b.length ≤ 262144) : unfr (frameBytes b ++ more) = (b, b.length + 8, 0) := by
  have hw : wdOf (frameBytes b ++ more) = b.length := by
    rw [frameBytes, List.append_assoc, List.append_assoc, wdOf_app _ _ (by simp [word4_length]), wd_word4 _ (by omega)]
  have hl : (frameBytes b ++ more).length = b.length + 8 + more.length := by simp [frameBytes, word4_length]; omega
  have ht : (frameBytes b ++ more).take (b.length + 4) = word4 b.length ++ b := by
    rw [frameBytes, List.append_assoc, List.take_append_of_le_length (by simp [word4_length]; omega), List.take_of_length_le (by simp [word4_length]; omega)]
  have hd : (frameBytes b ++ more).drop (b.length + 4) = word4 (crc (word4 b.length ++ b)) ++ more := by
    rw [frameBytes, List.append_assoc]
    have e : b.length + 4 = (word4 b.length ++ b).length := by simp [word4_length]; omega
    rw [e, List.drop_left]
  have h4 : (frameBytes b ++ more).drop 4 = b ++ (word4 (crc (word4 b.length ++ b)) ++ more) := by
    rw [frameBytes, List.append_assoc, List.append_assoc]
    have e : 4 = (word4 b.length).length := rfl
    conv => lhs; rw [e]
    rw [List.drop_left]
  unfold unfr
  rw [hw, ht, hd, wdOf_app _ _ (by simp [word4_length]), wd_word4 _ (crc_lt _), h4, if_neg (by omega), if_neg (by omega), if_neg (by omega), if_pos rfl, List.take_left]
theorem unfr_turned (b : List UInt8) (x at' : Nat) (hb : b.length ≤ 262144) (hx : x < 4294967296) (h0 : x ≠ 0) (hN : x * 2 ^ at' < 2 ^ (8 * (b.length + 4))) : unfr (xorBytes (frameBytes b) (x * 2 ^ (32 + at'))) = ([], 0, 21) := by
  have eN : x * 2 ^ (32 + at') = x * 2 ^ at' * 2 ^ (8 * (word4 b.length).length) := by
    rw [word4_length, Nat.mul_assoc, ← Nat.pow_add]
    congr 2; omega
  have eg : xorBytes (frameBytes b) (x * 2 ^ (32 + at')) = word4 b.length ++ (xorBytes b (x * 2 ^ at') ++ xorBytes (word4 (crc (word4 b.length ++ b))) (x * 2 ^ at' / 2 ^ (8 * b.length))) := by
    rw [frameBytes, List.append_assoc, xorBytes_append, eN, xorBytes_high, Nat.mul_div_cancel _ (Nat.two_pow_pos _), xorBytes_append]
  rw [eg]
  have hne := crc_turned (word4 b.length) b x at' hx h0 hN
  generalize hS : xorBytes (word4 (crc (word4 b.length ++ b))) (x * 2 ^ at' / 2 ^ (8 * b.length)) = S at *
  generalize hB : xorBytes b (x * 2 ^ at') = B at *
  have lS : S.length = 4 := by rw [← hS, xorBytes_length]; rfl
  have lB : B.length = b.length := by rw [← hB, xorBytes_length]
  have hw : wdOf (word4 b.length ++ (B ++ S)) = b.length := by rw [wdOf_app _ _ (by simp [word4_length]), wd_word4 _ (by omega)]
  have ht : (word4 b.length ++ (B ++ S)).take (b.length + 4) = word4 b.length ++ B := by
    rw [← List.append_assoc]
    have e : b.length + 4 = (word4 b.length ++ B).length := by simp [word4_length]; omega
    rw [e, List.take_left]
  have hd : (word4 b.length ++ (B ++ S)).drop (b.length + 4) = S := by
    rw [← List.append_assoc]
    have e : b.length + 4 = (word4 b.length ++ B).length := by simp [word4_length]; omega
    rw [e, List.drop_left]
  have hl : (word4 b.length ++ (B ++ S)).length = b.length + 8 := by simp [word4_length]; omega
  unfold unfr
  rw [hw, ht, hd, hl, if_neg (by omega), if_neg (by omega), if_neg (by omega), if_neg hne]
end Go.Proofs.YtpminalccnhkjaaGreatDoor
