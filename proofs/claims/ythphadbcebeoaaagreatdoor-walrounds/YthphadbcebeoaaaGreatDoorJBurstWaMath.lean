/- A sum tells bytes apart that differ within thirty-two bits. -/
import Derived.Test.YthphadbcebeoaaaGreatDoorUnAll
import Derived.Test.YthphadbcebeoaaaGreatDoorRowMath
namespace Go.Proofs.YthphadbcebeoaaaGreatDoor
open Go.RowKit Go.Lib

theorem bits8_256 (q : Nat) : bitsN (256 * q) 8 = q := by
  rw [show 8 = 4 + 4 from rfl, bitsN_add, show 256 * q = 16 * (16 * q) by omega, bits4_16, bits4_16]
theorem or_xor {k a q : Nat} (h : a < 2 ^ k) : (2 ^ k * q) ^^^ a = 2 ^ k * q + a := by
  have hd : (2 ^ k * q) &&& a = 0 := by
    apply Nat.eq_of_testBit_eq
    intro i
    rw [Nat.testBit_and, Nat.zero_testBit]
    by_cases hi : i < k
    · rw [Nat.testBit_two_pow_mul]; simp; omega
    · have : a.testBit i = false := Nat.testBit_lt_two_pow (Nat.lt_of_lt_of_le h (Nat.pow_le_pow_right (by decide) (by omega)))
      simp [this]
  have hx : (2 ^ k * q) ^^^ a = (2 ^ k * q) ||| a := by
    apply Nat.eq_of_testBit_eq
    intro i
    have hi := congrArg (fun x => x.testBit i) hd
    simp only [Nat.testBit_and, Nat.zero_testBit] at hi
    rw [Nat.testBit_xor, Nat.testBit_or]
    cases h1 : (2 ^ k * q).testBit i <;> cases h2 : a.testBit i <;> simp_all
  rw [hx, ← Nat.two_pow_add_eq_or_of_lt h]
theorem byte_parts (n : Nat) : (256 * (n / 256)) ^^^ (n % 256) = n := by
  have := or_xor (k := 8) (a := n % 256) (q := n / 256) (by omega)
  have e : (2 : Nat) ^ 8 = 256 := by decide
  rw [e] at this
  rw [this]; omega

/-- Bytes turned at the places of a number's bits, the lowest first. -/
def xorBytes : List UInt8 → Nat → List UInt8
  | [], _ => []
  | c :: r, n => (c ^^^ (n % 256).toUInt8) :: xorBytes r (n / 256)
theorem xorBytes_length : ∀ (l : List UInt8) (n : Nat), (xorBytes l n).length = l.length
  | [], _ => rfl
  | c :: r, n => by simp [xorBytes, xorBytes_length r]
theorem xorBytes_zero : ∀ l : List UInt8, xorBytes l 0 = l
  | [] => rfl
  | c :: r => by simp [xorBytes, xorBytes_zero r]
theorem xorBytes_append : ∀ (l m : List UInt8) (n : Nat), xorBytes (l ++ m) n = xorBytes l n ++ xorBytes m (n / 2 ^ (8 * l.length))
  | [], m, n => by simp [xorBytes]
  | c :: r, m, n => by
    have e : n / 256 / 2 ^ (8 * r.length) = n / 2 ^ (8 * (c :: r).length) := by
      rw [Nat.div_div_eq_div_mul, show (256 : Nat) = 2 ^ 8 by decide, ← Nat.pow_add]
      congr 2
      simp; omega
    simp only [List.cons_append, xorBytes, xorBytes_append r m, e]
theorem fold_turned : ∀ (l : List UInt8) (s d n : Nat),
    (xorBytes l n).foldl refByte (s ^^^ d) ^^^ l.foldl refByte s ^^^ (n / 2 ^ (8 * l.length)) = bitsN (d ^^^ n) (8 * l.length)
  | [], s, d, n => by
    simp only [xorBytes, List.foldl_nil, List.length_nil, Nat.mul_zero, Nat.pow_zero, Nat.div_one, bitsN]
    rw [Nat.xor_comm s d, Nat.xor_assoc d s s, Nat.xor_self, Nat.xor_zero]
  | c :: r, s, d, n => by
    have hb : ((n % 256).toUInt8).toNat = n % 256 := toUInt8_toNat (by omega)
    have e1 : refByte (s ^^^ d) (c ^^^ (n % 256).toUInt8) = refByte s c ^^^ bitsN (d ^^^ (n % 256)) 8 := by
      unfold refByte
      rw [UInt8.toNat_xor, hb, ← bitsN_xor]
      congr 1
      rw [Nat.xor_assoc, Nat.xor_assoc, ← Nat.xor_assoc d, Nat.xor_comm d c.toNat, Nat.xor_assoc c.toNat]
    have e2 : n / 2 ^ (8 * (c :: r).length) = n / 256 / 2 ^ (8 * r.length) := by
      rw [Nat.div_div_eq_div_mul, show (256 : Nat) = 2 ^ 8 by decide, ← Nat.pow_add]
      congr 2
      simp; omega
    have e3 : bitsN (d ^^^ n) (8 * (c :: r).length) = bitsN (bitsN (d ^^^ (n % 256)) 8 ^^^ n / 256) (8 * r.length) := by
      rw [show 8 * (c :: r).length = 8 + 8 * r.length by simp; omega, bitsN_add]
      congr 1
      conv => lhs; rw [← byte_parts n]
      rw [← Nat.xor_assoc, Nat.xor_comm d (256 * (n / 256)), Nat.xor_assoc, bitsN_xor, bits8_256, Nat.xor_comm]
    simp only [xorBytes, List.foldl_cons]
    rw [e1, e2, e3]
    exact fold_turned r (refByte s c) (bitsN (d ^^^ (n % 256)) 8) (n / 256)

theorem bit1_ne {x : Nat} (h : x < 4294967296) (h0 : x ≠ 0) : bit1 x ≠ 0 := by
  unfold bit1
  split
  · intro e
    have hx : x / 2 = 3988292384 := by
      have := congrArg (fun y => y ^^^ 3988292384) e
      simpa [Nat.xor_assoc] using this
    omega
  · omega
theorem bitsN_ne {x : Nat} (h : x < 4294967296) (h0 : x ≠ 0) : ∀ n, bitsN x n ≠ 0
  | 0 => h0
  | n + 1 => bit1_ne (bitsN_lt h n) (bitsN_ne h h0 n)
theorem bitsN_shift (x : Nat) : ∀ n, bitsN (x * 2 ^ n) n = x
  | 0 => by simp [bitsN]
  | n + 1 => by
    rw [show n + 1 = 1 + n by omega, bitsN_add]
    have e : bitsN (x * 2 ^ (1 + n)) 1 = x * 2 ^ n := by
      show bit1 (x * 2 ^ (1 + n)) = _
      rw [show x * 2 ^ (1 + n) = 2 * (x * 2 ^ n) by rw [Nat.pow_add]; simp [Nat.mul_left_comm], bit1_even]
    rw [e]
    exact bitsN_shift x n
theorem burst_ne {x at' m : Nat} (h : x < 4294967296) (h0 : x ≠ 0) : bitsN (x * 2 ^ at') m ≠ 0 := by
  rcases Nat.le_total at' m with hm | hm
  · obtain ⟨k, rfl⟩ := Nat.exists_eq_add_of_le hm
    rw [bitsN_add, bitsN_shift]
    exact bitsN_ne h h0 k
  · obtain ⟨k, rfl⟩ := Nat.exists_eq_add_of_le hm
    rw [show x * 2 ^ (m + k) = x * 2 ^ k * 2 ^ m by rw [Nat.pow_add, Nat.mul_assoc, Nat.mul_comm (2 ^ k)], bitsN_shift]
    intro e
    rcases Nat.mul_eq_zero.1 e with e | e
    · exact h0 e
    · have := Nat.two_pow_pos k; omega

theorem byte_xor (a b i : Nat) : ((a / 2 ^ i % 256).toUInt8) ^^^ ((b / 2 ^ i % 256).toUInt8) = (((a ^^^ b) / 2 ^ i % 256).toUInt8) := by
  apply UInt8.toNat_inj.1
  rw [UInt8.toNat_xor, toUInt8_toNat (by omega), toUInt8_toNat (by omega), toUInt8_toNat (by omega), Nat.xor_div_two_pow, show (256 : Nat) = 2 ^ 8 by decide, Nat.xor_mod_two_pow]
theorem xor_word4 (s t : Nat) : xorBytes (word4 s) t = word4 (s ^^^ t) := by
  have h0 := byte_xor s t 0
  have h1 := byte_xor s t 8
  have h2 := byte_xor s t 16
  have h3 := byte_xor s t 24
  simp only [Nat.pow_zero, Nat.div_one] at h0
  rw [show (2 : Nat) ^ 8 = 256 by decide] at h1
  rw [show (2 : Nat) ^ 16 = 65536 by decide] at h2
  rw [show (2 : Nat) ^ 24 = 16777216 by decide] at h3
  have d2 : t / 256 / 256 = t / 65536 := by omega
  have d3 : t / 65536 / 256 = t / 16777216 := by omega
  simp only [word4, xorBytes, h0, h1, d2, h2, d3, h3]

theorem ones_xor {a b t : Nat} (ha : a < 2 ^ 32) (hb : b < 2 ^ 32) (h : 4294967295 - a = (4294967295 - b) ^^^ t) : a ^^^ b ^^^ t = 0 := by
  have ea := xor_ones32 a ha
  have eb := xor_ones32 b hb
  have e : (2 ^ 32 - 1 : Nat) = 4294967295 := by decide
  rw [e] at ea eb
  rw [← ea, ← eb, Nat.xor_assoc] at h
  have h2 := congrArg (fun y => 4294967295 ^^^ y) h
  simp only [← Nat.xor_assoc, Nat.xor_self, Nat.zero_xor] at h2
  rw [h2]
  rw [Nat.xor_assoc b t b, Nat.xor_comm t b, ← Nat.xor_assoc b b t, Nat.xor_self, Nat.zero_xor, Nat.xor_self]

/-- A frame turned within thirty-two bits of its payload and sum is told. -/
theorem crc_turned (p b : List UInt8) (x at' : Nat) (hx : x < 4294967296) (h0 : x ≠ 0) (hN : x * 2 ^ at' < 2 ^ (8 * (b.length + 4))) :
    crc (p ++ xorBytes b (x * 2 ^ at')) ≠ wdOf (xorBytes (word4 (crc (p ++ b))) (x * 2 ^ at' / 2 ^ (8 * b.length))) := by
  generalize hNn : x * 2 ^ at' = N at *
  have ht : N / 2 ^ (8 * b.length) < 2 ^ 32 := by
    rw [Nat.div_lt_iff_lt_mul (Nat.two_pow_pos _), ← Nat.pow_add]
    rwa [show 32 + 8 * b.length = 8 * (b.length + 4) by omega]
  have hc := crc_lt (p ++ b)
  rw [xor_word4, wd_word4 _ (by have := Nat.xor_lt_two_pow (n := 32) (by omega : crc (p ++ b) < 2 ^ 32) ht; omega)]
  intro e
  unfold crc at e
  rw [← refFold_eq, ← refFold_eq] at e
  simp only [List.foldl_append] at e
  have l1 : (xorBytes b N).foldl refByte (p.foldl refByte 4294967295) < 2 ^ 32 := by
    have := crcs_lt (xorBytes b N) _ (crcs_lt p 4294967295 (by decide)); rw [refFold_eq, refFold_eq]; omega
  have l2 : b.foldl refByte (p.foldl refByte 4294967295) < 2 ^ 32 := by
    have := crcs_lt b _ (crcs_lt p 4294967295 (by decide)); rw [refFold_eq, refFold_eq]; omega
  have hz := ones_xor l1 l2 e
  have hf := fold_turned b (p.foldl refByte 4294967295) 0 N
  rw [Nat.xor_zero, Nat.zero_xor, hz] at hf
  exact burst_ne hx h0 (by rw [hNn]; exact hf.symm)
end Go.Proofs.YthphadbcebeoaaaGreatDoor
namespace Go.Proofs.YthphadbcebeoaaaGreatDoor
open Go.RowKit Go.Lib

theorem xorBytes_get : ∀ (l : List UInt8) (n j : Nat), j < l.length → (xorBytes l n).getD j 0 = l.getD j 0 ^^^ (n / 2 ^ (8 * j) % 256).toUInt8
  | [], n, j, h => by simp at h
  | c :: r, n, 0, h => by simp [xorBytes]
  | c :: r, n, j + 1, h => by
    have ih := xorBytes_get r (n / 256) j (by simpa using h)
    have e : n / 256 / 2 ^ (8 * j) = n / 2 ^ (8 * (j + 1)) := by
      rw [Nat.div_div_eq_div_mul, show (256 : Nat) = 2 ^ 8 by decide, ← Nat.pow_add]
      congr 2; omega
    rw [e] at ih
    simpa [xorBytes] using ih
theorem pow_byte (i j : Nat) : 2 ^ i / 2 ^ (8 * j) % 256 = if j = i / 8 then 2 ^ (i % 8) else 0 := by
  split
  · rename_i h
    subst h
    rw [Nat.pow_div (by omega) (by decide), show i - 8 * (i / 8) = i % 8 by omega]
    have : 2 ^ (i % 8) ≤ 2 ^ 7 := Nat.pow_le_pow_right (by decide) (by omega)
    have e : (2 : Nat) ^ 7 = 128 := by decide
    exact Nat.mod_eq_of_lt (by omega)
  · rename_i h
    rcases Nat.lt_or_ge i (8 * j) with hi | hi
    · rw [Nat.div_eq_of_lt (Nat.pow_lt_pow_right (by decide) hi)]
    · rw [Nat.pow_div hi (by decide)]
      obtain ⟨k, hk⟩ := Nat.exists_eq_add_of_le (show 8 ≤ i - 8 * j by omega)
      rw [hk, Nat.pow_add, show (2 : Nat) ^ 8 = 256 by decide, Nat.mul_mod_right]
/-- A bit more turned. -/
theorem xor_more (l : List UInt8) (n i j : Nat) (hj : j < l.length) :
    (xorBytes l (n ^^^ 2 ^ i)).getD j 0 = if j = i / 8 then (xorBytes l n).getD j 0 ^^^ (2 ^ (i % 8)).toUInt8 else (xorBytes l n).getD j 0 := by
  rw [xorBytes_get l _ j hj, xorBytes_get l n j hj, ← byte_xor, pow_byte]
  split
  · rw [UInt8.xor_assoc]
  · have : (0 : Nat).toUInt8 = 0 := rfl
    rw [this, UInt8.xor_zero]
theorem xorBytes_high : ∀ (l : List UInt8) (q : Nat), xorBytes l (q * 2 ^ (8 * l.length)) = l
  | [], q => rfl
  | c :: r, q => by
    have e : q * 2 ^ (8 * (c :: r).length) = 256 * (q * 2 ^ (8 * r.length)) := by
      rw [show 8 * (c :: r).length = 8 + 8 * r.length by simp; omega, Nat.pow_add, show (2 : Nat) ^ 8 = 256 by decide]
      exact Nat.mul_left_comm _ _ _
    rw [e, xorBytes, Nat.mul_mod_right, Nat.mul_div_cancel_left _ (by decide), xorBytes_high r q]
    simp
theorem wdOf_app (m r : List UInt8) (h : 4 ≤ m.length) : wdOf (m ++ r) = wdOf m := by
  have e : ∀ i, i < 4 → (m ++ r).getD i 0 = m.getD i 0 := by
    intro i hi
    simp [List.getD_eq_getElem?_getD, List.getElem?_append_left (show i < m.length by omega)]
  unfold wdOf
  rw [e 0 (by omega), e 1 (by omega), e 2 (by omega), e 3 (by omega)]
theorem unfr_frame (b more : List UInt8) (hb : b.length ≤ 262144) : unfr (frameBytes b ++ more) = (b, b.length + 8, 0) := by
  have hw : wdOf (frameBytes b ++ more) = b.length := by
    rw [frameBytes, List.append_assoc, List.append_assoc, wdOf_app _ _ (by simp [word4_length]), wd_word4 _ (by omega)]
  have hl : (frameBytes b ++ more).length = b.length + 8 + more.length := by simp [frameBytes, word4_length]; omega
  have ht : (frameBytes b ++ more).take (b.length + 4) = word4 b.length ++ b := by
    rw [frameBytes, List.append_assoc, List.take_append_of_le_length (by simp [word4_length]; omega), List.take_of_length_le (by simp [word4_length]; omega)]
  have hd : (frameBytes b ++ more).drop (b.length + 4) = word4 (crc (word4 b.length ++ b)) ++ more := by
    rw [frameBytes, List.append_assoc]
    have e : b.length + 4 = (word4 b.length ++ b).length := by simp [word4_length]; omega
    rw [e, List.drop_left]
  have h4 : (frameBytes b ++ more).drop 4 = b ++ (word4 (crc (word4 b.length ++ b)) ++ more) := by
    rw [frameBytes, List.append_assoc, List.append_assoc]
    have e : 4 = (word4 b.length).length := rfl
    conv => lhs; rw [e]
    rw [List.drop_left]
  unfold unfr
  rw [hw, ht, hd, wdOf_app _ _ (by simp [word4_length]), wd_word4 _ (crc_lt _), h4, if_neg (by omega), if_neg (by omega), if_neg (by omega), if_pos rfl, List.take_left]
theorem unfr_turned (b : List UInt8) (x at' : Nat) (hb : b.length ≤ 262144) (hx : x < 4294967296) (h0 : x ≠ 0) (hN : x * 2 ^ at' < 2 ^ (8 * (b.length + 4))) : unfr (xorBytes (frameBytes b) (x * 2 ^ (32 + at'))) = ([], 0, 21) := by
  have eN : x * 2 ^ (32 + at') = x * 2 ^ at' * 2 ^ (8 * (word4 b.length).length) := by
    rw [word4_length, Nat.mul_assoc, ← Nat.pow_add]
    congr 2; omega
  have eg : xorBytes (frameBytes b) (x * 2 ^ (32 + at')) = word4 b.length ++ (xorBytes b (x * 2 ^ at') ++ xorBytes (word4 (crc (word4 b.length ++ b))) (x * 2 ^ at' / 2 ^ (8 * b.length))) := by
    rw [frameBytes, List.append_assoc, xorBytes_append, eN, xorBytes_high, Nat.mul_div_cancel _ (Nat.two_pow_pos _), xorBytes_append]
  rw [eg]
  have hne := crc_turned (word4 b.length) b x at' hx h0 hN
  generalize hS : xorBytes (word4 (crc (word4 b.length ++ b))) (x * 2 ^ at' / 2 ^ (8 * b.length)) = S at *
  generalize hB : xorBytes b (x * 2 ^ at') = B at *
  have lS : S.length = 4 := by rw [← hS, xorBytes_length]; rfl
  have lB : B.length = b.length := by rw [← hB, xorBytes_length]
  have hw : wdOf (word4 b.length ++ (B ++ S)) = b.length := by rw [wdOf_app _ _ (by simp [word4_length]), wd_word4 _ (by omega)]
  have ht : (word4 b.length ++ (B ++ S)).take (b.length + 4) = word4 b.length ++ B := by
    rw [← List.append_assoc]
    have e : b.length + 4 = (word4 b.length ++ B).length := by simp [word4_length]; omega
    rw [e, List.take_left]
  have hd : (word4 b.length ++ (B ++ S)).drop (b.length + 4) = S := by
    rw [← List.append_assoc]
    have e : b.length + 4 = (word4 b.length ++ B).length := by simp [word4_length]; omega
    rw [e, List.drop_left]
  have hl : (word4 b.length ++ (B ++ S)).length = b.length + 8 := by simp [word4_length]; omega
  unfold unfr
  rw [hw, ht, hd, hl, if_neg (by omega), if_neg (by omega), if_neg (by omega), if_neg hne]
end Go.Proofs.YthphadbcebeoaaaGreatDoor
/- The wal's records on byte lists: what a record's bytes are, what it does to a state; bytes that are cut off. -/
namespace Go.Proofs.YthphadbcebeoaaaGreatDoor
open Go.RowKit Go.Lib

/-- A record: of kind 1 (hard), 2 (drop), 3 (cut), 4 (an entry). -/
structure Rc where
  kind : Nat
  term : Nat
  place : Nat
  ent : GE
def Rc.body (r : Rc) : List UInt8 := if r.kind = 3 then uvarint r.place else if r.kind = 4 then r.ent.bytes else uvarint r.term ++ uvarint r.place
def Rc.pay (r : Rc) : List UInt8 := UInt8.ofNat r.kind :: r.body
def Rc.bytes (r : Rc) : List UInt8 := frameBytes r.pay
/-- It has only what its kind has, and each in its bounds. -/
def Rc.ok (r : Rc) : Prop :=
  1 ≤ r.kind ∧ r.kind ≤ 4 ∧ r.term < 18446744073709551616 ∧ r.place < 18446744073709551616 ∧ r.ent.ok ∧ (r.kind = 4 → r.ent.may = true ∧ r.term = 0 ∧ r.place = 0) ∧ (r.kind = 3 → r.term = 0) ∧ (r.kind ≠ 4 → r.ent = zE)
def rcH (t v : Nat) : Rc := ⟨1, t, v, zE⟩
def rcD (i t : Nat) : Rc := ⟨2, t, i, zE⟩
def rcC (i : Nat) : Rc := ⟨3, 0, i, zE⟩
def rcE (g : GE) : Rc := ⟨4, 0, 0, g⟩
theorem zE_ok : zE.ok := ⟨by decide, by decide, by decide, by decide⟩
theorem rcH_ok {t v : Nat} (ht : t < 18446744073709551616) (hv : v < 18446744073709551616) : (rcH t v).ok := ⟨by simp [rcH], by simp [rcH], ht, hv, zE_ok, fun h => by simp [rcH] at h, fun h => by simp [rcH] at h, fun _ => rfl⟩
theorem rcD_ok {i t : Nat} (hi : i < 18446744073709551616) (ht : t < 18446744073709551616) : (rcD i t).ok := ⟨by simp [rcD], by simp [rcD], ht, hi, zE_ok, fun h => by simp [rcD] at h, fun h => by simp [rcD] at h, fun _ => rfl⟩
theorem rcC_ok {i : Nat} (hi : i < 18446744073709551616) : (rcC i).ok := ⟨by simp [rcC], by simp [rcC], by simp [rcC], hi, zE_ok, fun h => by simp [rcC] at h, fun _ => rfl, fun _ => rfl⟩
theorem rcE_ok {g : GE} (hg : g.ok) (hm : g.may = true) : (rcE g).ok := ⟨by simp [rcE], by simp [rcE], by simp [rcE], by simp [rcE], hg, fun _ => ⟨hm, rfl, rfl⟩, fun h => by simp [rcE] at h, fun h => absurd rfl h⟩
theorem Rc.pay_len {r : Rc} (h : r.ok) : r.pay.length ≤ 100001 := by
  obtain ⟨_, _, h1, h2, h3, h4, _, _⟩ := h
  have e1 := uvarint_length64 h1
  have e2 := uvarint_length64 h2
  unfold Rc.pay Rc.body
  split
  · simp; omega
  · split
    · rename_i h5
      have := ge_bytes_len h3 (h4 h5).1
      simp; omega
    · simp; omega
theorem Rc.pay_pos (r : Rc) : 0 < r.pay.length := by simp [Rc.pay]
theorem Rc.len (r : Rc) : r.bytes.length = r.pay.length + 8 := by simp [Rc.bytes, frameBytes, word4_length]; omega
theorem unfr_rc {r : Rc} (h : r.ok) (more : List UInt8) : unfr (r.bytes ++ more) = (r.pay, r.bytes.length, 0) := by
  have := r.pay_len h
  rw [r.len]
  exact unfr_frame _ _ (by omega)
/-- A proper beginning of a frame is short. -/
theorem unfr_cut (b : List UInt8) (c : Nat) (hb : b.length ≤ 262144) (hc : c < b.length + 8) : unfr ((frameBytes b).take c) = ([], 0, 22) := by
  have hl : (frameBytes b).length = b.length + 8 := by simp [frameBytes, word4_length]; omega
  have hl2 : ((frameBytes b).take c).length = c := by rw [List.length_take, hl]; omega
  by_cases h4 : c < 4
  · unfold unfr; rw [hl2, if_pos h4]
  · have hw : wdOf ((frameBytes b).take c) = b.length := by
      rw [wdOf_take _ _ (by omega), frameBytes, List.append_assoc, wdOf_app _ _ (by simp [word4_length]), wd_word4 _ (by omega)]
    unfold unfr
    rw [hl2, hw, if_neg h4, if_neg (by omega), if_pos (by omega)]

/-- What a wal tells. (The vote with one added.) -/
structure Sta where
  term : Nat
  vote : Nat
  base : Nat
  bt : Nat
  es : List GE
def sta0 : Sta := ⟨0, 0, 0, 0, []⟩
def Sta.ok (s : Sta) : Prop := s.term < 18446744073709551616 ∧ s.vote ≤ 1001 ∧ s.base ≤ 4611686018427387904 ∧ s.bt < 18446744073709551616 ∧ s.es.length ≤ 1000000 ∧ ∀ g ∈ s.es, g.ok ∧ g.may = true
/-- The class of a refusal, or the state behind it. -/
def takeS (s : Sta) (r : Rc) : Except Nat Sta :=
  if r.kind = 1 then (if 1001 < r.place then .error 20 else .ok ⟨r.term, r.place, s.base, s.bt, s.es⟩)
  else if r.kind = 2 then (if r.place < s.base ∨ 4611686018427387904 < r.place then .error 40 else .ok ⟨s.term, s.vote, r.place, r.term, s.es.drop (r.place - s.base)⟩)
  else if r.kind = 3 then (if r.place ≤ s.base ∨ s.base + s.es.length + 1 < r.place then .error 40 else .ok ⟨s.term, s.vote, s.base, s.bt, s.es.take (r.place - s.base - 1)⟩)
  else .ok ⟨s.term, s.vote, s.base, s.bt, s.es ++ [r.ent]⟩
def runS : Sta → List Rc → Except Nat Sta
  | s, [] => .ok s
  | s, r :: rs => match takeS s r with
    | .ok s' => runS s' rs
    | .error c => .error c
theorem runS_app {s s' : Sta} : ∀ {rs qs : List Rc}, runS s rs = .ok s' → runS s (rs ++ qs) = runS s' qs := by
  intro rs
  induction rs generalizing s with
  | nil => intro qs h; cases h; rfl
  | cons r rs ih =>
    intro qs h
    simp only [runS, List.cons_append] at h ⊢
    cases hk : takeS s r with
    | ok s1 => rw [hk] at h; exact ih h
    | error c => rw [hk] at h; cases h
theorem runS_part {s s' : Sta} : ∀ {rs qs : List Rc}, runS s (rs ++ qs) = .ok s' → ∃ s1, runS s rs = .ok s1 ∧ runS s1 qs = .ok s' := by
  intro rs
  induction rs generalizing s with
  | nil => intro qs h; exact ⟨s, rfl, h⟩
  | cons r rs ih =>
    intro qs h
    simp only [runS, List.cons_append] at h ⊢
    cases hk : takeS s r with
    | ok s1 => rw [hk] at h; exact ih h
    | error c => rw [hk] at h; cases h
theorem takeS_ok {s s' : Sta} {r : Rc} (hs : s.ok) (hr : r.ok) (hn : s.es.length + 1 ≤ 1000000) (h : takeS s r = .ok s') : s'.ok := by
  obtain ⟨h1, h2, h3, h4, h5, h6⟩ := hs
  obtain ⟨q1, q2, q3, q4, q5, q6, q7, q8⟩ := hr
  unfold takeS at h
  split at h
  · split at h
    · cases h
    · cases h; exact ⟨q3, by dsimp only; omega, h3, h4, h5, h6⟩
  · split at h
    · split at h
      · cases h
      · cases h; exact ⟨h1, h2, by dsimp only; omega, q3, by simp; omega, fun g hg => h6 g (List.mem_of_mem_drop hg)⟩
    · split at h
      · split at h
        · cases h
        · cases h; exact ⟨h1, h2, h3, h4, by simp; omega, fun g hg => h6 g (List.mem_of_mem_take hg)⟩
      · cases h
        refine ⟨h1, h2, h3, h4, by simp; omega, fun g hg => ?_⟩
        rcases List.mem_append.1 hg with h' | h'
        · exact h6 g h'
        · rw [List.mem_singleton.1 h']; exact ⟨q5, (q6 (by omega)).1⟩
theorem takeS_len {s s' : Sta} {r : Rc} (h : takeS s r = .ok s') : s'.es.length ≤ s.es.length + 1 := by
  unfold takeS at h
  split at h
  · split at h
    · cases h
    · cases h; simp
  · split at h
    · split at h
      · cases h
      · cases h; simp; omega
    · split at h
      · split at h
        · cases h
        · cases h; simp; omega
      · cases h; simp
theorem runS_ok : ∀ {rs : List Rc} {s s' : Sta}, s.ok → (∀ r ∈ rs, r.ok) → s.es.length + rs.length ≤ 1000000 → runS s rs = .ok s' → s'.ok ∧ s'.es.length ≤ s.es.length + rs.length
  | [], s, s', hs, _, _, h => by cases h; exact ⟨hs, by simp⟩
  | r :: rs, s, s', hs, hr, hn, h => by
    simp only [runS] at h
    simp only [List.length_cons] at hn
    cases hk : takeS s r with
    | ok s1 =>
      rw [hk] at h
      have h1 := takeS_len hk
      have := runS_ok (takeS_ok hs (hr r (List.mem_cons_self ..)) (by omega) hk) (fun q hq => hr q (List.mem_cons_of_mem _ hq)) (by omega) h
      exact ⟨this.1, by simp only [List.length_cons]; omega⟩
    | error c => rw [hk] at h; cases h

/-- The bytes of records, one behind the other. -/
def recsB (rs : List Rc) : List UInt8 := (rs.map Rc.bytes).flatten
theorem recsB_nil : recsB [] = [] := rfl
theorem recsB_cons (r : Rc) (rs : List Rc) : recsB (r :: rs) = r.bytes ++ recsB rs := by simp [recsB]
theorem recsB_app (rs qs : List Rc) : recsB (rs ++ qs) = recsB rs ++ recsB qs := by simp [recsB]
/-- Bytes of which a fall left a beginning are some records whole, then a proper beginning of the next. -/
theorem recs_cut : ∀ (rs : List Rc) (c : Nat), c ≤ (recsB rs).length → ∃ (k : Nat) (t : List UInt8), k ≤ rs.length ∧ (recsB rs).take c = recsB (rs.take k) ++ t ∧ (t = [] ∨ ∃ r d, rs[k]? = some r ∧ 0 < d ∧ d < r.bytes.length ∧ t = r.bytes.take d)
  | [], c, _ => ⟨0, [], Nat.le_refl _, by simp [recsB], .inl rfl⟩
  | r :: rs, c, hc => by
    rw [recsB_cons] at hc ⊢
    rw [List.length_append] at hc
    by_cases h : c < r.bytes.length
    · by_cases h0 : c = 0
      · subst h0; exact ⟨0, [], Nat.zero_le _, by simp [recsB], .inl rfl⟩
      · exact ⟨0, r.bytes.take c, Nat.zero_le _, by rw [List.take_append_of_le_length (by omega)]; simp [recsB], .inr ⟨r, c, rfl, by omega, h, rfl⟩⟩
    · obtain ⟨k, t, h1, h2, h3⟩ := recs_cut rs (c - r.bytes.length) (by omega)
      refine ⟨k + 1, t, by simp; omega, ?_, ?_⟩
      · rw [List.take_append, List.take_of_length_le (by omega), h2, List.take_succ_cons, recsB_cons, List.append_assoc]
      · simpa using h3
theorem recsB_len (rs : List Rc) (j : Nat) (r : Rc) (h : rs[j]? = some r) : (recsB (rs.take (j + 1))).length = (recsB (rs.take j)).length + r.bytes.length := by
  rw [List.take_add_one, h, recsB_app]; simp [recsB]
theorem recsB_at (rs : List Rc) (t : List UInt8) (j : Nat) (r : Rc) (h : rs[j]? = some r) : (recsB rs ++ t).drop (recsB (rs.take j)).length = r.bytes ++ (recsB (rs.drop (j + 1)) ++ t) := by
  have hj : j < rs.length := (List.getElem?_eq_some_iff.1 h).1
  have e : rs = rs.take j ++ r :: rs.drop (j + 1) := by
    conv => lhs; rw [← List.take_append_drop j rs]
    rw [List.drop_eq_getElem_cons hj, (List.getElem?_eq_some_iff.1 h).2]
  have e2 : recsB rs = recsB (rs.take j) ++ (r.bytes ++ recsB (rs.drop (j + 1))) := by
    conv => lhs; rw [e]
    rw [recsB_app, recsB_cons]
  rw [e2, List.append_assoc, List.append_assoc, List.drop_left]
theorem runS_step {s : Sta} {rs : List Rc} {s' : Sta} (h : runS s rs = .ok s') {j : Nat} {r : Rc} (hr : rs[j]? = some r) : ∃ s1 s2, runS s (rs.take j) = .ok s1 ∧ takeS s1 r = .ok s2 ∧ runS s (rs.take (j + 1)) = .ok s2 := by
  have e : rs = rs.take (j + 1) ++ rs.drop (j + 1) := (List.take_append_drop _ _).symm
  rw [e] at h
  obtain ⟨s2, h1, _⟩ := runS_part h
  have h1' := h1
  rw [List.take_add_one, hr] at h1
  obtain ⟨s1, h2, h3⟩ := runS_part h1
  simp only [Option.toList, runS] at h3
  cases hk : takeS s1 r with
  | ok s3 => rw [hk] at h3; cases h3; exact ⟨s1, s2, h2, hk, h1'⟩
  | error c => rw [hk] at h3; cases h3
end Go.Proofs.YthphadbcebeoaaaGreatDoor
