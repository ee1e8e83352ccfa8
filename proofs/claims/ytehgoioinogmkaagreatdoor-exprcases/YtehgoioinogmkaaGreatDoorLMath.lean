/- The tokens of a statement on lists of bytes, without the program: they serve the proofs about package lex. -/
import Derived.WalkKit
import Derived.Lib.Strings
import Derived.Lib.Case
namespace Go.Proofs.YtehgoioinogmkaaGreatDoor
open Go.RowKit Go.Lib

/-- Kinds of bytes: 0 nothing, 1 blank, 2 letter, 3 digit, 4 quote, 5 minus, 6 sign. -/
def kdN (n : Nat) : Nat :=
  if (97 ≤ n ∧ n ≤ 122) ∨ (65 ≤ n ∧ n ≤ 90) ∨ n = 95 then 2 else if 48 ≤ n ∧ n ≤ 57 then 3
  else if n = 32 ∨ n = 9 ∨ n = 10 ∨ n = 13 then 1 else if n = 39 then 4 else if n = 45 then 5
  else if n = 40 ∨ n = 41 ∨ n = 44 ∨ n = 59 ∨ n = 46 ∨ n = 42 ∨ n = 43 ∨ n = 47 ∨ n = 37 ∨ n = 61 ∨ n = 60 ∨ n = 62 ∨ n = 124 then 6 else 0
def kd (c : UInt8) : Nat := kdN c.toNat
/-- Whether c belongs to what began with a byte of kind k. -/
def goK (k : Nat) (c : UInt8) : Bool := kd c == 3 || (kd c == 2 && k == 2)
/-- The size of a run that begins here. -/
def runL (k : Nat) (l : List UInt8) : Nat := (l.takeWhile (goK k)).length
/-- Behind a quote: how many bytes up to the quote that ends it, with it. -/
def qEnd : List UInt8 → Option Nat
  | [] => none
  | [c] => if c = 39 then some 1 else none
  | c :: d :: r => if c = 39 then (if d = 39 then (qEnd r).map (· + 2) else some 1) else (qEnd (d :: r)).map (· + 1)
/-- What a text says: two quotes as one. -/
def unq : List UInt8 → List UInt8
  | [] => []
  | [c] => [c]
  | c :: d :: r => if c = 39 ∧ d = 39 then 39 :: unq r else c :: unq (d :: r)
/-- The first place of a byte. -/
def idx (x : UInt8) : List UInt8 → Option Nat
  | [] => none
  | c :: r => if c = x then some 0 else (idx x r).map (· + 1)
/-- The size of the longest sign; 0, if there is none. -/
def sgL : List UInt8 → Nat
  | [] => 0
  | c :: r => if c = 124 then (if r.head? = some 124 then 2 else 0) else if c = 60 ∧ r.head? = some 62 then 2 else if (c = 60 ∨ c = 62) ∧ r.head? = some 61 then 2 else 1
/-- What stands at the beginning: the kind of the token (0: none) and its size, or the place of a fault. -/
def pieceL : List UInt8 → Except Nat (Nat × Nat)
  | [] => .error 0
  | c :: r =>
    if kd c = 1 then .ok (0, 1)
    else if kd c = 2 then .ok (1, runL 2 r + 1)
    else if kd c = 3 then .ok (3, runL 3 r + 1)
    else if kd c = 4 then (match qEnd r with
      | none => .error 0
      | some n => match idx 0 (r.take n) with
        | none => .ok (4, n + 1)
        | some i => .error (i + 1))
    else if kd c = 5 then (if r.head? = some 45 then .ok (0, (idx 10 (c :: r)).getD (r.length + 1)) else .ok (5, 1))
    else if kd c = 6 then (if sgL (c :: r) = 0 then .error 0 else .ok (5, sgL (c :: r)))
    else .error 0
def upL (l : List UInt8) : List UInt8 := l.map upperB
def loL (l : List UInt8) : List UInt8 := l.map lowerB
/-- A number without noughts ahead. -/
def numL (l : List UInt8) : List UInt8 := (l.take (l.length - 1)).dropWhile (· == 48) ++ l.drop (l.length - 1)
def wordsL : List (List UInt8) := [[65, 78, 68], [65, 83], [65, 83, 67], [66, 69, 84, 87, 69, 69, 78], [66, 79, 79, 76], [66, 89], [67, 65, 83, 69], [67, 79, 85, 78, 84], [67, 82, 69, 65, 84, 69], [68, 69, 76, 69, 84, 69], [68, 69, 83, 67], [68, 73, 83, 84, 73, 78, 67, 84], [68, 82, 79, 80], [69, 76, 83, 69], [69, 78, 68], [70, 65, 76, 83, 69], [70, 82, 79, 77], [71, 82, 79, 85, 80], [72, 65, 86, 73, 78, 71], [73, 78], [73, 78, 68, 69, 88], [73, 78, 83, 69, 82, 84], [73, 78, 84], [73, 78, 84, 79], [73, 83], [74, 79, 73, 78], [75, 69, 89], [76, 69, 70, 84], [76, 73, 77, 73, 84], [77, 65, 88], [77, 73, 78], [78, 79, 84], [78, 85, 76, 76], [79, 78], [79, 82], [79, 82, 68, 69, 82], [80, 82, 73, 77, 65, 82, 89], [83, 69, 76, 69, 67, 84], [83, 69, 84], [83, 85, 77], [84, 65, 66, 76, 69], [84, 69, 88, 84], [84, 72, 69, 78], [84, 82, 85, 69], [85, 78, 73, 81, 85, 69], [85, 80, 68, 65, 84, 69], [86, 65, 76, 85, 69, 83], [87, 72, 69, 78], [87, 72, 69, 82, 69]]
/-- What a piece says: its kind and its text. -/
def tokL (k : Nat) (l : List UInt8) : Nat × List UInt8 :=
  if k = 1 then (if wordsL.contains (upL l) then (2, upL l) else (1, loL l))
  else if k = 3 then (3, numL l)
  else if k = 4 then (4, unq ((l.drop 1).take (l.length - 2)))
  else (k, l)
structure Tk where
  kind : Nat
  text : List UInt8
  pos : Nat
/-- The tokens of l, which begins at place a of the statement; or the place of the first fault. -/
def lexF : Nat → List UInt8 → Nat → Except Nat (List Tk)
  | 0, _, _ => .ok []
  | n + 1, l, a => if l = [] then .ok [] else match pieceL l with
    | .error e => .error (a + e)
    | .ok (k, m) => match lexF n (l.drop m) (a + m) with
      | .error e => .error e
      | .ok t => .ok (if k = 0 then t else ⟨(tokL k (l.take m)).1, (tokL k (l.take m)).2, a⟩ :: t)
def lexL (l : List UInt8) (a : Nat) : Except Nat (List Tk) := lexF l.length l a

theorem qEnd_bounds : ∀ (l : List UInt8) (n : Nat), qEnd l = some n → 1 ≤ n ∧ n ≤ l.length
  | [], n, h => by simp [qEnd] at h
  | [c], n, h => by
    rw [qEnd] at h
    split at h
    · injection h with h; simp; omega
    · cases h
  | c :: d :: r, n, h => by
    rw [qEnd] at h
    split at h
    · split at h
      · cases hq : qEnd r with
        | none => rw [hq] at h; cases h
        | some m =>
          rw [hq] at h
          have := qEnd_bounds r m hq
          rw [Option.map_some] at h
          injection h with h
          simp only [List.length_cons]; omega
      · injection h with h; simp only [List.length_cons]; omega
    · cases hq : qEnd (d :: r) with
      | none => rw [hq] at h; cases h
      | some m =>
        rw [hq] at h
        have := qEnd_bounds (d :: r) m hq
        rw [Option.map_some] at h
        injection h with h
        simp only [List.length_cons] at this ⊢; omega
theorem idx_lt (x : UInt8) : ∀ (l : List UInt8) (i : Nat), idx x l = some i → i < l.length
  | [], i, h => by cases h
  | c :: r, i, h => by
    rw [idx] at h
    split at h
    · injection h with h; simp only [List.length_cons]; omega
    · cases hq : idx x r with
      | none => rw [hq] at h; cases h
      | some m =>
        rw [hq] at h
        have := idx_lt x r m hq
        rw [Option.map_some] at h
        injection h with h
        simp only [List.length_cons]; omega
theorem takeWhile_le (p : UInt8 → Bool) (l : List UInt8) : (l.takeWhile p).length ≤ l.length := (List.takeWhile_sublist p).length_le
theorem sgL_le (c : UInt8) (r : List UInt8) : sgL (c :: r) ≤ r.length + 1 := by
  rw [sgL]
  have h1 : ∀ x : UInt8, r.head? = some x → 1 ≤ r.length := by intro x hx; cases r <;> simp at hx ⊢
  split
  · split
    · rename_i h; have := h1 _ h; omega
    · omega
  · split
    · rename_i h; have := h1 _ h.2; omega
    · split
      · rename_i h; have := h1 _ h.2; omega
      · omega
theorem remark_size {c : UInt8} {r : List UInt8} (h : kd c = 5) : 1 ≤ (idx 10 (c :: r)).getD (r.length + 1) ∧ (idx 10 (c :: r)).getD (r.length + 1) ≤ r.length + 1 := by
  cases hi : idx 10 (c :: r) with
  | none => simp
  | some i =>
    have h1 := idx_lt 10 _ i hi
    rw [idx, if_neg (by intro e; subst e; revert h; decide)] at hi
    cases hq : idx 10 r with
    | none => rw [hq] at hi; cases hi
    | some j =>
      rw [hq, Option.map_some] at hi
      injection hi with hi
      simp only [List.length_cons, Option.getD_some] at h1 ⊢; omega
theorem piece_size {l : List UInt8} {k m : Nat} (h : pieceL l = .ok (k, m)) : 1 ≤ m ∧ m ≤ l.length := by
  cases l with
  | nil => cases h
  | cons c r =>
    rw [pieceL] at h
    simp only [List.length_cons]
    by_cases h1 : kd c = 1
    · rw [if_pos h1] at h; injection h with h; injection h with h1 h2; omega
    rw [if_neg h1] at h
    by_cases h2 : kd c = 2
    · rw [if_pos h2] at h; injection h with h; injection h with h1 h2
      have := takeWhile_le (goK 2) r
      unfold runL at h2; omega
    rw [if_neg h2] at h
    by_cases h3 : kd c = 3
    · rw [if_pos h3] at h; injection h with h; injection h with h1 h2
      have := takeWhile_le (goK 3) r
      unfold runL at h2; omega
    rw [if_neg h3] at h
    by_cases h4 : kd c = 4
    · rw [if_pos h4] at h
      cases hq : qEnd r with
      | none => rw [hq] at h; cases h
      | some n =>
        rw [hq] at h
        have := qEnd_bounds r n hq
        cases hi : idx 0 (r.take n) with
        | none => simp only [hi] at h; injection h with h; injection h with h1 h2; omega
        | some i => simp only [hi] at h; cases h
    rw [if_neg h4] at h
    by_cases h5 : kd c = 5
    · rw [if_pos h5] at h
      have := remark_size (r := r) h5
      split at h
      · injection h with h; injection h with h1 h2; omega
      · injection h with h; injection h with h1 h2; omega
    rw [if_neg h5] at h
    by_cases h6 : kd c = 6
    · rw [if_pos h6] at h
      have := sgL_le c r
      split at h
      · cases h
      · injection h with h; injection h with h1 h2; omega
    · rw [if_neg h6] at h; cases h
theorem lexF_more : ∀ (n m : Nat) (l : List UInt8) (a : Nat), l.length ≤ n → l.length ≤ m → lexF n l a = lexF m l a
  | 0, 0, _, _, _, _ => rfl
  | 0, m + 1, l, a, hn, _ => by
    have : l = [] := List.eq_nil_of_length_eq_zero (by omega)
    subst this; simp [lexF]
  | n + 1, 0, l, a, _, hm => by
    have : l = [] := List.eq_nil_of_length_eq_zero (by omega)
    subst this; simp [lexF]
  | n + 1, m + 1, l, a, hn, hm => by
    unfold lexF
    split
    · rfl
    · cases hp : pieceL l with
      | error e => rfl
      | ok km =>
        obtain ⟨k, j⟩ := km
        have := piece_size hp
        simp only
        rw [lexF_more n m (l.drop j) (a + j) (by simp; omega) (by simp; omega)]
theorem lexL_nil (a : Nat) : lexL [] a = .ok [] := rfl
theorem lexL_error {l : List UInt8} {e : Nat} (a : Nat) (h0 : l ≠ []) (h : pieceL l = .error e) : lexL l a = .error (a + e) := by
  cases l with
  | nil => exact absurd rfl h0
  | cons c r =>
    unfold lexL
    simp only [List.length_cons, lexF]
    rw [if_neg h0, h]
theorem lexL_ok {l : List UInt8} {k m : Nat} (a : Nat) (h : pieceL l = .ok (k, m)) : lexL l a = match lexL (l.drop m) (a + m) with
      | .error e => .error e
      | .ok t => .ok (if k = 0 then t else ⟨(tokL k (l.take m)).1, (tokL k (l.take m)).2, a⟩ :: t) := by
  have hs := piece_size h
  cases l with
  | nil => cases h
  | cons c r =>
    unfold lexL
    conv => lhs; simp only [List.length_cons, lexF]
    rw [if_neg (by simp), h]
    simp only
    rw [lexF_more r.length ((c :: r).drop m).length _ _ (by simp at hs ⊢; omega) (Nat.le_refl _)]
/-- What was told so far, and the rest. -/
def joinT (acc : List Tk) : Except Nat (List Tk) → Except Nat (List Tk)
  | .error e => .error e
  | .ok t => .ok (acc ++ t)
theorem joinT_nil (x : Except Nat (List Tk)) : joinT [] x = x := by cases x <;> rfl
theorem joinT_step {l : List UInt8} {k m : Nat} (acc : List Tk) (a : Nat) (h : pieceL l = .ok (k, m)) :
    joinT acc (lexL l a) = joinT (if k = 0 then acc else acc ++ [⟨(tokL k (l.take m)).1, (tokL k (l.take m)).2, a⟩]) (lexL (l.drop m) (a + m)) := by
  rw [lexL_ok a h]
  cases lexL (l.drop m) (a + m) with
  | error e => rfl
  | ok t =>
    by_cases hk : k = 0
    · simp only [if_pos hk]
    · simp only [if_neg hk]; simp [joinT]
end Go.Proofs.YtehgoioinogmkaaGreatDoor
