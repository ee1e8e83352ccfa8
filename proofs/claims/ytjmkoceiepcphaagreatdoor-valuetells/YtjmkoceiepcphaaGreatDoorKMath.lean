/- Keys of values, without the program. -/
import Derived.Test.YtjmkoceiepcphaaGreatDoorVCmp
namespace Go.Proofs.YtjmkoceiepcphaaGreatDoor
open Go.RowKit Go.Lib

/-- The bytes of a number, the highest first. -/
def beN : Nat → Nat → List UInt8
  | 0, _ => []
  | k + 1, m => (m / 256 ^ k).toUInt8 :: beN k (m % 256 ^ k)
theorem beN_length : ∀ k m, (beN k m).length = k
  | 0, _ => rfl
  | k + 1, m => by simp [beN, beN_length k]
theorem toUInt8_lt {n : Nat} (h : n < 256) : n.toUInt8.toNat = n := by simp; omega
theorem cmp_div {P m m' : Nat} (hP : 0 < P) : compareInt m m' = first0 (compareInt ((m / P : Nat) : Int) ((m' / P : Nat) : Int)) (compareInt ((m % P : Nat) : Int) ((m' % P : Nat) : Int)) := by
  have h1 := Nat.div_add_mod m P
  have h2 := Nat.div_add_mod m' P
  have r1 := Nat.mod_lt m hP
  have r2 := Nat.mod_lt m' hP
  have a1 : m ≤ m' → m / P ≤ m' / P := fun h => Nat.div_le_div_right h
  have a2 : m' ≤ m → m' / P ≤ m / P := fun h => Nat.div_le_div_right h
  by_cases e : m / P = m' / P
  · rw [e] at h1 ⊢
    generalize P * (m' / P) = q at *
    have x1 : m < m' ↔ m % P < m' % P := by omega
    have x2 : m > m' ↔ m % P > m' % P := by omega
    generalize m % P = r at *
    generalize m' % P = r' at *
    generalize m' / P = d at *
    unfold compareInt first0
    repeat' split
    all_goals omega
  · have x1 : m < m' ↔ m / P < m' / P := by omega
    have x2 : m > m' ↔ m / P > m' / P := by omega
    generalize m % P = r at *
    generalize m' % P = r' at *
    generalize m' / P = d' at *
    generalize m / P = d at *
    clear h1 h2
    unfold compareInt first0
    repeat' split
    all_goals omega
/-- Numbers stand as their bytes do. -/
theorem beN_cmp : ∀ (k : Nat) (m m' : Nat) (r s : List UInt8), m < 256 ^ k → m' < 256 ^ k → compareBytes (beN k m ++ r) (beN k m' ++ s) = first0 (compareInt m m') (compareBytes r s)
  | 0, m, m', r, s, h, h' => by
    have : m = 0 := by simpa using h
    have : m' = 0 := by simpa using h'
    subst_vars
    rfl
  | k + 1, m, m', r, s, h, h' => by
    have hP : 0 < 256 ^ k := Nat.pow_pos (by decide)
    have q1 : m / 256 ^ k < 256 := Nat.div_lt_of_lt_mul (by rw [← Nat.pow_succ]; exact h)
    have q2 : m' / 256 ^ k < 256 := Nat.div_lt_of_lt_mul (by rw [← Nat.pow_succ]; exact h')
    have ih := beN_cmp k (m % 256 ^ k) (m' % 256 ^ k) r s (Nat.mod_lt _ hP) (Nat.mod_lt _ hP)
    rw [beN, beN, List.cons_append, List.cons_append, cb_cons, ih, toUInt8_lt q1, toUInt8_lt q2, cmp_div (m := m) (m' := m') hP]
    unfold first0
    repeat' split <;> first | rfl | omega
/-- Texts that have no 0, each with a 0 behind it, stand as they do. -/
theorem text_cmp : ∀ (t t' r s : List UInt8), 0 ∉ t → 0 ∉ t' → compareBytes (t ++ 0 :: r) (t' ++ 0 :: s) = first0 (compareBytes t t') (compareBytes r s)
  | [], [], r, s, _, _ => by
    rw [List.nil_append, List.nil_append, cb_cons]; rfl
  | [], b :: t', r, s, _, h' => by
    have : b ≠ 0 := fun e => h' (by simp [e])
    have hb : 0 < b.toNat := by
      rcases Nat.eq_zero_or_pos b.toNat with h | h
      · exact absurd (u8_eq (a := b) (b := 0) (by simpa using h)) this
      · exact h
    rw [List.nil_append, List.cons_append, cb_cons]
    have : compareInt (((0 : UInt8).toNat : Nat) : Int) (b.toNat : Int) = -1 := by unfold compareInt; rw [if_pos (by simp; omega)]
    rw [this]; rfl
  | a :: t, [], r, s, h, _ => by
    have : a ≠ 0 := fun e => h (by simp [e])
    have ha : 0 < a.toNat := by
      rcases Nat.eq_zero_or_pos a.toNat with h | h
      · exact absurd (u8_eq (a := a) (b := 0) (by simpa using h)) this
      · exact h
    rw [List.nil_append, List.cons_append, cb_cons]
    have : compareInt (a.toNat : Int) (((0 : UInt8).toNat : Nat) : Int) = 1 := by unfold compareInt; rw [if_neg (by simp), if_pos (by simp; omega)]
    rw [this]; rfl
  | a :: t, b :: t', r, s, h, h' => by
    have ih := text_cmp t t' r s (fun e => h (by simp [e])) (fun e => h' (by simp [e]))
    rw [List.cons_append, List.cons_append, cb_cons, cb_cons, ih]
    unfold first0
    repeat' split <;> first | rfl | omega

/-- A value's key (P6.4). -/
def keyV (g : GV) : List UInt8 :=
  if g.kind = 1 then [1, g.int.toNat.toUInt8] else if g.kind = 2 then 2 :: beN 8 (g.int + 9223372036854775808).toNat else if g.kind = 3 then 3 :: (g.text.data.toList ++ [0]) else [0]
def keyG (gs : List GV) : List UInt8 := gs.flatMap keyV
theorem empty_text {t : ByteArray} (h : t.toList = []) : t = ⟨#[]⟩ := by
  have := congrArg List.length h
  have hs : t.size = 0 := by simpa [ByteArray.toList_eq] using this
  exact text_ext (List.eq_nil_of_length_eq_zero (by rw [bytes_length]; exact hs))
theorem may_0 {n : Int} {t : ByteArray} (h : GV.may ⟨0, n, t⟩ = true) : n = 0 ∧ t = ⟨#[]⟩ := by
  simp [GV.may] at h
  exact ⟨h.1, empty_text h.2⟩
theorem may_1 {n : Int} {t : ByteArray} (h : GV.may ⟨1, n, t⟩ = true) : (n = 0 ∨ n = 1) ∧ t = ⟨#[]⟩ := by
  simp [GV.may] at h
  exact ⟨h.1, empty_text h.2⟩
theorem may_2 {n : Int} {t : ByteArray} (h : GV.may ⟨2, n, t⟩ = true) : t = ⟨#[]⟩ := by
  simp [GV.may] at h
  exact empty_text h
theorem may_3 {n : Int} {t : ByteArray} (h : GV.may ⟨3, n, t⟩ = true) : n = 0 ∧ t.size ≤ 40 ∧ indexByte t.data.toList 0 < 0 := by
  simp [GV.may] at h
  exact ⟨h.1.1, h.1.2, h.2⟩
theorem may_kind' {g : GV} (h : g.may = true) : g.kind = 0 ∨ g.kind = 1 ∨ g.kind = 2 ∨ g.kind = 3 := by
  obtain ⟨k, n, t⟩ := g
  simp [GV.may] at h
  dsimp only
  omega
theorem idx_ge : ∀ (l : List UInt8) (c : UInt8), -1 ≤ indexByte l c
  | [], _ => by simp [indexByte]
  | b :: l, c => by
    have := idx_ge l c
    unfold indexByte
    repeat' split
    all_goals omega
theorem no_zero : ∀ (l : List UInt8), indexByte l 0 < 0 → 0 ∉ l
  | [], _ => by simp
  | b :: l, h => by
    unfold indexByte at h
    split at h
    · simp at h
    · rename_i hb
      have hb' : b ≠ 0 := by simpa using hb
      split at h
      · rename_i h1
        have := no_zero l (by have : indexByte l 0 = -1 := by simpa using h1
                              omega)
        simp only [List.mem_cons, not_or]
        exact ⟨fun e => hb' e.symm, this⟩
      · rename_i h1
        have h2 : indexByte l 0 ≠ -1 := by simpa using h1
        have h3 : -1 ≤ indexByte l 0 := idx_ge l 0
        omega
/-- Values that may be stand as their keys do. -/
theorem keyV_cmp {g h : GV} (hg : g.may = true) (hh : h.may = true) (og : g.ok) (oh : h.ok) (r s : List UInt8) : compareBytes (keyV g ++ r) (keyV h ++ s) = first0 (cmpG g h) (compareBytes r s) := by
  have kg := may_kind' hg
  have kh := may_kind' hh
  obtain ⟨k, n, t⟩ := g
  obtain ⟨k', n', t'⟩ := h
  obtain ⟨og1, og2, _⟩ := og
  obtain ⟨oh1, oh2, _⟩ := oh
  dsimp only at kg kh og1 og2 oh1 oh2
  have hd : ∀ (k : Int) (n : Int) (t : ByteArray), (k = 0 ∨ k = 1 ∨ k = 2 ∨ k = 3) → ∃ x, keyV ⟨k, n, t⟩ = k.toNat.toUInt8 :: x := by
    intro k n t hk
    rcases hk with rfl | rfl | rfl | rfl
    · exact ⟨[], rfl⟩
    · exact ⟨_, rfl⟩
    · exact ⟨_, rfl⟩
    · exact ⟨_, rfl⟩
  by_cases e : k = k'
  · subst e
    have e0 : compareInt k k = 0 := compareInt_cmp.self k
    unfold cmpG
    dsimp only
    rw [e0, first0_eq]
    rcases kg with rfl | rfl | rfl | rfl
    · obtain ⟨rfl, rfl⟩ := may_0 hg
      obtain ⟨rfl, rfl⟩ := may_0 hh
      show compareBytes (0 :: r) (0 :: s) = _
      rw [cb_cons]
      rfl
    · obtain ⟨hn, rfl⟩ := may_1 hg
      obtain ⟨hn', rfl⟩ := may_1 hh
      show compareBytes (1 :: n.toNat.toUInt8 :: r) (1 :: n'.toNat.toUInt8 :: s) = _
      rw [cb_cons, cb_cons]
      rcases hn with rfl | rfl <;> rcases hn' with rfl | rfl <;> rfl
    · obtain rfl := may_2 hg
      obtain rfl := may_2 hh
      show compareBytes (2 :: (beN 8 (n + 9223372036854775808).toNat ++ r)) (2 :: (beN 8 (n' + 9223372036854775808).toNat ++ s)) = _
      rw [cb_cons, beN_cmp 8 _ _ _ _ (by show _ < 18446744073709551616; omega) (by show _ < 18446744073709551616; omega)]
      have x : compareInt ((n + 9223372036854775808).toNat : Int) ((n' + 9223372036854775808).toNat : Int) = compareInt n n' := by
        unfold compareInt
        repeat' split
        all_goals omega
      rw [x]
      show first0 0 _ = _
      rw [first0_eq]
      show _ = first0 (first0 _ 0) _
      unfold first0
      repeat' split
      all_goals first | rfl | omega
    · obtain ⟨rfl, _, z⟩ := may_3 hg
      obtain ⟨rfl, _, z'⟩ := may_3 hh
      show compareBytes (3 :: ((t.data.toList ++ [0]) ++ r)) (3 :: ((t'.data.toList ++ [0]) ++ s)) = _
      rw [cb_cons, List.append_assoc, List.append_assoc, List.singleton_append, List.singleton_append, text_cmp _ _ _ _ (no_zero _ z) (no_zero _ z')]
      rfl
  · obtain ⟨x, hx⟩ := hd k n t kg
    obtain ⟨y, hy⟩ := hd k' n' t' kh
    rw [hx, hy, List.cons_append, List.cons_append, cb_cons]
    unfold cmpG
    dsimp only
    have q : compareInt (k.toNat.toUInt8.toNat : Int) (k'.toNat.toUInt8.toNat : Int) = compareInt k k' := by
      rcases kg with rfl | rfl | rfl | rfl <;> rcases kh with rfl | rfl | rfl | rfl <;> rfl
    rw [q]
    have ne : compareInt k k' ≠ 0 := fun h => e (compareInt_cmp.eq _ _ h)
    rw [first0_ne ne, first0_ne ne, first0_ne ne]
/-- How rows stand to one another (P6.1). -/
def rowsG : List GV → List GV → Int
  | [], [] => 0
  | [], _ :: _ => -1
  | _ :: _, [] => 1
  | g :: a, h :: b => first0 (compareG g h) (rowsG a b)
theorem keyG_cmp : ∀ (a b : List GV), (∀ g ∈ a, g.may = true ∧ g.ok) → (∀ g ∈ b, g.may = true ∧ g.ok) → a.length = b.length → compareBytes (keyG a) (keyG b) = rowsG a b
  | [], [], _, _, _ => rfl
  | [], _ :: _, _, _, h => by simp at h
  | _ :: _, [], _, _, h => by simp at h
  | g :: a, h :: b, ha, hb, hl => by
    have ih := keyG_cmp a b (fun x hx => ha x (List.mem_cons_of_mem _ hx)) (fun x hx => hb x (List.mem_cons_of_mem _ hx)) (by simpa using hl)
    obtain ⟨g1, g2⟩ := ha g (List.mem_cons_self)
    obtain ⟨h1, h2⟩ := hb h (List.mem_cons_self)
    show compareBytes (keyV g ++ keyG a) (keyV h ++ keyG b) = first0 (compareG g h) (rowsG a b)
    rw [keyV_cmp g1 h1 g2 h2, ih]
    unfold compareG soundG
    rw [if_pos g1, if_pos h1]
end Go.Proofs.YtjmkoceiepcphaaGreatDoor
