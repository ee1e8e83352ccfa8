/- Values and entries on byte lists: the program's reader and the document's own tell the same. -/
import Derived.Test.YtmahkhpmaenkhaaDoorJPutRowListOfRdMathEntry
namespace Go.Proofs.YtmahkhpmaenkhaaDoor
open Go.RowKit Go.Lib

theorem drop_cons {l r : List UInt8} {a : Nat} {c : UInt8} (h : l.drop a = c :: r) : l.drop (a + 1) = r ∧ a < l.length ∧ r.length = l.length - (a + 1) := by
  have hl : a < l.length := by
    rcases Nat.lt_or_ge a l.length with h' | h'
    · exact h'
    · rw [List.drop_eq_nil_of_le h'] at h; cases h
  have h1 : l.drop (a + 1) = r := by rw [← List.drop_drop, h]; rfl
  refine ⟨h1, hl, ?_⟩
  rw [← h1]; simp
theorem rdB_nil {l : List UInt8} {a hi : Nat} (h : l.drop a = []) : rdBetween l 0 (hi : Int) (.ok a) = (0, .error 22) := by
  simp [rdBetween, rdUp_nil h]
theorem rdB_small {l r : List UInt8} {a hi : Nat} {c : UInt8} (hm : hi < 128) (h : l.drop a = c :: r) : rdBetween l 0 (hi : Int) (.ok a) = if c.toNat ≤ hi then ((c.toNat : Int), .ok (a + 1)) else (0, .error 20) := by
  have e : ((hi : Int) - 0).toNat = hi := by omega
  unfold rdBetween
  rw [e, rdUp_small hm h]
  by_cases hc : c.toNat ≤ hi
  · simp [hc]
  · simp [hc]

def zV : GV := ⟨0, 0, ⟨#[]⟩⟩
/-- A value at a place of a row, as the document has it: it, its bytes, its class. -/
def refVal : List UInt8 → GV × Nat × Nat
  | [] => (zV, 0, 22)
  | c :: r =>
    if c.toNat = 0 then (zV, 1, 0)
    else if c.toNat = 1 then (match r with
      | [] => (zV, 0, 22)
      | t :: _ => if 1 < t.toNat then (zV, 0, 20) else (⟨1, (t.toNat : Int), ⟨#[]⟩⟩, 2, 0))
    else if c.toNat = 2 then (if (decU r).2.2.1 = 0 then (⟨2, unzig (decU r).1, ⟨#[]⟩⟩, 1 + (decU r).2.1, 0) else (zV, 0, (decU r).2.2.1))
    else if c.toNat = 3 then (match r with
      | [] => (zV, 0, 22)
      | t :: s => if 40 < t.toNat then (zV, 0, 20) else if 0 ≤ indexByte (s.take t.toNat) 0 then (zV, 0, 20) else if s.length < t.toNat then (zV, 0, 22) else (⟨3, 0, ⟨(s.take t.toNat).toArray⟩⟩, 2 + t.toNat, 0))
    else (zV, 0, 20)

/-- Two tellings of a thing at a place: the same thing and the same size, or the same class. -/
def SameAt {α : Type} (a len : Nat) (x : α × Except Nat Nat) (y : α × Nat × Nat) : Prop :=
  (y.2.2 = 0 → x = (y.1, .ok (a + y.2.1)) ∧ 0 < y.2.1 ∧ a + y.2.1 ≤ len) ∧ (y.2.2 ≠ 0 → x.2 = .error y.2.2)
theorem val_same (l : List UInt8) (a : Nat) : SameAt a l.length (rdVal l (.ok a)) (refVal (l.drop a)) := by
  cases hd : l.drop a with
  | nil =>
    have h3 : rdBetween l 0 3 (.ok a) = (0, .error 22) := rdB_nil (hi := 3) hd
    constructor
    · simp [refVal]
    · intro _; simp [rdVal, h3, refVal]
  | cons c r =>
    obtain ⟨h1, hl, hr⟩ := drop_cons hd
    have h3 : rdBetween l 0 3 (.ok a) = if c.toNat ≤ 3 then ((c.toNat : Int), .ok (a + 1)) else (0, .error 20) := rdB_small (hi := 3) (by decide) hd
    by_cases c0 : c.toNat = 0
    · rw [c0] at h3
      simp at h3
      simp [SameAt, refVal, rdVal, h3, c0, zV]
      omega
    by_cases c1 : c.toNat = 1
    · rw [c1] at h3
      simp at h3
      cases r with
      | nil =>
        have h4 : rdBetween l 0 1 (.ok (a + 1)) = (0, .error 22) := rdB_nil (hi := 1) h1
        simp [SameAt, refVal, rdVal, h3, c1, h4]
      | cons t s =>
        obtain ⟨h5, hl5, _⟩ := drop_cons h1
        have h4 : rdBetween l 0 1 (.ok (a + 1)) = if t.toNat ≤ 1 then ((t.toNat : Int), .ok ((a + 1) + 1)) else (0, .error 20) := rdB_small (hi := 1) (by decide) h1
        by_cases ht : 1 < t.toNat
        · rw [if_neg (by omega)] at h4
          simp [SameAt, refVal, rdVal, h3, c1, h4, ht]
        · rw [if_pos (by omega)] at h4
          simp [SameAt, refVal, rdVal, h3, c1, h4, ht]
          omega
    by_cases c2 : c.toNat = 2
    · rw [c2] at h3
      simp at h3
      obtain ⟨n, k, e, q, hdr⟩ : ∃ n k e q, decU r = (n, k, e, q) := ⟨_, _, _, _, rfl⟩
      have h4 := rdUp_max (l := l) (a := a + 1) (n := n) (k := k) (c := e) (q := q) (by rw [h1, hdr])
      have hk : e = 0 → 0 < k ∧ k ≤ r.length := by
        intro he
        rcases decU_cases r with ⟨n', k', hd', _, h8, h9⟩ | ⟨q', hd'⟩ | ⟨q', hd', _⟩
        · rw [hd'] at hdr; simp only [Prod.mk.injEq] at hdr; omega
        · rw [hd'] at hdr; simp only [Prod.mk.injEq] at hdr; omega
        · rw [hd'] at hdr; simp only [Prod.mk.injEq] at hdr; omega
      by_cases he : e = 0
      · have := hk he
        subst he
        simp at h4
        simp [SameAt, refVal, rdVal, h3, c2, h4, hdr]
        omega
      · simp [he] at h4
        simp [SameAt, refVal, rdVal, h3, c2, h4, hdr, he]
    by_cases c3 : c.toNat = 3
    · rw [c3] at h3
      simp at h3
      cases r with
      | nil =>
        have h4 : rdBetween l 0 40 (.ok (a + 1)) = (0, .error 22) := rdB_nil (hi := 40) h1
        simp [SameAt, refVal, rdVal, h3, c3, rdText, h4]
      | cons t s =>
        obtain ⟨h5, hl5, hs5⟩ := drop_cons h1
        have h4 : rdBetween l 0 40 (.ok (a + 1)) = if t.toNat ≤ 40 then ((t.toNat : Int), .ok ((a + 1) + 1)) else (0, .error 20) := rdB_small (hi := 40) (by decide) h1
        by_cases ht : 40 < t.toNat
        · rw [if_neg (by omega)] at h4
          simp [SameAt, refVal, rdVal, h3, c3, rdText, h4, ht]
        · rw [if_pos (by omega)] at h4
          by_cases hi : 0 ≤ indexByte (s.take t.toNat) 0
          · simp [SameAt, refVal, rdVal, h3, c3, rdText, h4, ht, h5, hi]
          · by_cases hs : s.length < t.toNat
            · have hs' : ¬ (t.toNat ≤ l.length - (a + 1 + 1)) := by omega
              simp [SameAt, refVal, rdVal, h3, c3, rdText, h4, ht, h5, hi, hs, rdTake, hs']
            · have hs' : t.toNat ≤ l.length - (a + 1 + 1) := by omega
              simp [SameAt, refVal, rdVal, h3, c3, rdText, h4, ht, h5, hi, hs, rdTake, hs']
              omega
    · have h30 : ¬ c.toNat ≤ 3 := by omega
      rw [if_neg h30] at h3
      simp [SameAt, refVal, rdVal, h3, c0, c1, c2, c3]

/-- A text behind its number, as the document has it. -/
def refTxt (m : List UInt8) (most : Nat) : List UInt8 × Nat × Nat :=
  if (decU m).2.2.1 = 0 then (if most < (decU m).1 then ([], 0, 20) else if m.length - (decU m).2.1 < (decU m).1 then ([], 0, 22) else ((m.drop (decU m).2.1).take (decU m).1, (decU m).2.1 + (decU m).1, 0)) else ([], 0, (decU m).2.2.1)
def zE : GE := ⟨0, 0, 0, 0, ⟨#[]⟩⟩
/-- An entry, as the document has it: it, its bytes, its class. -/
def refEnt (l : List UInt8) : GE × Nat × Nat :=
  if (decU l).2.2.1 ≠ 0 then (zE, 0, (decU l).2.2.1) else
  match l.drop (decU l).2.1 with
  | [] => (zE, 0, 22)
  | k :: r => if k.toNat = 0 then (⟨(decU l).1, 0, 0, 0, ⟨#[]⟩⟩, (decU l).2.1 + 1, 0) else if k.toNat ≠ 1 then (zE, 0, 20) else
    if (decU r).2.2.1 ≠ 0 then (zE, 0, (decU r).2.2.1) else
    if (decU (r.drop (decU r).2.1)).2.2.1 ≠ 0 then (zE, 0, (decU (r.drop (decU r).2.1)).2.2.1) else
    if twoMore ((r.drop (decU r).2.1).drop (decU (r.drop (decU r).2.1)).2.1) then (zE, 0, 20) else
    if (refTxt ((r.drop (decU r).2.1).drop (decU (r.drop (decU r).2.1)).2.1) 2000).2.2 ≠ 0 then (zE, 0, (refTxt ((r.drop (decU r).2.1).drop (decU (r.drop (decU r).2.1)).2.1) 2000).2.2) else
    (⟨(decU l).1, 1, (decU r).1, (decU (r.drop (decU r).2.1)).1, ⟨(refTxt ((r.drop (decU r).2.1).drop (decU (r.drop (decU r).2.1)).2.1) 2000).1.toArray⟩⟩,
      (decU l).2.1 + 1 + (decU r).2.1 + (decU (r.drop (decU r).2.1)).2.1 + (refTxt ((r.drop (decU r).2.1).drop (decU (r.drop (decU r).2.1)).2.1) 2000).2.1, 0)
/-- Reading an entry. -/
def rdSql (l : List UInt8) (s : Except Nat Nat) : List UInt8 × Except Nat Nat := rdTake l (rdBetween l 0 2000 s).1.toNat (rdBetween l 0 2000 s).2
def rdMax (l : List UInt8) (s : Except Nat Nat) : Nat × Except Nat Nat := rdUp l 18446744073709551615 s
def rdEnt (l : List UInt8) (s : Except Nat Nat) : GE × Except Nat Nat :=
  if (rdBetween l 0 1 (rdMax l s).2).1 = 1 then
    (⟨(rdMax l s).1, 1, (rdMax l (rdBetween l 0 1 (rdMax l s).2).2).1, (rdMax l (rdMax l (rdBetween l 0 1 (rdMax l s).2).2).2).1, ⟨(rdSql l (rdMax l (rdMax l (rdBetween l 0 1 (rdMax l s).2).2).2).2).1.toArray⟩⟩,
      (rdSql l (rdMax l (rdMax l (rdBetween l 0 1 (rdMax l s).2).2).2).2).2)
  else (⟨(rdMax l s).1, (rdBetween l 0 1 (rdMax l s).2).1, 0, 0, ⟨#[]⟩⟩, (rdBetween l 0 1 (rdMax l s).2).2)
theorem rdMax_ok {l : List UInt8} {a n k c q : Nat} (h : decU (l.drop a) = (n, k, c, q)) : rdMax l (.ok a) = if c = 0 then (n, .ok (a + k)) else (0, .error c) := rdUp_max h
theorem rdMax_err {l : List UInt8} {c : Nat} : rdMax l (.error c) = (0, .error c) := rfl
theorem rdB_err {l : List UInt8} {lo hi : Int} {c : Nat} : rdBetween l lo hi (.error c) = (0, .error c) := by simp [rdBetween, rdUp]
theorem rdSql_err {l : List UInt8} {c : Nat} : rdSql l (.error c) = ([], .error c) := by simp [rdSql, rdB_err, rdTake]
theorem rdSql_ok (l : List UInt8) (a : Nat) (ha : a ≤ l.length) :
    SameAt a l.length (rdSql l (.ok a)) (if twoMore (l.drop a) then ([], 0, 20) else refTxt (l.drop a) 2000) := by
  obtain ⟨n, k, c, q, hd⟩ : ∃ n k c q, decU (l.drop a) = (n, k, c, q) := ⟨_, _, _, _, rfl⟩
  have hu := rdUp_2000 hd
  have e : ((2000 : Int) - 0).toNat = 2000 := by decide
  cases ht : twoMore (l.drop a) with
  | true =>
    rw [ht] at hu
    simp at hu
    simp [SameAt, rdSql, rdBetween, hu, rdTake]
  | false =>
    rw [ht] at hu
    simp at hu
    by_cases hc : c = 0
    · subst hc
      have hk : 0 < k ∧ k ≤ (l.drop a).length := by
        rcases decU_cases (l.drop a) with ⟨n', k', hd', _, h8, h9⟩ | ⟨q', hd'⟩ | ⟨q', hd', _⟩
        · rw [hd'] at hd; simp only [Prod.mk.injEq] at hd; omega
        · rw [hd'] at hd; simp only [Prod.mk.injEq] at hd; omega
        · rw [hd'] at hd; simp only [Prod.mk.injEq] at hd; omega
      simp only [List.length_drop] at hk
      by_cases hn : n ≤ 2000
      · simp [hn] at hu
        have hn' : ¬ 2000 < n := by omega
        by_cases hs : l.length - a - k < n
        · have hs' : ¬ n ≤ l.length - (a + k) := by omega
          simp [SameAt, rdSql, rdBetween, hu, rdTake, refTxt, hd, hn', hs, hs']
        · have hs' : n ≤ l.length - (a + k) := by omega
          simp [SameAt, rdSql, rdBetween, hu, rdTake, refTxt, hd, hn', hs, hs', Nat.add_assoc]
          omega
      · simp [hn] at hu
        have hn' : 2000 < n := by omega
        simp [SameAt, rdSql, rdBetween, hu, rdTake, refTxt, hd, hn']
    · simp [hc] at hu
      simp [SameAt, rdSql, rdBetween, hu, rdTake, refTxt, hd, hc]
end Go.Proofs.YtmahkhpmaenkhaaDoor
