/- Contract of wire.PutRow. -/
import Derived.Test.YtlmjmhpdpgeplaaGreatDoorJWriterValsRead3TakeTextVRValVals2Vals3Rows2
import Derived.Deep.QuietTactic
import Derived.BigQuiet
import Derived.WalkSmall
namespace Go.Proofs.YtlmjmhpdpgeplaaGreatDoor
open Go.RowKit Go.Lib

/-- What a writer's done tells. -/
def DonePost (s : Option (List UInt8)) (B : Nat) (w : World) (e : Ending) (w' : World) : Prop :=
  match s with
  | some l => ∃ a k, e = .returned (.tuple #[.slice a l.length k, .nilIface]) ∧ w'.ownsRow B 5 1 (.slice a l.length k) l.length (byteCells l) ∧ Below B w w'
  | none => ∃ (b : Nat) (pl : I6), e = .returned (.tuple #[.slice none 0 0, ev b]) ∧ B ≤ b ∧ ErrAt w' b pl 20 ∧ Below B w w'

theorem own_weaker {w : World} {B B' : Nat} {e : TypeId} {sz : Nat} {v : Value} {n : Nat} {xs : List Value} (hB : B' ≤ B) (h : w.ownsRow B e sz v n xs) : w.ownsRow B' e sz v n xs := by
  obtain ⟨h1, h2 | ⟨g, cap, cur, h3, h4, h5⟩⟩ := h
  · exact ⟨h1, .inl h2⟩
  · exact ⟨h1, .inr ⟨g, cap, cur, h3, by omega, h5⟩⟩
end Go.Proofs.YtlmjmhpdpgeplaaGreatDoor
/- Contracts of the reader's lists of values, and of wire.Row. -/
namespace Go.Proofs.YtlmjmhpdpgeplaaGreatDoor
open Go.RowKit Go.Lib

def gvCells (g : GV) : List Value := [.int .i64 g.kind, .int .i64 g.int, .string g.text]
def gvsCells (gs : List GV) : List Value := gs.flatMap gvCells
theorem gvsCells_length (gs : List GV) : (gvsCells gs).length = gs.length * 3 := by
  induction gs with
  | nil => rfl
  | cons g r ih => simp [gvsCells, gvCells] at ih ⊢; omega
theorem gvsCells_snoc (gs : List GV) (g : GV) : gvsCells (gs ++ [g]) = gvsCells gs ++ gvCells g := by simp [gvsCells]

/-- Reading n values: those that were read, and where the reader is; behind a fault none. -/
def rdVals (l : List UInt8) : Nat → Except Nat Nat → List GV × Except Nat Nat
  | 0, s => ([], s)
  | n + 1, s => match (rdVals l n s).2 with
    | .error c => ([], .error c)
    | .ok a => match (rdVal l (.ok a)).2 with
      | .error c => ([], .error c)
      | .ok b => ((rdVals l n s).1 ++ [(rdVal l (.ok a)).1], .ok b)
/-- Reading a row. -/
def rdRow (l : List UInt8) (s : Except Nat Nat) : List GV × Except Nat Nat :=
  match (rdBetween l 0 64 s).2 with
  | .error c => ([], .error c)
  | .ok a => rdVals l (rdBetween l 0 64 s).1.toNat (.ok a)
theorem rdVals_err {l : List UInt8} {s : Except Nat Nat} {c n m : Nat} (h : (rdVals l n s).2 = .error c) (hm : n ≤ m) : rdVals l m s = ((rdVals l m s).1, .error c) ∧ (rdVals l m s).2 = .error c := by
  induction m with
  | zero => have : n = 0 := by omega
            subst this; exact ⟨Prod.ext rfl h, h⟩
  | succ m ih =>
    by_cases e : n = m + 1
    · subst e; exact ⟨Prod.ext rfl h, h⟩
    · have := (ih (by omega)).2
      simp [rdVals, this]

theorem three_new (w : World) (g : GV) (e : TypeId) : ∀ j v, (gvCells g)[j]? = some v → (w.alloc (.cells #[.int .i64 g.kind, .int .i64 g.int, .string g.text] e)).cell? ((⟨w.heap.size, 0, none⟩ : Addr).add j) = some v := by
  intro j v hj
  match j, hj with
  | 0, hj => simp [gvCells] at hj; subst hj; simp [Addr.add]
  | 1, hj => simp [gvCells] at hj; subst hj; simp [Addr.add]
  | 2, hj => simp [gvCells] at hj; subst hj; simp [Addr.add]
theorem three_cell (g : GV) : ∀ u ∈ gvCells g, u.oneCell' = true := by
  intro u hu
  simp [gvCells] at hu
  rcases hu with rfl | rfl | rfl <;> rfl

theorem own_fq {w w' : World} {p : Nat} {e : TypeId} {sz : Nat} {v : Value} {n : Nat} {xs : List Value} (h : w.ownsRow (p + 1) e sz v n xs) (hf : Fq p w w') : w'.ownsRow (p + 1) e sz v n xs := by
  obtain ⟨h1, h2 | ⟨g, cap, cur, h3, h4, h5, h6⟩⟩ := h
  · exact ⟨h1, .inl h2⟩
  · have hg : g < w.heap.size := by
      rcases Nat.lt_or_ge g w.heap.size with h' | h'
      · exact h'
      · rw [Array.getElem?_eq_none h'] at h5; cases h5
    exact ⟨h1, .inr ⟨g, cap, cur, h3, h4, (hf.2 g hg (by omega)).trans h5, h6⟩⟩
theorem RS.ok_below {w w' : World} {p a : Nat} {l : List UInt8} (h : RS w p l (.ok a)) (hb : Below (p + 1) w w') : RS w' p l (.ok a) := by
  obtain ⟨hE, hG, f1, f2, ⟨v, h0, hv⟩, g1, g2, g3⟩ := h
  exact ⟨hE.below hb (by omega), hG, (hb.frozen (p := ⟨p, 1, none⟩) (by simp)).trans f1, (hb.frozen (p := ⟨p, 2, none⟩) (by simp)).trans f2, ⟨v, (hb.cell (p := ⟨p, 0, none⟩) (by simp)).trans h0, hv.below hb (by omega)⟩, g1, (hb.cell (p := ⟨p, 1, none⟩) (by simp)).trans g2, (hb.cell (p := ⟨p, 2, none⟩) (by simp)).trans g3⟩

end Go.Proofs.YtlmjmhpdpgeplaaGreatDoor
/- The readers of numbers, on byte lists: what a bound makes of them. -/
namespace Go.Proofs.YtlmjmhpdpgeplaaGreatDoor
open Go.RowKit Go.Lib

theorem dec_ge : ∀ (l : List UInt8) (i acc n k q : Nat), 0 < i → decFrom i acc l = (n, k, 0, q) → i < k ∧ 2 ^ (7 * (k - 1)) ≤ n
  | [], i, acc, n, k, q, hi, h => by simp [decFrom] at h
  | c :: r, i, acc, n, k, q, hi, h => by
    by_cases hb : (i = 9 ∧ 1 < c.toNat) ∨ (0 < i ∧ c.toNat = 0)
    · rw [dec_form hb] at h; simp at h
    · by_cases hc : c.toNat < 128
      · rw [dec_done hb hc] at h
        simp only [Prod.mk.injEq] at h
        obtain ⟨rfl, rfl, _⟩ := h
        refine ⟨by omega, ?_⟩
        have h1 : 1 ≤ c.toNat % 128 := by omega
        have := Nat.mul_le_mul_right (2 ^ (7 * i)) h1
        simp; omega
      · rw [dec_more hb hc] at h
        have := dec_ge r (i + 1) _ n k q (by omega) h
        exact ⟨by omega, this.2⟩
theorem dec_one {c : UInt8} {r : List UInt8} (h : c.toNat < 128) : decU (c :: r) = (c.toNat, 1, 0, 0) := by
  unfold decU
  rw [dec_done (by omega) h]
  simp; omega
theorem dec_two {c : UInt8} {r : List UInt8} (h : ¬ c.toNat < 128) : decU (c :: r) = decFrom 1 (c.toNat % 128) r := by
  unfold decU
  rw [dec_more (by omega) h]
  simp
theorem dec_great {c : UInt8} {r : List UInt8} {n k q : Nat} (h : ¬ c.toNat < 128) (hd : decU (c :: r) = (n, k, 0, q)) : 128 ≤ n := by
  rw [dec_two h] at hd
  have h1 := dec_ge r 1 _ n k q (by omega) hd
  have h2 : 2 ^ (7 * 1) ≤ 2 ^ (7 * (k - 1)) := Nat.pow_le_pow_right (by decide) (by omega)
  have : (2 : Nat) ^ (7 * 1) = 128 := by decide
  omega
theorem dec_great2 {c d : UInt8} {r : List UInt8} {n k q : Nat} (h : ¬ c.toNat < 128) (h' : ¬ d.toNat < 128) (hd : decU (c :: d :: r) = (n, k, 0, q)) : 16384 ≤ n := by
  rw [dec_two h, dec_more (by omega) h'] at hd
  have h1 := dec_ge r 2 _ n k q (by omega) hd
  have h2 : 2 ^ (7 * 2) ≤ 2 ^ (7 * (k - 1)) := Nat.pow_le_pow_right (by decide) (by omega)
  have : (2 : Nat) ^ (7 * 2) = 16384 := by decide
  omega
theorem least_ge {l : List UInt8} {m : Nat} (h : m ≤ l.length) (h0 : l ≠ []) : 2 ^ (7 * m) ≤ leastN l := by
  unfold leastN
  rw [if_neg h0]
  have : 2 ^ (7 * m) ≤ 2 ^ (7 * l.length) := Nat.pow_le_pow_right (by decide) (by omega)
  omega
theorem decU_cases (l : List UInt8) : (∃ n k, decU l = (n, k, 0, 0) ∧ n < 18446744073709551616 ∧ k ≤ l.length ∧ 0 < k) ∨ (∃ q, decU l = (0, 0, 20, q)) ∨ (∃ q, decU l = (0, 0, 22, q) ∧ l.length ≤ 9) := by
  have := dec_cases l 0 0 (by omega) (by simp)
  simpa [decU] using this

theorem dec_size (l : List UInt8) : (decU l).2.1 ≤ 10 := by
  have : ∀ (l : List UInt8) (i acc : Nat), i ≤ 9 → (decFrom i acc l).2.1 ≤ 10 := by
    intro l
    induction l with
    | nil => intro i acc _; simp [decFrom]
    | cons c r ih =>
      intro i acc hi
      by_cases hb : (i = 9 ∧ 1 < c.toNat) ∨ (0 < i ∧ c.toNat = 0)
      · rw [dec_form hb]; simp
      · by_cases hc : c.toNat < 128
        · rw [dec_done hb hc]; simp; omega
        · rw [dec_more hb hc]; exact ih (i + 1) _ (by omega)
  exact this l 0 0 (by omega)
theorem rdUp_nil {l : List UInt8} {most a : Nat} (h : l.drop a = []) : rdUp l most (.ok a) = (0, .error 22) := by
  have e : decU [] = (0, 0, 22, 0) := rfl
  have e2 : leastN [] = 0 := rfl
  simp [rdUp, h, e, e2]
theorem rdUp_byte {l r : List UInt8} {most a : Nat} {c : UInt8} (h : l.drop a = c :: r) (hc : c.toNat < 128) : rdUp l most (.ok a) = if c.toNat ≤ most then (c.toNat, .ok (a + 1)) else (0, .error 20) := by
  simp [rdUp, h, dec_one hc]
theorem rdUp_great {l r : List UInt8} {most a : Nat} {c : UInt8} (hm : most < 128) (h : l.drop a = c :: r) (hc : ¬ c.toNat < 128) : rdUp l most (.ok a) = (0, .error 20) := by
  rcases decU_cases (c :: r) with ⟨n, k, hd, _⟩ | ⟨q, hd⟩ | ⟨q, hd, _⟩
  · have := dec_great hc hd
    have hn : ¬ n ≤ most := by omega
    simp [rdUp, h, hd, hn]
  · simp [rdUp, h, hd]
  · have := least_ge (l := c :: r) (m := 1) (by simp) (by simp)
    have e : (2 : Nat) ^ (7 * 1) = 128 := by decide
    have hn : ¬ leastN (c :: r) ≤ most := by omega
    simp [rdUp, h, hd, hn]
/-- A bound of one byte. -/
theorem rdUp_small {l r : List UInt8} {most a : Nat} {c : UInt8} (hm : most < 128) (h : l.drop a = c :: r) : rdUp l most (.ok a) = if c.toNat ≤ most then (c.toNat, .ok (a + 1)) else (0, .error 20) := by
  by_cases hc : c.toNat < 128
  · exact rdUp_byte h hc
  · rw [rdUp_great hm h hc, if_neg (by omega)]
/-- No bound. -/
theorem rdUp_max {l : List UInt8} {a n k c q : Nat} (h : decU (l.drop a) = (n, k, c, q)) : rdUp l 18446744073709551615 (.ok a) = if c = 0 then (n, .ok (a + k)) else (0, .error c) := by
  rcases decU_cases (l.drop a) with ⟨n', k', hd, hn, _⟩ | ⟨q', hd⟩ | ⟨q', hd, h9⟩
  · rw [hd] at h
    simp only [Prod.mk.injEq] at h
    obtain ⟨rfl, rfl, rfl, rfl⟩ := h
    have : n' ≤ 18446744073709551615 := by omega
    simp [rdUp, hd, this]
  · rw [hd] at h
    simp only [Prod.mk.injEq] at h
    obtain ⟨rfl, rfl, rfl, rfl⟩ := h
    simp [rdUp, hd]
  · rw [hd] at h
    simp only [Prod.mk.injEq] at h
    obtain ⟨rfl, rfl, rfl, rfl⟩ := h
    have := leastN_lt h9
    have h2 : leastN (l.drop a) ≤ 18446744073709551615 := by omega
    simp [rdUp, hd, h2]
/-- Two bytes that say there are more. -/
def twoMore : List UInt8 → Bool
  | c :: d :: _ => decide (128 ≤ c.toNat) && decide (128 ≤ d.toNat)
  | _ => false
theorem rdUp_2000 {l : List UInt8} {a n k c q : Nat} (h : decU (l.drop a) = (n, k, c, q)) :
    rdUp l 2000 (.ok a) = if twoMore (l.drop a) then (0, .error 20) else if c = 0 then (if n ≤ 2000 then (n, .ok (a + k)) else (0, .error 20)) else (0, .error c) := by
  generalize hm : l.drop a = m at h ⊢
  have hr : rdUp l 2000 (.ok a) = if c = 0 then (if n ≤ 2000 then (n, .ok (a + k)) else (0, .error 20)) else if c = 22 ∧ leastN m ≤ 2000 then (0, .error 22) else (0, .error 20) := by
    simp [rdUp, hm, h]
  rw [hr]
  cases ht : twoMore m with
  | true =>
    rw [if_pos rfl]
    match m, ht with
    | x :: y :: r, ht =>
      simp [twoMore] at ht
      by_cases hc : c = 0
      · subst hc
        have := dec_great2 (by omega) (by omega) h
        rw [if_pos rfl, if_neg (by omega)]
      · have := least_ge (l := x :: y :: r) (m := 2) (by simp) (by simp)
        have e : (2 : Nat) ^ (7 * 2) = 16384 := by decide
        rw [if_neg hc, if_neg (by omega)]
  | false =>
    rw [if_neg (show ¬ (false = true) by decide)]
    by_cases hc : c = 0
    · rw [if_pos hc, if_pos hc]
    · rw [if_neg hc, if_neg hc]
      rcases decU_cases m with ⟨n', k', hd, hn, _⟩ | ⟨q', hd⟩ | ⟨q', hd, h9⟩
      · rw [hd] at h; simp only [Prod.mk.injEq] at h; omega
      · rw [hd] at h; simp only [Prod.mk.injEq] at h
        obtain ⟨_, _, rfl, _⟩ := h
        rw [if_neg (by omega)]
      · rw [hd] at h; simp only [Prod.mk.injEq] at h
        obtain ⟨_, _, rfl, _⟩ := h
        have hl : leastN m ≤ 2000 := by
          match m, ht, hd with
          | [], _, _ => decide
          | [x], _, _ =>
            have hx := x.toNat_lt
            simp [leastN, accN]
            omega
          | x :: y :: r, ht, hd =>
            exfalso
            simp [twoMore] at ht
            by_cases hx : x.toNat < 128
            · rw [dec_one hx] at hd; simp at hd
            · have hy := ht (by omega)
              rw [dec_two hx] at hd
              by_cases hb : (1 = 9 ∧ 1 < y.toNat) ∨ (0 < 1 ∧ y.toNat = 0)
              · rw [dec_form hb] at hd; simp at hd
              · rw [dec_done hb hy] at hd; simp at hd
        rw [if_pos ⟨rfl, hl⟩]
end Go.Proofs.YtlmjmhpdpgeplaaGreatDoor
/- Contracts of package wire's writer of entries. -/
namespace Go.Proofs.YtlmjmhpdpgeplaaGreatDoor
open Go.RowKit Go.Lib

/-- An api.Entry. -/
structure GE where
  term : Nat
  kind : Int
  client : Nat
  seq : Nat
  sql : ByteArray
def GE.cells (g : GE) : Array Value := #[.int .u64 g.term, .int .i64 g.kind, .int .u64 g.client, .int .u64 g.seq, .string g.sql]
def GE.agg (g : GE) : Value := .agg g.cells
def GE.ok (g : GE) : Prop := g.term < 18446744073709551616 ∧ g.client < 18446744073709551616 ∧ g.seq < 18446744073709551616 ∧ g.sql.size ≤ maxLen
/-- It may be written (P1.3). -/
def GE.may (g : GE) : Bool := (g.kind == 0 && g.client == 0 && g.seq == 0 && g.sql.toList.isEmpty || g.kind == 1) && g.sql.size ≤ 2000
def GE.bytes (g : GE) : List UInt8 :=
  uvarint g.term ++ (uvarint g.kind.toNat ++ (if g.kind = 1 then uvarint g.client ++ (uvarint g.seq ++ (uvarint g.sql.size ++ g.sql.data.toList)) else []))

theorem isEmpty_size (t : ByteArray) (h : t.toList.isEmpty = true) : t.size = 0 := by
  have h2 : t.toList = [] := List.isEmpty_iff.1 h
  rw [toList_data] at h2
  rw [← bytes_length, h2]; rfl

/-- What a writer has behind an entry. -/
def putEnt (g : GE) (s : Option (List UInt8)) : Option (List UInt8) := if g.may then s.map (· ++ g.bytes) else none
theorem map_len {s : Option (List UInt8)} {x : List UInt8} {n m : Nat} (h : ∀ l, s = some l → l.length ≤ n) (hx : x.length ≤ m) : ∀ l, s.map (· ++ x) = some l → l.length ≤ n + m := by
  intro l e
  cases s with
  | none => cases e
  | some l0 => simp at e; subst e; have := h l0 rfl; simp; omega

end Go.Proofs.YtlmjmhpdpgeplaaGreatDoor
/- Values and entries on byte lists: the program's reader and the document's own tell the same. -/
namespace Go.Proofs.YtlmjmhpdpgeplaaGreatDoor
open Go.RowKit Go.Lib

theorem drop_cons {l r : List UInt8} {a : Nat} {c : UInt8} (h : l.drop a = c :: r) : l.drop (a + 1) = r ∧ a < l.length ∧ r.length = l.length - (a + 1) := by
  have hl : a < l.length := by
    rcases Nat.lt_or_ge a l.length with h' | h'
    · exact h'
    · rw [List.drop_eq_nil_of_le h'] at h; cases h
  have h1 : l.drop (a + 1) = r := by rw [← List.drop_drop, h]; rfl
  refine ⟨h1, hl, ?_⟩
  rw [← h1]; simp
theorem rdB_nil {l : List UInt8} {a hi : Nat} (h : l.drop a = []) : rdBetween l 0 (hi : Int) (.ok a) = (0, .error 22) := by
  simp [rdBetween, rdUp_nil h]
theorem rdB_small {l r : List UInt8} {a hi : Nat} {c : UInt8} (hm : hi < 128) (h : l.drop a = c :: r) : rdBetween l 0 (hi : Int) (.ok a) = if c.toNat ≤ hi then ((c.toNat : Int), .ok (a + 1)) else (0, .error 20) := by
  have e : ((hi : Int) - 0).toNat = hi := by omega
  unfold rdBetween
  rw [e, rdUp_small hm h]
  by_cases hc : c.toNat ≤ hi
  · simp [hc]
  · simp [hc]

def zV : GV := ⟨0, 0, ⟨#[]⟩⟩
/-- A value at a place of a row, as the document has it: it, its bytes, its class. -/
def refVal : List UInt8 → GV × Nat × Nat
  | [] => (zV, 0, 22)
  | c :: r =>
    if c.toNat = 0 then (zV, 1, 0)
    else if c.toNat = 1 then (match r with
      | [] => (zV, 0, 22)
      | t :: _ => if 1 < t.toNat then (zV, 0, 20) else (⟨1, (t.toNat : Int), ⟨#[]⟩⟩, 2, 0))
    else if c.toNat = 2 then (if (decU r).2.2.1 = 0 then (⟨2, unzig (decU r).1, ⟨#[]⟩⟩, 1 + (decU r).2.1, 0) else (zV, 0, (decU r).2.2.1))
    else if c.toNat = 3 then (match r with
      | [] => (zV, 0, 22)
      | t :: s => if 40 < t.toNat then (zV, 0, 20) else if 0 ≤ indexByte (s.take t.toNat) 0 then (zV, 0, 20) else if s.length < t.toNat then (zV, 0, 22) else (⟨3, 0, ⟨(s.take t.toNat).toArray⟩⟩, 2 + t.toNat, 0))
    else (zV, 0, 20)

/-- Two tellings of a thing at a place: the same thing and the same size, or the same class. -/
def SameAt {α : Type} (a len : Nat) (x : α × Except Nat Nat) (y : α × Nat × Nat) : Prop :=
  (y.2.2 = 0 → x = (y.1, .ok (a + y.2.1)) ∧ 0 < y.2.1 ∧ a + y.2.1 ≤ len) ∧ (y.2.2 ≠ 0 → x.2 = .error y.2.2)
theorem val_same (l : List UInt8) (a : Nat) : SameAt a l.length (rdVal l (.ok a)) (refVal (l.drop a)) := by
  cases hd : l.drop a with
  | nil =>
    have h3 : rdBetween l 0 3 (.ok a) = (0, .error 22) := rdB_nil (hi := 3) hd
    constructor
    · simp [refVal]
    · intro _; simp [rdVal, h3, refVal]
  | cons c r =>
    obtain ⟨h1, hl, hr⟩ := drop_cons hd
    have h3 : rdBetween l 0 3 (.ok a) = if c.toNat ≤ 3 then ((c.toNat : Int), .ok (a + 1)) else (0, .error 20) := rdB_small (hi := 3) (by decide) hd
    by_cases c0 : c.toNat = 0
    · rw [c0] at h3
      simp at h3
      simp [SameAt, refVal, rdVal, h3, c0, zV]
      omega
    by_cases c1 : c.toNat = 1
    · rw [c1] at h3
      simp at h3
      cases r with
      | nil =>
        have h4 : rdBetween l 0 1 (.ok (a + 1)) = (0, .error 22) := rdB_nil (hi := 1) h1
        simp [SameAt, refVal, rdVal, h3, c1, h4]
      | cons t s =>
        obtain ⟨h5, hl5, _⟩ := drop_cons h1
        have h4 : rdBetween l 0 1 (.ok (a + 1)) = if t.toNat ≤ 1 then ((t.toNat : Int), .ok ((a + 1) + 1)) else (0, .error 20) := rdB_small (hi := 1) (by decide) h1
        by_cases ht : 1 < t.toNat
        · rw [if_neg (by omega)] at h4
          simp [SameAt, refVal, rdVal, h3, c1, h4, ht]
        · rw [if_pos (by omega)] at h4
          simp [SameAt, refVal, rdVal, h3, c1, h4, ht]
          omega
    by_cases c2 : c.toNat = 2
    · rw [c2] at h3
      simp at h3
      obtain ⟨n, k, e, q, hdr⟩ : ∃ n k e q, decU r = (n, k, e, q) := ⟨_, _, _, _, rfl⟩
      have h4 := rdUp_max (l := l) (a := a + 1) (n := n) (k := k) (c := e) (q := q) (by rw [h1, hdr])
      have hk : e = 0 → 0 < k ∧ k ≤ r.length := by
        intro he
        rcases decU_cases r with ⟨n', k', hd', _, h8, h9⟩ | ⟨q', hd'⟩ | ⟨q', hd', _⟩
        · rw [hd'] at hdr; simp only [Prod.mk.injEq] at hdr; omega
        · rw [hd'] at hdr; simp only [Prod.mk.injEq] at hdr; omega
        · rw [hd'] at hdr; simp only [Prod.mk.injEq] at hdr; omega
      by_cases he : e = 0
      · have := hk he
        subst he
        simp at h4
        simp [SameAt, refVal, rdVal, h3, c2, h4, hdr]
        omega
      · simp [he] at h4
        simp [SameAt, refVal, rdVal, h3, c2, h4, hdr, he]
    by_cases c3 : c.toNat = 3
    · rw [c3] at h3
      simp at h3
      cases r with
      | nil =>
        have h4 : rdBetween l 0 40 (.ok (a + 1)) = (0, .error 22) := rdB_nil (hi := 40) h1
        simp [SameAt, refVal, rdVal, h3, c3, rdText, h4]
      | cons t s =>
        obtain ⟨h5, hl5, hs5⟩ := drop_cons h1
        have h4 : rdBetween l 0 40 (.ok (a + 1)) = if t.toNat ≤ 40 then ((t.toNat : Int), .ok ((a + 1) + 1)) else (0, .error 20) := rdB_small (hi := 40) (by decide) h1
        by_cases ht : 40 < t.toNat
        · rw [if_neg (by omega)] at h4
          simp [SameAt, refVal, rdVal, h3, c3, rdText, h4, ht]
        · rw [if_pos (by omega)] at h4
          by_cases hi : 0 ≤ indexByte (s.take t.toNat) 0
          · simp [SameAt, refVal, rdVal, h3, c3, rdText, h4, ht, h5, hi]
          · by_cases hs : s.length < t.toNat
            · have hs' : ¬ (t.toNat ≤ l.length - (a + 1 + 1)) := by omega
              simp [SameAt, refVal, rdVal, h3, c3, rdText, h4, ht, h5, hi, hs, rdTake, hs']
            · have hs' : t.toNat ≤ l.length - (a + 1 + 1) := by omega
              simp [SameAt, refVal, rdVal, h3, c3, rdText, h4, ht, h5, hi, hs, rdTake, hs']
              omega
    · have h30 : ¬ c.toNat ≤ 3 := by omega
      rw [if_neg h30] at h3
      simp [SameAt, refVal, rdVal, h3, c0, c1, c2, c3]

/-- A text behind its number, as the document has it. -/
def refTxt (m : List UInt8) (most : Nat) : List UInt8 × Nat × Nat :=
  if (decU m).2.2.1 = 0 then (if most < (decU m).1 then ([], 0, 20) else if m.length - (decU m).2.1 < (decU m).1 then ([], 0, 22) else ((m.drop (decU m).2.1).take (decU m).1, (decU m).2.1 + (decU m).1, 0)) else ([], 0, (decU m).2.2.1)
def zE : GE := ⟨0, 0, 0, 0, ⟨#[]⟩⟩
/-- An entry, as the document has it: it, its bytes, its class. -/
def refEnt (l : List UInt8) : GE × Nat × Nat :=
  if (decU l).2.2.1 ≠ 0 then (zE, 0, (decU l).2.2.1) else
  match l.drop (decU l).2.1 with
  | [] => (zE, 0, 22)
  | k :: r => if k.toNat = 0 then (⟨(decU l).1, 0, 0, 0, ⟨#[]⟩⟩, (decU l).2.1 + 1, 0) else if k.toNat ≠ 1 then (zE, 0, 20) else
    if (decU r).2.2.1 ≠ 0 then (zE, 0, (decU r).2.2.1) else
    if (decU (r.drop (decU r).2.1)).2.2.1 ≠ 0 then (zE, 0, (decU (r.drop (decU r).2.1)).2.2.1) else
    if twoMore ((r.drop (decU r).2.1).drop (decU (r.drop (decU r).2.1)).2.1) then (zE, 0, 20) else
    if (refTxt ((r.drop (decU r).2.1).drop (decU (r.drop (decU r).2.1)).2.1) 2000).2.2 ≠ 0 then (zE, 0, (refTxt ((r.drop (decU r).2.1).drop (decU (r.drop (decU r).2.1)).2.1) 2000).2.2) else
    (⟨(decU l).1, 1, (decU r).1, (decU (r.drop (decU r).2.1)).1, ⟨(refTxt ((r.drop (decU r).2.1).drop (decU (r.drop (decU r).2.1)).2.1) 2000).1.toArray⟩⟩,
      (decU l).2.1 + 1 + (decU r).2.1 + (decU (r.drop (decU r).2.1)).2.1 + (refTxt ((r.drop (decU r).2.1).drop (decU (r.drop (decU r).2.1)).2.1) 2000).2.1, 0)
/-- Reading an entry. -/
def rdSql (l : List UInt8) (s : Except Nat Nat) : List UInt8 × Except Nat Nat := rdTake l (rdBetween l 0 2000 s).1.toNat (rdBetween l 0 2000 s).2
def rdMax (l : List UInt8) (s : Except Nat Nat) : Nat × Except Nat Nat := rdUp l 18446744073709551615 s
def rdEnt (l : List UInt8) (s : Except Nat Nat) : GE × Except Nat Nat :=
  if (rdBetween l 0 1 (rdMax l s).2).1 = 1 then
    (⟨(rdMax l s).1, 1, (rdMax l (rdBetween l 0 1 (rdMax l s).2).2).1, (rdMax l (rdMax l (rdBetween l 0 1 (rdMax l s).2).2).2).1, ⟨(rdSql l (rdMax l (rdMax l (rdBetween l 0 1 (rdMax l s).2).2).2).2).1.toArray⟩⟩,
      (rdSql l (rdMax l (rdMax l (rdBetween l 0 1 (rdMax l s).2).2).2).2).2)
  else (⟨(rdMax l s).1, (rdBetween l 0 1 (rdMax l s).2).1, 0, 0, ⟨#[]⟩⟩, (rdBetween l 0 1 (rdMax l s).2).2)
theorem rdMax_ok {l : List UInt8} {a n k c q : Nat} (h : decU (l.drop a) = (n, k, c, q)) : rdMax l (.ok a) = if c = 0 then (n, .ok (a + k)) else (0, .error c) := rdUp_max h
theorem rdMax_err {l : List UInt8} {c : Nat} : rdMax l (.error c) = (0, .error c) := rfl
theorem rdB_err {l : List UInt8} {lo hi : Int} {c : Nat} : rdBetween l lo hi (.error c) = (0, .error c) := by simp [rdBetween, rdUp]
theorem rdSql_err {l : List UInt8} {c : Nat} : rdSql l (.error c) = ([], .error c) := by simp [rdSql, rdB_err, rdTake]
theorem rdSql_ok (l : List UInt8) (a : Nat) (ha : a ≤ l.length) :
    SameAt a l.length (rdSql l (.ok a)) (if twoMore (l.drop a) then ([], 0, 20) else refTxt (l.drop a) 2000) := by
  obtain ⟨n, k, c, q, hd⟩ : ∃ n k c q, decU (l.drop a) = (n, k, c, q) := ⟨_, _, _, _, rfl⟩
  have hu := rdUp_2000 hd
  have e : ((2000 : Int) - 0).toNat = 2000 := by decide
  cases ht : twoMore (l.drop a) with
  | true =>
    rw [ht] at hu
    simp at hu
    simp [SameAt, rdSql, rdBetween, hu, rdTake]
  | false =>
    rw [ht] at hu
    simp at hu
    by_cases hc : c = 0
    · subst hc
      have hk : 0 < k ∧ k ≤ (l.drop a).length := by
        rcases decU_cases (l.drop a) with ⟨n', k', hd', _, h8, h9⟩ | ⟨q', hd'⟩ | ⟨q', hd', _⟩
        · rw [hd'] at hd; simp only [Prod.mk.injEq] at hd; omega
        · rw [hd'] at hd; simp only [Prod.mk.injEq] at hd; omega
        · rw [hd'] at hd; simp only [Prod.mk.injEq] at hd; omega
      simp only [List.length_drop] at hk
      by_cases hn : n ≤ 2000
      · simp [hn] at hu
        have hn' : ¬ 2000 < n := by omega
        by_cases hs : l.length - a - k < n
        · have hs' : ¬ n ≤ l.length - (a + k) := by omega
          simp [SameAt, rdSql, rdBetween, hu, rdTake, refTxt, hd, hn', hs, hs']
        · have hs' : n ≤ l.length - (a + k) := by omega
          simp [SameAt, rdSql, rdBetween, hu, rdTake, refTxt, hd, hn', hs, hs', Nat.add_assoc]
          omega
      · simp [hn] at hu
        have hn' : 2000 < n := by omega
        simp [SameAt, rdSql, rdBetween, hu, rdTake, refTxt, hd, hn']
    · simp [hc] at hu
      simp [SameAt, rdSql, rdBetween, hu, rdTake, refTxt, hd, hc]
end Go.Proofs.YtlmjmhpdpgeplaaGreatDoor
