/- Contract of wire.PutRow. -/
import Derived.Test.YtmahkhpmaenkhaaDoorJValsRead3Vals2Vals3Rows2
import Derived.Deep.QuietTactic
import Derived.BigQuiet
import Derived.WalkSmall
import Derived.Test.YtmahkhpmaenkhaaDoorRVal
namespace Go.Proofs.YtmahkhpmaenkhaaDoor
open Go.RowKit Go.Lib

/-- What a writer's done tells. -/
def DonePost (s : Option (List UInt8)) (B : Nat) (w : World) (e : Ending) (w' : World) : Prop :=
  match s with
  | some l => ∃ a k, e = .returned (.tuple #[.slice a l.length k, .nilIface]) ∧ w'.ownsRow B 5 1 (.slice a l.length k) l.length (byteCells l) ∧ Below B w w'
  | none => ∃ (b : Nat) (pl : I6), e = .returned (.tuple #[.slice none 0 0, ev b]) ∧ B ≤ b ∧ ErrAt w' b pl 20 ∧ Below B w w'

theorem own_weaker {w : World} {B B' : Nat} {e : TypeId} {sz : Nat} {v : Value} {n : Nat} {xs : List Value} (hB : B' ≤ B) (h : w.ownsRow B e sz v n xs) : w.ownsRow B' e sz v n xs := by
  obtain ⟨h1, h2 | ⟨g, cap, cur, h3, h4, h5⟩⟩ := h
  · exact ⟨h1, .inl h2⟩
  · exact ⟨h1, .inr ⟨g, cap, cur, h3, by omega, h5⟩⟩
end Go.Proofs.YtmahkhpmaenkhaaDoor
/- Contracts of the reader's lists of values, and of wire.Row. -/
namespace Go.Proofs.YtmahkhpmaenkhaaDoor
open Go.RowKit Go.Lib

def gvCells (g : GV) : List Value := [.int .i64 g.kind, .int .i64 g.int, .string g.text]
def gvsCells (gs : List GV) : List Value := gs.flatMap gvCells
theorem gvsCells_length (gs : List GV) : (gvsCells gs).length = gs.length * 3 := by
  induction gs with
  | nil => rfl
  | cons g r ih => simp [gvsCells, gvCells] at ih ⊢; omega
theorem gvsCells_snoc (gs : List GV) (g : GV) : gvsCells (gs ++ [g]) = gvsCells gs ++ gvCells g := by simp [gvsCells]

/-- Reading n values: those that were read, and where the reader is; behind a fault none. -/
def rdVals (l : List UInt8) : Nat → Except Nat Nat → List GV × Except Nat Nat
  | 0, s => ([], s)
  | n + 1, s => match (rdVals l n s).2 with
    | .error c => ([], .error c)
    | .ok a => match (rdVal l (.ok a)).2 with
      | .error c => ([], .error c)
      | .ok b => ((rdVals l n s).1 ++ [(rdVal l (.ok a)).1], .ok b)
/-- Reading a row. -/
def rdRow (l : List UInt8) (s : Except Nat Nat) : List GV × Except Nat Nat :=
  match (rdBetween l 0 64 s).2 with
  | .error c => ([], .error c)
  | .ok a => rdVals l (rdBetween l 0 64 s).1.toNat (.ok a)
theorem rdVals_err {l : List UInt8} {s : Except Nat Nat} {c n m : Nat} (h : (rdVals l n s).2 = .error c) (hm : n ≤ m) : rdVals l m s = ((rdVals l m s).1, .error c) ∧ (rdVals l m s).2 = .error c := by
  induction m with
  | zero => have : n = 0 := by omega
            subst this; exact ⟨Prod.ext rfl h, h⟩
  | succ m ih =>
    by_cases e : n = m + 1
    · subst e; exact ⟨Prod.ext rfl h, h⟩
    · have := (ih (by omega)).2
      simp [rdVals, this]

theorem three_new (w : World) (g : GV) (e : TypeId) : ∀ j v, (gvCells g)[j]? = some v → (w.alloc (.cells #[.int .i64 g.kind, .int .i64 g.int, .string g.text] e)).cell? ((⟨w.heap.size, 0, none⟩ : Addr).add j) = some v := by
  intro j v hj
  match j, hj with
  | 0, hj => simp [gvCells] at hj; subst hj; simp [Addr.add]
  | 1, hj => simp [gvCells] at hj; subst hj; simp [Addr.add]
  | 2, hj => simp [gvCells] at hj; subst hj; simp [Addr.add]
theorem three_cell (g : GV) : ∀ u ∈ gvCells g, u.oneCell' = true := by
  intro u hu
  simp [gvCells] at hu
  rcases hu with rfl | rfl | rfl <;> rfl

theorem own_fq {w w' : World} {p : Nat} {e : TypeId} {sz : Nat} {v : Value} {n : Nat} {xs : List Value} (h : w.ownsRow (p + 1) e sz v n xs) (hf : Fq p w w') : w'.ownsRow (p + 1) e sz v n xs := by
  obtain ⟨h1, h2 | ⟨g, cap, cur, h3, h4, h5, h6⟩⟩ := h
  · exact ⟨h1, .inl h2⟩
  · have hg : g < w.heap.size := by
      rcases Nat.lt_or_ge g w.heap.size with h' | h'
      · exact h'
      · rw [Array.getElem?_eq_none h'] at h5; cases h5
    exact ⟨h1, .inr ⟨g, cap, cur, h3, h4, (hf.2 g hg (by omega)).trans h5, h6⟩⟩
theorem RS.ok_below {w w' : World} {p a : Nat} {l : List UInt8} (h : RS w p l (.ok a)) (hb : Below (p + 1) w w') : RS w' p l (.ok a) := by
  obtain ⟨hE, hG, f1, f2, ⟨v, h0, hv⟩, g1, g2, g3⟩ := h
  exact ⟨hE.below hb (by omega), hG, (hb.frozen (p := ⟨p, 1, none⟩) (by simp)).trans f1, (hb.frozen (p := ⟨p, 2, none⟩) (by simp)).trans f2, ⟨v, (hb.cell (p := ⟨p, 0, none⟩) (by simp)).trans h0, hv.below hb (by omega)⟩, g1, (hb.cell (p := ⟨p, 1, none⟩) (by simp)).trans g2, (hb.cell (p := ⟨p, 2, none⟩) (by simp)).trans g3⟩

end Go.Proofs.YtmahkhpmaenkhaaDoor
/- Contracts of package wire's writer of entries. -/
namespace Go.Proofs.YtmahkhpmaenkhaaDoor
open Go.RowKit Go.Lib

/-- An api.Entry. -/
structure GE where
  term : Nat
  kind : Int
  client : Nat
  seq : Nat
  sql : ByteArray
def GE.cells (g : GE) : Array Value := #[.int .u64 g.term, .int .i64 g.kind, .int .u64 g.client, .int .u64 g.seq, .string g.sql]
def GE.agg (g : GE) : Value := .agg g.cells
def GE.ok (g : GE) : Prop := g.term < 18446744073709551616 ∧ g.client < 18446744073709551616 ∧ g.seq < 18446744073709551616 ∧ g.sql.size ≤ maxLen
/-- It may be written (P1.3). -/
def GE.may (g : GE) : Bool := (g.kind == 0 && g.client == 0 && g.seq == 0 && g.sql.toList.isEmpty || g.kind == 1) && g.sql.size ≤ 2000
def GE.bytes (g : GE) : List UInt8 :=
  uvarint g.term ++ (uvarint g.kind.toNat ++ (if g.kind = 1 then uvarint g.client ++ (uvarint g.seq ++ (uvarint g.sql.size ++ g.sql.data.toList)) else []))

theorem isEmpty_size (t : ByteArray) (h : t.toList.isEmpty = true) : t.size = 0 := by
  have h2 : t.toList = [] := List.isEmpty_iff.1 h
  rw [toList_data] at h2
  rw [← bytes_length, h2]; rfl

/-- What a writer has behind an entry. -/
def putEnt (g : GE) (s : Option (List UInt8)) : Option (List UInt8) := if g.may then s.map (· ++ g.bytes) else none
theorem map_len {s : Option (List UInt8)} {x : List UInt8} {n m : Nat} (h : ∀ l, s = some l → l.length ≤ n) (hx : x.length ≤ m) : ∀ l, s.map (· ++ x) = some l → l.length ≤ n + m := by
  intro l e
  cases s with
  | none => cases e
  | some l0 => simp at e; subst e; have := h l0 rfl; simp; omega

end Go.Proofs.YtmahkhpmaenkhaaDoor
