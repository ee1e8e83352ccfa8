/- Contracts of package wire's writer of values. -/
import Derived.Test.YtmahkhpmaenkhaaDoorJFaultsWriter
import Derived.Lib.Bytealg
import Derived.Test.YtmahkhpmaenkhaaDoorUpto2
import Derived.Lib.BytesEntry
namespace Go.Proofs.YtmahkhpmaenkhaaDoor
open Go.RowKit Go.Lib

/-- An api.Value. -/
structure GV where
  kind : Int
  int : Int
  text : ByteArray
def GV.agg (g : GV) : Value := .agg #[.int .i64 g.kind, .int .i64 g.int, .string g.text]
def GV.ok (g : GV) : Prop := -9223372036854775808 ≤ g.int ∧ g.int < 9223372036854775808 ∧ g.text.size ≤ maxLen
/-- It may be (P1.2). -/
def GV.may (g : GV) : Bool :=
  (g.kind == 0 && g.int == 0 && g.text.toList.isEmpty) || (g.kind == 1 && (g.int == 0 || g.int == 1) && g.text.toList.isEmpty) || (g.kind == 2 && g.text.toList.isEmpty) ||
  (g.kind == 3 && g.int == 0 && g.text.size ≤ 40 && indexByte g.text.data.toList 0 < 0)
/-- Its bytes. -/
def GV.bytes (g : GV) : List UInt8 :=
  uvarint g.kind.toNat ++ (if g.kind = 1 then uvarint g.int.toNat else if g.kind = 2 then uvarint (zigzag g.int) else if g.kind = 3 then uvarint g.text.size ++ g.text.data.toList else [])

theorem ret_bool {a b : Bool} (h : a = b) : Ending.returned (.bool a) = .returned (.bool b) := by rw [h]
end Go.Proofs.YtmahkhpmaenkhaaDoor
/- Contracts of the reader's between, number, take, text and value. -/
namespace Go.Proofs.YtmahkhpmaenkhaaDoor
open Go.RowKit Go.Lib

theorem rdUp_le {l : List UInt8} {most a : Nat} {s : Except Nat Nat} (h : (rdUp l most s).2 = .ok a) : (rdUp l most s).1 ≤ most := by
  cases s with
  | error c => simp [rdUp] at h
  | ok b =>
    unfold rdUp at h ⊢
    dsimp only at h ⊢
    by_cases h1 : (decU (l.drop b)).2.2.1 = 0
    · by_cases h2 : (decU (l.drop b)).1 ≤ most
      · simp [h1, h2]
      · simp [h1, h2] at h
    · rw [if_neg h1] at h; split at h <;> cases h

def rdBetween (l : List UInt8) (lo hi : Int) (s : Except Nat Nat) : Int × Except Nat Nat :=
  match (rdUp l (hi - lo).toNat s).2 with
  | .ok a => (lo + (rdUp l (hi - lo).toNat s).1, .ok a)
  | .error c => (0, .error c)

theorem RS.cells_ok {w : World} {p a : Nat} {l : List UInt8} (h : RS w p l (.ok a)) : w.cell? ⟨p, 1, none⟩ = some (.int .i64 (a : Int)) ∧ w.cell? ⟨p, 2, none⟩ = some .nilIface ∧ a ≤ l.length := by
  obtain ⟨_, _, _, _, _, h0, h1, h2⟩ := h; exact ⟨h1, h2, h0⟩
theorem RS.cells_err {w : World} {p c : Nat} {l : List UInt8} (h : RS w p l (.error c)) : ∃ b, w.cell? ⟨p, 2, none⟩ = some (ev b) := by
  obtain ⟨_, _, _, _, _, a, b, pl, _, _, h2, _⟩ := h; exact ⟨b, h2⟩

/-- Taking n bytes. -/
def rdTake (l : List UInt8) (n : Nat) : Except Nat Nat → List UInt8 × Except Nat Nat
  | .error c => ([], .error c)
  | .ok a => if n ≤ l.length - a then ((l.drop a).take n, .ok (a + n)) else ([], .error 22)
end Go.Proofs.YtmahkhpmaenkhaaDoor
/- Contracts of package wire's writer: texts, values. -/
namespace Go.Proofs.YtmahkhpmaenkhaaDoor
open Go.RowKit Go.Lib

theorem strCells_eq (t : ByteArray) : strCells t = byteCells t.data.toList := rfl
theorem bytes_length (t : ByteArray) : t.data.toList.length = t.size := by simp

/-- What a writer has behind a text. -/
def putText (t : ByteArray) (most : Int) (s : Option (List UInt8)) : Option (List UInt8) :=
  if (t.size : Int) ≤ most then s.map (· ++ (uvarint t.size ++ t.data.toList)) else none

end Go.Proofs.YtmahkhpmaenkhaaDoor
/- Contract of package wire's writer of one value. -/
namespace Go.Proofs.YtmahkhpmaenkhaaDoor
open Go.RowKit Go.Lib

theorem WS.alloc {w : World} {p : Nat} {s : Option (List UInt8)} (h : WS w p s) (o : Obj) : WS (w.alloc o) p s := by
  have hp := h.lt
  cases s with
  | none =>
    obtain ⟨f0, f1, b, pl, h0, h1, hb, he⟩ := h
    exact ⟨by rw [World.frozen?_alloc_old _ _ _ (Nat.ne_of_lt hp)]; exact f0, by rw [World.frozen?_alloc_old _ _ _ (Nat.ne_of_lt hp)]; exact f1, b, pl, (World.cell?_alloc_lt _ _ ⟨p, 0, none⟩ hp).trans h0, (World.cell?_alloc_lt _ _ ⟨p, 1, none⟩ hp).trans h1, hb, he.alloc o⟩
  | some l =>
    obtain ⟨f0, f1, v, h0, h1, ho⟩ := h
    exact ⟨by rw [World.frozen?_alloc_old _ _ _ (Nat.ne_of_lt hp)]; exact f0, by rw [World.frozen?_alloc_old _ _ _ (Nat.ne_of_lt hp)]; exact f1, v, (World.cell?_alloc_lt _ _ ⟨p, 0, none⟩ hp).trans h0, (World.cell?_alloc_lt _ _ ⟨p, 1, none⟩ hp).trans h1, ho.alloc o⟩

/-- What a writer has behind a value. -/
def putVal (g : GV) (s : Option (List UInt8)) : Option (List UInt8) := if g.may then s.map (· ++ g.bytes) else none
theorem bind_len {s : Option (List UInt8)} {x : List UInt8} (h : ∀ l, s = some l → l.length ≤ 800000000) (hx : x.length ≤ 100) : ∀ l, s.map (· ++ x) = some l → l.length ≤ 900000000 := by
  intro l e
  cases s with
  | none => cases e
  | some l0 => simp at e; subst e; have := h l0 rfl; simp; omega
theorem uv_small (x : Nat) (h : x < 18446744073709551616) : (uvarint x).length ≤ 100 := Nat.le_trans (uvarint_length64 h) (by decide)
theorem map_map (s : Option (List UInt8)) (x y : List UInt8) : (s.map (· ++ x)).map (· ++ y) = s.map (· ++ (x ++ y)) := by
  cases s <;> simp

end Go.Proofs.YtmahkhpmaenkhaaDoor
/- Contracts of package wire's writer of rows: list, row, done, PutRow. -/
namespace Go.Proofs.YtmahkhpmaenkhaaDoor
open Go.RowKit Go.Lib

/-- A slice of values that reads as these. -/
def RV (w : World) (B : Nat) (v : Value) (gs : List GV) : Prop :=
  gs.length * 32 ≤ 140737488351232 ∧ (∀ g ∈ gs, g.ok) ∧ ((v = .slice none 0 0 ∧ gs = []) ∨
    ∃ b off cap, b < B ∧ v = .slice (some ⟨b, off, none⟩) gs.length cap ∧ ∀ i g, gs[i]? = some g → w.cell? ⟨b, off + i * 3, none⟩ = some (.int .i64 g.kind) ∧ w.cell? ⟨b, off + i * 3 + 1, none⟩ = some (.int .i64 g.int) ∧ w.cell? ⟨b, off + i * 3 + 2, none⟩ = some (.string g.text))

def putVals (gs : List GV) (s : Option (List UInt8)) : Option (List UInt8) := gs.foldl (fun s g => putVal g s) s
theorem putVal_none (g : GV) : putVal g none = none := by unfold putVal; split <;> rfl
theorem putVals_none (gs : List GV) : putVals gs none = none := by
  induction gs with
  | nil => rfl
  | cons g r ih => simp only [putVals, List.foldl_cons, putVal_none]; exact ih
theorem putVals_snoc (gs : List GV) (s : Option (List UInt8)) (k : Nat) (g : GV) (h : gs[k]? = some g) : putVals (gs.take (k + 1)) s = putVal g (putVals (gs.take k) s) := by
  rw [List.take_add_one, h, putVals, List.foldl_append]; rfl
theorem putVals_split (gs : List GV) (s : Option (List UInt8)) (k : Nat) : putVals gs s = putVals (gs.drop k) (putVals (gs.take k) s) := by
  rw [putVals, putVals, putVals, ← List.foldl_append, List.take_append_drop]
theorem may_len {g : GV} (h : g.may = true) (hg : g.ok) : g.bytes.length ≤ 100 := by
  obtain ⟨k, n, t⟩ := g
  obtain ⟨h1, h2, h3⟩ := hg
  dsimp only at h1 h2 h3
  by_cases hk0 : k = 0
  · subst hk0; simp [GV.bytes]; exact uv_small 0 (by decide)
  · by_cases hk1 : k = 1
    · subst hk1
      have hb : n = 0 ∨ n = 1 := by simp [GV.may] at h; exact h.1
      have a1 := uvarint_length64 (x := 1) (by decide)
      have a0 := uvarint_length64 (x := 0) (by decide)
      rcases hb with rfl | rfl <;> simp [GV.bytes] <;> omega
    · by_cases hk2 : k = 2
      · subst hk2
        have a1 := uvarint_length64 (x := 2) (by decide)
        have a0 := uvarint_length64 (zigzag_lt h1 (by omega : n ≤ 9223372036854775807))
        simp [GV.bytes]; omega
      · have b0 : (k == 0) = false := by simp [hk0]
        have b1 : (k == 1) = false := by simp [hk1]
        have b2 : (k == 2) = false := by simp [hk2]
        simp [GV.may, b0, b1, b2] at h
        obtain ⟨⟨⟨rfl, _⟩, h40⟩, _⟩ := h
        have a1 := uvarint_length64 (x := 3) (by decide)
        have a0 := uvarint_length64 (x := t.size) (by omega)
        simp [GV.bytes]; omega
theorem putVals_len {gs : List GV} (hg : ∀ g ∈ gs, g.ok) {l0 : List UInt8} : ∀ l, putVals gs (some l0) = some l → l.length ≤ l0.length + 100 * gs.length := by
  induction gs generalizing l0 with
  | nil => intro l h; simp [putVals] at h; subst h; simp
  | cons g r ih =>
    intro l h
    have e : putVals (g :: r) (some l0) = putVals r (putVal g (some l0)) := rfl
    rw [e] at h
    unfold putVal at h
    by_cases hm : g.may = true
    · rw [if_pos hm] at h
      have := ih (fun g hg' => hg g (List.mem_cons_of_mem _ hg')) l h
      have hb := may_len hm (hg g (List.mem_cons_self))
      simp at this ⊢; omega
    · rw [if_neg hm, putVals_none] at h; cases h

/-- What a writer has behind the number of a list. -/
def putLen (n : Nat) (most : Int) (s : Option (List UInt8)) : Option (List UInt8) := if (n : Int) ≤ most then s.map (· ++ uvarint n) else none

end Go.Proofs.YtmahkhpmaenkhaaDoor
