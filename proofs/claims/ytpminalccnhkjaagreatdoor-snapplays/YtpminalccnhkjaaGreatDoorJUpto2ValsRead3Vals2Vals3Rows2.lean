/- Contracts of the reader's fail, upTo, between, number. -/
import Derived.Test.YtpminalccnhkjaaGreatDoorJReaderUptoSum
import Derived.Test.YtpminalccnhkjaaGreatDoorJNumsFaultsUintWriter
import Derived.Lib.Bytealg
import Derived.Lib.BytesEntry
namespace Go.Proofs.YtpminalccnhkjaaGreatDoor
open Go.RowKit Go.Lib

theorem RS.later {w w' : World} {p : Nat} {l : List UInt8} {s : Except Nat Nat} (h : RS w p l s) (hb : Below w.heap.size w w') : RS w' p l s := by
  have hp := h.lt
  obtain ⟨hE, hG, f1, f2, ⟨v, h0, hv⟩, hs⟩ := h
  refine ⟨hE.below hb hE.lt, hG, (hb.frozen (p := ⟨p, 1, none⟩) hp).trans f1, (hb.frozen (p := ⟨p, 2, none⟩) hp).trans f2, ⟨v, (hb.cell (p := ⟨p, 0, none⟩) hp).trans h0, hv.below hb (by omega)⟩, ?_⟩
  cases s with
  | ok a => exact ⟨hs.1, (hb.cell (p := ⟨p, 1, none⟩) hp).trans hs.2.1, (hb.cell (p := ⟨p, 2, none⟩) hp).trans hs.2.2⟩
  | error c =>
    obtain ⟨a, b, pl, g1, g2, g3, g4, g5⟩ := hs
    exact ⟨a, b, pl, g1, (hb.cell (p := ⟨p, 1, none⟩) hp).trans g2, (hb.cell (p := ⟨p, 2, none⟩) hp).trans g3, g4, g5.below hb g5.lt⟩
theorem RS.drewN {w : World} {p : Nat} {l : List UInt8} {s : Except Nat Nat} (h : RS w p l s) (n : Nat) : RS (w.drewN n) p l s := h.later (below_drewN (Below.refl _ _) n)
theorem RS.alloc {w : World} {p : Nat} {l : List UInt8} {s : Except Nat Nat} (h : RS w p l s) (o : Obj) : RS (w.alloc o) p l s := h.later ((Below.refl _ _).alloc (Nat.le_refl _) o)

theorem ne12 (p : Nat) : (⟨p, 2, none⟩ : Addr) ≠ ⟨p, 1, none⟩ := by intro h; injection h; contradiction
theorem ne02 (p : Nat) : (⟨p, 2, none⟩ : Addr) ≠ ⟨p, 0, none⟩ := by intro h; injection h; contradiction
theorem ne10 (p : Nat) : (⟨p, 1, none⟩ : Addr) ≠ ⟨p, 0, none⟩ := by intro h; injection h; contradiction
theorem ET.setCell {w : World} {p : Nat} (h : ET w) (hG : 0 < p) (j : Nat) (u : Value) : ET (w.setCell ⟨p, j, none⟩ u) := by
  unfold ET; rw [World.cell?_setCell_other _ _ _ _ (by intro h; injection h; omega)]; exact h
theorem RBp.setCell {w : World} {p : Nat} {v : Value} {l : List UInt8} (h : RBp w p v l) (j : Nat) (u : Value) : RBp (w.setCell ⟨p, j, none⟩ u) p v l :=
  h.below ((Below.refl p w).setCell (by simp) u) (Nat.le_refl _)

theorem RS.failed {w : World} {p a b c : Nat} {pl : Int} {l : List UInt8} (h : RS w p l (.ok a)) (hb : p < b) (he : ErrAt w b pl (c : Int)) :
    RS (w.setCell ⟨p, 2, none⟩ (ev b)) p l (.error c) ∧ Fq p w (w.setCell ⟨p, 2, none⟩ (ev b)) := by
  obtain ⟨hE, hG, f1, f2, ⟨v, h0, hv⟩, hs⟩ := h
  refine ⟨⟨hE.setCell hG 2 _, hG, by simpa using f1, by simpa using f2, ⟨v, ?_, hv.setCell 2 _⟩, a, b, pl, hs.1, ?_, World.cell?_setCell_same _ _ _ hs.2.2, hb, ?_, ?_⟩, (Fq.refl _ _).setCell 2 _⟩
  · rw [World.cell?_setCell_other _ _ _ _ (ne02 p)]; exact h0
  · rw [World.cell?_setCell_other _ _ _ _ (ne12 p)]; exact hs.2.1
  · rw [World.cell?_setCell_other _ _ _ _ (by intro h; injection h; omega)]; exact he.1
  · rw [World.cell?_setCell_other _ _ _ _ (by intro h; injection h; omega)]; exact he.2
theorem RS.moved {w : World} {p a a' : Nat} {l : List UInt8} (h : RS w p l (.ok a)) (ha : a' ≤ l.length) :
    RS (w.setCell ⟨p, 1, none⟩ (.int .i64 (a' : Int))) p l (.ok a') ∧ Fq p w (w.setCell ⟨p, 1, none⟩ (.int .i64 (a' : Int))) := by
  obtain ⟨hE, hG, f1, f2, ⟨v, h0, hv⟩, hs⟩ := h
  refine ⟨⟨hE.setCell hG 1 _, hG, by simpa using f1, by simpa using f2, ⟨v, ?_, hv.setCell 1 _⟩, ha, World.cell?_setCell_same _ _ _ hs.2.1, ?_⟩, (Fq.refl _ _).setCell 1 _⟩
  · rw [World.cell?_setCell_other _ _ _ _ (ne10 p)]; exact h0
  · rw [World.cell?_setCell_other _ _ _ _ (ne12 p).symm]; exact hs.2.2

theorem uint_ok (v : Value) (B n k q : Nat) (l : List UInt8) (w : World) (hv : RBp w B v l) (hd : decU l = (n, k, 0, q)) :
    Calls Tryz.prog 68 #[v] w fun e w' => e = .returned (.tuple #[.int .u64 n, .int .i64 k, .nilIface]) ∧ w' = w := by
  refine (uint_any v B l w hv).mono ?_
  intro e w' h
  rw [hd] at h
  simpa [UPost] using h
theorem uint_bad (v : Value) (B c q : Nat) (l : List UInt8) (w : World) (hv : RBp w B v l) (hc : c ≠ 0) (hd : decU l = (0, 0, c, q)) :
    Calls Tryz.prog 68 #[v] w fun e w' => e = .returned (.tuple #[.int .u64 0, .int .i64 0, ev w.heap.size]) ∧ w' = w.alloc (.cells #[.int .i64 q, .iface 71 (.int .i64 c)] 93) := by
  refine (uint_any v B l w hv).mono ?_
  intro e w' h
  rw [hd] at h
  simpa [UPost, hc] using h

theorem fault_b (c q : Int) (w : World) :
    Calls Tryz.prog 60 #[.int .i64 c, .int .i64 q] w fun e w' => e = .returned (ev w.heap.size) ∧ ErrAt w' w.heap.size q c ∧ Below w.heap.size w w' := by
  refine (fault_any c q w).mono ?_
  rintro e w' ⟨rfl, rfl⟩
  exact ⟨rfl, ErrAt.new _ _ _, (Below.refl _ _).alloc (Nat.le_refl _) _⟩
theorem uint_badb (v : Value) (B c q : Nat) (l : List UInt8) (w : World) (hv : RBp w B v l) (hc : c ≠ 0) (hd : decU l = (0, 0, c, q)) :
    Calls Tryz.prog 68 #[v] w fun e w' => e = .returned (.tuple #[.int .u64 0, .int .i64 0, ev w.heap.size]) ∧ ErrAt w' w.heap.size q c ∧ Below w.heap.size w w' := by
  refine (uint_bad v B c q l w hv hc hd).mono ?_
  rintro e w' ⟨rfl, rfl⟩
  exact ⟨rfl, ErrAt.new _ _ _, (Below.refl _ _).alloc (Nat.le_refl _) _⟩
theorem RS.at1 {w : World} {p a : Nat} {l : List UInt8} (h : RS w p l (.ok a)) : w.cell? ⟨p, 1, none⟩ = some (.int .i64 (a : Int)) := by
  obtain ⟨_, _, _, _, _, _, h1, _⟩ := h; exact h1

theorem dec_cases : ∀ (l : List UInt8) (i acc : Nat), i ≤ 9 → acc < 2 ^ (7 * i) →
    (∃ n k, decFrom i acc l = (n, k, 0, 0) ∧ n < 18446744073709551616 ∧ k ≤ i + l.length ∧ i < k) ∨ (∃ q, decFrom i acc l = (0, 0, 20, q)) ∨ (∃ q, decFrom i acc l = (0, 0, 22, q) ∧ i + l.length ≤ 9)
  | [], i, acc, hi, ha => .inr (.inr ⟨i, rfl, by simpa using hi⟩)
  | c :: r, i, acc, hi, ha => by
    by_cases h1 : (i = 9 ∧ 1 < c.toNat) ∨ (0 < i ∧ c.toNat = 0)
    · exact .inr (.inl ⟨i, dec_form h1⟩)
    · by_cases h2 : c.toNat < 128
      · have ht := term_lt (k := i) (d := c.toNat % 128) hi (by omega) (by omega)
        have hal := acc_lt (d := c.toNat % 128) (by omega) ha
        refine .inl ⟨_, _, dec_done h1 h2, ?_, by simp, by omega⟩
        by_cases h9 : i = 9
        · subst h9
          have h10 : c.toNat % 128 * 2 ^ (7 * 9) ≤ 1 * 2 ^ (7 * 9) := Nat.mul_le_mul_right _ (by omega)
          simp at h10 ha ⊢; omega
        · have : 2 ^ (7 * (i + 1)) ≤ 2 ^ 63 := Nat.pow_le_pow_right (by decide) (by omega)
          simp at this; omega
      · have hal := acc_lt (d := c.toNat % 128) (by omega) ha
        have hi9 : i ≠ 9 := by omega
        rw [dec_more h1 h2]
        rcases dec_cases r (i + 1) _ (by omega) hal with ⟨n, k, e, g1, g2, g3⟩ | ⟨q, e⟩ | ⟨q, e, g⟩
        · exact .inl ⟨n, k, e, g1, by simp; omega, by omega⟩
        · exact .inr (.inl ⟨q, e⟩)
        · exact .inr (.inr ⟨q, e, by simp; omega⟩)

/-- Reading a number of at most most. -/
def rdUp (l : List UInt8) (most : Nat) : Except Nat Nat → Nat × Except Nat Nat
  | .error c => (0, .error c)
  | .ok a => if (decU (l.drop a)).2.2.1 = 0 then (if (decU (l.drop a)).1 ≤ most then ((decU (l.drop a)).1, .ok (a + (decU (l.drop a)).2.1)) else (0, .error 20))
      else if (decU (l.drop a)).2.2.1 = 22 ∧ leastN (l.drop a) ≤ most then (0, .error 22) else (0, .error 20)

end Go.Proofs.YtpminalccnhkjaaGreatDoor
/- Contracts of package wire's writer of values. -/
namespace Go.Proofs.YtpminalccnhkjaaGreatDoor
open Go.RowKit Go.Lib

/-- An api.Value. -/
structure GV where
  kind : Int
  int : Int
  text : ByteArray
def GV.agg (g : GV) : Value := .agg #[.int .i64 g.kind, .int .i64 g.int, .string g.text]
def GV.ok (g : GV) : Prop := -9223372036854775808 ≤ g.int ∧ g.int < 9223372036854775808 ∧ g.text.size ≤ maxLen
/-- It may be (P1.2). -/
def GV.may (g : GV) : Bool :=
  (g.kind == 0 && g.int == 0 && g.text.toList.isEmpty) || (g.kind == 1 && (g.int == 0 || g.int == 1) && g.text.toList.isEmpty) || (g.kind == 2 && g.text.toList.isEmpty) ||
  (g.kind == 3 && g.int == 0 && g.text.size ≤ 40 && indexByte g.text.data.toList 0 < 0)
/-- Its bytes. -/
def GV.bytes (g : GV) : List UInt8 :=
  uvarint g.kind.toNat ++ (if g.kind = 1 then uvarint g.int.toNat else if g.kind = 2 then uvarint (zigzag g.int) else if g.kind = 3 then uvarint g.text.size ++ g.text.data.toList else [])

theorem ret_bool {a b : Bool} (h : a = b) : Ending.returned (.bool a) = .returned (.bool b) := by rw [h]
end Go.Proofs.YtpminalccnhkjaaGreatDoor
/- Contracts of the reader's between, number, take, text and value. -/
namespace Go.Proofs.YtpminalccnhkjaaGreatDoor
open Go.RowKit Go.Lib

theorem rdUp_le {l : List UInt8} {most a : Nat} {s : Except Nat Nat} (h : (rdUp l most s).2 = .ok a) : (rdUp l most s).1 ≤ most := by
  cases s with
  | error c => simp [rdUp] at h
  | ok b =>
    unfold rdUp at h ⊢
    dsimp only at h ⊢
    by_cases h1 : (decU (l.drop b)).2.2.1 = 0
    · by_cases h2 : (decU (l.drop b)).1 ≤ most
      · simp [h1, h2]
      · simp [h1, h2] at h
    · rw [if_neg h1] at h; split at h <;> cases h

def rdBetween (l : List UInt8) (lo hi : Int) (s : Except Nat Nat) : Int × Except Nat Nat :=
  match (rdUp l (hi - lo).toNat s).2 with
  | .ok a => (lo + (rdUp l (hi - lo).toNat s).1, .ok a)
  | .error c => (0, .error c)

theorem RS.cells_ok {w : World} {p a : Nat} {l : List UInt8} (h : RS w p l (.ok a)) : w.cell? ⟨p, 1, none⟩ = some (.int .i64 (a : Int)) ∧ w.cell? ⟨p, 2, none⟩ = some .nilIface ∧ a ≤ l.length := by
  obtain ⟨_, _, _, _, _, h0, h1, h2⟩ := h; exact ⟨h1, h2, h0⟩
theorem RS.cells_err {w : World} {p c : Nat} {l : List UInt8} (h : RS w p l (.error c)) : ∃ b, w.cell? ⟨p, 2, none⟩ = some (ev b) := by
  obtain ⟨_, _, _, _, _, a, b, pl, _, _, h2, _⟩ := h; exact ⟨b, h2⟩

/-- Taking n bytes. -/
def rdTake (l : List UInt8) (n : Nat) : Except Nat Nat → List UInt8 × Except Nat Nat
  | .error c => ([], .error c)
  | .ok a => if n ≤ l.length - a then ((l.drop a).take n, .ok (a + n)) else ([], .error 22)
end Go.Proofs.YtpminalccnhkjaaGreatDoor
/- Contracts of package wire's writer: texts, values. -/
namespace Go.Proofs.YtpminalccnhkjaaGreatDoor
open Go.RowKit Go.Lib

theorem strCells_eq (t : ByteArray) : strCells t = byteCells t.data.toList := rfl
theorem bytes_length (t : ByteArray) : t.data.toList.length = t.size := by simp

/-- What a writer has behind a text. -/
def putText (t : ByteArray) (most : Int) (s : Option (List UInt8)) : Option (List UInt8) :=
  if (t.size : Int) ≤ most then s.map (· ++ (uvarint t.size ++ t.data.toList)) else none

end Go.Proofs.YtpminalccnhkjaaGreatDoor
/- Contract of package wire's writer of one value. -/
namespace Go.Proofs.YtpminalccnhkjaaGreatDoor
open Go.RowKit Go.Lib

theorem WS.alloc {w : World} {p : Nat} {s : Option (List UInt8)} (h : WS w p s) (o : Obj) : WS (w.alloc o) p s := by
  have hp := h.lt
  cases s with
  | none =>
    obtain ⟨f0, f1, b, pl, h0, h1, hb, he⟩ := h
    exact ⟨by rw [World.frozen?_alloc_old _ _ _ (Nat.ne_of_lt hp)]; exact f0, by rw [World.frozen?_alloc_old _ _ _ (Nat.ne_of_lt hp)]; exact f1, b, pl, (World.cell?_alloc_lt _ _ ⟨p, 0, none⟩ hp).trans h0, (World.cell?_alloc_lt _ _ ⟨p, 1, none⟩ hp).trans h1, hb, he.alloc o⟩
  | some l =>
    obtain ⟨f0, f1, v, h0, h1, ho⟩ := h
    exact ⟨by rw [World.frozen?_alloc_old _ _ _ (Nat.ne_of_lt hp)]; exact f0, by rw [World.frozen?_alloc_old _ _ _ (Nat.ne_of_lt hp)]; exact f1, v, (World.cell?_alloc_lt _ _ ⟨p, 0, none⟩ hp).trans h0, (World.cell?_alloc_lt _ _ ⟨p, 1, none⟩ hp).trans h1, ho.alloc o⟩

/-- What a writer has behind a value. -/
def putVal (g : GV) (s : Option (List UInt8)) : Option (List UInt8) := if g.may then s.map (· ++ g.bytes) else none
theorem bind_len {s : Option (List UInt8)} {x : List UInt8} (h : ∀ l, s = some l → l.length ≤ 800000000) (hx : x.length ≤ 100) : ∀ l, s.map (· ++ x) = some l → l.length ≤ 900000000 := by
  intro l e
  cases s with
  | none => cases e
  | some l0 => simp at e; subst e; have := h l0 rfl; simp; omega
theorem uv_small (x : Nat) (h : x < 18446744073709551616) : (uvarint x).length ≤ 100 := Nat.le_trans (uvarint_length64 h) (by decide)
theorem map_map (s : Option (List UInt8)) (x y : List UInt8) : (s.map (· ++ x)).map (· ++ y) = s.map (· ++ (x ++ y)) := by
  cases s <;> simp

end Go.Proofs.YtpminalccnhkjaaGreatDoor
/- Contracts of package wire's writer of rows: list, row, done, PutRow. -/
namespace Go.Proofs.YtpminalccnhkjaaGreatDoor
open Go.RowKit Go.Lib

/-- A slice of values that reads as these. -/
def RV (w : World) (B : Nat) (v : Value) (gs : List GV) : Prop :=
  gs.length * 32 ≤ 140737488351232 ∧ (∀ g ∈ gs, g.ok) ∧ ((v = .slice none 0 0 ∧ gs = []) ∨
    ∃ b off cap, b < B ∧ v = .slice (some ⟨b, off, none⟩) gs.length cap ∧ ∀ i g, gs[i]? = some g → w.cell? ⟨b, off + i * 3, none⟩ = some (.int .i64 g.kind) ∧ w.cell? ⟨b, off + i * 3 + 1, none⟩ = some (.int .i64 g.int) ∧ w.cell? ⟨b, off + i * 3 + 2, none⟩ = some (.string g.text))

def putVals (gs : List GV) (s : Option (List UInt8)) : Option (List UInt8) := gs.foldl (fun s g => putVal g s) s
theorem putVal_none (g : GV) : putVal g none = none := by unfold putVal; split <;> rfl
theorem putVals_none (gs : List GV) : putVals gs none = none := by
  induction gs with
  | nil => rfl
  | cons g r ih => simp only [putVals, List.foldl_cons, putVal_none]; exact ih
theorem putVals_snoc (gs : List GV) (s : Option (List UInt8)) (k : Nat) (g : GV) (h : gs[k]? = some g) : putVals (gs.take (k + 1)) s = putVal g (putVals (gs.take k) s) := by
  rw [List.take_add_one, h, putVals, List.foldl_append]; rfl
theorem putVals_split (gs : List GV) (s : Option (List UInt8)) (k : Nat) : putVals gs s = putVals (gs.drop k) (putVals (gs.take k) s) := by
  rw [putVals, putVals, putVals, ← List.foldl_append, List.take_append_drop]
theorem may_len {g : GV} (h : g.may = true) (hg : g.ok) : g.bytes.length ≤ 100 := by
  obtain ⟨k, n, t⟩ := g
  obtain ⟨h1, h2, h3⟩ := hg
  dsimp only at h1 h2 h3
  by_cases hk0 : k = 0
  · subst hk0; simp [GV.bytes]; exact uv_small 0 (by decide)
  · by_cases hk1 : k = 1
    · subst hk1
      have hb : n = 0 ∨ n = 1 := by simp [GV.may] at h; exact h.1
      have a1 := uvarint_length64 (x := 1) (by decide)
      have a0 := uvarint_length64 (x := 0) (by decide)
      rcases hb with rfl | rfl <;> simp [GV.bytes] <;> omega
    · by_cases hk2 : k = 2
      · subst hk2
        have a1 := uvarint_length64 (x := 2) (by decide)
        have a0 := uvarint_length64 (zigzag_lt h1 (by omega : n ≤ 9223372036854775807))
        simp [GV.bytes]; omega
      · have b0 : (k == 0) = false := by simp [hk0]
        have b1 : (k == 1) = false := by simp [hk1]
        have b2 : (k == 2) = false := by simp [hk2]
        simp [GV.may, b0, b1, b2] at h
        obtain ⟨⟨⟨rfl, _⟩, h40⟩, _⟩ := h
        have a1 := uvarint_length64 (x := 3) (by decide)
        have a0 := uvarint_length64 (x := t.size) (by omega)
        simp [GV.bytes]; omega
theorem putVals_len {gs : List GV} (hg : ∀ g ∈ gs, g.ok) {l0 : List UInt8} : ∀ l, putVals gs (some l0) = some l → l.length ≤ l0.length + 100 * gs.length := by
  induction gs generalizing l0 with
  | nil => intro l h; simp [putVals] at h; subst h; simp
  | cons g r ih =>
    intro l h
    have e : putVals (g :: r) (some l0) = putVals r (putVal g (some l0)) := rfl
    rw [e] at h
    unfold putVal at h
    by_cases hm : g.may = true
    · rw [if_pos hm] at h
      have := ih (fun g hg' => hg g (List.mem_cons_of_mem _ hg')) l h
      have hb := may_len hm (hg g (List.mem_cons_self))
      simp at this ⊢; omega
    · rw [if_neg hm, putVals_none] at h; cases h

/-- What a writer has behind the number of a list. -/
def putLen (n : Nat) (most : Int) (s : Option (List UInt8)) : Option (List UInt8) := if (n : Int) ≤ most then s.map (· ++ uvarint n) else none

end Go.Proofs.YtpminalccnhkjaaGreatDoor
