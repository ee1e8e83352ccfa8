/- Contracts of the reader's fail, upTo, between, number. -/
import Derived.Test.YtmahkhpmaenkhaaDoorJReaderUpto
namespace Go.Proofs.YtmahkhpmaenkhaaDoor
open Go.RowKit Go.Lib

theorem RS.later {w w' : World} {p : Nat} {l : List UInt8} {s : Except Nat Nat} (h : RS w p l s) (hb : Below w.heap.size w w') : RS w' p l s := by
  have hp := h.lt
  obtain ⟨hE, hG, f1, f2, ⟨v, h0, hv⟩, hs⟩ := h
  refine ⟨hE.below hb hE.lt, hG, (hb.frozen (p := ⟨p, 1, none⟩) hp).trans f1, (hb.frozen (p := ⟨p, 2, none⟩) hp).trans f2, ⟨v, (hb.cell (p := ⟨p, 0, none⟩) hp).trans h0, hv.below hb (by omega)⟩, ?_⟩
  cases s with
  | ok a => exact ⟨hs.1, (hb.cell (p := ⟨p, 1, none⟩) hp).trans hs.2.1, (hb.cell (p := ⟨p, 2, none⟩) hp).trans hs.2.2⟩
  | error c =>
    obtain ⟨a, b, pl, g1, g2, g3, g4, g5⟩ := hs
    exact ⟨a, b, pl, g1, (hb.cell (p := ⟨p, 1, none⟩) hp).trans g2, (hb.cell (p := ⟨p, 2, none⟩) hp).trans g3, g4, g5.below hb g5.lt⟩
theorem RS.drewN {w : World} {p : Nat} {l : List UInt8} {s : Except Nat Nat} (h : RS w p l s) (n : Nat) : RS (w.drewN n) p l s := h.later (below_drewN (Below.refl _ _) n)
theorem RS.alloc {w : World} {p : Nat} {l : List UInt8} {s : Except Nat Nat} (h : RS w p l s) (o : Obj) : RS (w.alloc o) p l s := h.later ((Below.refl _ _).alloc (Nat.le_refl _) o)

theorem ne12 (p : Nat) : (⟨p, 2, none⟩ : Addr) ≠ ⟨p, 1, none⟩ := by intro h; injection h; contradiction
theorem ne02 (p : Nat) : (⟨p, 2, none⟩ : Addr) ≠ ⟨p, 0, none⟩ := by intro h; injection h; contradiction
theorem ne10 (p : Nat) : (⟨p, 1, none⟩ : Addr) ≠ ⟨p, 0, none⟩ := by intro h; injection h; contradiction
theorem ET.setCell {w : World} {p : Nat} (h : ET w) (hG : 0 < p) (j : Nat) (u : Value) : ET (w.setCell ⟨p, j, none⟩ u) := by
  unfold ET; rw [World.cell?_setCell_other _ _ _ _ (by intro h; injection h; omega)]; exact h
theorem RBp.setCell {w : World} {p : Nat} {v : Value} {l : List UInt8} (h : RBp w p v l) (j : Nat) (u : Value) : RBp (w.setCell ⟨p, j, none⟩ u) p v l :=
  h.below ((Below.refl p w).setCell (by simp) u) (Nat.le_refl _)

theorem RS.failed {w : World} {p a b c : Nat} {pl : Int} {l : List UInt8} (h : RS w p l (.ok a)) (hb : p < b) (he : ErrAt w b pl (c : Int)) :
    RS (w.setCell ⟨p, 2, none⟩ (ev b)) p l (.error c) ∧ Fq p w (w.setCell ⟨p, 2, none⟩ (ev b)) := by
  obtain ⟨hE, hG, f1, f2, ⟨v, h0, hv⟩, hs⟩ := h
  refine ⟨⟨hE.setCell hG 2 _, hG, by simpa using f1, by simpa using f2, ⟨v, ?_, hv.setCell 2 _⟩, a, b, pl, hs.1, ?_, World.cell?_setCell_same _ _ _ hs.2.2, hb, ?_, ?_⟩, (Fq.refl _ _).setCell 2 _⟩
  · rw [World.cell?_setCell_other _ _ _ _ (ne02 p)]; exact h0
  · rw [World.cell?_setCell_other _ _ _ _ (ne12 p)]; exact hs.2.1
  · rw [World.cell?_setCell_other _ _ _ _ (by intro h; injection h; omega)]; exact he.1
  · rw [World.cell?_setCell_other _ _ _ _ (by intro h; injection h; omega)]; exact he.2
theorem RS.moved {w : World} {p a a' : Nat} {l : List UInt8} (h : RS w p l (.ok a)) (ha : a' ≤ l.length) :
    RS (w.setCell ⟨p, 1, none⟩ (.int .i64 (a' : Int))) p l (.ok a') ∧ Fq p w (w.setCell ⟨p, 1, none⟩ (.int .i64 (a' : Int))) := by
  obtain ⟨hE, hG, f1, f2, ⟨v, h0, hv⟩, hs⟩ := h
  refine ⟨⟨hE.setCell hG 1 _, hG, by simpa using f1, by simpa using f2, ⟨v, ?_, hv.setCell 1 _⟩, ha, World.cell?_setCell_same _ _ _ hs.2.1, ?_⟩, (Fq.refl _ _).setCell 1 _⟩
  · rw [World.cell?_setCell_other _ _ _ _ (ne10 p)]; exact h0
  · rw [World.cell?_setCell_other _ _ _ _ (ne12 p).symm]; exact hs.2.2

theorem uint_ok (v : Value) (B n k q : Nat) (l : List UInt8) (w : World) (hv : RBp w B v l) (hd : decU l = (n, k, 0, q)) :
    Calls Tryd.prog 42 #[v] w fun e w' => e = .returned (.tuple #[.int .u64 n, .int .i64 k, .nilIface]) ∧ w' = w := by
  refine (uint_any v B l w hv).mono ?_
  intro e w' h
  rw [hd] at h
  simpa [UPost] using h
theorem uint_bad (v : Value) (B c q : Nat) (l : List UInt8) (w : World) (hv : RBp w B v l) (hc : c ≠ 0) (hd : decU l = (0, 0, c, q)) :
    Calls Tryd.prog 42 #[v] w fun e w' => e = .returned (.tuple #[.int .u64 0, .int .i64 0, ev w.heap.size]) ∧ w' = w.alloc (.cells #[.int .i64 q, .iface 60 (.int .i64 c)] 98) := by
  refine (uint_any v B l w hv).mono ?_
  intro e w' h
  rw [hd] at h
  simpa [UPost, hc] using h

theorem fault_b (c q : Int) (w : World) :
    Calls Tryd.prog 57 #[.int .i64 c, .int .i64 q] w fun e w' => e = .returned (ev w.heap.size) ∧ ErrAt w' w.heap.size q c ∧ Below w.heap.size w w' := by
  refine (fault_any c q w).mono ?_
  rintro e w' ⟨rfl, rfl⟩
  exact ⟨rfl, ErrAt.new _ _ _, (Below.refl _ _).alloc (Nat.le_refl _) _⟩
theorem uint_badb (v : Value) (B c q : Nat) (l : List UInt8) (w : World) (hv : RBp w B v l) (hc : c ≠ 0) (hd : decU l = (0, 0, c, q)) :
    Calls Tryd.prog 42 #[v] w fun e w' => e = .returned (.tuple #[.int .u64 0, .int .i64 0, ev w.heap.size]) ∧ ErrAt w' w.heap.size q c ∧ Below w.heap.size w w' := by
  refine (uint_bad v B c q l w hv hc hd).mono ?_
  rintro e w' ⟨rfl, rfl⟩
  exact ⟨rfl, ErrAt.new _ _ _, (Below.refl _ _).alloc (Nat.le_refl _) _⟩
theorem RS.at1 {w : World} {p a : Nat} {l : List UInt8} (h : RS w p l (.ok a)) : w.cell? ⟨p, 1, none⟩ = some (.int .i64 (a : Int)) := by
  obtain ⟨_, _, _, _, _, _, h1, _⟩ := h; exact h1

theorem dec_cases : ∀ (l : List UInt8) (i acc : Nat), i ≤ 9 → acc < 2 ^ (7 * i) →
    (∃ n k, decFrom i acc l = (n, k, 0, 0) ∧ n < 18446744073709551616 ∧ k ≤ i + l.length ∧ i < k) ∨ (∃ q, decFrom i acc l = (0, 0, 20, q)) ∨ (∃ q, decFrom i acc l = (0, 0, 22, q) ∧ i + l.length ≤ 9)
  | [], i, acc, hi, ha => .inr (.inr ⟨i, rfl, by simpa using hi⟩)
  | c :: r, i, acc, hi, ha => by
    by_cases h1 : (i = 9 ∧ 1 < c.toNat) ∨ (0 < i ∧ c.toNat = 0)
    · exact .inr (.inl ⟨i, dec_form h1⟩)
    · by_cases h2 : c.toNat < 128
      · have ht := term_lt (k := i) (d := c.toNat % 128) hi (by omega) (by omega)
        have hal := acc_lt (d := c.toNat % 128) (by omega) ha
        refine .inl ⟨_, _, dec_done h1 h2, ?_, by simp, by omega⟩
        by_cases h9 : i = 9
        · subst h9
          have h10 : c.toNat % 128 * 2 ^ (7 * 9) ≤ 1 * 2 ^ (7 * 9) := Nat.mul_le_mul_right _ (by omega)
          simp at h10 ha ⊢; omega
        · have : 2 ^ (7 * (i + 1)) ≤ 2 ^ 63 := Nat.pow_le_pow_right (by decide) (by omega)
          simp at this; omega
      · have hal := acc_lt (d := c.toNat % 128) (by omega) ha
        have hi9 : i ≠ 9 := by omega
        rw [dec_more h1 h2]
        rcases dec_cases r (i + 1) _ (by omega) hal with ⟨n, k, e, g1, g2, g3⟩ | ⟨q, e⟩ | ⟨q, e, g⟩
        · exact .inl ⟨n, k, e, g1, by simp; omega, by omega⟩
        · exact .inr (.inl ⟨q, e⟩)
        · exact .inr (.inr ⟨q, e, by simp; omega⟩)

/-- Reading a number of at most most. -/
def rdUp (l : List UInt8) (most : Nat) : Except Nat Nat → Nat × Except Nat Nat
  | .error c => (0, .error c)
  | .ok a => if (decU (l.drop a)).2.2.1 = 0 then (if (decU (l.drop a)).1 ≤ most then ((decU (l.drop a)).1, .ok (a + (decU (l.drop a)).2.1)) else (0, .error 20))
      else if (decU (l.drop a)).2.2.1 = 22 ∧ leastN (l.drop a) ≤ most then (0, .error 22) else (0, .error 20)

end Go.Proofs.YtmahkhpmaenkhaaDoor
