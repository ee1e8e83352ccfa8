/- Contracts of the reader's fail, upTo, between, number. -/
import Derived.Test.YthphadbcebeoaaaGreatDoorJReaderUptoSum
namespace Go.Proofs.YthphadbcebeoaaaGreatDoor
open Go.RowKit Go.Lib

theorem RS.later {w w' : World} {p : Nat} {l : List UInt8} {s : Except Nat Nat} (h : RS w p l s) (hb : Below w.heap.size w w') : RS w' p l s := by
  have hp := h.lt
  obtain ⟨hE, hG, f1, f2, ⟨v, h0, hv⟩, hs⟩ := h
  refine ⟨hE.below hb hE.lt, hG, (hb.frozen (p := ⟨p, 1, none⟩) hp).trans f1, (hb.frozen (p := ⟨p, 2, none⟩) hp).trans f2, ⟨v, (hb.cell (p := ⟨p, 0, none⟩) hp).trans h0, hv.below hb (by omega)⟩, ?_⟩
  cases s with
  | ok a => exact ⟨hs.1, (hb.cell (p := ⟨p, 1, none⟩) hp).trans hs.2.1, (hb.cell (p := ⟨p, 2, none⟩) hp).trans hs.2.2⟩
  | error c =>
    obtain ⟨a, b, pl, g1, g2, g3, g4, g5⟩ := hs
    exact ⟨a, b, pl, g1, (hb.cell (p := ⟨p, 1, none⟩) hp).trans g2, (hb.cell (p := ⟨p, 2, none⟩) hp).trans g3, g4, g5.below hb g5.lt⟩
theorem RS.drewN {w : World} {p : Nat} {l : List UInt8} {s : Except Nat Nat} (h : RS w p l s) (n : Nat) : RS (w.drewN n) p l s := h.later (below_drewN (Below.refl _ _) n)
theorem RS.alloc {w : World} {p : Nat} {l : List UInt8} {s : Except Nat Nat} (h : RS w p l s) (o : Obj) : RS (w.alloc o) p l s := h.later ((Below.refl _ _).alloc (Nat.le_refl _) o)

theorem ne12 (p : Nat) : (⟨p, 2, none⟩ : Addr) ≠ ⟨p, 1, none⟩ := by intro h; injection h; contradiction
theorem ne02 (p : Nat) : (⟨p, 2, none⟩ : Addr) ≠ ⟨p, 0, none⟩ := by intro h; injection h; contradiction
theorem ne10 (p : Nat) : (⟨p, 1, none⟩ : Addr) ≠ ⟨p, 0, none⟩ := by intro h; injection h; contradiction
theorem ET.setCell {w : World} {p : Nat} (h : ET w) (hG : 0 < p) (j : Nat) (u : Value) : ET (w.setCell ⟨p, j, none⟩ u) := by
  unfold ET; rw [World.cell?_setCell_other _ _ _ _ (by intro h; injection h; omega)]; exact h
theorem RBp.setCell {w : World} {p : Nat} {v : Value} {l : List UInt8} (h : RBp w p v l) (j : Nat) (u : Value) : RBp (w.setCell ⟨p, j, none⟩ u) p v l :=
  h.below ((Below.refl p w).setCell (by simp) u) (Nat.le_refl _)

theorem RS.failed {w : World} {p a b c : Nat} {pl : Int} {l : List UInt8} (h : RS w p l (.ok a)) (hb : p < b) (he : ErrAt w b pl (c : Int)) :
    RS (w.setCell ⟨p, 2, none⟩ (ev b)) p l (.error c) ∧ Fq p w (w.setCell ⟨p, 2, none⟩ (ev b)) := by
  obtain ⟨hE, hG, f1, f2, ⟨v, h0, hv⟩, hs⟩ := h
  refine ⟨⟨hE.setCell hG 2 _, hG, by simpa using f1, by simpa using f2, ⟨v, ?_, hv.setCell 2 _⟩, a, b, pl, hs.1, ?_, World.cell?_setCell_same _ _ _ hs.2.2, hb, ?_, ?_⟩, (Fq.refl _ _).setCell 2 _⟩
  · rw [World.cell?_setCell_other _ _ _ _ (ne02 p)]; exact h0
  · rw [World.cell?_setCell_other _ _ _ _ (ne12 p)]; exact hs.2.1
  · rw [World.cell?_setCell_other _ _ _ _ (by intro h; injection h; omega)]; exact he.1
  · rw [World.cell?_setCell_other _ _ _ _ (by intro h; injection h; omega)]; exact he.2
theorem RS.moved {w : World} {p a a' : Nat} {l : List UInt8} (h : RS w p l (.ok a)) (ha : a' ≤ l.length) :
    RS (w.setCell ⟨p, 1, none⟩ (.int .i64 (a' : Int))) p l (.ok a') ∧ Fq p w (w.setCell ⟨p, 1, none⟩ (.int .i64 (a' : Int))) := by
  obtain ⟨hE, hG, f1, f2, ⟨v, h0, hv⟩, hs⟩ := h
  refine ⟨⟨hE.setCell hG 1 _, hG, by simpa using f1, by simpa using f2, ⟨v, ?_, hv.setCell 1 _⟩, ha, World.cell?_setCell_same _ _ _ hs.2.1, ?_⟩, (Fq.refl _ _).setCell 1 _⟩
  · rw [World.cell?_setCell_other _ _ _ _ (ne10 p)]; exact h0
  · rw [World.cell?_setCell_other _ _ _ _ (ne12 p).symm]; exact hs.2.2

set_option maxHeartbeats 1600000 in
theorem rfail_ok (p a b c : Nat) (pl : Int) (l : List UInt8) (w : World) (h : RS w p l (.ok a)) (hb : p < b) (he : ErrAt w b pl (c : Int)) :
    Calls Tryz.prog 138 #[.pointer (some ⟨p, 0, none⟩), ev b] w fun e w' => e = .returned (.tuple #[]) ∧ RS w' p l (.error c) ∧ Fq p w w' := by
  have R := hide (h.failed hb he)
  obtain ⟨hE, hG, f1, f2, ⟨v, h0, hv⟩, hs0, hs1, hs2⟩ := h
  clear hE hv he
  go_enter Tryz.func138, Tryz.ntmps138
  go_wp2
  first | go_end0 | refine bodyPost_ret (results_none rfl _ _ _) rfl ?_
  exact ⟨rfl, unhide R⟩

theorem rest_rs (p a : Nat) (l : List UInt8) (w : World) (h : RS w p l (.ok a)) :
    Calls Tryz.prog 136 #[.pointer (some ⟨p, 0, none⟩)] w fun e w' => ∃ v' n, e = .returned v' ∧ w' = w.drewN n ∧ RBp (w.drewN n) p v' (l.drop a) := by
  obtain ⟨hE, hG, f1, f2, ⟨v, h0, hv⟩, hs0, hs1, hs2⟩ := h
  refine (rest_any p a l w hs0 v h0 hv hs1).mono ?_
  rintro e w' ⟨v', n, rfl, rfl, hv'⟩
  exact ⟨v', n, rfl, rfl, hv'.below (below_drewN (Below.refl p w) n) (Nat.le_refl _)⟩

theorem uint_ok (v : Value) (B n k q : Nat) (l : List UInt8) (w : World) (hv : RBp w B v l) (hd : decU l = (n, k, 0, q)) :
    Calls Tryz.prog 93 #[v] w fun e w' => e = .returned (.tuple #[.int .u64 n, .int .i64 k, .nilIface]) ∧ w' = w := by
  refine (uint_any v B l w hv).mono ?_
  intro e w' h
  rw [hd] at h
  simpa [UPost] using h
theorem uint_bad (v : Value) (B c q : Nat) (l : List UInt8) (w : World) (hv : RBp w B v l) (hc : c ≠ 0) (hd : decU l = (0, 0, c, q)) :
    Calls Tryz.prog 93 #[v] w fun e w' => e = .returned (.tuple #[.int .u64 0, .int .i64 0, ev w.heap.size]) ∧ w' = w.alloc (.cells #[.int .i64 q, .iface 75 (.int .i64 c)] 116) := by
  refine (uint_any v B l w hv).mono ?_
  intro e w' h
  rw [hd] at h
  simpa [UPost, hc] using h

theorem fault_b (c q : Int) (w : World) :
    Calls Tryz.prog 90 #[.int .i64 c, .int .i64 q] w fun e w' => e = .returned (ev w.heap.size) ∧ ErrAt w' w.heap.size q c ∧ Below w.heap.size w w' := by
  refine (fault_any c q w).mono ?_
  rintro e w' ⟨rfl, rfl⟩
  exact ⟨rfl, ErrAt.new _ _ _, (Below.refl _ _).alloc (Nat.le_refl _) _⟩
theorem uint_badb (v : Value) (B c q : Nat) (l : List UInt8) (w : World) (hv : RBp w B v l) (hc : c ≠ 0) (hd : decU l = (0, 0, c, q)) :
    Calls Tryz.prog 93 #[v] w fun e w' => e = .returned (.tuple #[.int .u64 0, .int .i64 0, ev w.heap.size]) ∧ ErrAt w' w.heap.size q c ∧ Below w.heap.size w w' := by
  refine (uint_bad v B c q l w hv hc hd).mono ?_
  rintro e w' ⟨rfl, rfl⟩
  exact ⟨rfl, ErrAt.new _ _ _, (Below.refl _ _).alloc (Nat.le_refl _) _⟩
theorem RS.at1 {w : World} {p a : Nat} {l : List UInt8} (h : RS w p l (.ok a)) : w.cell? ⟨p, 1, none⟩ = some (.int .i64 (a : Int)) := by
  obtain ⟨_, _, _, _, _, _, h1, _⟩ := h; exact h1

theorem dec_cases : ∀ (l : List UInt8) (i acc : Nat), i ≤ 9 → acc < 2 ^ (7 * i) →
    (∃ n k, decFrom i acc l = (n, k, 0, 0) ∧ n < 18446744073709551616 ∧ k ≤ i + l.length ∧ i < k) ∨ (∃ q, decFrom i acc l = (0, 0, 20, q)) ∨ (∃ q, decFrom i acc l = (0, 0, 22, q) ∧ i + l.length ≤ 9)
  | [], i, acc, hi, ha => .inr (.inr ⟨i, rfl, by simpa using hi⟩)
  | c :: r, i, acc, hi, ha => by
    by_cases h1 : (i = 9 ∧ 1 < c.toNat) ∨ (0 < i ∧ c.toNat = 0)
    · exact .inr (.inl ⟨i, dec_form h1⟩)
    · by_cases h2 : c.toNat < 128
      · have ht := term_lt (k := i) (d := c.toNat % 128) hi (by omega) (by omega)
        have hal := acc_lt (d := c.toNat % 128) (by omega) ha
        refine .inl ⟨_, _, dec_done h1 h2, ?_, by simp, by omega⟩
        by_cases h9 : i = 9
        · subst h9
          have h10 : c.toNat % 128 * 2 ^ (7 * 9) ≤ 1 * 2 ^ (7 * 9) := Nat.mul_le_mul_right _ (by omega)
          simp at h10 ha ⊢; omega
        · have : 2 ^ (7 * (i + 1)) ≤ 2 ^ 63 := Nat.pow_le_pow_right (by decide) (by omega)
          simp at this; omega
      · have hal := acc_lt (d := c.toNat % 128) (by omega) ha
        have hi9 : i ≠ 9 := by omega
        rw [dec_more h1 h2]
        rcases dec_cases r (i + 1) _ (by omega) hal with ⟨n, k, e, g1, g2, g3⟩ | ⟨q, e⟩ | ⟨q, e, g⟩
        · exact .inl ⟨n, k, e, g1, by simp; omega, by omega⟩
        · exact .inr (.inl ⟨q, e⟩)
        · exact .inr (.inr ⟨q, e, by simp; omega⟩)

/-- Reading a number of at most most. -/
def rdUp (l : List UInt8) (most : Nat) : Except Nat Nat → Nat × Except Nat Nat
  | .error c => (0, .error c)
  | .ok a => if (decU (l.drop a)).2.2.1 = 0 then (if (decU (l.drop a)).1 ≤ most then ((decU (l.drop a)).1, .ok (a + (decU (l.drop a)).2.1)) else (0, .error 20))
      else if (decU (l.drop a)).2.2.1 = 22 ∧ leastN (l.drop a) ≤ most then (0, .error 22) else (0, .error 20)

set_option maxHeartbeats 1600000 in
theorem upTo_err (p c most : Nat) (l : List UInt8) (w : World) (h : RS w p l (.error c)) :
    Calls Tryz.prog 133 #[.pointer (some ⟨p, 0, none⟩), .int .u64 most] w fun e w' => e = .returned (.int .u64 0) ∧ w' = w := by
  obtain ⟨hE, hG, f1, f2, ⟨v, h0, hv⟩, a, b, pl, g1, g2, g3, g4, g5⟩ := h
  clear hE hv g5
  go_enter Tryz.func133, Tryz.ntmps133
  go_wp2
  go_ret
  exact ⟨rfl, rfl⟩

set_option maxHeartbeats 1600000 in
/-- A number that fits. -/
theorem upTo_fit (p a n k q most : Nat) (l : List UInt8) (w : World) (h : RS w p l (.ok a)) (hd : decU (l.drop a) = (n, k, 0, q)) (hk : a + k ≤ l.length) (hm : n ≤ most) :
    Calls Tryz.prog 133 #[.pointer (some ⟨p, 0, none⟩), .int .u64 most] w fun e w' => e = .returned (.int .u64 (n : Int)) ∧ RS w' p l (.ok (a + k)) ∧ Fq p w w' := by
  have hle := h.at_le
  have HR := hide h
  have HD := hide hd
  obtain ⟨hE, hG, f1, f2, ⟨v, h0, hv⟩, hs0, hs1, hs2⟩ := h
  clear hE hv hd
  have hm' : ¬ ((most : Int) < (n : Int)) := by omega
  go_enter Tryz.func133, Tryz.ntmps133
  go_wp2_with (first
    | (go_at_call 136; refine (rest_rs p a l _ (unhide HR)).mono ?_; rintro e w1 ⟨v', n1, rfl, rfl, hv'⟩)
    | (go_at_call 93; refine (uint_ok v' p n k q (l.drop a) _ hv' (unhide HD)).mono ?_; clear hv'; rintro e w2 ⟨rfl, rfl⟩)
    | (go_at_call 29; refine (is_nil 22 _).mono ?_; rintro e w3 ⟨rfl, rfl⟩))
  go_ret
  have R := RS.moved (a' := a + k) ((unhide HR).drewN n1) hk
  exact ⟨rfl, R.1, ((Fq.refl _ _).drewN n1).trans R.2⟩

set_option maxHeartbeats 3200000 in
/-- A number that is too great. -/
theorem upTo_great (p a n k q most : Nat) (l : List UInt8) (w : World) (h : RS w p l (.ok a)) (hd : decU (l.drop a) = (n, k, 0, q)) (hm : most < n) :
    Calls Tryz.prog 133 #[.pointer (some ⟨p, 0, none⟩), .int .u64 most] w fun e w' => e = .returned (.int .u64 0) ∧ RS w' p l (.error 20) ∧ Fq p w w' := by
  have hp := h.lt
  have HR := hide h
  have HD := hide hd
  obtain ⟨hE, hG, f1, f2, ⟨v, h0, hv⟩, hs0, hs1, hs2⟩ := h
  clear hE hv hd
  have hm' : (most : Int) < (n : Int) := by omega
  go_enter Tryz.func133, Tryz.ntmps133
  go_wp2_with (first
    | (go_at_call 136; refine (rest_rs p a l _ (unhide HR)).mono ?_; rintro e w1 ⟨v', n1, rfl, rfl, hv'⟩)
    | (go_at_call 93; refine (uint_ok v' p n k q (l.drop a) _ hv' (unhide HD)).mono ?_; clear hv'; rintro e w2 ⟨rfl, rfl⟩)
    | (go_at_call 29; refine (is_nil 22 _).mono ?_; rintro e w3 ⟨rfl, rfl⟩)
    | (go_at_call 90; refine (fault_b 20 0 _).mono ?_; rintro e w4 ⟨rfl, he4, hb4⟩; have R4 := hide (((unhide HR).drewN n1).later hb4); have c4 := (unhide R4).at1)
    | (go_at_call 139; refine (shifted_at _ _ _ _ _ (unhide R4).1 he4).mono ?_; rintro e w5 ⟨b', p', hbb, rfl, he5, hb5⟩; have R5 := hide ((unhide R4).later hb5))
    | (go_at_call 138; refine (rfail_ok p a _ _ _ l _ (unhide R5) (by have := (unhide R4).lt; omega) he5).mono ?_; rintro e w6 ⟨rfl, hr6, hf6⟩))
  go_ret
  exact ⟨rfl, hr6, (((Fq.refl p w).drewN n1).trans (Fq.of hb4 (by simp; omega))).trans ((Fq.of hb5 (by have := (unhide R4).lt; omega)).trans hf6)⟩

set_option maxHeartbeats 3200000 in
/-- Bytes of no form. -/
theorem upTo_form (p a q most : Nat) (l : List UInt8) (w : World) (h : RS w p l (.ok a)) (hd : decU (l.drop a) = (0, 0, 20, q)) :
    Calls Tryz.prog 133 #[.pointer (some ⟨p, 0, none⟩), .int .u64 most] w fun e w' => e = .returned (.int .u64 0) ∧ RS w' p l (.error 20) ∧ Fq p w w' := by
  have hp := h.lt
  have HR := hide h
  have HD := hide hd
  obtain ⟨hE, hG, f1, f2, ⟨v, h0, hv⟩, hs0, hs1, hs2⟩ := h
  clear hE hv hd
  go_enter Tryz.func133, Tryz.ntmps133
  go_wp2_with (first
    | (go_at_call 136; refine (rest_rs p a l _ (unhide HR)).mono ?_; rintro e w1 ⟨v', n1, rfl, rfl, hv'⟩)
    | (go_at_call 93; refine (uint_badb v' p 20 q (l.drop a) _ hv' (by decide) (unhide HD)).mono ?_; clear hv'; rintro e w4 ⟨rfl, he4, hb4⟩; have R4 := hide (((unhide HR).drewN n1).later hb4); have c4 := (unhide R4).at1)
    | (go_at_call 29; refine (is_placed _ 20 22 _ he4.2).mono ?_; rintro e w3 ⟨rfl, rfl⟩)
    | (go_at_call 139; refine (shifted_at _ _ _ _ _ (unhide R4).1 he4).mono ?_; rintro e w5 ⟨b', p', hbb, rfl, he5, hb5⟩; have R5 := hide ((unhide R4).later hb5))
    | (go_at_call 138; refine (rfail_ok p a _ _ _ l _ (unhide R5) (by have := (unhide R4).lt; omega) he5).mono ?_; rintro e w6 ⟨rfl, hr6, hf6⟩))
  go_ret
  exact ⟨rfl, hr6, (((Fq.refl p w).drewN n1).trans (Fq.of hb4 (by simp; omega))).trans ((Fq.of hb5 (by have := (unhide R4).lt; omega)).trans hf6)⟩

set_option maxHeartbeats 3200000 in
/-- Cut bytes of which no number within the bound begins. -/
theorem upTo_cutgreat (p a q most : Nat) (l : List UInt8) (w : World) (h : RS w p l (.ok a)) (hd : decU (l.drop a) = (0, 0, 22, q)) (h9 : (l.drop a).length ≤ 9) (hm : most < leastN (l.drop a)) :
    Calls Tryz.prog 133 #[.pointer (some ⟨p, 0, none⟩), .int .u64 most] w fun e w' => e = .returned (.int .u64 0) ∧ RS w' p l (.error 20) ∧ Fq p w w' := by
  have hp := h.lt
  have HR := hide h
  have HD := hide hd
  obtain ⟨hE, hG, f1, f2, ⟨v, h0, hv⟩, hs0, hs1, hs2⟩ := h
  clear hE hv hd
  have hlt := leastN_lt h9
  generalize hln : leastN (l.drop a) = n at *
  have HN := hide hln
  clear hln
  have hm' : (most : Int) < (n : Int) := by omega
  go_enter Tryz.func133, Tryz.ntmps133
  go_wp2_with (first
    | (go_at_call 136; refine (rest_rs p a l _ (unhide HR)).mono ?_; rintro e w1 ⟨v', n1, rfl, rfl, hv'⟩)
    | (go_at_call 136; refine (rest_rs p a l _ (unhide R4)).mono ?_; rintro e w8 ⟨v8, n8, rfl, rfl, hv8⟩)
    | (go_at_call 93; refine (uint_badb v' p 22 q (l.drop a) _ hv' (by decide) (unhide HD)).mono ?_; clear hv'; rintro e w4 ⟨rfl, he4, hb4⟩; have R4 := hide (((unhide HR).drewN n1).later hb4); have c4 := (unhide R4).at1; clear HR)
    | (go_at_call 29; refine (is_placed _ 22 22 _ he4.2).mono ?_; rintro e w3 ⟨rfl, rfl⟩)
    | (go_at_call 137; refine (least_any v8 p (l.drop a) _ h9 hv8).mono ?_; rw [unhide HN]; rintro e w9 ⟨rfl, rfl⟩)
    | (go_at_call 90; refine (fault_b 20 0 _).mono ?_; rintro e w7 ⟨rfl, he7, hb7⟩; have R7 := hide (((unhide R4).drewN n8).later hb7); have c7 := (unhide R7).at1)
    | (go_at_call 139; refine (shifted_at _ _ _ _ _ (unhide R7).1 he7).mono ?_; rintro e w5 ⟨b', p', hbb, rfl, he5, hb5⟩; have R5 := hide ((unhide R7).later hb5))
    | (go_at_call 138; refine (rfail_ok p a _ _ _ l _ (unhide R5) (by have := (unhide R7).lt; omega) he5).mono ?_; rintro e w6 ⟨rfl, hr6, hf6⟩))
  go_ret
  have z4 := (unhide R4).lt
  exact ⟨rfl, hr6, ((((Fq.refl p w).drewN n1).trans (Fq.of hb4 (by simp; omega))).drewN n8).trans ((Fq.of hb7 (by simp; omega)).trans ((Fq.of hb5 (by have := (unhide R7).lt; omega)).trans hf6))⟩

set_option maxHeartbeats 3200000 in
/-- Cut bytes. -/
theorem upTo_cut (p a q most : Nat) (l : List UInt8) (w : World) (h : RS w p l (.ok a)) (hd : decU (l.drop a) = (0, 0, 22, q)) (h9 : (l.drop a).length ≤ 9) (hm : leastN (l.drop a) ≤ most) :
    Calls Tryz.prog 133 #[.pointer (some ⟨p, 0, none⟩), .int .u64 most] w fun e w' => e = .returned (.int .u64 0) ∧ RS w' p l (.error 22) ∧ Fq p w w' := by
  have hp := h.lt
  have HR := hide h
  have HD := hide hd
  obtain ⟨hE, hG, f1, f2, ⟨v, h0, hv⟩, hs0, hs1, hs2⟩ := h
  clear hE hv hd
  have hlt := leastN_lt h9
  generalize hln : leastN (l.drop a) = n at *
  have HN := hide hln
  clear hln
  have hm' : ¬ ((most : Int) < (n : Int)) := by omega
  go_enter Tryz.func133, Tryz.ntmps133
  go_wp2_with (first
    | (go_at_call 136; refine (rest_rs p a l _ (unhide HR)).mono ?_; rintro e w1 ⟨v', n1, rfl, rfl, hv'⟩)
    | (go_at_call 136; refine (rest_rs p a l _ (unhide R4)).mono ?_; rintro e w8 ⟨v8, n8, rfl, rfl, hv8⟩)
    | (go_at_call 93; refine (uint_badb v' p 22 q (l.drop a) _ hv' (by decide) (unhide HD)).mono ?_; clear hv'; rintro e w4 ⟨rfl, he4, hb4⟩; have R4 := hide (((unhide HR).drewN n1).later hb4); have c4 := (unhide R4).at1; clear HR)
    | (go_at_call 29; refine (is_placed _ 22 22 _ he4.2).mono ?_; rintro e w3 ⟨rfl, rfl⟩)
    | (go_at_call 137; refine (least_any v8 p (l.drop a) _ h9 hv8).mono ?_; rw [unhide HN]; rintro e w9 ⟨rfl, rfl⟩)
    | (go_at_call 139; refine (shifted_at _ _ _ _ _ ((unhide R4).drewN n8).1 (he4.below (below_drewN (Below.refl _ _) n8) he4.lt)).mono ?_; rintro e w5 ⟨b', p', hbb, rfl, he5, hb5⟩; have R5 := hide (((unhide R4).drewN n8).later hb5))
    | (go_at_call 138; refine (rfail_ok p a _ _ _ l _ (unhide R5) (by have := (unhide R4).lt; simp at hbb; omega) he5).mono ?_; rintro e w6 ⟨rfl, hr6, hf6⟩))
  go_ret
  have z4 := (unhide R4).lt
  exact ⟨rfl, hr6, ((((Fq.refl p w).drewN n1).trans (Fq.of hb4 (by simp; omega))).drewN n8).trans ((Fq.of hb5 (by simp; omega)).trans hf6)⟩

theorem upTo_any (p most : Nat) (l : List UInt8) (s : Except Nat Nat) (w : World) (h : RS w p l s) :
    Calls Tryz.prog 133 #[.pointer (some ⟨p, 0, none⟩), .int .u64 most] w fun e w' => e = .returned (.int .u64 ((rdUp l most s).1 : Int)) ∧ RS w' p l (rdUp l most s).2 ∧ Fq p w w' := by
  cases s with
  | error c =>
    refine (upTo_err p c most l w h).mono ?_
    rintro e w' ⟨rfl, rfl⟩
    exact ⟨rfl, h, Fq.refl _ _⟩
  | ok a =>
    have ha : a ≤ l.length := by obtain ⟨_, _, _, _, _, h1, _⟩ := h; exact h1
    have hln : (l.drop a).length = l.length - a := by simp
    rcases dec_cases (l.drop a) 0 0 (by omega) (by simp) with ⟨n, k, hd, g1, g2, g3⟩ | ⟨q, hd⟩ | ⟨q, hd, g⟩
    · have hd' : decU (l.drop a) = (n, k, 0, 0) := hd
      by_cases hm : n ≤ most
      · have e : rdUp l most (.ok a) = (n, .ok (a + k)) := by simp [rdUp, hd', hm]
        rw [e]; exact upTo_fit p a n k 0 most l w h hd' (by omega) hm
      · have e : rdUp l most (.ok a) = (0, .error 20) := by simp [rdUp, hd', hm]
        rw [e]; exact upTo_great p a n k 0 most l w h hd' (by omega)
    · have hd' : decU (l.drop a) = (0, 0, 20, q) := hd
      have e : rdUp l most (.ok a) = (0, .error 20) := by simp [rdUp, hd']
      rw [e]; exact upTo_form p a q most l w h hd'
    · have hd' : decU (l.drop a) = (0, 0, 22, q) := hd
      by_cases hm : leastN (l.drop a) ≤ most
      · have e : rdUp l most (.ok a) = (0, .error 22) := by simp [rdUp, hd', hm]
        rw [e]; exact upTo_cut p a q most l w h hd' (by omega) hm
      · have e : rdUp l most (.ok a) = (0, .error 20) := by simp [rdUp, hd', hm]
        rw [e]; exact upTo_cutgreat p a q most l w h hd' (by omega) (by omega)
end Go.Proofs.YthphadbcebeoaaaGreatDoor
