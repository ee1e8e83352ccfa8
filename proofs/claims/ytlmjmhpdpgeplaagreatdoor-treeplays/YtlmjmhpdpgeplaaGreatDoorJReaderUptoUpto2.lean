/- Contracts of package wire's reader: where it is, or that it failed with a class. -/
import Derived.Test.YtlmjmhpdpgeplaaGreatDoorJNumsFaultsUint
import Derived.Deep.QuietTactic
import Derived.BigQuiet
import Derived.WalkSmall
namespace Go.Proofs.YtlmjmhpdpgeplaaGreatDoor
open Go.RowKit Go.Lib

/-- A slice's value that reads as these bytes, in blocks below B. -/
def RBp (w : World) (B : Nat) (v : Value) (l : List UInt8) : Prop :=
  l.length ≤ 1000000000000 ∧ ((v = .slice none 0 0 ∧ l = []) ∨
    ∃ b off cap, b < B ∧ l.length ≤ cap ∧ cap ≤ maxLen ∧ v = .slice (some ⟨b, off, none⟩) l.length cap ∧ ∀ i, i < l.length → w.cell? ⟨b, off + i, none⟩ = some (.int .u8 ((l.getD i 0).toNat : Int)))
theorem RBp.below {w w' : World} {B B' : Nat} {v : Value} {l : List UInt8} (h : RBp w B v l) (hb : Below B' w w') (hB : B ≤ B') : RBp w' B v l := by
  obtain ⟨h1, h2 | ⟨b, off, cap, hbB, hc, hm, rfl, hcell⟩⟩ := h
  · exact ⟨h1, .inl h2⟩
  · exact ⟨h1, .inr ⟨b, off, cap, hbB, hc, hm, rfl, fun i hi => (hb.cell (p := ⟨b, off + i, none⟩) (Nat.lt_of_lt_of_le hbB hB)).trans (hcell i hi)⟩⟩

/-- No block but p turns. -/
def Fq (p : Nat) (w w' : World) : Prop := Below p w w' ∧ ∀ k, k < w.heap.size → k ≠ p → w'.heap[k]? = w.heap[k]?
theorem Fq.refl (p : Nat) (w : World) : Fq p w w := ⟨Below.refl _ _, fun _ _ _ => rfl⟩
theorem Fq.trans {p : Nat} {a b c : World} (h : Fq p a b) (h' : Fq p b c) : Fq p a c :=
  ⟨h.1.trans h'.1, fun k hk hp => (h'.2 k (Nat.lt_of_lt_of_le hk h.1.size) hp).trans (h.2 k hk hp)⟩
theorem Fq.alloc {p : Nat} {a w : World} (h : Fq p a w) (hp : p ≤ w.heap.size) (o : Obj) : Fq p a (w.alloc o) :=
  ⟨h.1.alloc hp o, fun k hk hkp => (Below.heap_alloc w o k (Nat.lt_of_lt_of_le hk h.1.size)).trans (h.2 k hk hkp)⟩
theorem Fq.setCell {p : Nat} {a w : World} (h : Fq p a w) (j : Nat) (u : Value) : Fq p a (w.setCell ⟨p, j, none⟩ u) :=
  ⟨h.1.setCell (Nat.le_refl _) u, fun k hk hkp => (Below.heap_setCell w ⟨p, j, none⟩ u k hkp).trans (h.2 k hk hkp)⟩
theorem Fq.drewN {p : Nat} {a w : World} (h : Fq p a w) (n : Nat) : Fq p a (w.drewN n) := ⟨below_drewN h.1 n, h.2⟩
theorem Fq.of {p : Nat} {w w' : World} (h : Below w.heap.size w w') (hp : p ≤ w.heap.size) : Fq p w w' := ⟨h.mono hp, fun k hk _ => h.block k hk⟩
theorem Fq.cell {p : Nat} {w w' : World} (h : Fq p w w') {a : Addr} (ha : a.block < w.heap.size) (hp : a.block ≠ p) : w'.cell? a = w.cell? a := World.cell?_of_block (w := w) (h.2 a.block ha hp)
theorem Fq.frozen {p : Nat} {w w' : World} (h : Fq p w w') {a : Addr} (ha : a.block < w.heap.size) (hp : a.block ≠ p) : w'.frozen? a = w.frozen? a := World.frozen?_of_block (w := w) (h.2 a.block ha hp)

/-- A reader at block p over these bytes: where it is, or the class of its fault. -/
def RS (w : World) (p : Nat) (l : List UInt8) (s : Except Nat Nat) : Prop :=
  ET w ∧ 0 < p ∧ w.frozen? ⟨p, 1, none⟩ = false ∧ w.frozen? ⟨p, 2, none⟩ = false ∧ (∃ v, w.cell? ⟨p, 0, none⟩ = some v ∧ RBp w p v l) ∧
  match s with
  | .ok at' => at' ≤ l.length ∧ w.cell? ⟨p, 1, none⟩ = some (.int .i64 (at' : Int)) ∧ w.cell? ⟨p, 2, none⟩ = some .nilIface
  | .error c => ∃ at' b pl, at' ≤ l.length ∧ w.cell? ⟨p, 1, none⟩ = some (.int .i64 ((at' : Nat) : Int)) ∧ w.cell? ⟨p, 2, none⟩ = some (ev b) ∧ p < b ∧ ErrAt w b pl (c : Int)
theorem RS.lt {w : World} {p : Nat} {l : List UInt8} {s : Except Nat Nat} (h : RS w p l s) : p < w.heap.size := by
  obtain ⟨_, _, _, _, ⟨v, h0, _⟩, _⟩ := h; exact lt_of_cell h0
theorem RS.at_le {w : World} {p : Nat} {l : List UInt8} {s : Except Nat Nat} (h : RS w p l s) : l.length ≤ 1000000000000 := by
  obtain ⟨_, _, _, _, ⟨v, h0, h1⟩, _⟩ := h; exact h1.1

theorem rb_drop {w : World} {B b off cap at' : Nat} {l : List UInt8} (hbB : b < B) (hl : at' ≤ l.length) (hcap : l.length ≤ cap) (hm : cap ≤ maxLen) (hlen : l.length ≤ 1000000000000)
    (hcell : ∀ i, i < l.length → w.cell? ⟨b, off + i, none⟩ = some (.int .u8 ((l.getD i 0).toNat : Int))) : RBp w B (.slice (some ⟨b, off + at', none⟩) (l.length - at') (cap - at')) (l.drop at') := by
  refine ⟨by simp; omega, .inr ⟨b, off + at', cap - at', hbB, by simp; omega, by omega, by simp, fun i hi => ?_⟩⟩
  have hi' : i < l.length - at' := by simpa using hi
  have e : (l.drop at').getD i 0 = l.getD (at' + i) 0 := by simp [List.getD_eq_getElem?_getD]
  rw [e, Nat.add_assoc]; exact hcell (at' + i) (by omega)
theorem rb_end {w : World} {B b cap at' : Nat} {l : List UInt8} (hbB : b < B) (hl : at' ≤ l.length) (hcap : l.length ≤ cap) (hce : cap = at') (off : Nat) :
    RBp w B (.slice (some ⟨b, off, none⟩) (l.length - at') 0) (l.drop at') := by
  refine ⟨by simp; omega, .inr ⟨b, off, 0, hbB, by simp; omega, by unfold maxLen; omega, by simp, fun i hi => ?_⟩⟩
  have hi' : i < l.length - at' := by simpa using hi
  omega

end Go.Proofs.YtlmjmhpdpgeplaaGreatDoor
/- Contracts of wire.Uint at any slice, leastOf, and the reader's fail and upTo. -/
namespace Go.Proofs.YtlmjmhpdpgeplaaGreatDoor
open Go.RowKit Go.Lib

set_option maxHeartbeats 1600000 in
theorem uint_nil (w : World) : Calls Tryz.prog 45 #[.slice none 0 0] w fun e w' => UPost 98 67 102 (decU []) w e w' := by
  have HD : Hid (decU [] = (0, 0, 22, 0)) := rfl
  generalize decU [] = r at *
  go_enter Tryz.func45, Tryz.ntmps45
  go_wp2
  refine wp_loop_rounds 1 ?_
  rw [rounds_succ]
  go_wp2_with (go_at_call 57; refine (fault_any 22 _ _).mono ?_; rintro e w' ⟨rfl, rfl⟩)
  go_ret3
  exact upost_form (c := 22) (k := 0) (by decide) HD.out

theorem uint_any (v : Value) (B : Nat) (l : List UInt8) (w : World) (hv : RBp w B v l) :
    Calls Tryz.prog 45 #[v] w fun e w' => UPost 98 67 102 (decU l) w e w' := by
  obtain ⟨hlen, ⟨rfl, rfl⟩ | ⟨b, off, cap, hbB, hcap, hm, rfl, hcell⟩⟩ := hv
  · exact uint_nil w
  · exact uint_row b off cap l w (Nat.le_trans hlen (by decide)) hcell

def accN : Nat → Nat → List UInt8 → Nat
  | _, acc, [] => acc
  | i, acc, c :: r => accN (i + 1) (acc + c.toNat % 128 * 2 ^ (7 * i)) r
/-- The least number that begins so. -/
def leastN (l : List UInt8) : Nat := if l = [] then 0 else 2 ^ (7 * l.length) + accN 0 0 l
theorem accN_lt : ∀ (l : List UInt8) (i acc : Nat), acc < 2 ^ (7 * i) → accN i acc l < 2 ^ (7 * (i + l.length))
  | [], i, acc, h => by simpa [accN] using h
  | c :: r, i, acc, h => by
    have := accN_lt r (i + 1) _ (acc_lt (d := c.toNat % 128) (by omega) h)
    rw [show i + (c :: r).length = i + 1 + r.length by simp; omega]; exact this
theorem leastN_lt {l : List UInt8} (h : l.length ≤ 9) : leastN l < 18446744073709551616 := by
  unfold leastN
  split
  · decide
  · have h1 := accN_lt l 0 0 (by simp)
    have h2 := pow64 h
    simp at h1; omega
theorem or_least {L k d acc : Nat} (hL : L ≤ 9) (hk : k < L) (hd : d < 128) (ha : acc < 2 ^ (7 * k)) :
    bits BinOp.or IntKind.u64 ((2 ^ (7 * L) + acc : Nat) : Int) ((d * 2 ^ (7 * k) : Nat) : Int) = ((2 ^ (7 * L) + (acc + d * 2 ^ (7 * k)) : Nat) : Int) := by
  have hp := pow64 hL
  have h1 := acc_lt hd ha
  have h2 : 2 ^ (7 * (k + 1)) ≤ 2 ^ (7 * L) := Nat.pow_le_pow_right (by decide) (by omega)
  have h3 : 2 ^ (7 * k) ≤ 2 ^ (7 * L) := Nat.pow_le_pow_right (by decide) (by omega)
  rw [bits_or_u64_nat _ _ (by omega) (by omega)]
  congr 1
  have e1 : 2 ^ (7 * L) + acc = 2 ^ (7 * L) ||| acc := by
    have := Nat.two_pow_add_eq_or_of_lt (i := 7 * L) (b := acc) (by omega) 1; simpa using this
  have e2 : acc ||| d * 2 ^ (7 * k) = acc + d * 2 ^ (7 * k) := by
    rw [Nat.or_comm, Nat.mul_comm d, ← Nat.two_pow_add_eq_or_of_lt ha, Nat.add_comm]
  have e3 : 2 ^ (7 * L) + (acc + d * 2 ^ (7 * k)) = 2 ^ (7 * L) ||| (acc + d * 2 ^ (7 * k)) := by
    have := Nat.two_pow_add_eq_or_of_lt (i := 7 * L) (b := acc + d * 2 ^ (7 * k)) (by omega) 1; simpa using this
  rw [e1, Nat.or_assoc, e2, e3]

theorem wrap_pow {L : Nat} (h : L ≤ 9) : IntKind.u64.wrap ((2 : Int) ^ (7 * L)) = ((2 ^ (7 * L) + 0 : Nat) : Int) := by
  have hp := pow64 h
  have e : ((2 : Int) ^ (7 * L)) = ((2 ^ (7 * L) : Nat) : Int) := by push_cast; rfl
  rw [e, IntKind.wrap_u64]
  generalize 2 ^ (7 * L) = q at *
  omega
theorem or_leastw {L k acc : Nat} {c : UInt8} (hL : L ≤ 9) (hk : k < L) (ha : acc < 2 ^ (7 * k)) :
    bits BinOp.or IntKind.u64 ((2 ^ (7 * L) + acc : Nat) : Int) (IntKind.u64.wrap (((c.toNat : Nat) : Int) % 128 * 2 ^ (7 * k))) = ((2 ^ (7 * L) + (acc + c.toNat % 128 * 2 ^ (7 * k)) : Nat) : Int) := by
  have hd : c.toNat % 128 < 128 := by omega
  have ht := term_lt (k := k) (by omega) hd (by omega)
  have e : (((c.toNat : Nat) : Int) % 128 * 2 ^ (7 * k)) = ((c.toNat % 128 * 2 ^ (7 * k) : Nat) : Int) := by
    push_cast; rfl
  rw [e, IntKind.wrap_u64, show ((c.toNat % 128 * 2 ^ (7 * k) : Nat) : Int) % 18446744073709551616 = ((c.toNat % 128 * 2 ^ (7 * k) : Nat) : Int) by omega]
  exact or_least hL hk hd ha

end Go.Proofs.YtlmjmhpdpgeplaaGreatDoor
/- Contracts of the reader's fail, upTo, between, number. -/
namespace Go.Proofs.YtlmjmhpdpgeplaaGreatDoor
open Go.RowKit Go.Lib

theorem RS.later {w w' : World} {p : Nat} {l : List UInt8} {s : Except Nat Nat} (h : RS w p l s) (hb : Below w.heap.size w w') : RS w' p l s := by
  have hp := h.lt
  obtain ⟨hE, hG, f1, f2, ⟨v, h0, hv⟩, hs⟩ := h
  refine ⟨hE.below hb hE.lt, hG, (hb.frozen (p := ⟨p, 1, none⟩) hp).trans f1, (hb.frozen (p := ⟨p, 2, none⟩) hp).trans f2, ⟨v, (hb.cell (p := ⟨p, 0, none⟩) hp).trans h0, hv.below hb (by omega)⟩, ?_⟩
  cases s with
  | ok a => exact ⟨hs.1, (hb.cell (p := ⟨p, 1, none⟩) hp).trans hs.2.1, (hb.cell (p := ⟨p, 2, none⟩) hp).trans hs.2.2⟩
  | error c =>
    obtain ⟨a, b, pl, g1, g2, g3, g4, g5⟩ := hs
    exact ⟨a, b, pl, g1, (hb.cell (p := ⟨p, 1, none⟩) hp).trans g2, (hb.cell (p := ⟨p, 2, none⟩) hp).trans g3, g4, g5.below hb g5.lt⟩
theorem RS.drewN {w : World} {p : Nat} {l : List UInt8} {s : Except Nat Nat} (h : RS w p l s) (n : Nat) : RS (w.drewN n) p l s := h.later (below_drewN (Below.refl _ _) n)
theorem RS.alloc {w : World} {p : Nat} {l : List UInt8} {s : Except Nat Nat} (h : RS w p l s) (o : Obj) : RS (w.alloc o) p l s := h.later ((Below.refl _ _).alloc (Nat.le_refl _) o)

theorem ne12 (p : Nat) : (⟨p, 2, none⟩ : Addr) ≠ ⟨p, 1, none⟩ := by intro h; injection h; contradiction
theorem ne02 (p : Nat) : (⟨p, 2, none⟩ : Addr) ≠ ⟨p, 0, none⟩ := by intro h; injection h; contradiction
theorem ne10 (p : Nat) : (⟨p, 1, none⟩ : Addr) ≠ ⟨p, 0, none⟩ := by intro h; injection h; contradiction
theorem ET.setCell {w : World} {p : Nat} (h : ET w) (hG : 0 < p) (j : Nat) (u : Value) : ET (w.setCell ⟨p, j, none⟩ u) := by
  unfold ET; rw [World.cell?_setCell_other _ _ _ _ (by intro h; injection h; omega)]; exact h
theorem RBp.setCell {w : World} {p : Nat} {v : Value} {l : List UInt8} (h : RBp w p v l) (j : Nat) (u : Value) : RBp (w.setCell ⟨p, j, none⟩ u) p v l :=
  h.below ((Below.refl p w).setCell (by simp) u) (Nat.le_refl _)

theorem RS.failed {w : World} {p a b c : Nat} {pl : Int} {l : List UInt8} (h : RS w p l (.ok a)) (hb : p < b) (he : ErrAt w b pl (c : Int)) :
    RS (w.setCell ⟨p, 2, none⟩ (ev b)) p l (.error c) ∧ Fq p w (w.setCell ⟨p, 2, none⟩ (ev b)) := by
  obtain ⟨hE, hG, f1, f2, ⟨v, h0, hv⟩, hs⟩ := h
  refine ⟨⟨hE.setCell hG 2 _, hG, by simpa using f1, by simpa using f2, ⟨v, ?_, hv.setCell 2 _⟩, a, b, pl, hs.1, ?_, World.cell?_setCell_same _ _ _ hs.2.2, hb, ?_, ?_⟩, (Fq.refl _ _).setCell 2 _⟩
  · rw [World.cell?_setCell_other _ _ _ _ (ne02 p)]; exact h0
  · rw [World.cell?_setCell_other _ _ _ _ (ne12 p)]; exact hs.2.1
  · rw [World.cell?_setCell_other _ _ _ _ (by intro h; injection h; omega)]; exact he.1
  · rw [World.cell?_setCell_other _ _ _ _ (by intro h; injection h; omega)]; exact he.2
theorem RS.moved {w : World} {p a a' : Nat} {l : List UInt8} (h : RS w p l (.ok a)) (ha : a' ≤ l.length) :
    RS (w.setCell ⟨p, 1, none⟩ (.int .i64 (a' : Int))) p l (.ok a') ∧ Fq p w (w.setCell ⟨p, 1, none⟩ (.int .i64 (a' : Int))) := by
  obtain ⟨hE, hG, f1, f2, ⟨v, h0, hv⟩, hs⟩ := h
  refine ⟨⟨hE.setCell hG 1 _, hG, by simpa using f1, by simpa using f2, ⟨v, ?_, hv.setCell 1 _⟩, ha, World.cell?_setCell_same _ _ _ hs.2.1, ?_⟩, (Fq.refl _ _).setCell 1 _⟩
  · rw [World.cell?_setCell_other _ _ _ _ (ne10 p)]; exact h0
  · rw [World.cell?_setCell_other _ _ _ _ (ne12 p).symm]; exact hs.2.2

theorem uint_ok (v : Value) (B n k q : Nat) (l : List UInt8) (w : World) (hv : RBp w B v l) (hd : decU l = (n, k, 0, q)) :
    Calls Tryz.prog 45 #[v] w fun e w' => e = .returned (.tuple #[.int .u64 n, .int .i64 k, .nilIface]) ∧ w' = w := by
  refine (uint_any v B l w hv).mono ?_
  intro e w' h
  rw [hd] at h
  simpa [UPost] using h
theorem uint_bad (v : Value) (B c q : Nat) (l : List UInt8) (w : World) (hv : RBp w B v l) (hc : c ≠ 0) (hd : decU l = (0, 0, c, q)) :
    Calls Tryz.prog 45 #[v] w fun e w' => e = .returned (.tuple #[.int .u64 0, .int .i64 0, ev w.heap.size]) ∧ w' = w.alloc (.cells #[.int .i64 q, .iface 67 (.int .i64 c)] 102) := by
  refine (uint_any v B l w hv).mono ?_
  intro e w' h
  rw [hd] at h
  simpa [UPost, hc] using h

theorem fault_b (c q : Int) (w : World) :
    Calls Tryz.prog 57 #[.int .i64 c, .int .i64 q] w fun e w' => e = .returned (ev w.heap.size) ∧ ErrAt w' w.heap.size q c ∧ Below w.heap.size w w' := by
  refine (fault_any c q w).mono ?_
  rintro e w' ⟨rfl, rfl⟩
  exact ⟨rfl, ErrAt.new _ _ _, (Below.refl _ _).alloc (Nat.le_refl _) _⟩
theorem uint_badb (v : Value) (B c q : Nat) (l : List UInt8) (w : World) (hv : RBp w B v l) (hc : c ≠ 0) (hd : decU l = (0, 0, c, q)) :
    Calls Tryz.prog 45 #[v] w fun e w' => e = .returned (.tuple #[.int .u64 0, .int .i64 0, ev w.heap.size]) ∧ ErrAt w' w.heap.size q c ∧ Below w.heap.size w w' := by
  refine (uint_bad v B c q l w hv hc hd).mono ?_
  rintro e w' ⟨rfl, rfl⟩
  exact ⟨rfl, ErrAt.new _ _ _, (Below.refl _ _).alloc (Nat.le_refl _) _⟩
theorem RS.at1 {w : World} {p a : Nat} {l : List UInt8} (h : RS w p l (.ok a)) : w.cell? ⟨p, 1, none⟩ = some (.int .i64 (a : Int)) := by
  obtain ⟨_, _, _, _, _, _, h1, _⟩ := h; exact h1

theorem dec_cases : ∀ (l : List UInt8) (i acc : Nat), i ≤ 9 → acc < 2 ^ (7 * i) →
    (∃ n k, decFrom i acc l = (n, k, 0, 0) ∧ n < 18446744073709551616 ∧ k ≤ i + l.length ∧ i < k) ∨ (∃ q, decFrom i acc l = (0, 0, 20, q)) ∨ (∃ q, decFrom i acc l = (0, 0, 22, q) ∧ i + l.length ≤ 9)
  | [], i, acc, hi, ha => .inr (.inr ⟨i, rfl, by simpa using hi⟩)
  | c :: r, i, acc, hi, ha => by
    by_cases h1 : (i = 9 ∧ 1 < c.toNat) ∨ (0 < i ∧ c.toNat = 0)
    · exact .inr (.inl ⟨i, dec_form h1⟩)
    · by_cases h2 : c.toNat < 128
      · have ht := term_lt (k := i) (d := c.toNat % 128) hi (by omega) (by omega)
        have hal := acc_lt (d := c.toNat % 128) (by omega) ha
        refine .inl ⟨_, _, dec_done h1 h2, ?_, by simp, by omega⟩
        by_cases h9 : i = 9
        · subst h9
          have h10 : c.toNat % 128 * 2 ^ (7 * 9) ≤ 1 * 2 ^ (7 * 9) := Nat.mul_le_mul_right _ (by omega)
          simp at h10 ha ⊢; omega
        · have : 2 ^ (7 * (i + 1)) ≤ 2 ^ 63 := Nat.pow_le_pow_right (by decide) (by omega)
          simp at this; omega
      · have hal := acc_lt (d := c.toNat % 128) (by omega) ha
        have hi9 : i ≠ 9 := by omega
        rw [dec_more h1 h2]
        rcases dec_cases r (i + 1) _ (by omega) hal with ⟨n, k, e, g1, g2, g3⟩ | ⟨q, e⟩ | ⟨q, e, g⟩
        · exact .inl ⟨n, k, e, g1, by simp; omega, by omega⟩
        · exact .inr (.inl ⟨q, e⟩)
        · exact .inr (.inr ⟨q, e, by simp; omega⟩)

/-- Reading a number of at most most. -/
def rdUp (l : List UInt8) (most : Nat) : Except Nat Nat → Nat × Except Nat Nat
  | .error c => (0, .error c)
  | .ok a => if (decU (l.drop a)).2.2.1 = 0 then (if (decU (l.drop a)).1 ≤ most then ((decU (l.drop a)).1, .ok (a + (decU (l.drop a)).2.1)) else (0, .error 20))
      else if (decU (l.drop a)).2.2.1 = 22 ∧ leastN (l.drop a) ≤ most then (0, .error 22) else (0, .error 20)

end Go.Proofs.YtlmjmhpdpgeplaaGreatDoor
