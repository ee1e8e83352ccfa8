/- Contracts of package wire's reader: where it is, or that it failed with a class. -/
import Derived.Test.YtmahkhpmaenkhaaDoorJFaultsWriter
import Derived.Test.YtmahkhpmaenkhaaDoorJNumsUint
import Derived.Deep.QuietTactic
import Derived.BigQuiet
import Derived.WalkSmall
namespace Go.Proofs.YtmahkhpmaenkhaaDoor
open Go.RowKit Go.Lib

/-- A slice's value that reads as these bytes, in blocks below B. -/
def RBp (w : World) (B : Nat) (v : Value) (l : List UInt8) : Prop :=
  l.length ≤ 1000000000000 ∧ ((v = .slice none 0 0 ∧ l = []) ∨
    ∃ b off cap, b < B ∧ l.length ≤ cap ∧ cap ≤ maxLen ∧ v = .slice (some ⟨b, off, none⟩) l.length cap ∧ ∀ i, i < l.length → w.cell? ⟨b, off + i, none⟩ = some (.int .u8 ((l.getD i 0).toNat : Int)))
theorem RBp.below {w w' : World} {B B' : Nat} {v : Value} {l : List UInt8} (h : RBp w B v l) (hb : Below B' w w') (hB : B ≤ B') : RBp w' B v l := by
  obtain ⟨h1, h2 | ⟨b, off, cap, hbB, hc, hm, rfl, hcell⟩⟩ := h
  · exact ⟨h1, .inl h2⟩
  · exact ⟨h1, .inr ⟨b, off, cap, hbB, hc, hm, rfl, fun i hi => (hb.cell (p := ⟨b, off + i, none⟩) (Nat.lt_of_lt_of_le hbB hB)).trans (hcell i hi)⟩⟩

/-- No block but p turns. -/
def Fq (p : Nat) (w w' : World) : Prop := Below p w w' ∧ ∀ k, k < w.heap.size → k ≠ p → w'.heap[k]? = w.heap[k]?
theorem Fq.refl (p : Nat) (w : World) : Fq p w w := ⟨Below.refl _ _, fun _ _ _ => rfl⟩
theorem Fq.trans {p : Nat} {a b c : World} (h : Fq p a b) (h' : Fq p b c) : Fq p a c :=
  ⟨h.1.trans h'.1, fun k hk hp => (h'.2 k (Nat.lt_of_lt_of_le hk h.1.size) hp).trans (h.2 k hk hp)⟩
theorem Fq.alloc {p : Nat} {a w : World} (h : Fq p a w) (hp : p ≤ w.heap.size) (o : Obj) : Fq p a (w.alloc o) :=
  ⟨h.1.alloc hp o, fun k hk hkp => (Below.heap_alloc w o k (Nat.lt_of_lt_of_le hk h.1.size)).trans (h.2 k hk hkp)⟩
theorem Fq.setCell {p : Nat} {a w : World} (h : Fq p a w) (j : Nat) (u : Value) : Fq p a (w.setCell ⟨p, j, none⟩ u) :=
  ⟨h.1.setCell (Nat.le_refl _) u, fun k hk hkp => (Below.heap_setCell w ⟨p, j, none⟩ u k hkp).trans (h.2 k hk hkp)⟩
theorem Fq.drewN {p : Nat} {a w : World} (h : Fq p a w) (n : Nat) : Fq p a (w.drewN n) := ⟨below_drewN h.1 n, h.2⟩
theorem Fq.of {p : Nat} {w w' : World} (h : Below w.heap.size w w') (hp : p ≤ w.heap.size) : Fq p w w' := ⟨h.mono hp, fun k hk _ => h.block k hk⟩
theorem Fq.cell {p : Nat} {w w' : World} (h : Fq p w w') {a : Addr} (ha : a.block < w.heap.size) (hp : a.block ≠ p) : w'.cell? a = w.cell? a := World.cell?_of_block (w := w) (h.2 a.block ha hp)
theorem Fq.frozen {p : Nat} {w w' : World} (h : Fq p w w') {a : Addr} (ha : a.block < w.heap.size) (hp : a.block ≠ p) : w'.frozen? a = w.frozen? a := World.frozen?_of_block (w := w) (h.2 a.block ha hp)

/-- A reader at block p over these bytes: where it is, or the class of its fault. -/
def RS (w : World) (p : Nat) (l : List UInt8) (s : Except Nat Nat) : Prop :=
  ET w ∧ 0 < p ∧ w.frozen? ⟨p, 1, none⟩ = false ∧ w.frozen? ⟨p, 2, none⟩ = false ∧ (∃ v, w.cell? ⟨p, 0, none⟩ = some v ∧ RBp w p v l) ∧
  match s with
  | .ok at' => at' ≤ l.length ∧ w.cell? ⟨p, 1, none⟩ = some (.int .i64 (at' : Int)) ∧ w.cell? ⟨p, 2, none⟩ = some .nilIface
  | .error c => ∃ at' b pl, at' ≤ l.length ∧ w.cell? ⟨p, 1, none⟩ = some (.int .i64 ((at' : Nat) : Int)) ∧ w.cell? ⟨p, 2, none⟩ = some (ev b) ∧ p < b ∧ ErrAt w b pl (c : Int)
theorem RS.lt {w : World} {p : Nat} {l : List UInt8} {s : Except Nat Nat} (h : RS w p l s) : p < w.heap.size := by
  obtain ⟨_, _, _, _, ⟨v, h0, _⟩, _⟩ := h; exact lt_of_cell h0
theorem RS.at_le {w : World} {p : Nat} {l : List UInt8} {s : Except Nat Nat} (h : RS w p l s) : l.length ≤ 1000000000000 := by
  obtain ⟨_, _, _, _, ⟨v, h0, h1⟩, _⟩ := h; exact h1.1

theorem rb_drop {w : World} {B b off cap at' : Nat} {l : List UInt8} (hbB : b < B) (hl : at' ≤ l.length) (hcap : l.length ≤ cap) (hm : cap ≤ maxLen) (hlen : l.length ≤ 1000000000000)
    (hcell : ∀ i, i < l.length → w.cell? ⟨b, off + i, none⟩ = some (.int .u8 ((l.getD i 0).toNat : Int))) : RBp w B (.slice (some ⟨b, off + at', none⟩) (l.length - at') (cap - at')) (l.drop at') := by
  refine ⟨by simp; omega, .inr ⟨b, off + at', cap - at', hbB, by simp; omega, by omega, by simp, fun i hi => ?_⟩⟩
  have hi' : i < l.length - at' := by simpa using hi
  have e : (l.drop at').getD i 0 = l.getD (at' + i) 0 := by simp [List.getD_eq_getElem?_getD]
  rw [e, Nat.add_assoc]; exact hcell (at' + i) (by omega)
theorem rb_end {w : World} {B b cap at' : Nat} {l : List UInt8} (hbB : b < B) (hl : at' ≤ l.length) (hcap : l.length ≤ cap) (hce : cap = at') (off : Nat) :
    RBp w B (.slice (some ⟨b, off, none⟩) (l.length - at') 0) (l.drop at') := by
  refine ⟨by simp; omega, .inr ⟨b, off, 0, hbB, by simp; omega, by unfold maxLen; omega, by simp, fun i hi => ?_⟩⟩
  have hi' : i < l.length - at' := by simpa using hi
  omega

end Go.Proofs.YtmahkhpmaenkhaaDoor
/- Contracts of wire.Uint at any slice, leastOf, and the reader's fail and upTo. -/
namespace Go.Proofs.YtmahkhpmaenkhaaDoor
open Go.RowKit Go.Lib

set_option maxHeartbeats 1600000 in
theorem uint_nil (w : World) : Calls Tryd.prog 42 #[.slice none 0 0] w fun e w' => UPost 95 60 98 (decU []) w e w' := by
  have HD : Hid (decU [] = (0, 0, 22, 0)) := rfl
  generalize decU [] = r at *
  go_enter Tryd.func42, Tryd.ntmps42
  go_wp2
  refine wp_loop_rounds 1 ?_
  rw [rounds_succ]
  go_wp2_with (go_at_call 57; refine (fault_any 22 _ _).mono ?_; rintro e w' ⟨rfl, rfl⟩)
  go_ret3
  exact upost_form (c := 22) (k := 0) (by decide) HD.out

theorem uint_any (v : Value) (B : Nat) (l : List UInt8) (w : World) (hv : RBp w B v l) :
    Calls Tryd.prog 42 #[v] w fun e w' => UPost 95 60 98 (decU l) w e w' := by
  obtain ⟨hlen, ⟨rfl, rfl⟩ | ⟨b, off, cap, hbB, hcap, hm, rfl, hcell⟩⟩ := hv
  · exact uint_nil w
  · exact uint_row b off cap l w (Nat.le_trans hlen (by decide)) hcell

def accN : Nat → Nat → List UInt8 → Nat
  | _, acc, [] => acc
  | i, acc, c :: r => accN (i + 1) (acc + c.toNat % 128 * 2 ^ (7 * i)) r
/-- The least number that begins so. -/
def leastN (l : List UInt8) : Nat := if l = [] then 0 else 2 ^ (7 * l.length) + accN 0 0 l
theorem accN_lt : ∀ (l : List UInt8) (i acc : Nat), acc < 2 ^ (7 * i) → accN i acc l < 2 ^ (7 * (i + l.length))
  | [], i, acc, h => by simpa [accN] using h
  | c :: r, i, acc, h => by
    have := accN_lt r (i + 1) _ (acc_lt (d := c.toNat % 128) (by omega) h)
    rw [show i + (c :: r).length = i + 1 + r.length by simp; omega]; exact this
theorem leastN_lt {l : List UInt8} (h : l.length ≤ 9) : leastN l < 18446744073709551616 := by
  unfold leastN
  split
  · decide
  · have h1 := accN_lt l 0 0 (by simp)
    have h2 := pow64 h
    simp at h1; omega
theorem or_least {L k d acc : Nat} (hL : L ≤ 9) (hk : k < L) (hd : d < 128) (ha : acc < 2 ^ (7 * k)) :
    bits BinOp.or IntKind.u64 ((2 ^ (7 * L) + acc : Nat) : Int) ((d * 2 ^ (7 * k) : Nat) : Int) = ((2 ^ (7 * L) + (acc + d * 2 ^ (7 * k)) : Nat) : Int) := by
  have hp := pow64 hL
  have h1 := acc_lt hd ha
  have h2 : 2 ^ (7 * (k + 1)) ≤ 2 ^ (7 * L) := Nat.pow_le_pow_right (by decide) (by omega)
  have h3 : 2 ^ (7 * k) ≤ 2 ^ (7 * L) := Nat.pow_le_pow_right (by decide) (by omega)
  rw [bits_or_u64_nat _ _ (by omega) (by omega)]
  congr 1
  have e1 : 2 ^ (7 * L) + acc = 2 ^ (7 * L) ||| acc := by
    have := Nat.two_pow_add_eq_or_of_lt (i := 7 * L) (b := acc) (by omega) 1; simpa using this
  have e2 : acc ||| d * 2 ^ (7 * k) = acc + d * 2 ^ (7 * k) := by
    rw [Nat.or_comm, Nat.mul_comm d, ← Nat.two_pow_add_eq_or_of_lt ha, Nat.add_comm]
  have e3 : 2 ^ (7 * L) + (acc + d * 2 ^ (7 * k)) = 2 ^ (7 * L) ||| (acc + d * 2 ^ (7 * k)) := by
    have := Nat.two_pow_add_eq_or_of_lt (i := 7 * L) (b := acc + d * 2 ^ (7 * k)) (by omega) 1; simpa using this
  rw [e1, Nat.or_assoc, e2, e3]

theorem wrap_pow {L : Nat} (h : L ≤ 9) : IntKind.u64.wrap ((2 : Int) ^ (7 * L)) = ((2 ^ (7 * L) + 0 : Nat) : Int) := by
  have hp := pow64 h
  have e : ((2 : Int) ^ (7 * L)) = ((2 ^ (7 * L) : Nat) : Int) := by push_cast; rfl
  rw [e, IntKind.wrap_u64]
  generalize 2 ^ (7 * L) = q at *
  omega
theorem or_leastw {L k acc : Nat} {c : UInt8} (hL : L ≤ 9) (hk : k < L) (ha : acc < 2 ^ (7 * k)) :
    bits BinOp.or IntKind.u64 ((2 ^ (7 * L) + acc : Nat) : Int) (IntKind.u64.wrap (((c.toNat : Nat) : Int) % 128 * 2 ^ (7 * k))) = ((2 ^ (7 * L) + (acc + c.toNat % 128 * 2 ^ (7 * k)) : Nat) : Int) := by
  have hd : c.toNat % 128 < 128 := by omega
  have ht := term_lt (k := k) (by omega) hd (by omega)
  have e : (((c.toNat : Nat) : Int) % 128 * 2 ^ (7 * k)) = ((c.toNat % 128 * 2 ^ (7 * k) : Nat) : Int) := by
    push_cast; rfl
  rw [e, IntKind.wrap_u64, show ((c.toNat % 128 * 2 ^ (7 * k) : Nat) : Int) % 18446744073709551616 = ((c.toNat % 128 * 2 ^ (7 * k) : Nat) : Int) by omega]
  exact or_least hL hk hd ha

end Go.Proofs.YtmahkhpmaenkhaaDoor
