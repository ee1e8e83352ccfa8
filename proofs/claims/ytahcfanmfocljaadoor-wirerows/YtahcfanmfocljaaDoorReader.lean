/- Contracts of package wire's reader: where it is, or that it failed with a class. -/
import Derived.Test.YtahcfanmfocljaaDoorFaults
import Derived.Test.YtahcfanmfocljaaDoorUint
import Derived.Deep.QuietTactic
import Derived.BigQuiet
import Derived.WalkSmall
namespace Go.Proofs.YtahcfanmfocljaaDoor
open Go.RowKit Go.Lib

/-- A slice's value that reads as these bytes, in blocks below B. -/
def RBp (w : World) (B : Nat) (v : Value) (l : List UInt8) : Prop :=
  l.length ≤ 1000000000000 ∧ ((v = .slice none 0 0 ∧ l = []) ∨
    ∃ b off cap, b < B ∧ l.length ≤ cap ∧ cap ≤ maxLen ∧ v = .slice (some ⟨b, off, none⟩) l.length cap ∧ ∀ i, i < l.length → w.cell? ⟨b, off + i, none⟩ = some (.int .u8 ((l.getD i 0).toNat : Int)))
theorem RBp.below {w w' : World} {B B' : Nat} {v : Value} {l : List UInt8} (h : RBp w B v l) (hb : Below B' w w') (hB : B ≤ B') : RBp w' B v l := by
  obtain ⟨h1, h2 | ⟨b, off, cap, hbB, hc, hm, rfl, hcell⟩⟩ := h
  · exact ⟨h1, .inl h2⟩
  · exact ⟨h1, .inr ⟨b, off, cap, hbB, hc, hm, rfl, fun i hi => (hb.cell (p := ⟨b, off + i, none⟩) (Nat.lt_of_lt_of_le hbB hB)).trans (hcell i hi)⟩⟩

/-- No block but p turns. -/
def Fq (p : Nat) (w w' : World) : Prop := Below p w w' ∧ ∀ k, k < w.heap.size → k ≠ p → w'.heap[k]? = w.heap[k]?
theorem Fq.refl (p : Nat) (w : World) : Fq p w w := ⟨Below.refl _ _, fun _ _ _ => rfl⟩
theorem Fq.trans {p : Nat} {a b c : World} (h : Fq p a b) (h' : Fq p b c) : Fq p a c :=
  ⟨h.1.trans h'.1, fun k hk hp => (h'.2 k (Nat.lt_of_lt_of_le hk h.1.size) hp).trans (h.2 k hk hp)⟩
theorem Fq.alloc {p : Nat} {a w : World} (h : Fq p a w) (hp : p ≤ w.heap.size) (o : Obj) : Fq p a (w.alloc o) :=
  ⟨h.1.alloc hp o, fun k hk hkp => (Below.heap_alloc w o k (Nat.lt_of_lt_of_le hk h.1.size)).trans (h.2 k hk hkp)⟩
theorem Fq.setCell {p : Nat} {a w : World} (h : Fq p a w) (j : Nat) (u : Value) : Fq p a (w.setCell ⟨p, j, none⟩ u) :=
  ⟨h.1.setCell (Nat.le_refl _) u, fun k hk hkp => (Below.heap_setCell w ⟨p, j, none⟩ u k hkp).trans (h.2 k hk hkp)⟩
theorem Fq.drewN {p : Nat} {a w : World} (h : Fq p a w) (n : Nat) : Fq p a (w.drewN n) := ⟨below_drewN h.1 n, h.2⟩
theorem Fq.of {p : Nat} {w w' : World} (h : Below w.heap.size w w') (hp : p ≤ w.heap.size) : Fq p w w' := ⟨h.mono hp, fun k hk _ => h.block k hk⟩
theorem Fq.cell {p : Nat} {w w' : World} (h : Fq p w w') {a : Addr} (ha : a.block < w.heap.size) (hp : a.block ≠ p) : w'.cell? a = w.cell? a := World.cell?_of_block (w := w) (h.2 a.block ha hp)
theorem Fq.frozen {p : Nat} {w w' : World} (h : Fq p w w') {a : Addr} (ha : a.block < w.heap.size) (hp : a.block ≠ p) : w'.frozen? a = w.frozen? a := World.frozen?_of_block (w := w) (h.2 a.block ha hp)

/-- A reader at block p over these bytes: where it is, or the class of its fault. -/
def RS (w : World) (p : Nat) (l : List UInt8) (s : Except Nat Nat) : Prop :=
  ET w ∧ 1 < p ∧ w.frozen? ⟨p, 1, none⟩ = false ∧ w.frozen? ⟨p, 2, none⟩ = false ∧ (∃ v, w.cell? ⟨p, 0, none⟩ = some v ∧ RBp w p v l) ∧
  match s with
  | .ok at' => at' ≤ l.length ∧ w.cell? ⟨p, 1, none⟩ = some (.int .i64 (at' : Int)) ∧ w.cell? ⟨p, 2, none⟩ = some .nilIface
  | .error c => ∃ at' b pl, at' ≤ l.length ∧ w.cell? ⟨p, 1, none⟩ = some (.int .i64 ((at' : Nat) : Int)) ∧ w.cell? ⟨p, 2, none⟩ = some (ev b) ∧ p < b ∧ ErrAt w b pl (c : Int)
theorem RS.lt {w : World} {p : Nat} {l : List UInt8} {s : Except Nat Nat} (h : RS w p l s) : p < w.heap.size := by
  obtain ⟨_, _, _, _, ⟨v, h0, _⟩, _⟩ := h; exact lt_of_cell h0
theorem RS.at_le {w : World} {p : Nat} {l : List UInt8} {s : Except Nat Nat} (h : RS w p l s) : l.length ≤ 1000000000000 := by
  obtain ⟨_, _, _, _, ⟨v, h0, h1⟩, _⟩ := h; exact h1.1

theorem rb_drop {w : World} {B b off cap at' : Nat} {l : List UInt8} (hbB : b < B) (hl : at' ≤ l.length) (hcap : l.length ≤ cap) (hm : cap ≤ maxLen) (hlen : l.length ≤ 1000000000000)
    (hcell : ∀ i, i < l.length → w.cell? ⟨b, off + i, none⟩ = some (.int .u8 ((l.getD i 0).toNat : Int))) : RBp w B (.slice (some ⟨b, off + at', none⟩) (l.length - at') (cap - at')) (l.drop at') := by
  refine ⟨by simp; omega, .inr ⟨b, off + at', cap - at', hbB, by simp; omega, by omega, by simp, fun i hi => ?_⟩⟩
  have hi' : i < l.length - at' := by simpa using hi
  have e : (l.drop at').getD i 0 = l.getD (at' + i) 0 := by simp [List.getD_eq_getElem?_getD]
  rw [e, Nat.add_assoc]; exact hcell (at' + i) (by omega)
theorem rb_end {w : World} {B b cap at' : Nat} {l : List UInt8} (hbB : b < B) (hl : at' ≤ l.length) (hcap : l.length ≤ cap) (hce : cap = at') (off : Nat) :
    RBp w B (.slice (some ⟨b, off, none⟩) (l.length - at') 0) (l.drop at') := by
  refine ⟨by simp; omega, .inr ⟨b, off, 0, hbB, by simp; omega, by unfold maxLen; omega, by simp, fun i hi => ?_⟩⟩
  have hi' : i < l.length - at' := by simpa using hi
  omega

set_option maxHeartbeats 1600000 in
theorem rest_any (p at' : Nat) (l : List UInt8) (w : World) (hl : at' ≤ l.length) (v : Value) (h0 : w.cell? ⟨p, 0, none⟩ = some v) (hv : RBp w p v l) (h1 : w.cell? ⟨p, 1, none⟩ = some (.int .i64 (at' : Int))) :
    Calls Tryd.prog 85 #[.pointer (some ⟨p, 0, none⟩)] w fun e w' => ∃ v' n, e = .returned v' ∧ w' = w.drewN n ∧ RBp w p v' (l.drop at') := by
  obtain ⟨hlen, ⟨rfl, rfl⟩ | ⟨b, off, cap, hbB, hcap, hm, rfl, hcell⟩⟩ := hv
  · have e : at' = 0 := by simpa using hl
    subst e
    go_enter Tryd.func85, Tryd.ntmps85
    go_wp2
    go_quiet (fail)
    go_wp2
    go_ret
    exact ⟨_, _, rfl, rfl, by simp, .inl ⟨rfl, rfl⟩⟩
  · have hm' := hm
    unfold maxLen at hm
    by_cases hce : cap = at'
    · have R := hide (rb_end (w := w) (B := p) hbB hl hcap hce off (b := b))
      go_enter Tryd.func85, Tryd.ntmps85
      go_wp2
      go_quiet (fail)
      go_wp2
      go_ret
      exact ⟨_, _, rfl, rfl, unhide R⟩
    · have R := hide (rb_drop (at' := at') (w := w) (B := p) hbB hl hcap hm' hlen hcell)
      go_enter Tryd.func85, Tryd.ntmps85
      go_wp2
      go_quiet (fail)
      go_wp2
      go_ret
      exact ⟨_, _, rfl, rfl, unhide R⟩
end Go.Proofs.YtahcfanmfocljaaDoor
