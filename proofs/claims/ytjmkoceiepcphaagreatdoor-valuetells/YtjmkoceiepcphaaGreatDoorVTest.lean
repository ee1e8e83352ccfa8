/- Contracts of value.Compare, Test, And, Or, Not. -/
import Derived.Test.YtjmkoceiepcphaaGreatDoorVIs
namespace Go.Proofs.YtjmkoceiepcphaaGreatDoor
open Go.RowKit Go.Lib

theorem may_kind {g : GV} (h : g.may = true) : g.kind = 0 ∨ g.kind = 1 ∨ g.kind = 2 ∨ g.kind = 3 := by
  obtain ⟨k, n, t⟩ := g
  simp [GV.may] at h
  dsimp only
  omega
theorem sound_ok {g : GV} (h : g.ok) : (soundG g).ok := by
  unfold soundG
  split
  · exact h
  · exact ⟨by decide, by decide, by decide⟩
theorem two_below {w w1 : World} {o o' : Obj} (h : Below ((w.alloc o).alloc o').heap.size ((w.alloc o).alloc o') w1) : Below w.heap.size w w1 :=
  (((Below.refl _ _).alloc (Nat.le_refl _) _).alloc (by simp) _).trans (h.mono (by simp <;> omega))
theorem two_drew {w w1 : World} {o o' : Obj} (h : Below (((w.alloc o).alloc o').drew).heap.size (((w.alloc o).alloc o').drew) w1) : Below w.heap.size w w1 :=
  (((Below.refl _ _).alloc (Nat.le_refl _) _).alloc (by simp) _).drew.trans (h.mono (by simp <;> omega))
theorem B3.drew {w : World} {b : Nat} {k n : Int} {t : ByteArray} (h : B3 w b k n t) : B3 w.drew b k n t := h

set_option maxHeartbeats 1600000 in
theorem compare_any (a b : GV) (w : World) (ha : a.ok) (hb : b.ok) : Calls Tryz.prog 8 #[a.agg, b.agg] w fun e w' => e = .returned (.int .i64 (compareG a b)) ∧ Below w.heap.size w w' := by
  have HA := hide (fun W => sound_any a W ha)
  have HB := hide (fun W => sound_any b W hb)
  have HC := hide (fun W => csound_any (soundG a) (soundG b) W)
  clear ha hb
  unfold compareG
  generalize soundG a = a' at *
  generalize soundG b = b' at *
  generalize cmpG a' b' = c at *
  obtain ⟨k, n, t⟩ := a
  obtain ⟨k', n', t'⟩ := b
  rw [GV.agg_eq] at HA
  rw [GV.agg_eq] at HB
  rw [GV.agg_eq, GV.agg_eq]
  obtain ⟨k1, n1, t1⟩ := a'
  obtain ⟨k2, n2, t2⟩ := b'
  rw [GV.agg_eq] at *
  rw [GV.agg_eq] at *
  go_enter Tryz.func8, Tryz.ntmps8
  go_wp2
  go_region_held3 (fun w' => w'.cell? ⟨w.heap.size, 0, none⟩ = some (.int .i64 k) ∧ w'.cell? ⟨w.heap.size, 1, none⟩ = some (.int .i64 n) ∧ w'.cell? ⟨w.heap.size, 2, none⟩ = some (.string t) ∧ w'.cell? ⟨w.heap.size + 1, 0, none⟩ = some (.int .i64 k') ∧ w'.cell? ⟨w.heap.size + 1, 1, none⟩ = some (.int .i64 n') ∧ w'.cell? ⟨w.heap.size + 1, 2, none⟩ = some (.string t')) (go_keep) (first
    | (go_at_call 21; refine (unhide HC _).mono ?_; rintro e w3 ⟨rfl, hb3⟩; obtain ⟨u0, u1, u2, _, _, _⟩ := (unhide BA2).after hb3; obtain ⟨v0, v1, v2, _, _, _⟩ := (unhide BB2).after hb3)
    | (go_at_call 22; refine (unhide HA _).mono ?_; clear HA; rintro e w1 ⟨rfl, hb1⟩; have BA := hide (((B3.new w w.heap.size k n t rfl).alloc _).drew.after hb1); have BB := hide ((B3.new _ (w.heap.size + 1) k' n' t' (by simp)).drew.after hb1); obtain ⟨c0, c1, c2, _, _, _⟩ := unhide BA; obtain ⟨d0, d1, d2, _, _, _⟩ := unhide BB)
    | (go_at_call 22; refine (unhide HB _).mono ?_; rintro e w2 ⟨rfl, hb2⟩; have BA2 := hide ((unhide BA).after hb2); have BB2 := hide ((unhide BB).after hb2); obtain ⟨x0, x1, x2, _, _, _⟩ := unhide BA2; obtain ⟨y0, y1, y2, _, _, _⟩ := unhide BB2))
  all_goals
    go_wp2
    go_ret
    have q1 := two_drew hb1
    have z1 := q1.size
    have q2 := q1.trans (hb2.mono z1)
    exact ⟨rfl, q2.trans (hb3.mono q2.size)⟩

def andG (a b : Int) : Int := if ¬ (0 ≤ a ∧ a ≤ 2) ∨ ¬ (0 ≤ b ∧ b ≤ 2) then 0 else if a = 0 ∨ b = 0 then 0 else if a = 2 ∨ b = 2 then 2 else 1
def notG (a : Int) : Int := if a = 0 then 1 else if a = 2 then 2 else 0
def orG (a b : Int) : Int := if ¬ (0 ≤ a ∧ a ≤ 2) ∨ ¬ (0 ≤ b ∧ b ≤ 2) then 0 else notG (andG (notG a) (notG b))
theorem truths {a : Int} (h : 0 ≤ a ∧ a ≤ 2) : a = 0 ∨ a = 1 ∨ a = 2 := by omega
end Go.Proofs.YtjmkoceiepcphaaGreatDoor
