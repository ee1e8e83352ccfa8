/- Contracts of value.Compare, Test, And, Or, Not. -/
import Derived.Test.YtehgoioinogmkaaGreatDoorJVOrdVIs
namespace Go.Proofs.YtehgoioinogmkaaGreatDoor
open Go.RowKit Go.Lib

theorem may_kind {g : GV} (h : g.may = true) : g.kind = 0 ∨ g.kind = 1 ∨ g.kind = 2 ∨ g.kind = 3 := by
  obtain ⟨k, n, t⟩ := g
  simp [GV.may] at h
  dsimp only
  omega
theorem sound_ok {g : GV} (h : g.ok) : (soundG g).ok := by
  unfold soundG
  split
  · exact h
  · exact ⟨by decide, by decide, by decide⟩
theorem two_below {w w1 : World} {o o' : Obj} (h : Below ((w.alloc o).alloc o').heap.size ((w.alloc o).alloc o') w1) : Below w.heap.size w w1 :=
  (((Below.refl _ _).alloc (Nat.le_refl _) _).alloc (by simp) _).trans (h.mono (by simp <;> omega))
theorem two_drew {w w1 : World} {o o' : Obj} (h : Below (((w.alloc o).alloc o').drew).heap.size (((w.alloc o).alloc o').drew) w1) : Below w.heap.size w w1 :=
  (((Below.refl _ _).alloc (Nat.le_refl _) _).alloc (by simp) _).drew.trans (h.mono (by simp <;> omega))
theorem B3.drew {w : World} {b : Nat} {k n : Int} {t : ByteArray} (h : B3 w b k n t) : B3 w.drew b k n t := h

set_option maxHeartbeats 1600000 in
theorem compare_any (a b : GV) (w : World) (ha : a.ok) (hb : b.ok) : Calls Tryz.prog 175 #[a.agg, b.agg] w fun e w' => e = .returned (.int .i64 (compareG a b)) ∧ Below w.heap.size w w' := by
  have HA := hide (fun W => sound_any a W ha)
  have HB := hide (fun W => sound_any b W hb)
  have HC := hide (fun W => csound_any (soundG a) (soundG b) W)
  clear ha hb
  unfold compareG
  generalize soundG a = a' at *
  generalize soundG b = b' at *
  generalize cmpG a' b' = c at *
  obtain ⟨k, n, t⟩ := a
  obtain ⟨k', n', t'⟩ := b
  rw [GV.agg_eq] at HA
  rw [GV.agg_eq] at HB
  rw [GV.agg_eq, GV.agg_eq]
  obtain ⟨k1, n1, t1⟩ := a'
  obtain ⟨k2, n2, t2⟩ := b'
  rw [GV.agg_eq] at *
  rw [GV.agg_eq] at *
  go_enter Tryz.func175, Tryz.ntmps175
  go_wp2
  go_region_held3 (fun w' => w'.cell? ⟨w.heap.size, 0, none⟩ = some (.int .i64 k) ∧ w'.cell? ⟨w.heap.size, 1, none⟩ = some (.int .i64 n) ∧ w'.cell? ⟨w.heap.size, 2, none⟩ = some (.string t) ∧ w'.cell? ⟨w.heap.size + 1, 0, none⟩ = some (.int .i64 k') ∧ w'.cell? ⟨w.heap.size + 1, 1, none⟩ = some (.int .i64 n') ∧ w'.cell? ⟨w.heap.size + 1, 2, none⟩ = some (.string t')) (go_keep) (first
    | (go_at_call 173; refine (unhide HC _).mono ?_; rintro e w3 ⟨rfl, hb3⟩; obtain ⟨u0, u1, u2, _, _, _⟩ := (unhide BA2).after hb3; obtain ⟨v0, v1, v2, _, _, _⟩ := (unhide BB2).after hb3)
    | (go_at_call 204; refine (unhide HA _).mono ?_; clear HA; rintro e w1 ⟨rfl, hb1⟩; have BA := hide (((B3.new w w.heap.size k n t rfl).alloc _).drew.after hb1); have BB := hide ((B3.new _ (w.heap.size + 1) k' n' t' (by simp)).drew.after hb1); obtain ⟨c0, c1, c2, _, _, _⟩ := unhide BA; obtain ⟨d0, d1, d2, _, _, _⟩ := unhide BB)
    | (go_at_call 204; refine (unhide HB _).mono ?_; rintro e w2 ⟨rfl, hb2⟩; have BA2 := hide ((unhide BA).after hb2); have BB2 := hide ((unhide BB).after hb2); obtain ⟨x0, x1, x2, _, _, _⟩ := unhide BA2; obtain ⟨y0, y1, y2, _, _, _⟩ := unhide BB2))
  all_goals
    go_wp2
    go_ret
    have q1 := two_drew hb1
    have z1 := q1.size
    have q2 := q1.trans (hb2.mono z1)
    exact ⟨rfl, q2.trans (hb3.mono q2.size)⟩

theorem isTruth_any (a : Int) (w : World) : Calls Tryz.prog 174 #[.int .i64 a] w fun e w' => e = .returned (.bool (decide (0 ≤ a ∧ a ≤ 2))) ∧ w' = w := by
  by_cases h0 : a = 0
  · subst h0
    go_enter Tryz.func174, Tryz.ntmps174
    go_wp2
    go_ret
    exact ⟨rfl, rfl⟩
  by_cases h1 : a = 1
  · subst h1
    go_enter Tryz.func174, Tryz.ntmps174
    go_wp2
    go_ret
    exact ⟨rfl, rfl⟩
  by_cases h2 : a = 2
  · subst h2
    go_enter Tryz.func174, Tryz.ntmps174
    go_wp2
    go_ret
    exact ⟨rfl, rfl⟩
  have e0 : (a == 0) = false := by simpa using h0
  have e1 : (a == 1) = false := by simpa using h1
  have e2 : (a == 2) = false := by simpa using h2
  rw [show decide (0 ≤ a ∧ a ≤ 2) = false by simp; omega]
  clear h0 h1 h2
  go_enter Tryz.func174, Tryz.ntmps174
  go_wp2
  go_ret
  exact ⟨rfl, rfl⟩
def andG (a b : Int) : Int := if ¬ (0 ≤ a ∧ a ≤ 2) ∨ ¬ (0 ≤ b ∧ b ≤ 2) then 0 else if a = 0 ∨ b = 0 then 0 else if a = 2 ∨ b = 2 then 2 else 1
def notG (a : Int) : Int := if a = 0 then 1 else if a = 2 then 2 else 0
def orG (a b : Int) : Int := if ¬ (0 ≤ a ∧ a ≤ 2) ∨ ¬ (0 ≤ b ∧ b ≤ 2) then 0 else notG (andG (notG a) (notG b))
theorem not_any (a : Int) (w : World) : Calls Tryz.prog 122 #[.int .i64 a] w fun e w' => e = .returned (.int .i64 (notG a)) ∧ w' = w := by
  by_cases h0 : a = 0
  · subst h0
    go_enter Tryz.func122, Tryz.ntmps122
    go_wp2
    go_ret
    exact ⟨rfl, rfl⟩
  by_cases h2 : a = 2
  · subst h2
    go_enter Tryz.func122, Tryz.ntmps122
    go_wp2
    go_ret
    exact ⟨rfl, rfl⟩
  have e0 : (a == 0) = false := by simpa using h0
  have e2 : (a == 2) = false := by simpa using h2
  rw [show notG a = 0 by unfold notG; rw [if_neg h0, if_neg h2]]
  clear h0 h2
  go_enter Tryz.func122, Tryz.ntmps122
  go_wp2
  go_ret
  exact ⟨rfl, rfl⟩
theorem truths {a : Int} (h : 0 ≤ a ∧ a ≤ 2) : a = 0 ∨ a = 1 ∨ a = 2 := by omega
set_option maxHeartbeats 1600000 in
theorem and_any (a b : Int) (w : World) : Calls Tryz.prog 171 #[.int .i64 a, .int .i64 b] w fun e w' => e = .returned (.int .i64 (andG a b)) ∧ w' = w := by
  have HA := hide (fun W => isTruth_any a W)
  have HB := hide (fun W => isTruth_any b W)
  by_cases ha : 0 ≤ a ∧ a ≤ 2
  · by_cases hb : 0 ≤ b ∧ b ≤ 2
    · rw [decide_eq_true ha] at HA
      rw [decide_eq_true hb] at HB
      rcases truths ha with rfl | rfl | rfl <;> rcases truths hb with rfl | rfl | rfl <;>
      · clear ha hb
        go_enter Tryz.func171, Tryz.ntmps171
        go_wp2_with (first | (go_at_call 174; refine (unhide HA _).mono ?_; clear HA; rintro e w1 ⟨rfl, rfl⟩) | (go_at_call 174; refine (unhide HB _).mono ?_; rintro e w1 ⟨rfl, rfl⟩))
        go_ret
        exact ⟨rfl, rfl⟩
    · rw [decide_eq_true ha] at HA
      rw [decide_eq_false hb] at HB
      rw [show andG a b = 0 by unfold andG; rw [if_pos (.inr hb)]]
      clear ha hb
      go_enter Tryz.func171, Tryz.ntmps171
      go_wp2_with (first | (go_at_call 174; refine (unhide HA _).mono ?_; clear HA; rintro e w1 ⟨rfl, rfl⟩) | (go_at_call 174; refine (unhide HB _).mono ?_; rintro e w1 ⟨rfl, rfl⟩))
      go_ret
      exact ⟨rfl, rfl⟩
  · rw [decide_eq_false ha] at HA
    rw [show andG a b = 0 by unfold andG; rw [if_pos (.inl ha)]]
    clear ha
    go_enter Tryz.func171, Tryz.ntmps171
    go_wp2_with (first | (go_at_call 174; refine (unhide HA _).mono ?_; clear HA; rintro e w1 ⟨rfl, rfl⟩))
    go_ret
    exact ⟨rfl, rfl⟩
set_option maxHeartbeats 1600000 in
theorem or_any (a b : Int) (w : World) : Calls Tryz.prog 126 #[.int .i64 a, .int .i64 b] w fun e w' => e = .returned (.int .i64 (orG a b)) ∧ w' = w := by
  have HA := hide (fun W => isTruth_any a W)
  have HB := hide (fun W => isTruth_any b W)
  by_cases ha : 0 ≤ a ∧ a ≤ 2
  · by_cases hb : 0 ≤ b ∧ b ≤ 2
    · rw [decide_eq_true ha] at HA
      rw [decide_eq_true hb] at HB
      rw [show orG a b = notG (andG (notG a) (notG b)) by unfold orG; rw [if_neg (by omega)]]
      have HN := hide (fun x W => not_any x W)
      have HD := hide (fun x y W => and_any x y W)
      clear ha hb
      go_enter Tryz.func126, Tryz.ntmps126
      go_wp2_with (first | (go_at_call 174; refine (unhide HA _).mono ?_; clear HA; rintro e w1 ⟨rfl, rfl⟩) | (go_at_call 174; refine (unhide HB _).mono ?_; rintro e w1 ⟨rfl, rfl⟩) | (go_at_call 122; refine (unhide HN _ _).mono ?_; rintro e w1 ⟨rfl, rfl⟩) | (go_at_call 171; refine (unhide HD _ _ _).mono ?_; rintro e w1 ⟨rfl, rfl⟩))
      go_ret
      exact ⟨rfl, rfl⟩
    · rw [decide_eq_true ha] at HA
      rw [decide_eq_false hb] at HB
      rw [show orG a b = 0 by unfold orG; rw [if_pos (.inr hb)]]
      clear ha hb
      go_enter Tryz.func126, Tryz.ntmps126
      go_wp2_with (first | (go_at_call 174; refine (unhide HA _).mono ?_; clear HA; rintro e w1 ⟨rfl, rfl⟩) | (go_at_call 174; refine (unhide HB _).mono ?_; rintro e w1 ⟨rfl, rfl⟩))
      go_ret
      exact ⟨rfl, rfl⟩
  · rw [decide_eq_false ha] at HA
    rw [show orG a b = 0 by unfold orG; rw [if_pos (.inl ha)]]
    clear ha
    go_enter Tryz.func126, Tryz.ntmps126
    go_wp2_with (first | (go_at_call 174; refine (unhide HA _).mono ?_; clear HA; rintro e w1 ⟨rfl, rfl⟩))
    go_ret
    exact ⟨rfl, rfl⟩
end Go.Proofs.YtehgoioinogmkaaGreatDoor
