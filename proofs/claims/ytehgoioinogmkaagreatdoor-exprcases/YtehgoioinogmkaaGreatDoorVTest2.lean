/- Contract of value.Test. -/
import Derived.Test.YtehgoioinogmkaaGreatDoorJVOrdVIsVTest
namespace Go.Proofs.YtehgoioinogmkaaGreatDoor
open Go.RowKit Go.Lib

theorem two_below2 {w w1 : World} {o o' : Obj} (h : Below ((w.alloc o).alloc o').heap.size ((w.alloc o).alloc o') w1) : Below w.heap.size w w1 :=
  (((Below.refl _ _).alloc (Nat.le_refl _) _).alloc (by simp) _).trans (h.mono (by simp <;> omega))
theorem two_only {w : World} {o o' : Obj} : Below w.heap.size w ((w.alloc o).alloc o') := ((Below.refl _ _).alloc (Nat.le_refl _) _).alloc (by simp) _
set_option maxHeartbeats 3200000 in
theorem test_any (op : Int) (a b : GV) (w : World) (ha : a.ok) (hb : b.ok) :
    Calls Tryz.prog 125 #[.int .i64 op, a.agg, b.agg] w fun e w' => e = .returned (.tuple #[.int .i64 (testG op a b).1, errG (testG op a b).2]) ∧ Below w.heap.size w w' := by
  have HA := hide (fun W => is_any a W ha)
  have HB := hide (fun W => is_any b W hb)
  have HC := hide (fun W => csound_any a b W)
  have HH := hide (fun W => holds_any op (cmpG a b) W (cmpG_cmp.range a b))
  have HT : Hid (∀ p : Int × Int, testG op a b = p → ∀ e : Ending, e = .returned (.tuple #[.int .i64 p.1, errG p.2]) → e = .returned (.tuple #[.int .i64 (testG op a b).1, errG (testG op a b).2])) := by
    intro p hp e he
    rw [hp]; exact he
  clear ha hb
  obtain ⟨r, hr⟩ : ∃ r, r = testG op a b := ⟨_, rfl⟩
  rw [← hr] at HT ⊢
  unfold testG at hr
  generalize cmpG a b = c at *
  obtain ⟨k, n, t⟩ := a
  obtain ⟨k', n', t'⟩ := b
  rw [GV.agg_eq] at HA
  rw [GV.agg_eq] at HB
  rw [GV.agg_eq, GV.agg_eq] at HC ⊢
  dsimp only at hr
  generalize GV.may ⟨k, n, t⟩ = ma at *
  generalize GV.may ⟨k', n', t'⟩ = mb at *
  generalize holdsG op c = hh at *
  by_cases h5 : op < 5
  · rw [if_pos (.inl h5)] at hr
    have HR := hide hr
    clear hr
    go_enter Tryz.func125, Tryz.ntmps125
    go_wp2
    go_ret2
    exact ⟨unhide HT _ (unhide HR) _ rfl, two_only⟩
  by_cases h10 : 10 < op
  · rw [if_pos (.inr (.inl h10))] at hr
    have HR := hide hr
    clear hr
    go_enter Tryz.func125, Tryz.ntmps125
    go_wp2
    go_ret2
    exact ⟨unhide HT _ (unhide HR) _ rfl, two_only⟩
  cases ma with
  | false =>
    rw [if_pos (.inr (.inr (.inl rfl)))] at hr
    have HR := hide hr
    clear hr
    go_enter Tryz.func125, Tryz.ntmps125
    go_wp2_with (first
      | (go_at_call 117; refine (unhide HA _).mono ?_; clear HA; rintro e w1 ⟨rfl, hb1⟩))
    go_ret2
    exact ⟨unhide HT _ (unhide HR) _ rfl, two_below2 hb1⟩
  | true =>
    cases mb with
    | false =>
      rw [if_pos (.inr (.inr (.inr rfl)))] at hr
      have HR := hide hr
      clear hr
      go_enter Tryz.func125, Tryz.ntmps125
      go_wp2_with (first
        | (go_at_call 117; refine (unhide HA _).mono ?_; clear HA; rintro e w1 ⟨rfl, hb1⟩; obtain ⟨d0, d1, d2, _, _, _⟩ := (B3.new _ (w.heap.size + 1) k' n' t' (by simp)).after hb1)
        | (go_at_call 117; refine (unhide HB _).mono ?_; rintro e w2 ⟨rfl, hb2⟩))
      go_ret2
      have q1 := two_below2 hb1
      exact ⟨unhide HT _ (unhide HR) _ rfl, q1.trans (hb2.mono q1.size)⟩
    | true =>
      rw [if_neg (by simp; omega)] at hr
      by_cases k0 : k = 0
      · subst k0
        rw [if_pos (.inl rfl)] at hr
        have HR := hide hr
        clear hr
        go_enter Tryz.func125, Tryz.ntmps125
        go_wp2_with (first
          | (go_at_call 117; refine (unhide HA _).mono ?_; clear HA; rintro e w1 ⟨rfl, hb1⟩; have BA := hide (((B3.new w w.heap.size 0 n t rfl).alloc _).after hb1); have BB := hide ((B3.new _ (w.heap.size + 1) k' n' t' (by simp)).after hb1); obtain ⟨d0, d1, d2, _, _, _⟩ := unhide BB)
          | (go_at_call 117; refine (unhide HB _).mono ?_; rintro e w2 ⟨rfl, hb2⟩; obtain ⟨x0, x1, x2, _, _, _⟩ := (unhide BA).after hb2; obtain ⟨y0, y1, y2, _, _, _⟩ := (unhide BB).after hb2))
        go_ret2
        have q1 := two_below2 hb1
        exact ⟨unhide HT _ (unhide HR) _ rfl, q1.trans (hb2.mono q1.size)⟩
      by_cases k0' : k' = 0
      · subst k0'
        rw [if_pos (.inr rfl)] at hr
        have e0 : (k == 0) = false := by simpa using k0
        have HR := hide hr
        clear hr
        go_enter Tryz.func125, Tryz.ntmps125
        go_wp2_with (first
          | (go_at_call 117; refine (unhide HA _).mono ?_; clear HA; rintro e w1 ⟨rfl, hb1⟩; have BA := hide (((B3.new w w.heap.size k n t rfl).alloc _).after hb1); have BB := hide ((B3.new _ (w.heap.size + 1) 0 n' t' (by simp)).after hb1); obtain ⟨d0, d1, d2, _, _, _⟩ := unhide BB)
          | (go_at_call 117; refine (unhide HB _).mono ?_; rintro e w2 ⟨rfl, hb2⟩; obtain ⟨x0, x1, x2, _, _, _⟩ := (unhide BA).after hb2; obtain ⟨y0, y1, y2, _, _, _⟩ := (unhide BB).after hb2))
        go_ret2
        have q1 := two_below2 hb1
        exact ⟨unhide HT _ (unhide HR) _ rfl, q1.trans (hb2.mono q1.size)⟩
      rw [if_neg (by omega)] at hr
      have e0 : (k == 0) = false := by simpa using k0
      have e0' : (k' == 0) = false := by simpa using k0'
      by_cases hk : k = k'
      · subst hk
        rw [if_neg (by simp)] at hr
        have en : (k != k) = false := by simp
        cases hh with
        | true =>
          rw [if_pos rfl] at hr
          have HR := hide hr
          clear hr
          go_enter Tryz.func125, Tryz.ntmps125
          go_wp2_with (first
            | (go_at_call 117; refine (unhide HA _).mono ?_; clear HA; rintro e w1 ⟨rfl, hb1⟩; have BA := hide (((B3.new w w.heap.size k n t rfl).alloc _).after hb1); have BB := hide ((B3.new _ (w.heap.size + 1) k n' t' (by simp)).after hb1); obtain ⟨d0, d1, d2, _, _, _⟩ := unhide BB)
            | (go_at_call 117; refine (unhide HB _).mono ?_; rintro e w2 ⟨rfl, hb2⟩; obtain ⟨x0, x1, x2, _, _, _⟩ := (unhide BA).after hb2; obtain ⟨y0, y1, y2, _, _, _⟩ := (unhide BB).after hb2)
            | (go_at_call 173; refine (unhide HC _).mono ?_; rintro e w3 ⟨rfl, hb3⟩)
            | (go_at_call 172; refine (unhide HH _).mono ?_; rintro e w4 ⟨rfl, rfl⟩))
          go_ret2
          have q1 := two_below2 hb1
          have q2 := q1.trans (hb2.mono q1.size)
          exact ⟨unhide HT _ (unhide HR) _ rfl, q2.trans (hb3.mono q2.size)⟩
        | false =>
          rw [if_neg (by simp)] at hr
          have HR := hide hr
          clear hr
          go_enter Tryz.func125, Tryz.ntmps125
          go_wp2_with (first
            | (go_at_call 117; refine (unhide HA _).mono ?_; clear HA; rintro e w1 ⟨rfl, hb1⟩; have BA := hide (((B3.new w w.heap.size k n t rfl).alloc _).after hb1); have BB := hide ((B3.new _ (w.heap.size + 1) k n' t' (by simp)).after hb1); obtain ⟨d0, d1, d2, _, _, _⟩ := unhide BB)
            | (go_at_call 117; refine (unhide HB _).mono ?_; rintro e w2 ⟨rfl, hb2⟩; obtain ⟨x0, x1, x2, _, _, _⟩ := (unhide BA).after hb2; obtain ⟨y0, y1, y2, _, _, _⟩ := (unhide BB).after hb2)
            | (go_at_call 173; refine (unhide HC _).mono ?_; rintro e w3 ⟨rfl, hb3⟩)
            | (go_at_call 172; refine (unhide HH _).mono ?_; rintro e w4 ⟨rfl, rfl⟩))
          go_ret2
          have q1 := two_below2 hb1
          have q2 := q1.trans (hb2.mono q1.size)
          exact ⟨unhide HT _ (unhide HR) _ rfl, q2.trans (hb3.mono q2.size)⟩
      · rw [if_pos hk] at hr
        have en : (k != k') = true := by simpa using hk
        have HR := hide hr
        clear hr
        go_enter Tryz.func125, Tryz.ntmps125
        go_wp2_with (first
          | (go_at_call 117; refine (unhide HA _).mono ?_; clear HA; rintro e w1 ⟨rfl, hb1⟩; have BA := hide (((B3.new w w.heap.size k n t rfl).alloc _).after hb1); have BB := hide ((B3.new _ (w.heap.size + 1) k' n' t' (by simp)).after hb1); obtain ⟨d0, d1, d2, _, _, _⟩ := unhide BB)
          | (go_at_call 117; refine (unhide HB _).mono ?_; rintro e w2 ⟨rfl, hb2⟩; obtain ⟨x0, x1, x2, _, _, _⟩ := (unhide BA).after hb2; obtain ⟨y0, y1, y2, _, _, _⟩ := (unhide BB).after hb2))
        go_ret2
        have q1 := two_below2 hb1
        exact ⟨unhide HT _ (unhide HR) _ rfl, q1.trans (hb2.mono q1.size)⟩
end Go.Proofs.YtehgoioinogmkaaGreatDoor
