/- ValueLogic: its walk. -/
import Derived.Test.YtaijngbejcolbaaDoorVKnown
import Derived.BigQuiet
import Derived.Deep.QuietTactic
namespace Go.Proofs.YtaijngbejcolbaaDoor
open Go.RowKit Go.Lib

set_option maxHeartbeats 3200000 in
theorem logic_out (a b : Int) (w : World) (hE : ET w) (h : ¬ (0 ≤ a ∧ a ≤ 2 ∧ 0 ≤ b ∧ b ≤ 2)) :
    Calls Tryd.prog 3 #[.int .i64 a, .int .i64 b] w fun e w' => e = .returned (.bool true) ∧ Below w.heap.size w w' := by
  have HK := hide (known_any w hE)
  have HA : Hid (∀ W : World, Calls Tryd.prog 10 #[.int .i64 a, .int .i64 b] W fun e w' => e = .returned (.int .i64 0) ∧ w' = W) := fun W => by
    have := and_any a b W
    rw [show andG a b = 0 by unfold andG; rw [if_pos (by omega)]] at this
    exact this
  have HO : Hid (∀ W : World, Calls Tryd.prog 11 #[.int .i64 a, .int .i64 b] W fun e w' => e = .returned (.int .i64 0) ∧ w' = W) := fun W => by
    have := or_any a b W
    rw [show orG a b = 0 by unfold orG; rw [if_pos (by omega)]] at this
    exact this
  have HN : Hid (¬ (0 ≤ a ∧ a ≤ 2) → ∀ W : World, Calls Tryd.prog 12 #[.int .i64 a] W fun e w' => e = .returned (.int .i64 0) ∧ w' = W) := fun h W => by
    have := not_any a W
    rw [show notG a = 0 by unfold notG; rw [if_neg (by omega), if_neg (by omega)]] at this
    exact this
  clear hE
  by_cases a0 : 0 ≤ a
  · by_cases a2 : a ≤ 2
    · clear HN
      by_cases b0 : 0 ≤ b
      · have b2 : 2 < b := by omega
        have b2' : (b ≤ 2) = False := by simp; omega
        clear h
        go_enter Tryd.func3, Tryd.ntmps3
        go_wp2_with (first
          | (go_at_call 9; refine (unhide HK).mono ?_; rintro e w1 ⟨rfl, hb1⟩)
          | (go_at_call 10; refine (unhide HA _).mono ?_; rintro e w2 ⟨rfl, rfl⟩)
          | (go_at_call 11; refine (unhide HO _).mono ?_; rintro e w2 ⟨rfl, rfl⟩))
        go_ret
        exact ⟨rfl, hb1⟩
      · have b0' : (0 ≤ b) = False := by simp; omega
        clear h
        go_enter Tryd.func3, Tryd.ntmps3
        go_wp2_with (first
          | (go_at_call 9; refine (unhide HK).mono ?_; rintro e w1 ⟨rfl, hb1⟩)
          | (go_at_call 10; refine (unhide HA _).mono ?_; rintro e w2 ⟨rfl, rfl⟩)
          | (go_at_call 11; refine (unhide HO _).mono ?_; rintro e w2 ⟨rfl, rfl⟩))
        go_ret
        exact ⟨rfl, hb1⟩
    · have HN := hide (unhide HN (by omega))
      have a2' : (a ≤ 2) = False := by simp; omega
      clear h
      go_enter Tryd.func3, Tryd.ntmps3
      go_wp2_with (first
        | (go_at_call 9; refine (unhide HK).mono ?_; rintro e w1 ⟨rfl, hb1⟩)
        | (go_at_call 10; refine (unhide HA _).mono ?_; rintro e w2 ⟨rfl, rfl⟩)
        | (go_at_call 11; refine (unhide HO _).mono ?_; rintro e w2 ⟨rfl, rfl⟩)
        | (go_at_call 12; refine (unhide HN _).mono ?_; rintro e w2 ⟨rfl, rfl⟩))
      go_ret
      exact ⟨rfl, hb1⟩
  · have HN := hide (unhide HN (by omega))
    have a2' : (0 ≤ a) = False := by simp; omega
    clear h
    go_enter Tryd.func3, Tryd.ntmps3
    go_wp2_with (first
      | (go_at_call 9; refine (unhide HK).mono ?_; rintro e w1 ⟨rfl, hb1⟩)
      | (go_at_call 10; refine (unhide HA _).mono ?_; rintro e w2 ⟨rfl, rfl⟩)
      | (go_at_call 11; refine (unhide HO _).mono ?_; rintro e w2 ⟨rfl, rfl⟩)
      | (go_at_call 12; refine (unhide HN _).mono ?_; rintro e w2 ⟨rfl, rfl⟩))
    go_ret
    exact ⟨rfl, hb1⟩

set_option maxHeartbeats 6400000 in
theorem logic_in (a b : Int) (w : World) (hE : ET w) (h : 0 ≤ a ∧ a ≤ 2 ∧ 0 ≤ b ∧ b ≤ 2) :
    Calls Tryd.prog 3 #[.int .i64 a, .int .i64 b] w fun e w' => e = .returned (.bool true) ∧ Below w.heap.size w w' := by
  have HK := hide (known_any w hE)
  clear hE
  obtain ⟨h1, h2, h3, h4⟩ := h
  have HA := hide (fun (W : World) => and_any a b W)
  have HO := hide (fun (W : World) => or_any a b W)
  have HN := hide (fun (W : World) => not_any a W)
  rcases truths ⟨h1, h2⟩ with rfl | rfl | rfl <;> rcases truths ⟨h3, h4⟩ with rfl | rfl | rfl
  all_goals
    clear h1 h2 h3 h4
    simp only [show andG 0 0 = 0 from rfl, show andG 0 1 = 0 from rfl, show andG 0 2 = 0 from rfl, show andG 1 0 = 0 from rfl, show andG 1 1 = 1 from rfl, show andG 1 2 = 2 from rfl, show andG 2 0 = 0 from rfl, show andG 2 1 = 2 from rfl, show andG 2 2 = 2 from rfl] at HA
    simp only [show orG 0 0 = 0 from rfl, show orG 0 1 = 1 from rfl, show orG 0 2 = 2 from rfl, show orG 1 0 = 1 from rfl, show orG 1 1 = 1 from rfl, show orG 1 2 = 1 from rfl, show orG 2 0 = 2 from rfl, show orG 2 1 = 1 from rfl, show orG 2 2 = 2 from rfl] at HO
    simp only [show notG 0 = 1 from rfl, show notG 1 = 0 from rfl, show notG 2 = 2 from rfl] at HN
    go_enter Tryd.func3, Tryd.ntmps3
    go_wp2_with (first
      | (go_at_call 9; refine (unhide HK).mono ?_; rintro e w1 ⟨rfl, hb1⟩))
    go_quiet (first
      | (go_at_call 10; refine Calls.quiet_of_same (unhide HA _))
      | (go_at_call 11; refine Calls.quiet_of_same (unhide HO _))
      | (go_at_call 12; refine Calls.quiet_of_same (unhide HN _)))
    go_wp2
    go_ret
    exact ⟨rfl, below_drewN (((hb1.alloc hb1.size _).alloc (by simp; have := hb1.size; omega) _).alloc (by simp; have := hb1.size; omega) _) _⟩
theorem logic_any (a b : Int) (w : World) (hE : ET w) :
    Calls Tryd.prog 3 #[.int .i64 a, .int .i64 b] w fun e w' => e = .returned (.bool true) ∧ Below w.heap.size w w' := by
  by_cases h : 0 ≤ a ∧ a ≤ 2 ∧ 0 ≤ b ∧ b ≤ 2
  · exact logic_in a b w hE h
  · exact logic_out a b w hE h
end Go.Proofs.YtaijngbejcolbaaDoor
