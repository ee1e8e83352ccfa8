/- Contracts of the document's reckon: the negated, quotients, rests. -/
import Derived.Test.YtjmkoceiepcphaaGreatDoorVRefSum
namespace Go.Proofs.YtjmkoceiepcphaaGreatDoor
open Go.RowKit Go.Lib

set_option maxHeartbeats 3200000 in
theorem rreck_neg (a b : Int) (w : World) (ha : -9223372036854775808 ≤ a ∧ a < 9223372036854775808) :
    Calls Tryz.prog 32 #[.int .i64 1, .int .i64 a, .int .i64 b] w fun e w' => e = .returned (.tuple #[.int .i64 (fitG (0 - a)).1, .int .i64 (fitG (0 - a)).2]) ∧ w' = w := by
  have HS := hide (fun W => rreck_sub 0 a W (by decide) ha)
  generalize fitG (0 - a) = r at *
  clear ha
  go_enter Tryz.func32, Tryz.ntmps32
  go_wp2_with (go_at_call 32; refine (unhide HS _).mono ?_; rintro e w1 ⟨rfl, rfl⟩)
  go_ret2
  exact ⟨rfl, rfl⟩

set_option maxHeartbeats 3200000 in
theorem rreck_div (op a b : Int) (w : World) (ha : -9223372036854775808 ≤ a ∧ a < 9223372036854775808) (hb : -9223372036854775808 ≤ b ∧ b < 9223372036854775808) (hop : op = 14 ∨ op = 15) :
    Calls Tryz.prog 32 #[.int .i64 op, .int .i64 a, .int .i64 b] w fun e w' => e = .returned (.tuple #[.int .i64 (reckG op a b).1, .int .i64 (reckG op a b).2]) ∧ w' = w := by
  by_cases h0 : b = 0
  · subst h0
    have hr : Hid (reckG op a 0 = (0, 7)) := by rcases hop with rfl | rfl <;> rfl
    generalize reckG op a 0 = r at *
    clear ha hb
    rcases hop with rfl | rfl
    · go_enter Tryz.func32, Tryz.ntmps32
      go_wp2
      go_ret2
      exact ⟨ret_pi (unhide hr), rfl⟩
    · go_enter Tryz.func32, Tryz.ntmps32
      go_wp2
      go_ret2
      exact ⟨ret_pi (unhide hr), rfl⟩
  have e0 : (b == 0) = false := by simpa using h0
  by_cases h1 : b = -1
  · subst h1
    rcases hop with rfl | rfl
    · have hr : reckG 14 a (-1) = fitG (0 - a) := by
        unfold reckG; rw [if_neg (by decide), if_neg (by decide), if_neg (by decide), if_neg (by decide), if_neg h0, if_neg (by decide), Int.tdiv_neg, Int.tdiv_one, Int.zero_sub]
      have HS := hide (fun W => rreck_sub 0 a W (by decide) ha)
      rw [hr]
      clear hr
      generalize fitG (0 - a) = r at *
      clear ha hb h0 e0
      go_enter Tryz.func32, Tryz.ntmps32
      go_wp2_with (go_at_call 32; refine (unhide HS _).mono ?_; rintro e w1 ⟨rfl, rfl⟩)
      go_ret2
      exact ⟨rfl, rfl⟩
    · have hr : Hid (reckG 15 a (-1) = (0, 0)) := by
        unfold reckG; rw [if_neg (by decide), if_neg (by decide), if_neg (by decide), if_neg (by decide), if_neg h0, if_pos rfl, Int.tmod_neg, Int.tmod_one]; rfl
      generalize reckG 15 a (-1) = r at *
      clear ha hb h0 e0
      go_enter Tryz.func32, Tryz.ntmps32
      go_wp2
      go_ret2
      exact ⟨ret_pi (unhide hr), rfl⟩
  have e1 : (b == -1) = false := by simpa using h1
  rcases hop with rfl | rfl
  · have hin : -9223372036854775808 ≤ a.tdiv b ∧ a.tdiv b < 9223372036854775808 := tdiv_in ha hb h0 (by omega)
    have hr : Hid (reckG 14 a b = (a.tdiv b, 0)) := by
      unfold reckG; rw [if_neg (by decide), if_neg (by decide), if_neg (by decide), if_neg (by decide), if_neg h0, if_neg (by decide)]; unfold fitG; rw [if_pos hin]; rfl
    have hw := wrap_in hin.1 hin.2
    generalize reckG 14 a b = r at *
    clear ha hb hin
    go_enter Tryz.func32, Tryz.ntmps32
    go_wp2
    go_ret2
    exact ⟨ret_pi (unhide hr), rfl⟩
  · have hr : Hid (reckG 15 a b = (a.tmod b, 0)) := by unfold reckG; rw [if_neg (by decide), if_neg (by decide), if_neg (by decide), if_neg (by decide), if_neg h0, if_pos rfl]; rfl
    generalize reckG 15 a b = r at *
    clear ha hb
    go_enter Tryz.func32, Tryz.ntmps32
    go_wp2
    go_ret2
    exact ⟨ret_pi (unhide hr), rfl⟩
end Go.Proofs.YtjmkoceiepcphaaGreatDoor
