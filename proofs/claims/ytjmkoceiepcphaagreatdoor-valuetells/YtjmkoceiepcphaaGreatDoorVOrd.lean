/- Contracts of what compares: cmp.Compare, cmp.Or, strings.Compare. -/
import Derived.Test.YtjmkoceiepcphaaGreatDoorVCmp
import Derived.Deep.RegionWith
namespace Go.Proofs.YtjmkoceiepcphaaGreatDoor
open Go.RowKit Go.Lib

theorem cmpInt_any (x y : Int) (w : World) : Calls Tryz.prog 38 #[.int .i64 x, .int .i64 y] w fun e w' => e = .returned (.int .i64 (compareInt x y)) ∧ w' = w := by
  have HN := hide (fun (x : Int) (w : World) => show Calls Tryz.prog 52 #[.int .i64 x] w fun e w' => e = .returned (.bool false) ∧ w' = w by
    go_enter Tryz.func52, Tryz.ntmps52
    go_wp2
    go_ret
    exact ⟨rfl, rfl⟩)
  by_cases h1 : x < y
  · go_enter Tryz.func38, Tryz.ntmps38
    go_wp2_with (go_at_call 52; refine (unhide HN _ _).mono ?_; rintro e w1 ⟨rfl, rfl⟩)
    go_ret
    exact ⟨ret_int (by unfold compareInt; rw [if_pos h1]), rfl⟩
  · by_cases h2 : x > y
    · go_enter Tryz.func38, Tryz.ntmps38
      go_wp2_with (go_at_call 52; refine (unhide HN _ _).mono ?_; rintro e w1 ⟨rfl, rfl⟩)
      go_ret
      exact ⟨ret_int (by unfold compareInt; rw [if_neg (by omega), if_pos h2]), rfl⟩
    · go_enter Tryz.func38, Tryz.ntmps38
      go_wp2_with (go_at_call 52; refine (unhide HN _ _).mono ?_; rintro e w1 ⟨rfl, rfl⟩)
      go_ret
      exact ⟨ret_int (by unfold compareInt; rw [if_neg (by omega), if_neg (by omega)]), rfl⟩
theorem cmpInt64_any (x y : Int) (w : World) : Calls Tryz.prog 39 #[.int .i64 x, .int .i64 y] w fun e w' => e = .returned (.int .i64 (compareInt x y)) ∧ w' = w := by
  have HN := hide (fun (x : Int) (w : World) => show Calls Tryz.prog 53 #[.int .i64 x] w fun e w' => e = .returned (.bool false) ∧ w' = w by
    go_enter Tryz.func53, Tryz.ntmps53
    go_wp2
    go_ret
    exact ⟨rfl, rfl⟩)
  by_cases h1 : x < y
  · go_enter Tryz.func39, Tryz.ntmps39
    go_wp2_with (go_at_call 53; refine (unhide HN _ _).mono ?_; rintro e w1 ⟨rfl, rfl⟩)
    go_ret
    exact ⟨ret_int (by unfold compareInt; rw [if_pos h1]), rfl⟩
  · by_cases h2 : x > y
    · go_enter Tryz.func39, Tryz.ntmps39
      go_wp2_with (go_at_call 53; refine (unhide HN _ _).mono ?_; rintro e w1 ⟨rfl, rfl⟩)
      go_ret
      exact ⟨ret_int (by unfold compareInt; rw [if_neg (by omega), if_pos h2]), rfl⟩
    · go_enter Tryz.func39, Tryz.ntmps39
      go_wp2_with (go_at_call 53; refine (unhide HN _ _).mono ?_; rintro e w1 ⟨rfl, rfl⟩)
      go_ret
      exact ⟨ret_int (by unfold compareInt; rw [if_neg (by omega), if_neg (by omega)]), rfl⟩

theorem cmpText_any (a b : ByteArray) (w : World) : Calls Tryz.prog 40 #[.string a, .string b] w fun e w' => e = .returned (.int .i64 (compareBytes a.data.toList b.data.toList)) ∧ w' = w := by
  have h := @run_callFunc_extern Tryz.prog 74 _ Extern.BytealgCompare.compare Tryz.func74 (by kernel_rfl) (by kernel_rfl) (by kernel_rfl) (by kernel_rfl)
  have h2 := Lib.run_compareString (P := Tryz.prog) a b
  have HN := hide (fun (w : World) => show Calls Tryz.prog 54 #[.string a, .string b] w fun e w' => e = .returned (.int .i64 (compareBytes a.data.toList b.data.toList)) ∧ w' = w by
    go_enter Tryz.func54, Tryz.ntmps54
    go_wp2
    go_ret
    exact ⟨rfl, rfl⟩)
  clear h h2
  go_enter Tryz.func40, Tryz.ntmps40
  go_wp2_with (go_at_call 54; refine (unhide HN _).mono ?_; rintro e w1 ⟨rfl, rfl⟩)
  go_ret
  exact ⟨rfl, rfl⟩

set_option maxHeartbeats 1600000 in
/-- cmp.Or of three: the first that isn't 0. -/
theorem cmpOr_any (x y z : Int) (w : World) (b : Nat) (h0 : w.cell? ⟨b, 0, none⟩ = some (.int .i64 x)) (h1 : w.cell? ⟨b, 1, none⟩ = some (.int .i64 y)) (h2 : w.cell? ⟨b, 2, none⟩ = some (.int .i64 z)) :
    Calls Tryz.prog 37 #[.slice (some ⟨b, 0, none⟩) 3 3] w fun e w' => e = .returned (.int .i64 (first0 x (first0 y z))) ∧ w' = w := by
  by_cases hx : x = 0
  · subst hx
    by_cases hy : y = 0
    · subst hy
      by_cases hz : z = 0
      · subst hz
        go_enter Tryz.func37, Tryz.ntmps37
        go_wp2
        refine wp_loop_rounds 4 ?_
        rw [rounds_succ]
        go_wp2
        rw [rounds_succ]
        go_wp2
        rw [rounds_succ]
        go_wp2
        rw [rounds_succ]
        go_wp2
        go_ret
        exact ⟨rfl, rfl⟩
      · have hz' : (z != 0) = true := by simp [hz]
        go_enter Tryz.func37, Tryz.ntmps37
        go_wp2
        refine wp_loop_rounds 3 ?_
        rw [rounds_succ]
        go_wp2
        rw [rounds_succ]
        go_wp2
        rw [rounds_succ]
        go_wp2
        go_ret
        exact ⟨rfl, rfl⟩
    · have hy' : (y != 0) = true := by simp [hy]
      go_enter Tryz.func37, Tryz.ntmps37
      go_wp2
      refine wp_loop_rounds 2 ?_
      rw [rounds_succ]
      go_wp2
      rw [rounds_succ]
      go_wp2
      go_ret
      exact ⟨ret_int (by rw [first0_eq, first0_ne hy]), rfl⟩
  · have hx' : (x != 0) = true := by simp [hx]
    go_enter Tryz.func37, Tryz.ntmps37
    go_wp2
    refine wp_loop_rounds 1 ?_
    rw [rounds_succ]
    go_wp2
    go_ret
    exact ⟨ret_int (by rw [first0_ne hx]), rfl⟩
end Go.Proofs.YtjmkoceiepcphaaGreatDoor
