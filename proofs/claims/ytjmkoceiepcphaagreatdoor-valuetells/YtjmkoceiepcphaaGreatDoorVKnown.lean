/- Contracts of the statements' helps: Num, known, Few. -/
import Derived.Test.YtjmkoceiepcphaaGreatDoorVSum3
import Derived.Test.YtjmkoceiepcphaaGreatDoorVTest2
namespace Go.Proofs.YtjmkoceiepcphaaGreatDoor
open Go.RowKit Go.Lib

set_option maxHeartbeats 1600000 in
theorem num_any (n : Int) (w : World) : Calls Tryz.prog 17 #[.int .i64 n] w fun e w' => e = .returned (.agg #[.int .i64 2, .int .i64 n, .string ⟨#[]⟩]) ∧ w' = w.alloc (.cells #[.int .i64 2, .int .i64 n, .string ⟨#[]⟩] 23) := by
  go_enter Tryz.func17, Tryz.ntmps17
  go_wp2
  refine bodyPost_ret (v := .agg #[.int .i64 2, .int .i64 n, .string ⟨#[]⟩]) ?_ rfl ⟨rfl, rfl⟩
  rw [results_cell1 rfl]
  go_simp

theorem num_ok {n : Int} (h : -9223372036854775808 ≤ n ∧ n < 9223372036854775808) : GV.ok ⟨2, n, ⟨#[]⟩⟩ := ⟨h.1, h.2, show (⟨#[]⟩ : ByteArray).size ≤ maxLen by decide⟩
theorem null_ok : GV.ok ⟨0, 0, ⟨#[]⟩⟩ := ⟨by decide, by decide, by decide⟩
theorem one_step {w a b : World} (h : Below w.heap.size w a) (h' : Below a.heap.size a b) : Below w.heap.size w b := h.trans (h'.mono h.size)
theorem one_new' {w a : World} (h : Below w.heap.size w a) (o : Obj) : Below w.heap.size w (a.alloc o) := h.alloc h.size o
theorem k_div : doG 14 ⟨2, -7, ⟨#[]⟩⟩ ⟨2, 2, ⟨#[]⟩⟩ = (⟨2, -3, ⟨#[]⟩⟩, 0) := by kernel_rfl
theorem k_mod : doG 15 ⟨2, 1, ⟨#[]⟩⟩ ⟨2, 0, ⟨#[]⟩⟩ = (nullG, 7) := by kernel_rfl
theorem k_eq : testG 5 ⟨0, 0, ⟨#[]⟩⟩ ⟨2, 1, ⟨#[]⟩⟩ = (2, 0) := by kernel_rfl
theorem do_at (op : Int) (a b : GV) (k n : Int) (t : ByteArray) (c : Int) (h : doG op a b = (⟨k, n, t⟩, c)) (w : World) (ha : a.ok) (hb : op = 1 ∨ b.ok) :
    Calls Tryz.prog 15 #[.int .i64 op, a.agg, b.agg] w fun e w' => e = .returned (.tuple #[.agg #[.int .i64 k, .int .i64 n, .string t], errG c]) ∧ Below w.heap.size w w' := by
  have := do_any op a b w ha hb
  rw [h] at this
  exact this
theorem test_at (op : Int) (a b : GV) (x c : Int) (h : testG op a b = (x, c)) (w : World) (ha : a.ok) (hb : b.ok) :
    Calls Tryz.prog 12 #[.int .i64 op, a.agg, b.agg] w fun e w' => e = .returned (.tuple #[.int .i64 x, errG c]) ∧ Below w.heap.size w w' := by
  have := test_any op a b w ha hb
  rw [h] at this
  exact this

set_option maxHeartbeats 3200000 in
theorem known_any (w : World) (hE : ET w) : Calls Tryz.prog 4 #[] w fun e w' => e = .returned (.bool true) ∧ Below w.heap.size w w' := by
  have H1 : Hid (∀ W : World, Calls Tryz.prog 15 #[.int .i64 14, .agg #[.int .i64 2, .int .i64 (-7), .string ⟨#[]⟩], .agg #[.int .i64 2, .int .i64 2, .string ⟨#[]⟩]] W fun e w' => e = .returned (.tuple #[.agg #[.int .i64 2, .int .i64 (-3), .string ⟨#[]⟩], .nilIface]) ∧ Below W.heap.size W w') :=
    fun W => do_at 14 _ _ _ _ _ _ k_div W (num_ok (by decide)) (.inr (num_ok (by decide)))
  have H2 : Hid (∀ W : World, Calls Tryz.prog 12 #[.int .i64 5, .agg #[.int .i64 0, .int .i64 0, .string ⟨#[]⟩], .agg #[.int .i64 2, .int .i64 1, .string ⟨#[]⟩]] W fun e w' => e = .returned (.tuple #[.int .i64 2, .nilIface]) ∧ Below W.heap.size W w') :=
    fun W => test_at 5 _ _ _ _ k_eq W null_ok (num_ok (by decide))
  have H3 : Hid (∀ W : World, Calls Tryz.prog 15 #[.int .i64 15, .agg #[.int .i64 2, .int .i64 1, .string ⟨#[]⟩], .agg #[.int .i64 2, .int .i64 0, .string ⟨#[]⟩]] W fun e w' => e = .returned (.tuple #[.agg #[.int .i64 0, .int .i64 0, .string ⟨#[]⟩], .iface 47 (.int .i64 7)]) ∧ Below W.heap.size W w') :=
    fun W => do_at 15 _ _ _ _ _ _ k_mod W (num_ok (by decide)) (.inr (num_ok (by decide)))
  have HC : Hid (∀ W : World, Below w.heap.size w W → Calls Tryz.prog 14 #[.iface 47 (.int .i64 7)] W fun e w' => e = .returned (.int .i64 7) ∧ Below W.heap.size W w') :=
    fun W hb => class_bare 7 W (hE.below hb hE.lt)
  clear hE
  go_enter Tryz.func4, Tryz.ntmps4
  go_wp2_with (first
    | (go_at_call 17; refine (num_any _ _).mono ?_; rintro e w0 ⟨rfl, rfl⟩)
    | (go_at_call 15; refine (unhide H1 _).mono ?_; clear H1; rintro e w1 ⟨rfl, hb1⟩; have Q1 := hide (one_step (one_new' (one_new' (Below.refl _ w) _) _) hb1); clear hb1)
    | (go_at_call 12; refine (unhide H2 _).mono ?_; clear H2; rintro e w2 ⟨rfl, hb2⟩; have Q2 := hide (one_step (one_new' (one_new' (unhide Q1) _) _) hb2); have V2 := hide (((B3.new w1 w1.heap.size 2 (-3) ⟨#[]⟩ rfl).alloc _).after hb2); clear hb2 Q1)
    | (go_at_call 15; refine (unhide H3 _).mono ?_; clear H3; rintro e w3 ⟨rfl, hb3⟩; have Q3 := hide (one_step (one_new' (one_new' (unhide Q2) _) _) hb3); have V3 := (((unhide V2).alloc _).alloc _).after hb3; obtain ⟨c0, c1, c2, _, _, _⟩ := V3.alloc (.cells #[.int .i64 0, .int .i64 0, .string ⟨#[]⟩] 23); have QC := hide (one_new' (unhide Q3) (.cells #[.int .i64 0, .int .i64 0, .string ⟨#[]⟩] 23)); clear hb3 Q2 V2 V3)
    | (go_at_call 14; refine (unhide HC _ (unhide QC)).mono ?_; clear HC; rintro e w4 ⟨rfl, hb4⟩))
  go_ret
  exact ⟨rfl, one_step (unhide QC) hb4⟩
end Go.Proofs.YtjmkoceiepcphaaGreatDoor
