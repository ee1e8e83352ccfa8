/- The statement ExprWorse, where known is true. -/
import Derived.Test.YtehgoioinogmkaaGreatDoorJXWoXWo2
namespace Go.Proofs.YtehgoioinogmkaaGreatDoor
open Go.RowKit Go.Lib

theorem class_er (c : Int) (k : Nat) (v : Value) (w : World) (hE : ET w) (hv : ErW w c k v) : Calls Tryz.prog 14 #[v] w fun e w' => e = .returned (.int .i64 c) ∧ Below w.heap.size w w' := by
  rcases hv.cases with ⟨rfl, rfl⟩ | ⟨hc, ⟨T, x, rfl⟩, hw⟩
  · refine (class_nil w).mono ?_
    rintro e w' ⟨rfl, rfl⟩
    exact ⟨rfl, Below.refl _ _⟩
  · exact class_chain c k T x w hE hw.chn
set_option linter.unusedSimpArgs false in
set_option linter.unusedVariables false in
set_option maxHeartbeats 6400000 in
set_option maxRecDepth 20000 in
theorem worse_A (a b m n p q : Int) (k1 k2 : Nat) (w : World) (hE : ET w) (HKN : Hid (Calls Tryz.prog 9 #[] w fun e w' => e = .returned (.bool true) ∧ Below w.heap.size w w'))
    (hp : a.tmod 9 = p) (hq : b.tmod 9 = q) (hwp : IntKind.wrap .i64 p = p) (hwq : IntKind.wrap .i64 q = q)
    (HW1 : Hid (∀ W, Calls Tryz.prog 19 #[.int .u8 a, .int .u8 m] W (WrP W p k1))) (HW2 : Hid (∀ W, Calls Tryz.prog 19 #[.int .u8 b, .int .u8 n] W (WrP W q k2))) (h0 : p = 0) (h1 : q = 0) :
    Calls Tryz.prog 5 #[.int .u8 a, .int .u8 b, .int .u8 m, .int .u8 n] w fun e w' => e = .returned (.bool true) ∧ Below w.heap.size w w' := by
  have HWS : Hid (∀ W x y, Below w.heap.size w W → ErW W p k1 x → ErW W q k2 y → Calls Tryz.prog 20 #[x, y] W fun e w' => e = .returned y ∧ Below W.heap.size W w') := by
    intro W x y hb hx hy
    refine (worse_any p q k1 k2 x y W (hE.below hb hE.lt) hx hy).mono ?_
    rintro e w' ⟨rfl, hb'⟩
    refine ⟨?_, hb'⟩
    unfold worseG
    repeat (first | rfl | rw [if_pos (by first | rfl | assumption | omega)] | rw [if_neg (by first | assumption | omega)])
  have HCL : Hid (∀ W c k v, Below w.heap.size w W → ErW W c k v → Calls Tryz.prog 14 #[v] W fun e w' => e = .returned (.int .i64 c) ∧ Below W.heap.size W w') := fun W c k v hb hv => class_er c k v W (hE.below hb hE.lt) hv
  have HPL : Hid (∀ W c k v, Below w.heap.size w W → ErW W c k v → Calls Tryz.prog 21 #[v] W fun e w' => e = .returned (.int .i64 (plE c k)) ∧ Below W.heap.size W w') := fun W c k v hb hv => place_any c k v W (hE.below hb hE.lt) hv
  clear hE
  obtain rfl := h0
  obtain rfl := h1
  go_enter Tryz.func5, Tryz.ntmps5
  go_wp2_with (first
    | (go_at_call 9; refine (unhide HKN).mono ?_; rintro e w1 ⟨rfl, hb1⟩; have HB1 := hide hb1; clear hb1)
    | (go_at_call 19; refine (unhide HW1 _).mono ?_; rintro e w2 ⟨hb2, x, rfl, hx⟩; have HB2 := hide (trX (unhide HB1) hb2); have HX2 := hide hx; clear hb2 hx HW1 HB1)
    | (go_at_call 19; refine (unhide HW2 _).mono ?_; rintro e w3 ⟨hb3, y, rfl, hy⟩; have HB3 := hide (trX (unhide HB2) hb3); have HX3 := hide ((unhide HX2).below hb3); have HY3 := hide hy; clear hb3 hy HW2 HB2 HX2)
    | (go_at_call 20; refine (unhide HWS _ _ _ (unhide HB3) (unhide HX3) (unhide HY3)).mono ?_; rintro e w4 ⟨rfl, hb4⟩; have HB4 := hide (trX (unhide HB3) hb4); have HX4 := hide ((unhide HX3).below hb4); have HY4 := hide ((unhide HY3).below hb4); clear hb4 HWS HB3 HX3 HY3)
    | (go_at_call 14; refine (unhide HCL _ _ _ _ (unhide HB4) (unhide HY4)).mono ?_; rintro e w5 ⟨rfl, hb5⟩; have HB5 := hide (trX (unhide HB4) hb5); have HX5 := hide ((unhide HX4).below hb5); clear hb5 HCL HB4 HX4)
    | (go_at_call 21; refine (unhide HPL _ _ _ _ (unhide HB5) (unhide HX5)).mono ?_; rintro e w6 ⟨rfl, hb6⟩; have HB6 := hide (trX (unhide HB5) hb6); have HX6 := hide ((unhide HX5).below hb6); clear hb6 HB5 HX5)
    | (go_at_call 21; refine (unhide HPL _ _ _ _ (unhide HB6) (unhide HX6)).mono ?_; rintro e w7 ⟨rfl, hb7⟩; have HB7 := hide (trX (unhide HB6) hb7); clear hb7 HB6))
  go_ret
  exact ⟨rfl, unhide HB5⟩
set_option linter.unusedSimpArgs false in
set_option linter.unusedVariables false in
set_option maxHeartbeats 6400000 in
set_option maxRecDepth 20000 in
theorem worse_B (a b m n p q : Int) (k1 k2 : Nat) (w : World) (hE : ET w) (HKN : Hid (Calls Tryz.prog 9 #[] w fun e w' => e = .returned (.bool true) ∧ Below w.heap.size w w'))
    (hp : a.tmod 9 = p) (hq : b.tmod 9 = q) (hwp : IntKind.wrap .i64 p = p) (hwq : IntKind.wrap .i64 q = q)
    (HW1 : Hid (∀ W, Calls Tryz.prog 19 #[.int .u8 a, .int .u8 m] W (WrP W p k1))) (HW2 : Hid (∀ W, Calls Tryz.prog 19 #[.int .u8 b, .int .u8 n] W (WrP W q k2))) (h0 : p = 0) (h1 : q ≠ 0) :
    Calls Tryz.prog 5 #[.int .u8 a, .int .u8 b, .int .u8 m, .int .u8 n] w fun e w' => e = .returned (.bool true) ∧ Below w.heap.size w w' := by
  have HWS : Hid (∀ W x y, Below w.heap.size w W → ErW W p k1 x → ErW W q k2 y → Calls Tryz.prog 20 #[x, y] W fun e w' => e = .returned y ∧ Below W.heap.size W w') := by
    intro W x y hb hx hy
    refine (worse_any p q k1 k2 x y W (hE.below hb hE.lt) hx hy).mono ?_
    rintro e w' ⟨rfl, hb'⟩
    refine ⟨?_, hb'⟩
    unfold worseG
    repeat (first | rfl | rw [if_pos (by first | rfl | assumption | omega)] | rw [if_neg (by first | assumption | omega)])
  have HCL : Hid (∀ W c k v, Below w.heap.size w W → ErW W c k v → Calls Tryz.prog 14 #[v] W fun e w' => e = .returned (.int .i64 c) ∧ Below W.heap.size W w') := fun W c k v hb hv => class_er c k v W (hE.below hb hE.lt) hv
  have HPL : Hid (∀ W c k v, Below w.heap.size w W → ErW W c k v → Calls Tryz.prog 21 #[v] W fun e w' => e = .returned (.int .i64 (plE c k)) ∧ Below W.heap.size W w') := fun W c k v hb hv => place_any c k v W (hE.below hb hE.lt) hv
  clear hE
  obtain rfl := h0
  have bq : (q == 0) = false := beq_eq_false_iff_ne.2 (by omega)
  have n1 : (0 = q) = False := by simp; omega
  have n2 : ((0 : Int) == q) = false := beq_eq_false_iff_ne.2 (by omega)
  go_enter Tryz.func5, Tryz.ntmps5
  go_wp2_with (first
    | (go_at_call 9; refine (unhide HKN).mono ?_; rintro e w1 ⟨rfl, hb1⟩; have HB1 := hide hb1; clear hb1)
    | (go_at_call 19; refine (unhide HW1 _).mono ?_; rintro e w2 ⟨hb2, x, rfl, hx⟩; have HB2 := hide (trX (unhide HB1) hb2); have HX2 := hide hx; clear hb2 hx HW1 HB1)
    | (go_at_call 19; refine (unhide HW2 _).mono ?_; rintro e w3 ⟨hb3, y, rfl, hy⟩; have HB3 := hide (trX (unhide HB2) hb3); have HX3 := hide ((unhide HX2).below hb3); have HY3 := hide hy; clear hb3 hy HW2 HB2 HX2)
    | (go_at_call 20; refine (unhide HWS _ _ _ (unhide HB3) (unhide HX3) (unhide HY3)).mono ?_; rintro e w4 ⟨rfl, hb4⟩; have HB4 := hide (trX (unhide HB3) hb4); have HX4 := hide ((unhide HX3).below hb4); have HY4 := hide ((unhide HY3).below hb4); clear hb4 HWS HB3 HX3 HY3)
    | (go_at_call 14; refine (unhide HCL _ _ _ _ (unhide HB4) (unhide HY4)).mono ?_; rintro e w5 ⟨rfl, hb5⟩; have HB5 := hide (trX (unhide HB4) hb5); have HX5 := hide ((unhide HX4).below hb5); clear hb5 HCL HB4 HX4)
    | (go_at_call 21; refine (unhide HPL _ _ _ _ (unhide HB5) (unhide HX5)).mono ?_; rintro e w6 ⟨rfl, hb6⟩; have HB6 := hide (trX (unhide HB5) hb6); have HX6 := hide ((unhide HX5).below hb6); clear hb6 HB5 HX5)
    | (go_at_call 21; refine (unhide HPL _ _ _ _ (unhide HB6) (unhide HX6)).mono ?_; rintro e w7 ⟨rfl, hb7⟩; have HB7 := hide (trX (unhide HB6) hb7); clear hb7 HB6))
  go_ret
  exact ⟨rfl, unhide HB5⟩
set_option linter.unusedSimpArgs false in
set_option linter.unusedVariables false in
set_option maxHeartbeats 6400000 in
set_option maxRecDepth 20000 in
theorem worse_C (a b m n p q : Int) (k1 k2 : Nat) (w : World) (hE : ET w) (HKN : Hid (Calls Tryz.prog 9 #[] w fun e w' => e = .returned (.bool true) ∧ Below w.heap.size w w'))
    (hp : a.tmod 9 = p) (hq : b.tmod 9 = q) (hwp : IntKind.wrap .i64 p = p) (hwq : IntKind.wrap .i64 q = q)
    (HW1 : Hid (∀ W, Calls Tryz.prog 19 #[.int .u8 a, .int .u8 m] W (WrP W p k1))) (HW2 : Hid (∀ W, Calls Tryz.prog 19 #[.int .u8 b, .int .u8 n] W (WrP W q k2))) (h0 : p ≠ 0) (h1 : q = 0) :
    Calls Tryz.prog 5 #[.int .u8 a, .int .u8 b, .int .u8 m, .int .u8 n] w fun e w' => e = .returned (.bool true) ∧ Below w.heap.size w w' := by
  have HWS : Hid (∀ W x y, Below w.heap.size w W → ErW W p k1 x → ErW W q k2 y → Calls Tryz.prog 20 #[x, y] W fun e w' => e = .returned x ∧ Below W.heap.size W w') := by
    intro W x y hb hx hy
    refine (worse_any p q k1 k2 x y W (hE.below hb hE.lt) hx hy).mono ?_
    rintro e w' ⟨rfl, hb'⟩
    refine ⟨?_, hb'⟩
    unfold worseG
    repeat (first | rfl | rw [if_pos (by first | rfl | assumption | omega)] | rw [if_neg (by first | assumption | omega)])
  have HCL : Hid (∀ W c k v, Below w.heap.size w W → ErW W c k v → Calls Tryz.prog 14 #[v] W fun e w' => e = .returned (.int .i64 c) ∧ Below W.heap.size W w') := fun W c k v hb hv => class_er c k v W (hE.below hb hE.lt) hv
  have HPL : Hid (∀ W c k v, Below w.heap.size w W → ErW W c k v → Calls Tryz.prog 21 #[v] W fun e w' => e = .returned (.int .i64 (plE c k)) ∧ Below W.heap.size W w') := fun W c k v hb hv => place_any c k v W (hE.below hb hE.lt) hv
  clear hE
  obtain rfl := h1
  have bp : (p == 0) = false := beq_eq_false_iff_ne.2 (by omega)
  go_enter Tryz.func5, Tryz.ntmps5
  go_wp2_with (first
    | (go_at_call 9; refine (unhide HKN).mono ?_; rintro e w1 ⟨rfl, hb1⟩; have HB1 := hide hb1; clear hb1)
    | (go_at_call 19; refine (unhide HW1 _).mono ?_; rintro e w2 ⟨hb2, x, rfl, hx⟩; have HB2 := hide (trX (unhide HB1) hb2); have HX2 := hide hx; clear hb2 hx HW1 HB1)
    | (go_at_call 19; refine (unhide HW2 _).mono ?_; rintro e w3 ⟨hb3, y, rfl, hy⟩; have HB3 := hide (trX (unhide HB2) hb3); have HX3 := hide ((unhide HX2).below hb3); have HY3 := hide hy; clear hb3 hy HW2 HB2 HX2)
    | (go_at_call 20; refine (unhide HWS _ _ _ (unhide HB3) (unhide HX3) (unhide HY3)).mono ?_; rintro e w4 ⟨rfl, hb4⟩; have HB4 := hide (trX (unhide HB3) hb4); have HX4 := hide ((unhide HX3).below hb4); have HY4 := hide ((unhide HY3).below hb4); clear hb4 HWS HB3 HX3 HY3)
    | (go_at_call 14; refine (unhide HCL _ _ _ _ (unhide HB4) (unhide HX4)).mono ?_; rintro e w5 ⟨rfl, hb5⟩; have HB5 := hide (trX (unhide HB4) hb5); have HX5 := hide ((unhide HX4).below hb5); clear hb5 HCL HB4 HX4)
    | (go_at_call 21; refine (unhide HPL _ _ _ _ (unhide HB5) (unhide HX5)).mono ?_; rintro e w6 ⟨rfl, hb6⟩; have HB6 := hide (trX (unhide HB5) hb6); have HX6 := hide ((unhide HX5).below hb6); clear hb6 HB5 HX5)
    | (go_at_call 21; refine (unhide HPL _ _ _ _ (unhide HB6) (unhide HX6)).mono ?_; rintro e w7 ⟨rfl, hb7⟩; have HB7 := hide (trX (unhide HB6) hb7); clear hb7 HB6))
  go_ret
  exact ⟨rfl, unhide HB5⟩
set_option linter.unusedSimpArgs false in
set_option linter.unusedVariables false in
set_option maxHeartbeats 6400000 in
set_option maxRecDepth 20000 in
theorem worse_D (a b m n p q : Int) (k1 k2 : Nat) (w : World) (hE : ET w) (HKN : Hid (Calls Tryz.prog 9 #[] w fun e w' => e = .returned (.bool true) ∧ Below w.heap.size w w'))
    (hp : a.tmod 9 = p) (hq : b.tmod 9 = q) (hwp : IntKind.wrap .i64 p = p) (hwq : IntKind.wrap .i64 q = q)
    (HW1 : Hid (∀ W, Calls Tryz.prog 19 #[.int .u8 a, .int .u8 m] W (WrP W p k1))) (HW2 : Hid (∀ W, Calls Tryz.prog 19 #[.int .u8 b, .int .u8 n] W (WrP W q k2))) (h0 : p ≠ 0) (h1 : q ≠ 0) (h2 : q < p) :
    Calls Tryz.prog 5 #[.int .u8 a, .int .u8 b, .int .u8 m, .int .u8 n] w fun e w' => e = .returned (.bool true) ∧ Below w.heap.size w w' := by
  have HWS : Hid (∀ W x y, Below w.heap.size w W → ErW W p k1 x → ErW W q k2 y → Calls Tryz.prog 20 #[x, y] W fun e w' => e = .returned y ∧ Below W.heap.size W w') := by
    intro W x y hb hx hy
    refine (worse_any p q k1 k2 x y W (hE.below hb hE.lt) hx hy).mono ?_
    rintro e w' ⟨rfl, hb'⟩
    refine ⟨?_, hb'⟩
    unfold worseG
    repeat (first | rfl | rw [if_pos (by first | rfl | assumption | omega)] | rw [if_neg (by first | assumption | omega)])
  have HCL : Hid (∀ W c k v, Below w.heap.size w W → ErW W c k v → Calls Tryz.prog 14 #[v] W fun e w' => e = .returned (.int .i64 c) ∧ Below W.heap.size W w') := fun W c k v hb hv => class_er c k v W (hE.below hb hE.lt) hv
  have HPL : Hid (∀ W c k v, Below w.heap.size w W → ErW W c k v → Calls Tryz.prog 21 #[v] W fun e w' => e = .returned (.int .i64 (plE c k)) ∧ Below W.heap.size W w') := fun W c k v hb hv => place_any c k v W (hE.below hb hE.lt) hv
  clear hE
  have bp : (p == 0) = false := beq_eq_false_iff_ne.2 (by omega)
  have bq : (q == 0) = false := beq_eq_false_iff_ne.2 (by omega)
  have n1 : (p == q) = false := beq_eq_false_iff_ne.2 (by omega)
  have n2 : (p = q) = False := by simp; omega
  have n3 : (q = 0) = False := by simp; omega
  go_enter Tryz.func5, Tryz.ntmps5
  go_wp2_with (first
    | (go_at_call 9; refine (unhide HKN).mono ?_; rintro e w1 ⟨rfl, hb1⟩; have HB1 := hide hb1; clear hb1)
    | (go_at_call 19; refine (unhide HW1 _).mono ?_; rintro e w2 ⟨hb2, x, rfl, hx⟩; have HB2 := hide (trX (unhide HB1) hb2); have HX2 := hide hx; clear hb2 hx HW1 HB1)
    | (go_at_call 19; refine (unhide HW2 _).mono ?_; rintro e w3 ⟨hb3, y, rfl, hy⟩; have HB3 := hide (trX (unhide HB2) hb3); have HX3 := hide ((unhide HX2).below hb3); have HY3 := hide hy; clear hb3 hy HW2 HB2 HX2)
    | (go_at_call 20; refine (unhide HWS _ _ _ (unhide HB3) (unhide HX3) (unhide HY3)).mono ?_; rintro e w4 ⟨rfl, hb4⟩; have HB4 := hide (trX (unhide HB3) hb4); have HX4 := hide ((unhide HX3).below hb4); have HY4 := hide ((unhide HY3).below hb4); clear hb4 HWS HB3 HX3 HY3)
    | (go_at_call 14; refine (unhide HCL _ _ _ _ (unhide HB4) (unhide HY4)).mono ?_; rintro e w5 ⟨rfl, hb5⟩; have HB5 := hide (trX (unhide HB4) hb5); have HX5 := hide ((unhide HX4).below hb5); clear hb5 HCL HB4 HX4)
    | (go_at_call 21; refine (unhide HPL _ _ _ _ (unhide HB5) (unhide HX5)).mono ?_; rintro e w6 ⟨rfl, hb6⟩; have HB6 := hide (trX (unhide HB5) hb6); have HX6 := hide ((unhide HX5).below hb6); clear hb6 HB5 HX5)
    | (go_at_call 21; refine (unhide HPL _ _ _ _ (unhide HB6) (unhide HX6)).mono ?_; rintro e w7 ⟨rfl, hb7⟩; have HB7 := hide (trX (unhide HB6) hb7); clear hb7 HB6))
  go_ret
  exact ⟨rfl, unhide HB5⟩
set_option linter.unusedSimpArgs false in
set_option linter.unusedVariables false in
set_option maxHeartbeats 6400000 in
set_option maxRecDepth 20000 in
theorem worse_E (a b m n p q : Int) (k1 k2 : Nat) (w : World) (hE : ET w) (HKN : Hid (Calls Tryz.prog 9 #[] w fun e w' => e = .returned (.bool true) ∧ Below w.heap.size w w'))
    (hp : a.tmod 9 = p) (hq : b.tmod 9 = q) (hwp : IntKind.wrap .i64 p = p) (hwq : IntKind.wrap .i64 q = q)
    (HW1 : Hid (∀ W, Calls Tryz.prog 19 #[.int .u8 a, .int .u8 m] W (WrP W p k1))) (HW2 : Hid (∀ W, Calls Tryz.prog 19 #[.int .u8 b, .int .u8 n] W (WrP W q k2))) (h0 : p ≠ 0) (h1 : q ≠ 0) (h2 : p < q) :
    Calls Tryz.prog 5 #[.int .u8 a, .int .u8 b, .int .u8 m, .int .u8 n] w fun e w' => e = .returned (.bool true) ∧ Below w.heap.size w w' := by
  have HWS : Hid (∀ W x y, Below w.heap.size w W → ErW W p k1 x → ErW W q k2 y → Calls Tryz.prog 20 #[x, y] W fun e w' => e = .returned x ∧ Below W.heap.size W w') := by
    intro W x y hb hx hy
    refine (worse_any p q k1 k2 x y W (hE.below hb hE.lt) hx hy).mono ?_
    rintro e w' ⟨rfl, hb'⟩
    refine ⟨?_, hb'⟩
    unfold worseG
    repeat (first | rfl | rw [if_pos (by first | rfl | assumption | omega)] | rw [if_neg (by first | assumption | omega)])
  have HCL : Hid (∀ W c k v, Below w.heap.size w W → ErW W c k v → Calls Tryz.prog 14 #[v] W fun e w' => e = .returned (.int .i64 c) ∧ Below W.heap.size W w') := fun W c k v hb hv => class_er c k v W (hE.below hb hE.lt) hv
  have HPL : Hid (∀ W c k v, Below w.heap.size w W → ErW W c k v → Calls Tryz.prog 21 #[v] W fun e w' => e = .returned (.int .i64 (plE c k)) ∧ Below W.heap.size W w') := fun W c k v hb hv => place_any c k v W (hE.below hb hE.lt) hv
  clear hE
  have bp : (p == 0) = false := beq_eq_false_iff_ne.2 (by omega)
  have bq : (q == 0) = false := beq_eq_false_iff_ne.2 (by omega)
  have n1 : (p == q) = false := beq_eq_false_iff_ne.2 (by omega)
  have n2 : (p = q) = False := by simp; omega
  have n3 : (q = 0) = False := by simp; omega
  have h3 : ¬ q < p := by omega
  go_enter Tryz.func5, Tryz.ntmps5
  go_wp2_with (first
    | (go_at_call 9; refine (unhide HKN).mono ?_; rintro e w1 ⟨rfl, hb1⟩; have HB1 := hide hb1; clear hb1)
    | (go_at_call 19; refine (unhide HW1 _).mono ?_; rintro e w2 ⟨hb2, x, rfl, hx⟩; have HB2 := hide (trX (unhide HB1) hb2); have HX2 := hide hx; clear hb2 hx HW1 HB1)
    | (go_at_call 19; refine (unhide HW2 _).mono ?_; rintro e w3 ⟨hb3, y, rfl, hy⟩; have HB3 := hide (trX (unhide HB2) hb3); have HX3 := hide ((unhide HX2).below hb3); have HY3 := hide hy; clear hb3 hy HW2 HB2 HX2)
    | (go_at_call 20; refine (unhide HWS _ _ _ (unhide HB3) (unhide HX3) (unhide HY3)).mono ?_; rintro e w4 ⟨rfl, hb4⟩; have HB4 := hide (trX (unhide HB3) hb4); have HX4 := hide ((unhide HX3).below hb4); have HY4 := hide ((unhide HY3).below hb4); clear hb4 HWS HB3 HX3 HY3)
    | (go_at_call 14; refine (unhide HCL _ _ _ _ (unhide HB4) (unhide HX4)).mono ?_; rintro e w5 ⟨rfl, hb5⟩; have HB5 := hide (trX (unhide HB4) hb5); have HX5 := hide ((unhide HX4).below hb5); clear hb5 HCL HB4 HX4)
    | (go_at_call 21; refine (unhide HPL _ _ _ _ (unhide HB5) (unhide HX5)).mono ?_; rintro e w6 ⟨rfl, hb6⟩; have HB6 := hide (trX (unhide HB5) hb6); have HX6 := hide ((unhide HX5).below hb6); clear hb6 HB5 HX5)
    | (go_at_call 21; refine (unhide HPL _ _ _ _ (unhide HB6) (unhide HX6)).mono ?_; rintro e w7 ⟨rfl, hb7⟩; have HB7 := hide (trX (unhide HB6) hb7); clear hb7 HB6))
  go_ret
  exact ⟨rfl, unhide HB5⟩
set_option linter.unusedSimpArgs false in
set_option linter.unusedVariables false in
set_option maxHeartbeats 6400000 in
set_option maxRecDepth 20000 in
theorem worse_F (a b m n p q : Int) (k1 k2 : Nat) (w : World) (hE : ET w) (HKN : Hid (Calls Tryz.prog 9 #[] w fun e w' => e = .returned (.bool true) ∧ Below w.heap.size w w'))
    (hp : a.tmod 9 = p) (hq : b.tmod 9 = q) (hwp : IntKind.wrap .i64 p = p) (hwq : IntKind.wrap .i64 q = q)
    (HW1 : Hid (∀ W, Calls Tryz.prog 19 #[.int .u8 a, .int .u8 m] W (WrP W p k1))) (HW2 : Hid (∀ W, Calls Tryz.prog 19 #[.int .u8 b, .int .u8 n] W (WrP W q k2))) (h0 : p ≠ 0) (h1 : p = q) :
    Calls Tryz.prog 5 #[.int .u8 a, .int .u8 b, .int .u8 m, .int .u8 n] w fun e w' => e = .returned (.bool true) ∧ Below w.heap.size w w' := by
  have HWS : Hid (∀ W x y, Below w.heap.size w W → ErW W p k1 x → ErW W q k2 y → Calls Tryz.prog 20 #[x, y] W fun e w' => e = .returned x ∧ Below W.heap.size W w') := by
    intro W x y hb hx hy
    refine (worse_any p q k1 k2 x y W (hE.below hb hE.lt) hx hy).mono ?_
    rintro e w' ⟨rfl, hb'⟩
    refine ⟨?_, hb'⟩
    unfold worseG
    repeat (first | rfl | rw [if_pos (by first | rfl | assumption | omega)] | rw [if_neg (by first | assumption | omega)])
  have HCL : Hid (∀ W c k v, Below w.heap.size w W → ErW W c k v → Calls Tryz.prog 14 #[v] W fun e w' => e = .returned (.int .i64 c) ∧ Below W.heap.size W w') := fun W c k v hb hv => class_er c k v W (hE.below hb hE.lt) hv
  have HPL : Hid (∀ W c k v, Below w.heap.size w W → ErW W c k v → Calls Tryz.prog 21 #[v] W fun e w' => e = .returned (.int .i64 (plE c k)) ∧ Below W.heap.size W w') := fun W c k v hb hv => place_any c k v W (hE.below hb hE.lt) hv
  clear hE
  obtain rfl := h1
  have bp : (p == 0) = false := beq_eq_false_iff_ne.2 (by omega)
  have n3 : (p = 0) = False := by simp; omega
  have h3 : ¬ p < p := by omega
  go_enter Tryz.func5, Tryz.ntmps5
  go_wp2_with (first
    | (go_at_call 9; refine (unhide HKN).mono ?_; rintro e w1 ⟨rfl, hb1⟩; have HB1 := hide hb1; clear hb1)
    | (go_at_call 19; refine (unhide HW1 _).mono ?_; rintro e w2 ⟨hb2, x, rfl, hx⟩; have HB2 := hide (trX (unhide HB1) hb2); have HX2 := hide hx; clear hb2 hx HW1 HB1)
    | (go_at_call 19; refine (unhide HW2 _).mono ?_; rintro e w3 ⟨hb3, y, rfl, hy⟩; have HB3 := hide (trX (unhide HB2) hb3); have HX3 := hide ((unhide HX2).below hb3); have HY3 := hide hy; clear hb3 hy HW2 HB2 HX2)
    | (go_at_call 20; refine (unhide HWS _ _ _ (unhide HB3) (unhide HX3) (unhide HY3)).mono ?_; rintro e w4 ⟨rfl, hb4⟩; have HB4 := hide (trX (unhide HB3) hb4); have HX4 := hide ((unhide HX3).below hb4); have HY4 := hide ((unhide HY3).below hb4); clear hb4 HWS HB3 HX3 HY3)
    | (go_at_call 14; refine (unhide HCL _ _ _ _ (unhide HB4) (unhide HX4)).mono ?_; rintro e w5 ⟨rfl, hb5⟩; have HB5 := hide (trX (unhide HB4) hb5); have HX5 := hide ((unhide HX4).below hb5); clear hb5 HCL HB4 HX4)
    | (go_at_call 21; refine (unhide HPL _ _ _ _ (unhide HB5) (unhide HX5)).mono ?_; rintro e w6 ⟨rfl, hb6⟩; have HB6 := hide (trX (unhide HB5) hb6); have HX6 := hide ((unhide HX5).below hb6); clear hb6 HB5 HX5)
    | (go_at_call 21; refine (unhide HPL _ _ _ _ (unhide HB6) (unhide HX6)).mono ?_; rintro e w7 ⟨rfl, hb7⟩; have HB7 := hide (trX (unhide HB6) hb7); clear hb7 HB6))
  go_ret
  exact ⟨rfl, unhide HB7⟩
theorem worse_law (a b m n : Int) (ha0 : 0 ≤ a) (hb0 : 0 ≤ b) (hm0 : 0 ≤ m) (hn0 : 0 ≤ n) (w : World) (hE : ET w) (HKN : Hid (Calls Tryz.prog 9 #[] w fun e w' => e = .returned (.bool true) ∧ Below w.heap.size w w')) :
    Calls Tryz.prog 5 #[.int .u8 a, .int .u8 b, .int .u8 m, .int .u8 n] w fun e w' => e = .returned (.bool true) ∧ Below w.heap.size w w' := by
  obtain ⟨p, hp⟩ : ∃ p, a.tmod 9 = p := ⟨_, rfl⟩
  obtain ⟨q, hq⟩ : ∃ q, b.tmod 9 = q := ⟨_, rfl⟩
  have hp' : p = a % 9 := by rw [← hp, Int.tmod_eq_emod_of_nonneg ha0]
  have hq' : q = b % 9 := by rw [← hq, Int.tmod_eq_emod_of_nonneg hb0]
  obtain ⟨k1, h1⟩ : ∃ k : Nat, m.tmod 6 = (k : Int) := ⟨(m.tmod 6).toNat, (Int.toNat_of_nonneg (Int.tmod_nonneg 6 hm0)).symm⟩
  obtain ⟨k2, h2⟩ : ∃ k : Nat, n.tmod 6 = (k : Int) := ⟨(n.tmod 6).toNat, (Int.toNat_of_nonneg (Int.tmod_nonneg 6 hn0)).symm⟩
  have h1' : (k1 : Int) = m % 6 := by rw [← h1, Int.tmod_eq_emod_of_nonneg hm0]
  have h2' : (k2 : Int) = n % 6 := by rw [← h2, Int.tmod_eq_emod_of_nonneg hn0]
  have hwp : IntKind.wrap .i64 p = p := by rw [IntKind.wrap_i64]; omega
  have hwq : IntKind.wrap .i64 q = q := by rw [IntKind.wrap_i64]; omega
  have HW1 : Hid (∀ W, Calls Tryz.prog 19 #[.int .u8 a, .int .u8 m] W (WrP W p k1)) := fun W => wrapped_any a m p k1 hp (by omega) (by omega) h1 (by omega) W
  have HW2 : Hid (∀ W, Calls Tryz.prog 19 #[.int .u8 b, .int .u8 n] W (WrP W q k2)) := fun W => wrapped_any b n q k2 hq (by omega) (by omega) h2 (by omega) W
  by_cases h0 : p = 0
  · by_cases h3 : q = 0
    · exact worse_A a b m n p q k1 k2 w hE HKN hp hq hwp hwq HW1 HW2 h0 h3
    · exact worse_B a b m n p q k1 k2 w hE HKN hp hq hwp hwq HW1 HW2 h0 h3
  · by_cases h3 : q = 0
    · exact worse_C a b m n p q k1 k2 w hE HKN hp hq hwp hwq HW1 HW2 h0 h3
    · rcases Int.lt_trichotomy q p with h4 | h4 | h4
      · exact worse_D a b m n p q k1 k2 w hE HKN hp hq hwp hwq HW1 HW2 h0 h3 h4
      · exact worse_F a b m n p q k1 k2 w hE HKN hp hq hwp hwq HW1 HW2 h0 h4.symm
      · exact worse_E a b m n p q k1 k2 w hE HKN hp hq hwp hwq HW1 HW2 h0 h3 h4
end Go.Proofs.YtehgoioinogmkaaGreatDoor
