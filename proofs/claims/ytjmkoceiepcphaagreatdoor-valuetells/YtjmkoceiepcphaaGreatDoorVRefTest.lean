/- Contract of the document's Test. -/
import Derived.Test.YtjmkoceiepcphaaGreatDoorKRef
namespace Go.Proofs.YtjmkoceiepcphaaGreatDoor
open Go.RowKit Go.Lib

theorem ret_ii {p : Int × Int} {x c : Int} (h : p = (x, c)) : Ending.returned (.tuple #[.int .i64 x, .int .i64 c]) = .returned (.tuple #[.int .i64 p.1, .int .i64 p.2]) := by subst h; rfl
theorem ops_6 {op : Int} (h1 : ¬ op < 5) (h2 : ¬ 10 < op) : op = 5 ∨ op = 6 ∨ op = 7 ∨ op = 8 ∨ op = 9 ∨ op = 10 := by omega
theorem four_below {w w1 : World} {o1 o2 o3 o4 : Obj} (h : Below ((((w.alloc o1).alloc o2).alloc o3).alloc o4).heap.size ((((w.alloc o1).alloc o2).alloc o3).alloc o4) w1) : Below w.heap.size w w1 := one_step (one_new' (one_new' (one_new' (one_new' (Below.refl _ _) _) _) _) _) h
theorem ret_r {r x : Int} (h : r = x) : Ending.returned (.tuple #[.int .i64 x, .int .i64 0]) = .returned (.tuple #[.int .i64 r, .int .i64 0]) := by rw [h]
abbrev RIsI (k n : Int) (t : ByteArray) : Prop := ∀ W : World, Calls Tryz.prog 7 #[.agg #[.int .i64 k, .int .i64 n, .string t]] W fun e w' => e = .returned (.bool true) ∧ w' = W.alloc (.cells #[.int .i64 k, .int .i64 n, .string t] 23)
abbrev RCmpI (k n : Int) (t : ByteArray) (n' : Int) (t' : ByteArray) (c : Int) : Prop := ∀ W : World, Calls Tryz.prog 9 #[.agg #[.int .i64 k, .int .i64 n, .string t], .agg #[.int .i64 k, .int .i64 n', .string t']] W fun e w' => e = .returned (.int .i64 c) ∧ Below W.heap.size W w'

set_option maxHeartbeats 6400000 in
theorem refTest_o5 (k n : Int) (t : ByteArray) (n' : Int) (t' : ByteArray) (c : Int) (w : World) (HA : Hid (RIsI k n t)) (HB : Hid (RIsI k n' t')) (HC : Hid (RCmpI k n t n' t' c)) (e0 : (k == 0) = false) (r : Int) (HR : Hid (r = if c = 0 then 1 else 0)) :
    Calls Tryz.prog 13 #[.int .i64 5, .agg #[.int .i64 k, .int .i64 n, .string t], .agg #[.int .i64 k, .int .i64 n', .string t']] w fun e w' => e = .returned (.tuple #[.int .i64 r, .int .i64 0]) ∧ Below w.heap.size w w' := by
  have hwr : IntKind.i64.wrap 0 = 0 := by decide +kernel
  go_enter Tryz.func13, Tryz.ntmps13
  go_wp2_with (first
    | (go_at_call 7; refine (unhide HA _).mono ?_; clear HA; rintro e w1 ⟨rfl, rfl⟩)
    | (go_at_call 7; refine (unhide HB _).mono ?_; clear HB; rintro e w1 ⟨rfl, rfl⟩)
    | (go_at_call 9; refine (unhide HC _).mono ?_; clear HC; rintro e w2 ⟨rfl, hb2⟩; have Q2 := hide (four_below hb2)))
  all_goals
    go_ret2
    exact ⟨ret_r ((unhide HR).trans (by simp_all <;> omega)), one_new' (unhide Q2) _⟩

set_option maxHeartbeats 6400000 in
theorem refTest_o6 (k n : Int) (t : ByteArray) (n' : Int) (t' : ByteArray) (c : Int) (w : World) (HA : Hid (RIsI k n t)) (HB : Hid (RIsI k n' t')) (HC : Hid (RCmpI k n t n' t' c)) (e0 : (k == 0) = false) (r : Int) (HR : Hid (r = if c ≠ 0 then 1 else 0)) :
    Calls Tryz.prog 13 #[.int .i64 6, .agg #[.int .i64 k, .int .i64 n, .string t], .agg #[.int .i64 k, .int .i64 n', .string t']] w fun e w' => e = .returned (.tuple #[.int .i64 r, .int .i64 0]) ∧ Below w.heap.size w w' := by
  have hwr : IntKind.i64.wrap 1 = 1 := by decide +kernel
  go_enter Tryz.func13, Tryz.ntmps13
  go_wp2_with (first
    | (go_at_call 7; refine (unhide HA _).mono ?_; clear HA; rintro e w1 ⟨rfl, rfl⟩)
    | (go_at_call 7; refine (unhide HB _).mono ?_; clear HB; rintro e w1 ⟨rfl, rfl⟩)
    | (go_at_call 9; refine (unhide HC _).mono ?_; clear HC; rintro e w2 ⟨rfl, hb2⟩; have Q2 := hide (four_below hb2)))
  all_goals
    go_ret2
    exact ⟨ret_r ((unhide HR).trans (by simp_all <;> omega)), one_new' (unhide Q2) _⟩

set_option maxHeartbeats 6400000 in
theorem refTest_o7 (k n : Int) (t : ByteArray) (n' : Int) (t' : ByteArray) (c : Int) (w : World) (HA : Hid (RIsI k n t)) (HB : Hid (RIsI k n' t')) (HC : Hid (RCmpI k n t n' t' c)) (e0 : (k == 0) = false) (r : Int) (HR : Hid (r = if c < 0 then 1 else 0)) :
    Calls Tryz.prog 13 #[.int .i64 7, .agg #[.int .i64 k, .int .i64 n, .string t], .agg #[.int .i64 k, .int .i64 n', .string t']] w fun e w' => e = .returned (.tuple #[.int .i64 r, .int .i64 0]) ∧ Below w.heap.size w w' := by
  have hwr : IntKind.i64.wrap 2 = 2 := by decide +kernel
  go_enter Tryz.func13, Tryz.ntmps13
  go_wp2_with (first
    | (go_at_call 7; refine (unhide HA _).mono ?_; clear HA; rintro e w1 ⟨rfl, rfl⟩)
    | (go_at_call 7; refine (unhide HB _).mono ?_; clear HB; rintro e w1 ⟨rfl, rfl⟩)
    | (go_at_call 9; refine (unhide HC _).mono ?_; clear HC; rintro e w2 ⟨rfl, hb2⟩; have Q2 := hide (four_below hb2)))
  all_goals
    go_ret2
    exact ⟨ret_r ((unhide HR).trans (by simp_all <;> omega)), one_new' (unhide Q2) _⟩

set_option maxHeartbeats 6400000 in
theorem refTest_o8 (k n : Int) (t : ByteArray) (n' : Int) (t' : ByteArray) (c : Int) (w : World) (HA : Hid (RIsI k n t)) (HB : Hid (RIsI k n' t')) (HC : Hid (RCmpI k n t n' t' c)) (e0 : (k == 0) = false) (r : Int) (HR : Hid (r = if c ≤ 0 then 1 else 0)) :
    Calls Tryz.prog 13 #[.int .i64 8, .agg #[.int .i64 k, .int .i64 n, .string t], .agg #[.int .i64 k, .int .i64 n', .string t']] w fun e w' => e = .returned (.tuple #[.int .i64 r, .int .i64 0]) ∧ Below w.heap.size w w' := by
  have hwr : IntKind.i64.wrap 3 = 3 := by decide +kernel
  go_enter Tryz.func13, Tryz.ntmps13
  go_wp2_with (first
    | (go_at_call 7; refine (unhide HA _).mono ?_; clear HA; rintro e w1 ⟨rfl, rfl⟩)
    | (go_at_call 7; refine (unhide HB _).mono ?_; clear HB; rintro e w1 ⟨rfl, rfl⟩)
    | (go_at_call 9; refine (unhide HC _).mono ?_; clear HC; rintro e w2 ⟨rfl, hb2⟩; have Q2 := hide (four_below hb2)))
  all_goals
    go_ret2
    exact ⟨ret_r ((unhide HR).trans (by simp_all <;> omega)), one_new' (unhide Q2) _⟩

set_option maxHeartbeats 6400000 in
theorem refTest_o9 (k n : Int) (t : ByteArray) (n' : Int) (t' : ByteArray) (c : Int) (w : World) (HA : Hid (RIsI k n t)) (HB : Hid (RIsI k n' t')) (HC : Hid (RCmpI k n t n' t' c)) (e0 : (k == 0) = false) (r : Int) (HR : Hid (r = if 0 < c then 1 else 0)) :
    Calls Tryz.prog 13 #[.int .i64 9, .agg #[.int .i64 k, .int .i64 n, .string t], .agg #[.int .i64 k, .int .i64 n', .string t']] w fun e w' => e = .returned (.tuple #[.int .i64 r, .int .i64 0]) ∧ Below w.heap.size w w' := by
  have hwr : IntKind.i64.wrap 4 = 4 := by decide +kernel
  go_enter Tryz.func13, Tryz.ntmps13
  go_wp2_with (first
    | (go_at_call 7; refine (unhide HA _).mono ?_; clear HA; rintro e w1 ⟨rfl, rfl⟩)
    | (go_at_call 7; refine (unhide HB _).mono ?_; clear HB; rintro e w1 ⟨rfl, rfl⟩)
    | (go_at_call 9; refine (unhide HC _).mono ?_; clear HC; rintro e w2 ⟨rfl, hb2⟩; have Q2 := hide (four_below hb2)))
  all_goals
    go_ret2
    exact ⟨ret_r ((unhide HR).trans (by simp_all <;> omega)), one_new' (unhide Q2) _⟩

set_option maxHeartbeats 6400000 in
theorem refTest_o10 (k n : Int) (t : ByteArray) (n' : Int) (t' : ByteArray) (c : Int) (w : World) (HA : Hid (RIsI k n t)) (HB : Hid (RIsI k n' t')) (HC : Hid (RCmpI k n t n' t' c)) (e0 : (k == 0) = false) (r : Int) (HR : Hid (r = if 0 ≤ c then 1 else 0)) :
    Calls Tryz.prog 13 #[.int .i64 10, .agg #[.int .i64 k, .int .i64 n, .string t], .agg #[.int .i64 k, .int .i64 n', .string t']] w fun e w' => e = .returned (.tuple #[.int .i64 r, .int .i64 0]) ∧ Below w.heap.size w w' := by
  have hwr : IntKind.i64.wrap 5 = 5 := by decide +kernel
  go_enter Tryz.func13, Tryz.ntmps13
  go_wp2_with (first
    | (go_at_call 7; refine (unhide HA _).mono ?_; clear HA; rintro e w1 ⟨rfl, rfl⟩)
    | (go_at_call 7; refine (unhide HB _).mono ?_; clear HB; rintro e w1 ⟨rfl, rfl⟩)
    | (go_at_call 9; refine (unhide HC _).mono ?_; clear HC; rintro e w2 ⟨rfl, hb2⟩; have Q2 := hide (four_below hb2)))
  all_goals
    go_ret2
    exact ⟨ret_r ((unhide HR).trans (by simp_all <;> omega)), one_new' (unhide Q2) _⟩
theorem holds_5 (c : Int) : (if holdsG 5 c = true then ((1 : Int), (0 : Int)) else (0, 0)) = (if c = 0 then 1 else 0, 0) := by by_cases h : c = 0 <;> simp [holdsG, h]
theorem holds_6 (c : Int) : (if holdsG 6 c = true then ((1 : Int), (0 : Int)) else (0, 0)) = (if c ≠ 0 then 1 else 0, 0) := by by_cases h : c ≠ 0 <;> simp [holdsG, h]
theorem holds_7 (c : Int) : (if holdsG 7 c = true then ((1 : Int), (0 : Int)) else (0, 0)) = (if c < 0 then 1 else 0, 0) := by by_cases h : c < 0 <;> simp [holdsG, h]
theorem holds_8 (c : Int) : (if holdsG 8 c = true then ((1 : Int), (0 : Int)) else (0, 0)) = (if c ≤ 0 then 1 else 0, 0) := by by_cases h : c ≤ 0 <;> simp [holdsG, h]
theorem holds_9 (c : Int) : (if holdsG 9 c = true then ((1 : Int), (0 : Int)) else (0, 0)) = (if 0 < c then 1 else 0, 0) := by by_cases h : 0 < c <;> simp [holdsG, h]
theorem holds_10 (c : Int) : (if holdsG 10 c = true then ((1 : Int), (0 : Int)) else (0, 0)) = (if 0 ≤ c then 1 else 0, 0) := by by_cases h : 0 ≤ c <;> simp [holdsG, h]

set_option maxHeartbeats 12800000 in
theorem refTest_any (op : Int) (a b : GV) (w : World) (ha : a.ok) (hb : b.ok) :
    Calls Tryz.prog 13 #[.int .i64 op, a.agg, b.agg] w fun e w' => e = .returned (.tuple #[.int .i64 (testG op a b).1, .int .i64 (testG op a b).2]) ∧ Below w.heap.size w w' := by
  have HA := hide (fun W => refIs_any a W ha)
  have HB := hide (fun W => refIs_any b W hb)
  have HC := hide (fun W => refCompare_any a b W ha hb)
  have hcg : Hid (a.may = true → b.may = true → compareG a b = cmpG a b) := fun h1 h2 => by unfold compareG soundG; rw [if_pos h1, if_pos h2]
  clear ha hb
  obtain ⟨r, hr⟩ : ∃ r, r = testG op a b := ⟨_, rfl⟩
  rw [← hr]
  unfold testG at hr
  generalize compareG a b = d at *
  generalize cmpG a b = c at *
  obtain ⟨k, n, t⟩ := a
  obtain ⟨k', n', t'⟩ := b
  simp only [GV.agg_eq] at HA HB HC ⊢
  dsimp only at hr
  generalize GV.may ⟨k, n, t⟩ = ma at *
  generalize GV.may ⟨k', n', t'⟩ = mb at *
  by_cases h5 : op < 5
  · rw [if_pos (.inl h5)] at hr
    have HR := hide hr
    clear hr hcg
    go_enter Tryz.func13, Tryz.ntmps13
    go_wp2
    go_ret2
    exact ⟨ret_ii (unhide HR), (one_new' (one_new' (Below.refl _ _) _) _)⟩
  by_cases h10 : 10 < op
  · rw [if_pos (.inr (.inl h10))] at hr
    have HR := hide hr
    clear hr hcg
    go_enter Tryz.func13, Tryz.ntmps13
    go_wp2
    go_ret2
    exact ⟨ret_ii (unhide HR), (one_new' (one_new' (Below.refl _ _) _) _)⟩
  cases ma with
  | false =>
    rw [if_pos (.inr (.inr (.inl rfl)))] at hr
    have HR := hide hr
    clear hr hcg
    go_enter Tryz.func13, Tryz.ntmps13
    go_wp2_with (first
      | (go_at_call 7; refine (unhide HA _).mono ?_; clear HA; rintro e w1 ⟨rfl, rfl⟩))
    go_ret2
    exact ⟨ret_ii (unhide HR), (one_new' (one_new' (one_new' (Below.refl _ _) _) _) _)⟩
  | true =>
    cases mb with
    | false =>
      rw [if_pos (.inr (.inr (.inr rfl)))] at hr
      have HR := hide hr
      clear hr hcg
      go_enter Tryz.func13, Tryz.ntmps13
      go_wp2_with (first
        | (go_at_call 7; refine (unhide HA _).mono ?_; clear HA; rintro e w1 ⟨rfl, rfl⟩)
        | (go_at_call 7; refine (unhide HB _).mono ?_; clear HB; rintro e w1 ⟨rfl, rfl⟩))
      go_ret2
      exact ⟨ret_ii (unhide HR), (one_new' (one_new' (one_new' (one_new' (Below.refl _ _) _) _) _) _)⟩
    | true =>
      rw [if_neg (by simp; omega)] at hr
      obtain rfl := unhide hcg rfl rfl
      by_cases k0 : k = 0
      · subst k0
        rw [if_pos (.inl rfl)] at hr
        have HR := hide hr
        clear hr hcg
        go_enter Tryz.func13, Tryz.ntmps13
        go_wp2_with (first
          | (go_at_call 7; refine (unhide HA _).mono ?_; clear HA; rintro e w1 ⟨rfl, rfl⟩)
          | (go_at_call 7; refine (unhide HB _).mono ?_; clear HB; rintro e w1 ⟨rfl, rfl⟩))
        go_ret2
        exact ⟨ret_ii (unhide HR), (one_new' (one_new' (one_new' (one_new' (Below.refl _ _) _) _) _) _)⟩
      by_cases k0' : k' = 0
      · subst k0'
        rw [if_pos (.inr rfl)] at hr
        have e0 : (k == 0) = false := by simpa using k0
        have HR := hide hr
        clear hr hcg
        go_enter Tryz.func13, Tryz.ntmps13
        go_wp2_with (first
          | (go_at_call 7; refine (unhide HA _).mono ?_; clear HA; rintro e w1 ⟨rfl, rfl⟩)
          | (go_at_call 7; refine (unhide HB _).mono ?_; clear HB; rintro e w1 ⟨rfl, rfl⟩))
        go_ret2
        exact ⟨ret_ii (unhide HR), (one_new' (one_new' (one_new' (one_new' (Below.refl _ _) _) _) _) _)⟩
      rw [if_neg (by omega)] at hr
      have e0 : (k == 0) = false := by simpa using k0
      by_cases hk : k = k'
      · subst hk
        rw [if_neg (by simp)] at hr
        rcases ops_6 h5 h10 with rfl | rfl | rfl | rfl | rfl | rfl
        · rw [holds_5] at hr
          refine (refTest_o5 k n t n' t' _ w HA HB HC e0 _ (hide rfl)).mono ?_
          rintro e w' ⟨rfl, hb⟩
          exact ⟨by rw [hr], hb⟩
        · rw [holds_6] at hr
          refine (refTest_o6 k n t n' t' _ w HA HB HC e0 _ (hide rfl)).mono ?_
          rintro e w' ⟨rfl, hb⟩
          exact ⟨by rw [hr], hb⟩
        · rw [holds_7] at hr
          refine (refTest_o7 k n t n' t' _ w HA HB HC e0 _ (hide rfl)).mono ?_
          rintro e w' ⟨rfl, hb⟩
          exact ⟨by rw [hr], hb⟩
        · rw [holds_8] at hr
          refine (refTest_o8 k n t n' t' _ w HA HB HC e0 _ (hide rfl)).mono ?_
          rintro e w' ⟨rfl, hb⟩
          exact ⟨by rw [hr], hb⟩
        · rw [holds_9] at hr
          refine (refTest_o9 k n t n' t' _ w HA HB HC e0 _ (hide rfl)).mono ?_
          rintro e w' ⟨rfl, hb⟩
          exact ⟨by rw [hr], hb⟩
        · rw [holds_10] at hr
          refine (refTest_o10 k n t n' t' _ w HA HB HC e0 _ (hide rfl)).mono ?_
          rintro e w' ⟨rfl, hb⟩
          exact ⟨by rw [hr], hb⟩
      · rw [if_pos hk] at hr
        have e0' : (k' == 0) = false := by simpa using k0'
        have en : (k != k') = true := by simpa using hk
        have HR := hide hr
        clear hr hcg
        go_enter Tryz.func13, Tryz.ntmps13
        go_wp2_with (first
          | (go_at_call 7; refine (unhide HA _).mono ?_; clear HA; rintro e w1 ⟨rfl, rfl⟩)
          | (go_at_call 7; refine (unhide HB _).mono ?_; clear HB; rintro e w1 ⟨rfl, rfl⟩))
        go_ret2
        exact ⟨ret_ii (unhide HR), (one_new' (one_new' (one_new' (one_new' (Below.refl _ _) _) _) _) _)⟩
end Go.Proofs.YtjmkoceiepcphaaGreatDoor
