/- Contracts of value's sums: operands, isBeyond, divided, reckoned. -/
import Derived.Test.YtehgoioinogmkaaGreatDoorJVOrdVIsVTest
namespace Go.Proofs.YtehgoioinogmkaaGreatDoor
open Go.RowKit Go.Lib

/-- A number of 64 bits with a sign, or too great. -/
def fitG (n : Int) : Int × Int := if -9223372036854775808 ≤ n ∧ n < 9223372036854775808 then (n, 0) else (0, 6)
def reckG (op a b : Int) : Int × Int :=
  if op = 1 then fitG (0 - b) else if op = 12 then fitG (a - b) else if op = 11 then fitG (a + b) else if op = 13 then fitG (a * b)
  else if b = 0 then (0, 7) else if op = 15 then (a.tmod b, 0) else fitG (a.tdiv b)
def operG (op : Int) : Int := if op = 1 ∨ (11 ≤ op ∧ op ≤ 15) then 2 else if op = 16 then 3 else 0

theorem oper_any (op : Int) (w : World) : Calls Tryz.prog 168 #[.int .i64 op] w fun e w' => e = .returned (.int .i64 (operG op)) ∧ w' = w := by
  by_cases h : op = 1 ∨ op = 11 ∨ op = 12 ∨ op = 13 ∨ op = 14 ∨ op = 15 ∨ op = 16
  · rcases h with rfl | rfl | rfl | rfl | rfl | rfl | rfl <;> (go_enter Tryz.func168, Tryz.ntmps168; go_wp2; go_ret; exact ⟨rfl, rfl⟩)
  · rw [show operG op = 0 by unfold operG; rw [if_neg (by omega), if_neg (by omega)]]
    have b1 : (op == 1) = false := by simp; omega
    have b2 : (op == 11) = false := by simp; omega
    have b3 : (op == 12) = false := by simp; omega
    have b4 : (op == 13) = false := by simp; omega
    have b5 : (op == 14) = false := by simp; omega
    have b6 : (op == 15) = false := by simp; omega
    have b7 : (op == 16) = false := by simp; omega
    clear h
    go_enter Tryz.func168, Tryz.ntmps168
    go_wp2
    go_ret
    exact ⟨rfl, rfl⟩

def beyG (a b : Int) : Bool := decide (a = -9223372036854775808 ∧ b = -1)
theorem bey_any (a b : Int) (w : World) : Calls Tryz.prog 198 #[.int .i64 a, .int .i64 b] w fun e w' => e = .returned (.bool (beyG a b)) ∧ w' = w := by
  by_cases h1 : a = -9223372036854775808
  · subst h1
    by_cases h2 : b = -1
    · subst h2
      go_enter Tryz.func198, Tryz.ntmps198
      go_wp2
      go_ret
      exact ⟨rfl, rfl⟩
    · rw [show beyG (-9223372036854775808) b = false by unfold beyG; simp [h2]]
      have b2 : (b == -1) = false := by simpa using h2
      clear h2
      go_enter Tryz.func198, Tryz.ntmps198
      go_wp2
      go_ret
      exact ⟨rfl, rfl⟩
  · rw [show beyG a b = false by unfold beyG; simp [h1]]
    have b2 : (a == -9223372036854775808) = false := by simpa using h1
    clear h1
    go_enter Tryz.func198, Tryz.ntmps198
    go_wp2
    go_ret
    exact ⟨rfl, rfl⟩

theorem ret_pair {x c : Int} {p : Int × Int} {v : Value} (h : p = (x, c)) (hv : v = errG c) : Ending.returned (.tuple #[.int .i64 x, v]) = .returned (.tuple #[.int .i64 p.1, errG p.2]) := by
  subst h hv
  rfl
theorem wrap_in {n : Int} (h1 : -9223372036854775808 ≤ n) (h2 : n < 9223372036854775808) : IntKind.i64.wrap n = n := by
  rw [IntKind.wrap_i64]; omega
theorem tdiv_in {a b : Int} (ha : -9223372036854775808 ≤ a ∧ a < 9223372036854775808) (_hb : -9223372036854775808 ≤ b ∧ b < 9223372036854775808) (h0 : b ≠ 0) (hq : ¬ (a = -9223372036854775808 ∧ b = -1)) :
    -9223372036854775808 ≤ a.tdiv b ∧ a.tdiv b < 9223372036854775808 := by
  by_cases h1 : b = 1
  · subst h1; rw [Int.tdiv_one]; exact ha
  by_cases h2 : b = -1
  · subst h2
    rw [Int.tdiv_neg, Int.tdiv_one]; omega
  have h3 : (a.tdiv b).natAbs = a.natAbs / b.natAbs := Int.natAbs_tdiv a b
  have h4 : 2 ≤ b.natAbs := by omega
  have h5 : a.natAbs / b.natAbs ≤ a.natAbs / 2 := Nat.div_le_div_left h4 (by decide)
  have h6 : a.natAbs ≤ 9223372036854775808 := by omega
  generalize a.tdiv b = x at *
  generalize a.natAbs / b.natAbs = y at *
  omega

set_option maxHeartbeats 1600000 in
theorem div_any (op a b : Int) (w : World) (ha : -9223372036854775808 ≤ a ∧ a < 9223372036854775808) (hb : -9223372036854775808 ≤ b ∧ b < 9223372036854775808) (hop : op = 14 ∨ op = 15) :
    Calls Tryz.prog 199 #[.int .i64 op, .int .i64 a, .int .i64 b] w fun e w' => e = .returned (.tuple #[.int .i64 (reckG op a b).1, errG (reckG op a b).2]) ∧ w' = w := by
  have HB := hide (fun W => bey_any a b W)
  by_cases h0 : b = 0
  · subst h0
    have hr : Hid (reckG op a 0 = (0, 7)) := by rcases hop with rfl | rfl <;> rfl
    generalize reckG op a 0 = r at *
    clear hop ha hb
    go_enter Tryz.func199, Tryz.ntmps199
    go_wp2
    go_ret2
    exact ⟨ret_pair (unhide hr) rfl, rfl⟩
  have e0 : (b == 0) = false := by simpa using h0
  rcases hop with rfl | rfl
  · have hr : reckG 14 a b = fitG (a.tdiv b) := by unfold reckG; rw [if_neg (by decide), if_neg (by decide), if_neg (by decide), if_neg (by decide), if_neg h0, if_neg (by decide)]
    by_cases hq : a = -9223372036854775808 ∧ b = -1
    · obtain ⟨rfl, rfl⟩ := hq
      have hr : Hid (reckG 14 (-9223372036854775808) (-1) = (0, 6)) := by rw [hr]; rfl
      generalize reckG 14 (-9223372036854775808) (-1) = r at *
      clear ha hb h0 e0
      rw [show beyG (-9223372036854775808) (-1) = true from rfl] at HB
      go_enter Tryz.func199, Tryz.ntmps199
      go_wp2_with (go_at_call 198; refine (unhide HB _).mono ?_; rintro e w1 ⟨rfl, rfl⟩)
      go_ret2
      exact ⟨ret_pair (unhide hr) rfl, rfl⟩
    · rw [show beyG a b = false by unfold beyG; simpa using hq] at HB
      have hin : -9223372036854775808 ≤ a.tdiv b ∧ a.tdiv b < 9223372036854775808 := tdiv_in ha hb h0 hq
      have hr : Hid (reckG 14 a b = (a.tdiv b, 0)) := by rw [hr]; unfold fitG; rw [if_pos hin]; rfl
      have hw := wrap_in hin.1 hin.2
      generalize reckG 14 a b = r at *
      clear ha hb hq
      go_enter Tryz.func199, Tryz.ntmps199
      go_wp2_with (go_at_call 198; refine (unhide HB _).mono ?_; rintro e w1 ⟨rfl, rfl⟩)
      go_ret2
      exact ⟨ret_pair (unhide hr) rfl, rfl⟩
  · have hr : Hid (reckG 15 a b = (a.tmod b, 0)) := by unfold reckG; rw [if_neg (by decide), if_neg (by decide), if_neg (by decide), if_neg (by decide), if_neg h0, if_pos rfl]; rfl
    generalize reckG 15 a b = r at *
    clear ha hb
    go_enter Tryz.func199, Tryz.ntmps199
    go_wp2
    go_ret2
    exact ⟨ret_pair (unhide hr) rfl, rfl⟩

theorem wrap64_in {n : Int} (h1 : -9223372036854775808 ≤ n) (h2 : n < 9223372036854775808) : wrap64 n = n := by unfold wrap64; omega
theorem sub_fits {a b : Int} (ha : -9223372036854775808 ≤ a ∧ a < 9223372036854775808) (hb : -9223372036854775808 ≤ b ∧ b < 9223372036854775808) :
    ((wrap64 (a - b) < a ↔ 0 < b) → fitG (a - b) = (wrap64 (a - b), 0)) ∧ (¬ (wrap64 (a - b) < a ↔ 0 < b) → fitG (a - b) = (0, 6)) := by
  unfold wrap64 fitG
  refine ⟨fun h => ?_, fun h => ?_⟩
  · rw [if_pos (by omega)]
    exact congrArg (fun x => (x, (0 : Int))) (by omega)
  · rw [if_neg (by omega)]
theorem add_fits {a b : Int} (ha : -9223372036854775808 ≤ a ∧ a < 9223372036854775808) (hb : -9223372036854775808 ≤ b ∧ b < 9223372036854775808) :
    ((a < wrap64 (a + b) ↔ 0 < b) → fitG (a + b) = (wrap64 (a + b), 0)) ∧ (¬ (a < wrap64 (a + b) ↔ 0 < b) → fitG (a + b) = (0, 6)) := by
  unfold wrap64 fitG
  refine ⟨fun h => ?_, fun h => ?_⟩
  · rw [if_pos (by omega)]
    exact congrArg (fun x => (x, (0 : Int))) (by omega)
  · rw [if_neg (by omega)]
theorem mul_zero_fits (b : Int) : fitG (0 * b) = (0, 0) := by rw [Int.zero_mul]; rfl
theorem mul_fits {a b : Int} (ha : -9223372036854775808 ≤ a ∧ a < 9223372036854775808) (hb : -9223372036854775808 ≤ b ∧ b < 9223372036854775808) (h0 : a ≠ 0) :
    ((wrap64 ((wrap64 (a * b)).tdiv a) = b ∧ ¬ (b = -9223372036854775808 ∧ a = -1)) → fitG (a * b) = (wrap64 (a * b), 0)) ∧
    (¬ (wrap64 ((wrap64 (a * b)).tdiv a) = b ∧ ¬ (b = -9223372036854775808 ∧ a = -1)) → fitG (a * b) = (0, 6)) := by
  generalize hm : wrap64 (a * b) = m
  have hm1 : -9223372036854775808 ≤ m ∧ m < 9223372036854775808 ∧ ∃ k : Int, m = a * b + k * 18446744073709551616 := by
    unfold wrap64 at hm
    refine ⟨by omega, by omega, ?_⟩
    refine ⟨(m - a * b) / 18446744073709551616, ?_⟩
    omega
  obtain ⟨h1, h2, k, hk⟩ := hm1
  unfold fitG
  refine ⟨fun h => ?_, fun h => ?_⟩
  · obtain ⟨hd, hn⟩ := h
    have hnb : ¬ (m = -9223372036854775808 ∧ a = -1) := by
      rintro ⟨rfl, rfl⟩
      apply hn
      refine ⟨?_, rfl⟩
      rw [← hd]
      decide +kernel
    have hin := tdiv_in ⟨h1, h2⟩ ha h0 hnb
    rw [wrap64_in hin.1 hin.2] at hd
    have hdm := Int.mul_tdiv_add_tmod m a
    rw [hd] at hdm
    have hlt : (m.tmod a).natAbs < a.natAbs := by
      rw [Int.natAbs_tmod]
      exact Nat.mod_lt _ (by omega)
    have hab : m = a * b + m.tmod a := hdm.symm
    have hkk : k = 0 := by
      have : k * 18446744073709551616 = m.tmod a := by omega
      omega
    subst hkk
    have hmm : m = a * b := by omega
    rw [if_pos (by omega), hmm]
  · rw [if_neg ?_]
    intro hr
    have hkk : m = a * b := by omega
    apply h
    refine ⟨?_, ?_⟩
    · rw [hkk, Int.mul_tdiv_cancel_left _ h0]
      exact wrap64_in hb.1 hb.2
    · rintro ⟨rfl, rfl⟩
      omega

set_option maxHeartbeats 1600000 in
theorem reck_sub (a b : Int) (w : World) (ha : -9223372036854775808 ≤ a ∧ a < 9223372036854775808) (hb : -9223372036854775808 ≤ b ∧ b < 9223372036854775808) :
    Calls Tryz.prog 170 #[.int .i64 12, .int .i64 a, .int .i64 b] w fun e w' => e = .returned (.tuple #[.int .i64 (fitG (a - b)).1, errG (fitG (a - b)).2]) ∧ w' = w := by
  obtain ⟨h1, h2⟩ := sub_fits ha hb
  generalize fitG (a - b) = r at *
  by_cases p : 0 < b
  · by_cases q : wrap64 (a - b) < a
    · have h := hide (h1 ⟨fun _ => p, fun _ => q⟩)
      clear h1 h2 ha hb
      go_enter Tryz.func170, Tryz.ntmps170
      go_wp2
      go_ret2
      exact ⟨ret_pair (unhide h) rfl, rfl⟩
    · have h := hide (h2 (fun e => q (e.2 p)))
      have q' : ((wrap64 (a - b) < a) = False) := by simpa using q
      clear h1 h2 ha hb q
      go_enter Tryz.func170, Tryz.ntmps170
      go_wp2
      go_ret2
      exact ⟨ret_pair (unhide h) rfl, rfl⟩
  · have p' : (0 < b) = False := by simpa using p
    by_cases q : wrap64 (a - b) < a
    · have h := hide (h2 (fun e => p (e.1 q)))
      clear h1 h2 ha hb p
      go_enter Tryz.func170, Tryz.ntmps170
      go_wp2
      go_ret2
      exact ⟨ret_pair (unhide h) rfl, rfl⟩
    · have h := hide (h1 ⟨fun e => absurd e q, fun e => absurd e p⟩)
      have q' : ((wrap64 (a - b) < a) = False) := by simpa using q
      clear h1 h2 ha hb q p
      go_enter Tryz.func170, Tryz.ntmps170
      go_wp2
      go_ret2
      exact ⟨ret_pair (unhide h) rfl, rfl⟩
set_option maxHeartbeats 1600000 in
theorem reck_add (a b : Int) (w : World) (ha : -9223372036854775808 ≤ a ∧ a < 9223372036854775808) (hb : -9223372036854775808 ≤ b ∧ b < 9223372036854775808) :
    Calls Tryz.prog 170 #[.int .i64 11, .int .i64 a, .int .i64 b] w fun e w' => e = .returned (.tuple #[.int .i64 (fitG (a + b)).1, errG (fitG (a + b)).2]) ∧ w' = w := by
  obtain ⟨h1, h2⟩ := add_fits ha hb
  generalize fitG (a + b) = r at *
  by_cases p : 0 < b
  · by_cases q : a < wrap64 (a + b)
    · have h := hide (h1 ⟨fun _ => p, fun _ => q⟩)
      clear h1 h2 ha hb
      go_enter Tryz.func170, Tryz.ntmps170
      go_wp2
      go_ret2
      exact ⟨ret_pair (unhide h) rfl, rfl⟩
    · have h := hide (h2 (fun e => q (e.2 p)))
      have q' : ((a < wrap64 (a + b)) = False) := by simpa using q
      clear h1 h2 ha hb q
      go_enter Tryz.func170, Tryz.ntmps170
      go_wp2
      go_ret2
      exact ⟨ret_pair (unhide h) rfl, rfl⟩
  · have p' : (0 < b) = False := by simpa using p
    by_cases q : a < wrap64 (a + b)
    · have h := hide (h2 (fun e => p (e.1 q)))
      clear h1 h2 ha hb p
      go_enter Tryz.func170, Tryz.ntmps170
      go_wp2
      go_ret2
      exact ⟨ret_pair (unhide h) rfl, rfl⟩
    · have h := hide (h1 ⟨fun e => absurd e q, fun e => absurd e p⟩)
      have q' : ((a < wrap64 (a + b)) = False) := by simpa using q
      clear h1 h2 ha hb q p
      go_enter Tryz.func170, Tryz.ntmps170
      go_wp2
      go_ret2
      exact ⟨ret_pair (unhide h) rfl, rfl⟩
set_option maxHeartbeats 1600000 in
theorem reck_neg (a b : Int) (w : World) (hb : -9223372036854775808 ≤ b ∧ b < 9223372036854775808) :
    Calls Tryz.prog 170 #[.int .i64 1, .int .i64 a, .int .i64 b] w fun e w' => e = .returned (.tuple #[.int .i64 (fitG (0 - b)).1, errG (fitG (0 - b)).2]) ∧ w' = w := by
  obtain ⟨h1, h2⟩ := sub_fits (a := 0) (by decide) hb
  generalize fitG (0 - b) = r at *
  simp only [Int.zero_sub] at h1 h2
  by_cases p : 0 < b
  · by_cases q : wrap64 (-b) < 0
    · have h := hide (h1 ⟨fun _ => p, fun _ => q⟩)
      clear h1 h2 hb
      go_enter Tryz.func170, Tryz.ntmps170
      go_wp2
      go_ret2
      exact ⟨ret_pair (unhide h) rfl, rfl⟩
    · have h := hide (h2 (fun e => q (e.2 p)))
      have q' : ((wrap64 (-b) < 0) = False) := by simpa using q
      clear h1 h2 hb q
      go_enter Tryz.func170, Tryz.ntmps170
      go_wp2
      go_ret2
      exact ⟨ret_pair (unhide h) rfl, rfl⟩
  · have p' : (0 < b) = False := by simpa using p
    by_cases q : wrap64 (-b) < 0
    · have h := hide (h2 (fun e => p (e.1 q)))
      clear h1 h2 hb p
      go_enter Tryz.func170, Tryz.ntmps170
      go_wp2
      go_ret2
      exact ⟨ret_pair (unhide h) rfl, rfl⟩
    · have h := hide (h1 ⟨fun e => absurd e q, fun e => absurd e p⟩)
      have q' : ((wrap64 (-b) < 0) = False) := by simpa using q
      clear h1 h2 hb q p
      go_enter Tryz.func170, Tryz.ntmps170
      go_wp2
      go_ret2
      exact ⟨ret_pair (unhide h) rfl, rfl⟩
set_option maxHeartbeats 1600000 in
theorem reck_mul (a b : Int) (w : World) (ha : -9223372036854775808 ≤ a ∧ a < 9223372036854775808) (hb : -9223372036854775808 ≤ b ∧ b < 9223372036854775808) :
    Calls Tryz.prog 170 #[.int .i64 13, .int .i64 a, .int .i64 b] w fun e w' => e = .returned (.tuple #[.int .i64 (fitG (a * b)).1, errG (fitG (a * b)).2]) ∧ w' = w := by
  have HB := hide (fun W => bey_any b a W)
  by_cases h0 : a = 0
  · subst h0
    have h := hide (mul_zero_fits b)
    have hw : wrap64 0 = 0 := by decide +kernel
    generalize fitG (0 * b) = r at *
    clear ha hb
    go_enter Tryz.func170, Tryz.ntmps170
    go_wp2
    go_ret2
    exact ⟨ret_pair (unhide h) rfl, rfl⟩
  obtain ⟨h1, h2⟩ := mul_fits ha hb h0
  generalize fitG (a * b) = r at *
  have e0 : (a == 0) = false := by simpa using h0
  by_cases q : wrap64 ((wrap64 (a * b)).tdiv a) = b
  · by_cases p : b = -9223372036854775808 ∧ a = -1
    · have h := hide (h2 (fun e => e.2 p))
      rw [show beyG b a = true by unfold beyG; simpa using p] at HB
      have q' : (wrap64 ((wrap64 (a * b)).tdiv a) == b) = true := by simpa using q
      clear h1 h2 ha hb p q
      go_enter Tryz.func170, Tryz.ntmps170
      go_wp2_with (go_at_call 198; refine (unhide HB _).mono ?_; rintro e w1 ⟨rfl, rfl⟩)
      go_ret2
      exact ⟨ret_pair (unhide h) rfl, rfl⟩
    · have h := hide (h1 ⟨q, p⟩)
      rw [show beyG b a = false by unfold beyG; simpa using p] at HB
      have q' : (wrap64 ((wrap64 (a * b)).tdiv a) == b) = true := by simpa using q
      clear h1 h2 ha hb p q
      go_enter Tryz.func170, Tryz.ntmps170
      go_wp2_with (go_at_call 198; refine (unhide HB _).mono ?_; rintro e w1 ⟨rfl, rfl⟩)
      go_ret2
      exact ⟨ret_pair (unhide h) rfl, rfl⟩
  · have h := hide (h2 (fun e => q e.1))
    have q' : (wrap64 ((wrap64 (a * b)).tdiv a) == b) = false := by simpa using q
    clear h1 h2 ha hb q
    go_enter Tryz.func170, Tryz.ntmps170
    go_wp2
    go_ret2
    exact ⟨ret_pair (unhide h) rfl, rfl⟩

set_option maxHeartbeats 1600000 in
theorem reck_div (op a b : Int) (w : World) (ha : -9223372036854775808 ≤ a ∧ a < 9223372036854775808) (hb : -9223372036854775808 ≤ b ∧ b < 9223372036854775808) (hop : op = 14 ∨ op = 15) :
    Calls Tryz.prog 170 #[.int .i64 op, .int .i64 a, .int .i64 b] w fun e w' => e = .returned (.tuple #[.int .i64 (reckG op a b).1, errG (reckG op a b).2]) ∧ w' = w := by
  have HD := hide (fun W => div_any op a b W ha hb hop)
  clear ha hb
  generalize reckG op a b = r at *
  rcases hop with rfl | rfl
  · go_enter Tryz.func170, Tryz.ntmps170
    go_wp2_with (go_at_call 199; refine (unhide HD _).mono ?_; rintro e w1 ⟨rfl, rfl⟩)
    go_ret2
    exact ⟨rfl, rfl⟩
  · go_enter Tryz.func170, Tryz.ntmps170
    go_wp2_with (go_at_call 199; refine (unhide HD _).mono ?_; rintro e w1 ⟨rfl, rfl⟩)
    go_ret2
    exact ⟨rfl, rfl⟩
theorem reck_any (op a b : Int) (w : World) (ha : -9223372036854775808 ≤ a ∧ a < 9223372036854775808) (hb : -9223372036854775808 ≤ b ∧ b < 9223372036854775808) (hop : operG op = 2) :
    Calls Tryz.prog 170 #[.int .i64 op, .int .i64 a, .int .i64 b] w fun e w' => e = .returned (.tuple #[.int .i64 (reckG op a b).1, errG (reckG op a b).2]) ∧ w' = w := by
  have hop' : op = 1 ∨ op = 12 ∨ op = 11 ∨ op = 13 ∨ op = 14 ∨ op = 15 := by
    unfold operG at hop
    split at hop
    · omega
    · split at hop <;> simp at hop
  rcases hop' with rfl | rfl | rfl | rfl | h
  · exact reck_neg a b w hb
  · exact reck_sub a b w ha hb
  · exact reck_add a b w ha hb
  · exact reck_mul a b w ha hb
  · exact reck_div op a b w ha hb h
end Go.Proofs.YtehgoioinogmkaaGreatDoor
