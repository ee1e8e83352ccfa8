/- Contracts of the document's reckon: products (math/bits.Mul64). -/
import Derived.Test.YtjmkoceiepcphaaGreatDoorVRefDiv
import Derived.Shelf.Bits.Mul64
namespace Go.Proofs.YtjmkoceiepcphaaGreatDoor
open Go.RowKit Go.Lib

set_option maxHeartbeats 1000000 in
theorem mul64_any (x y : Nat) (hx : x < 18446744073709551616) (hy : y < 18446744073709551616) (w : World) :
    Calls Tryz.prog 49 #[.int .u64 x, .int .u64 y] w fun e w' => e = .returned (.tuple #[.int .u64 ((x * y / 18446744073709551616 : Nat) : Int), .int .u64 ((x * y % 18446744073709551616 : Nat) : Int)]) ∧ w' = w := by
  obtain ⟨b1, b2, b3, hh⟩ := mul64_hi x y hx hy
  have c1 := half_mul_le (a := x / 4294967296) (b := y / 4294967296) (by omega) (by omega)
  have c2 := half_mul_le (a := x / 4294967296) (b := y % 4294967296) (by omega) (by omega)
  have c3 := half_mul_le (a := x % 4294967296) (b := y / 4294967296) (by omega) (by omega)
  have d1 : x / 4294967296 * (y / 4294967296) < 18446744073709551616 := by omega
  have d2 : x / 4294967296 * (y % 4294967296) < 18446744073709551616 := by omega
  have d3 : x % 4294967296 * (y / 4294967296) < 18446744073709551616 := by omega
  have f1 : x / 4294967296 * (y / 4294967296) + (x / 4294967296 * (y % 4294967296) + x % 4294967296 * (y % 4294967296) / 4294967296) / 4294967296 < 18446744073709551616 := by omega
  have f2 : x / 4294967296 * (y / 4294967296) + (x / 4294967296 * (y % 4294967296) + x % 4294967296 * (y % 4294967296) / 4294967296) / 4294967296 + ((x / 4294967296 * (y % 4294967296) + x % 4294967296 * (y % 4294967296) / 4294967296) % 4294967296 + x % 4294967296 * (y / 4294967296)) / 4294967296 < 18446744073709551616 := by omega
  go_enter Tryz.func49, Tryz.ntmps49
  go_wp2
  simp only [Mul64.maskN x hx, Mul64.maskN y hy, Mul64.divN, Mul64.mulN, Mul64.addN, Mul64.wrapN _ b1, Mul64.wrapN _ d2, Mul64.wrapN _ b2, Mul64.maskN _ b2, Mul64.wrapN _ d3, Mul64.wrapN _ b3, Mul64.wrapN _ d1, Mul64.wrapN _ f1, Mul64.wrapN _ f2, Mul64.wrapM (x * y)]
  rw [hh]
  go_ret2
  exact ⟨rfl, rfl⟩

set_option maxHeartbeats 3200000 in
theorem rreck_mul (a b : Int) (w : World) (ha : -9223372036854775808 ≤ a ∧ a < 9223372036854775808) (hb : -9223372036854775808 ≤ b ∧ b < 9223372036854775808) :
    Calls Tryz.prog 32 #[.int .i64 13, .int .i64 a, .int .i64 b] w fun e w' => e = .returned (.tuple #[.int .i64 (fitG (a * b)).1, .int .i64 (fitG (a * b)).2]) ∧ w' = w := by
  obtain ⟨p, hp⟩ : ∃ p : Nat, p = a.natAbs := ⟨_, rfl⟩
  obtain ⟨q, hq⟩ : ∃ q : Nat, q = b.natAbs := ⟨_, rfl⟩
  have HM := hide (fun W => mul64_any p q (by omega) (by omega) W)
  obtain ⟨m, hm⟩ : ∃ m : Nat, m = p * q := ⟨_, rfl⟩
  obtain ⟨r, hr⟩ : ∃ r, r = fitG (a * b) := ⟨_, rfl⟩
  rw [← hr]
  unfold fitG at hr
  rw [← hm] at HM
  by_cases pa : a < 0 <;> by_cases pb : b < 0
  · have a1 : a < 0 := pa
    have b1 : b < 0 := pb
    have xa : IntKind.u64.wrap (-IntKind.u64.wrap a) = (p : Int) := by rw [IntKind.wrap_u64, IntKind.wrap_u64]; omega
    have xb : IntKind.u64.wrap (-IntKind.u64.wrap b) = (q : Int) := by rw [IntKind.wrap_u64, IntKind.wrap_u64]; omega
    have hab : a * b = (m : Int) := by rw [show a = -(p : Int) by omega, show b = -(q : Int) by omega, hm, Int.natCast_mul, Int.neg_mul_neg]
    rw [hab] at hr
    clear hab hm hp hq ha hb pa pb
    by_cases g1 : 18446744073709551616 ≤ m
    · rw [if_neg (by omega)] at hr
      obtain ⟨h, hh⟩ : ∃ h : Int, h = ((m / 18446744073709551616 : Nat) : Int) := ⟨_, rfl⟩
      obtain ⟨l, hl⟩ : ∃ l : Int, l = ((m % 18446744073709551616 : Nat) : Int) := ⟨_, rfl⟩
      rw [← hh, ← hl] at HM
      have e1 : (h = 0) = False := by simp only [eq_iff_iff, iff_false]; omega
      have HR := hide hr
      clear hr hh hl g1
      go_enter Tryz.func32, Tryz.ntmps32
      go_wp2_with (go_at_call 49; refine (unhide HM _).mono ?_; rintro e w1 ⟨rfl, rfl⟩)
      go_ret2
      exact ⟨ret_pi (unhide HR), rfl⟩
    rw [show m / 18446744073709551616 = 0 by omega, show m % 18446744073709551616 = m by omega] at HM
    obtain ⟨l, hl⟩ : ∃ l : Int, l = (m : Int) := ⟨_, rfl⟩
    rw [← hl] at HM hr
    by_cases g2 : l > 9223372036854775807
    · rw [if_neg (by omega)] at hr
      have e1 : 9223372036854775807 < l := g2
      have HR := hide hr
      clear hr hl g1 g2
      go_enter Tryz.func32, Tryz.ntmps32
      go_wp2_with (go_at_call 49; refine (unhide HM _).mono ?_; rintro e w1 ⟨rfl, rfl⟩)
      go_ret2
      exact ⟨ret_pi (unhide HR), rfl⟩
    have e1 : (9223372036854775807 < l) = False := by simpa using g2
    rw [if_pos (by omega)] at hr
    have e2 : IntKind.i64.wrap l = l := by rw [IntKind.wrap_i64]; omega
    have HR := hide hr
    clear hr hl g1 g2
    go_enter Tryz.func32, Tryz.ntmps32
    go_wp2_with (go_at_call 49; refine (unhide HM _).mono ?_; rintro e w1 ⟨rfl, rfl⟩)
    go_ret2
    exact ⟨ret_pi (unhide HR), rfl⟩
  · have a1 : a < 0 := pa
    have b1 : (b < 0) = False := by simpa using pb
    have xa : IntKind.u64.wrap (-IntKind.u64.wrap a) = (p : Int) := by rw [IntKind.wrap_u64, IntKind.wrap_u64]; omega
    have xb : IntKind.u64.wrap b = (q : Int) := by rw [IntKind.wrap_u64]; omega
    have hab : a * b = -(m : Int) := by rw [show a = -(p : Int) by omega, show b = (q : Int) by omega, hm, Int.natCast_mul, Int.neg_mul]
    rw [hab] at hr
    clear hab hm hp hq ha hb pa pb
    by_cases g1 : 18446744073709551616 ≤ m
    · rw [if_neg (by omega)] at hr
      obtain ⟨h, hh⟩ : ∃ h : Int, h = ((m / 18446744073709551616 : Nat) : Int) := ⟨_, rfl⟩
      obtain ⟨l, hl⟩ : ∃ l : Int, l = ((m % 18446744073709551616 : Nat) : Int) := ⟨_, rfl⟩
      rw [← hh, ← hl] at HM
      have e1 : (h = 0) = False := by simp only [eq_iff_iff, iff_false]; omega
      have HR := hide hr
      clear hr hh hl g1
      go_enter Tryz.func32, Tryz.ntmps32
      go_wp2_with (go_at_call 49; refine (unhide HM _).mono ?_; rintro e w1 ⟨rfl, rfl⟩)
      go_ret2
      exact ⟨ret_pi (unhide HR), rfl⟩
    rw [show m / 18446744073709551616 = 0 by omega, show m % 18446744073709551616 = m by omega] at HM
    obtain ⟨l, hl⟩ : ∃ l : Int, l = (m : Int) := ⟨_, rfl⟩
    rw [← hl] at HM hr
    by_cases g2 : l > 9223372036854775808
    · rw [if_neg (by omega)] at hr
      have e1 : 9223372036854775808 < l := g2
      have HR := hide hr
      clear hr hl g1 g2
      go_enter Tryz.func32, Tryz.ntmps32
      go_wp2_with (go_at_call 49; refine (unhide HM _).mono ?_; rintro e w1 ⟨rfl, rfl⟩)
      go_ret2
      exact ⟨ret_pi (unhide HR), rfl⟩
    have e1 : (9223372036854775808 < l) = False := by simpa using g2
    rw [if_pos (by omega)] at hr
    have e2 : IntKind.i64.wrap (IntKind.u64.wrap (-l)) = -l := by rw [IntKind.wrap_i64, IntKind.wrap_u64]; omega
    have HR := hide hr
    clear hr hl g1 g2
    go_enter Tryz.func32, Tryz.ntmps32
    go_wp2_with (go_at_call 49; refine (unhide HM _).mono ?_; rintro e w1 ⟨rfl, rfl⟩)
    go_ret2
    exact ⟨ret_pi (unhide HR), rfl⟩
  · have a1 : (a < 0) = False := by simpa using pa
    have b1 : b < 0 := pb
    have xa : IntKind.u64.wrap a = (p : Int) := by rw [IntKind.wrap_u64]; omega
    have xb : IntKind.u64.wrap (-IntKind.u64.wrap b) = (q : Int) := by rw [IntKind.wrap_u64, IntKind.wrap_u64]; omega
    have hab : a * b = -(m : Int) := by rw [show a = (p : Int) by omega, show b = -(q : Int) by omega, hm, Int.natCast_mul, Int.mul_neg]
    rw [hab] at hr
    clear hab hm hp hq ha hb pa pb
    by_cases g1 : 18446744073709551616 ≤ m
    · rw [if_neg (by omega)] at hr
      obtain ⟨h, hh⟩ : ∃ h : Int, h = ((m / 18446744073709551616 : Nat) : Int) := ⟨_, rfl⟩
      obtain ⟨l, hl⟩ : ∃ l : Int, l = ((m % 18446744073709551616 : Nat) : Int) := ⟨_, rfl⟩
      rw [← hh, ← hl] at HM
      have e1 : (h = 0) = False := by simp only [eq_iff_iff, iff_false]; omega
      have HR := hide hr
      clear hr hh hl g1
      go_enter Tryz.func32, Tryz.ntmps32
      go_wp2_with (go_at_call 49; refine (unhide HM _).mono ?_; rintro e w1 ⟨rfl, rfl⟩)
      go_ret2
      exact ⟨ret_pi (unhide HR), rfl⟩
    rw [show m / 18446744073709551616 = 0 by omega, show m % 18446744073709551616 = m by omega] at HM
    obtain ⟨l, hl⟩ : ∃ l : Int, l = (m : Int) := ⟨_, rfl⟩
    rw [← hl] at HM hr
    by_cases g2 : l > 9223372036854775808
    · rw [if_neg (by omega)] at hr
      have e1 : 9223372036854775808 < l := g2
      have HR := hide hr
      clear hr hl g1 g2
      go_enter Tryz.func32, Tryz.ntmps32
      go_wp2_with (go_at_call 49; refine (unhide HM _).mono ?_; rintro e w1 ⟨rfl, rfl⟩)
      go_ret2
      exact ⟨ret_pi (unhide HR), rfl⟩
    have e1 : (9223372036854775808 < l) = False := by simpa using g2
    rw [if_pos (by omega)] at hr
    have e2 : IntKind.i64.wrap (IntKind.u64.wrap (-l)) = -l := by rw [IntKind.wrap_i64, IntKind.wrap_u64]; omega
    have HR := hide hr
    clear hr hl g1 g2
    go_enter Tryz.func32, Tryz.ntmps32
    go_wp2_with (go_at_call 49; refine (unhide HM _).mono ?_; rintro e w1 ⟨rfl, rfl⟩)
    go_ret2
    exact ⟨ret_pi (unhide HR), rfl⟩
  · have a1 : (a < 0) = False := by simpa using pa
    have b1 : (b < 0) = False := by simpa using pb
    have xa : IntKind.u64.wrap a = (p : Int) := by rw [IntKind.wrap_u64]; omega
    have xb : IntKind.u64.wrap b = (q : Int) := by rw [IntKind.wrap_u64]; omega
    have hab : a * b = (m : Int) := by rw [show a = (p : Int) by omega, show b = (q : Int) by omega, hm, Int.natCast_mul]
    rw [hab] at hr
    clear hab hm hp hq ha hb pa pb
    by_cases g1 : 18446744073709551616 ≤ m
    · rw [if_neg (by omega)] at hr
      obtain ⟨h, hh⟩ : ∃ h : Int, h = ((m / 18446744073709551616 : Nat) : Int) := ⟨_, rfl⟩
      obtain ⟨l, hl⟩ : ∃ l : Int, l = ((m % 18446744073709551616 : Nat) : Int) := ⟨_, rfl⟩
      rw [← hh, ← hl] at HM
      have e1 : (h = 0) = False := by simp only [eq_iff_iff, iff_false]; omega
      have HR := hide hr
      clear hr hh hl g1
      go_enter Tryz.func32, Tryz.ntmps32
      go_wp2_with (go_at_call 49; refine (unhide HM _).mono ?_; rintro e w1 ⟨rfl, rfl⟩)
      go_ret2
      exact ⟨ret_pi (unhide HR), rfl⟩
    rw [show m / 18446744073709551616 = 0 by omega, show m % 18446744073709551616 = m by omega] at HM
    obtain ⟨l, hl⟩ : ∃ l : Int, l = (m : Int) := ⟨_, rfl⟩
    rw [← hl] at HM hr
    by_cases g2 : l > 9223372036854775807
    · rw [if_neg (by omega)] at hr
      have e1 : 9223372036854775807 < l := g2
      have HR := hide hr
      clear hr hl g1 g2
      go_enter Tryz.func32, Tryz.ntmps32
      go_wp2_with (go_at_call 49; refine (unhide HM _).mono ?_; rintro e w1 ⟨rfl, rfl⟩)
      go_ret2
      exact ⟨ret_pi (unhide HR), rfl⟩
    have e1 : (9223372036854775807 < l) = False := by simpa using g2
    rw [if_pos (by omega)] at hr
    have e2 : IntKind.i64.wrap l = l := by rw [IntKind.wrap_i64]; omega
    have HR := hide hr
    clear hr hl g1 g2
    go_enter Tryz.func32, Tryz.ntmps32
    go_wp2_with (go_at_call 49; refine (unhide HM _).mono ?_; rintro e w1 ⟨rfl, rfl⟩)
    go_ret2
    exact ⟨ret_pi (unhide HR), rfl⟩
end Go.Proofs.YtjmkoceiepcphaaGreatDoor
