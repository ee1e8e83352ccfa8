/- Contracts of the document's reckon: sums, differences, quotients. -/
import Derived.Test.YtjmkoceiepcphaaGreatDoorVSum1
namespace Go.Proofs.YtjmkoceiepcphaaGreatDoor
open Go.RowKit Go.Lib

theorem ret_pi {p : Int × Int} {x c : Int} (h : p = (x, c)) : Ending.returned (.tuple #[.int .i64 x, .int .i64 c]) = .returned (.tuple #[.int .i64 p.1, .int .i64 p.2]) := by subst h; rfl
theorem u_add {a b : Int} : IntKind.i64.wrap (IntKind.u64.wrap (IntKind.u64.wrap a + IntKind.u64.wrap b)) = wrap64 (a + b) := by
  rw [IntKind.wrap_i64, IntKind.wrap_u64, IntKind.wrap_u64, IntKind.wrap_u64]; unfold wrap64; omega
theorem u_sub {a b : Int} : IntKind.i64.wrap (IntKind.u64.wrap (IntKind.u64.wrap a - IntKind.u64.wrap b)) = wrap64 (a - b) := by
  rw [IntKind.wrap_i64, IntKind.wrap_u64, IntKind.wrap_u64, IntKind.wrap_u64]; unfold wrap64; omega

set_option maxHeartbeats 3200000 in
theorem rreck_add (a b : Int) (w : World) (ha : -9223372036854775808 ≤ a ∧ a < 9223372036854775808) (hb : -9223372036854775808 ≤ b ∧ b < 9223372036854775808) :
    Calls Tryz.prog 32 #[.int .i64 11, .int .i64 a, .int .i64 b] w fun e w' => e = .returned (.tuple #[.int .i64 (fitG (a + b)).1, .int .i64 (fitG (a + b)).2]) ∧ w' = w := by
  have hu := u_add (a := a) (b := b)
  obtain ⟨s, hs⟩ : ∃ s, wrap64 (a + b) = s := ⟨_, rfl⟩
  rw [hs] at hu
  have hs' : s = (a + b + 9223372036854775808) % 18446744073709551616 - 9223372036854775808 := by rw [← hs]; unfold wrap64; omega
  obtain ⟨r, hr⟩ : ∃ r, r = fitG (a + b) := ⟨_, rfl⟩
  rw [← hr]
  unfold fitG at hr
  by_cases pa : a < 0 <;> by_cases pb : b < 0
  · have a1 : a < 0 := pa
    have b1 : b < 0 := pb
    by_cases ps : s < 0
    · have s1 : s < 0 := ps
      rw [if_pos (by omega), show a + b = s by omega] at hr
      have HR := hide hr
      clear hr hs hs' ha hb pa pb ps
      go_enter Tryz.func32, Tryz.ntmps32
      go_wp2
      go_ret2
      exact ⟨ret_pi (unhide HR), rfl⟩
    · have s1 : (s < 0) = False := by simpa using ps
      rw [if_neg (by omega)] at hr
      have HR := hide hr
      clear hr hs hs' ha hb pa pb ps
      go_enter Tryz.func32, Tryz.ntmps32
      go_wp2
      go_ret2
      exact ⟨ret_pi (unhide HR), rfl⟩
  · have a1 : a < 0 := pa
    have b1 : (b < 0) = False := by simpa using pb
    rw [if_pos (by omega), show a + b = s by omega] at hr
    have HR := hide hr
    clear hr hs hs' ha hb pa pb
    go_enter Tryz.func32, Tryz.ntmps32
    go_wp2
    go_ret2
    exact ⟨ret_pi (unhide HR), rfl⟩
  · have a1 : (a < 0) = False := by simpa using pa
    have b1 : b < 0 := pb
    rw [if_pos (by omega), show a + b = s by omega] at hr
    have HR := hide hr
    clear hr hs hs' ha hb pa pb
    go_enter Tryz.func32, Tryz.ntmps32
    go_wp2
    go_ret2
    exact ⟨ret_pi (unhide HR), rfl⟩
  · have a1 : (a < 0) = False := by simpa using pa
    have b1 : (b < 0) = False := by simpa using pb
    by_cases ps : s < 0
    · have s1 : s < 0 := ps
      rw [if_neg (by omega)] at hr
      have HR := hide hr
      clear hr hs hs' ha hb pa pb ps
      go_enter Tryz.func32, Tryz.ntmps32
      go_wp2
      go_ret2
      exact ⟨ret_pi (unhide HR), rfl⟩
    · have s1 : (s < 0) = False := by simpa using ps
      rw [if_pos (by omega), show a + b = s by omega] at hr
      have HR := hide hr
      clear hr hs hs' ha hb pa pb ps
      go_enter Tryz.func32, Tryz.ntmps32
      go_wp2
      go_ret2
      exact ⟨ret_pi (unhide HR), rfl⟩

set_option maxHeartbeats 3200000 in
theorem rreck_sub (a b : Int) (w : World) (ha : -9223372036854775808 ≤ a ∧ a < 9223372036854775808) (hb : -9223372036854775808 ≤ b ∧ b < 9223372036854775808) :
    Calls Tryz.prog 32 #[.int .i64 12, .int .i64 a, .int .i64 b] w fun e w' => e = .returned (.tuple #[.int .i64 (fitG (a - b)).1, .int .i64 (fitG (a - b)).2]) ∧ w' = w := by
  have hu := u_sub (a := a) (b := b)
  obtain ⟨s, hs⟩ : ∃ s, wrap64 (a - b) = s := ⟨_, rfl⟩
  rw [hs] at hu
  have hs' : s = (a - b + 9223372036854775808) % 18446744073709551616 - 9223372036854775808 := by rw [← hs]; unfold wrap64; omega
  obtain ⟨r, hr⟩ : ∃ r, r = fitG (a - b) := ⟨_, rfl⟩
  rw [← hr]
  unfold fitG at hr
  by_cases pa : a < 0 <;> by_cases pb : b < 0
  · have a1 : a < 0 := pa
    have b1 : b < 0 := pb
    rw [if_pos (by omega), show a - b = s by omega] at hr
    have HR := hide hr
    clear hr hs hs' ha hb pa pb
    go_enter Tryz.func32, Tryz.ntmps32
    go_wp2
    go_ret2
    exact ⟨ret_pi (unhide HR), rfl⟩
  · have a1 : a < 0 := pa
    have b1 : (b < 0) = False := by simpa using pb
    by_cases ps : s < 0
    · have s1 : s < 0 := ps
      rw [if_pos (by omega), show a - b = s by omega] at hr
      have HR := hide hr
      clear hr hs hs' ha hb pa pb ps
      go_enter Tryz.func32, Tryz.ntmps32
      go_wp2
      go_ret2
      exact ⟨ret_pi (unhide HR), rfl⟩
    · have s1 : (s < 0) = False := by simpa using ps
      rw [if_neg (by omega)] at hr
      have HR := hide hr
      clear hr hs hs' ha hb pa pb ps
      go_enter Tryz.func32, Tryz.ntmps32
      go_wp2
      go_ret2
      exact ⟨ret_pi (unhide HR), rfl⟩
  · have a1 : (a < 0) = False := by simpa using pa
    have b1 : b < 0 := pb
    by_cases ps : s < 0
    · have s1 : s < 0 := ps
      rw [if_neg (by omega)] at hr
      have HR := hide hr
      clear hr hs hs' ha hb pa pb ps
      go_enter Tryz.func32, Tryz.ntmps32
      go_wp2
      go_ret2
      exact ⟨ret_pi (unhide HR), rfl⟩
    · have s1 : (s < 0) = False := by simpa using ps
      rw [if_pos (by omega), show a - b = s by omega] at hr
      have HR := hide hr
      clear hr hs hs' ha hb pa pb ps
      go_enter Tryz.func32, Tryz.ntmps32
      go_wp2
      go_ret2
      exact ⟨ret_pi (unhide HR), rfl⟩
  · have a1 : (a < 0) = False := by simpa using pa
    have b1 : (b < 0) = False := by simpa using pb
    rw [if_pos (by omega), show a - b = s by omega] at hr
    have HR := hide hr
    clear hr hs hs' ha hb pa pb
    go_enter Tryz.func32, Tryz.ntmps32
    go_wp2
    go_ret2
    exact ⟨ret_pi (unhide HR), rfl⟩
end Go.Proofs.YtjmkoceiepcphaaGreatDoor
