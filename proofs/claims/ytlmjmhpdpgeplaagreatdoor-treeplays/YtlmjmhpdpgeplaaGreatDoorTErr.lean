/- Chains of errors: a class behind any number of wraps; errors.Is of them. -/
import Derived.Test.YtlmjmhpdpgeplaaGreatDoorJPlainHandDecLenMath
import Derived.Test.YtlmjmhpdpgeplaaGreatDoorErrs
import Derived.Test.YtlmjmhpdpgeplaaGreatDoorDErrs
import Derived.Deep.LoopGhost
namespace Go.Proofs.YtlmjmhpdpgeplaaGreatDoor
open Go.RowKit Go.Extern.Stop Go.Stop Go.Extern Go.Lib

/-- An error of class c behind n wraps. -/
def Chn (w : World) (c : Int) : Nat → Value → Prop
  | 0, e => e = .iface 67 (.int .i64 c)
  | n + 1, e => ∃ T p e', (T = 110 ∨ T = 98) ∧ e = .iface T (.pointer (some ⟨p, 0, none⟩)) ∧ p < w.heap.size ∧ w.cell? ⟨p, 1, none⟩ = some e' ∧ Chn w c n e'
theorem Chn.iface {w : World} {c : Int} : ∀ {n : Nat} {v : Value}, Chn w c n v → ∃ T x, v = .iface T x
  | 0, _, h => ⟨_, _, h⟩
  | _ + 1, _, ⟨_, _, _, _, h, _⟩ => ⟨_, _, h⟩
theorem Chn.below {w w' : World} {c : Int} (hb : Below w.heap.size w w') : ∀ {n : Nat} {v : Value}, Chn w c n v → Chn w' c n v
  | 0, _, h => h
  | _ + 1, _, ⟨T, p, e', hT, h1, h2, h3, h4⟩ => ⟨T, p, e', hT, h1, Nat.lt_of_lt_of_le h2 hb.size, (hb.cell (p := ⟨p, 1, none⟩) h2).trans h3, h4.below hb⟩
set_option maxHeartbeats 8000000 in
set_option maxRecDepth 100000 in
theorem is_loop (c t : Int) (n : Nat) (v : Value) (w : World) (hv : Chn w c n v) :
    Calls Tryz.prog 42 #[v, .iface 67 (.int .i64 t), .bool true] w fun e w' => e = .returned (.bool (c == t)) ∧ w' = w := by
  have nE := Dk.Tryz.noIsC
  have uE := Dk.Tryz.noUnwrapC
  have vE := Dk.Tryz.noUnwrapsC
  have heq := run_eql_iface_int (P := Tryz.prog) (k := .i64) w c t Tryz.underlying48 Dk.Tryz.isCompC Tryz.underlying67
  have HV := hide hv
  obtain ⟨T0, x0, rfl⟩ := hv.iface
  clear hv
  go_enter Tryz.func42, Tryz.ntmps42
  go_wp2_with fail
  go_loopg [0] n (fun g s0 wr => w = wr ∧ Hid (Chn w c g s0))
  case atStart => exact ⟨rfl, unhide HV⟩
  case round =>
    clear HV
    obtain ⟨rfl, hc⟩ := hrel
    cases gk with
    | zero =>
      obtain rfl := unhide hc
      clear hc
      by_cases hct : (c == t) = true
      · go_wp2
        go_ret
        exact ⟨by rw [hct]; rfl, rfl⟩
      · have hct' : (c == t) = false := by simpa using hct
        go_wp2
        go_ret
        exact ⟨by rw [hct']; rfl, rfl⟩
    | succ g =>
      obtain ⟨T, p, e', hT, rfl, hp, h1, hr⟩ := unhide hc
      clear hc
      have HR := hide hr
      obtain ⟨T', x', rfl⟩ := hr.iface
      clear hr
      rcases hT with rfl | rfl
      · have nW := Dk.Tryz.noIsP
        have uW := Dk.Tryz.hasUnwrapP
        have mU := Dk.Tryz.methodUnwrap
        have hty := run_eql_iface_types (P := Tryz.prog) 110 67 (.pointer (some ⟨p, 0, none⟩)) (.int .i64 t) Tryz.underlying48 (by decide) w
        go_wp2
        go_roundg g
        case measure => omega
        case rel => exact ⟨rfl, unhide HR⟩
      · have nW := Tryz.noIsP
        have uW := Tryz.hasUnwrapP
        have mU := Tryz.methodUnwrap
        have hty := run_eql_iface_types (P := Tryz.prog) 98 67 (.pointer (some ⟨p, 0, none⟩)) (.int .i64 t) Tryz.underlying48 (by decide) w
        go_wp2
        go_roundg g
        case measure => omega
        case rel => exact ⟨rfl, unhide HR⟩
set_option maxHeartbeats 4000000 in
/-- errors.Is of a chain: by its class. -/
theorem is_chain {c : Int} {n : Nat} {v : Value} {w : World} (t : Int) (hv : Chn w c n v) :
    Calls Tryz.prog 23 #[v, .iface 67 (.int .i64 t)] w fun e w' => e = .returned (.bool (c == t)) ∧ w' = w := by
  have hTO := @run_callFunc_extern Tryz.prog 41 _ Extern.ReflectliteType.typeOf Tryz.func41 (by kernel_rfl) (by kernel_rfl) (by kernel_rfl) (by kernel_rfl)
  have tT := Dk.Tryz.isTypeOfC
  have cT := Dk.Tryz.isComparableC
  have mR := Dk.Tryz.isMethodComparable
  have HL := hide (is_loop c t n v w hv)
  obtain ⟨T, x, rfl⟩ := hv.iface
  clear hv
  go_enter Tryz.func23, Tryz.ntmps23
  go_wp2_with (go_at_call 42; refine (unhide HL).mono ?_; rintro e w1 ⟨rfl, rfl⟩)
  go_ret
  exact ⟨rfl, rfl⟩
end Go.Proofs.YtlmjmhpdpgeplaaGreatDoor
