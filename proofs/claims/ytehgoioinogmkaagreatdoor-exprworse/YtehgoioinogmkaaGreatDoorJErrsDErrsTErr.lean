/- Contracts of errors.Is and errors.As at the errors that the program makes: a *api.Placed that wraps an api.Class. -/
import Derived.WalkKit
import Derived.Test.YtehgoioinogmkaaGreatDoorProg
import Derived.LaidEql
import Derived.Stop.Asserts
import Derived.RowKitTokens
import Derived.Lib.IfaceEq
import Derived.Test.YtehgoioinogmkaaGreatDoorJPlainLMath2LMath3XLex1XLex2NBigListOpsListOp2ListOp3
import Derived.Deep.LoopGhost
namespace Go.Proofs.YtehgoioinogmkaaGreatDoor
open Go.RowKit Go.Extern.Stop Go.Stop Go.Extern Go.Lib

theorem Tryz.isTypeOfC (v : Value) (w : World) : (Extern.ReflectliteType.typeOf #[.iface 102 v]).run Tryz.prog w = .ok (.iface 218 (.agg #[.pointer (some ⟨2, 102, none⟩)])) w := by kernel_rfl
theorem Tryz.isComparableC (w : World) : Sem.run Tryz.prog (callFunc 262 #[.agg #[.pointer (some ⟨2, 102, none⟩)]]) w = .ok (.value (.bool true)) w := by
  have h := @run_callFunc_extern Tryz.prog 262 _ (Extern.ReflectliteType.method fun t => do Rtype.noPackHeld "Comparable" t; pure (.bool (← typeInfo t).comparable)) Tryz.func262 (by kernel_rfl) (by kernel_rfl) (by kernel_rfl) (by kernel_rfl)
  rw [h]
  have e : Sem.run Tryz.prog (Extern.ReflectliteType.method (fun t => do Rtype.noPackHeld "Comparable" t; pure (.bool (← typeInfo t).comparable)) #[.agg #[.pointer (some ⟨2, 102, none⟩)]]) w = .ok (.bool true) w := by kernel_rfl
  rw [e]; rfl
theorem Tryz.isMethodComparable (v : Value) (w : World) : (Go.method 450 218 v "Comparable").run Tryz.prog w = .ok (262, v) w := by kernel_rfl
theorem Tryz.isCompC : (Tryz.prog.info? 102).map (·.comparable) = some true := by kernel_rfl
theorem Tryz.noIsC (v : Value) (xT : TypeId) (w : World) : (Instr.typeAssert (.iface 102 v) xT 230 true).run Tryz.prog w = .ok (.tuple #[.nilIface, .bool false]) w := run_typeAssert_lacksB Tryz.underlying230 (by kernel_rfl) (by kernel_rfl) v xT w
theorem Tryz.noAsC (v : Value) (xT : TypeId) (w : World) : (Instr.typeAssert (.iface 102 v) xT 222 true).run Tryz.prog w = .ok (.tuple #[.nilIface, .bool false]) w := run_typeAssert_lacksB Tryz.underlying222 (by kernel_rfl) (by kernel_rfl) v xT w
theorem Tryz.noUnwrapC (v : Value) (xT : TypeId) (w : World) : (Instr.typeAssert (.iface 102 v) xT 225 true).run Tryz.prog w = .ok (.tuple #[.nilIface, .bool false]) w := run_typeAssert_lacksB Tryz.underlying225 (by kernel_rfl) (by kernel_rfl) v xT w
theorem Tryz.noUnwrapsC (v : Value) (xT : TypeId) (w : World) : (Instr.typeAssert (.iface 102 v) xT 227 true).run Tryz.prog w = .ok (.tuple #[.nilIface, .bool false]) w := run_typeAssert_lacksB Tryz.underlying227 (by kernel_rfl) (by kernel_rfl) v xT w
theorem Tryz.noIsP (v : Value) (xT : TypeId) (w : World) : (Instr.typeAssert (.iface 108 v) xT 230 true).run Tryz.prog w = .ok (.tuple #[.nilIface, .bool false]) w := run_typeAssert_lacksB Tryz.underlying230 (by kernel_rfl) (by kernel_rfl) v xT w
theorem Tryz.noAsP (v : Value) (xT : TypeId) (w : World) : (Instr.typeAssert (.iface 108 v) xT 222 true).run Tryz.prog w = .ok (.tuple #[.nilIface, .bool false]) w := run_typeAssert_lacksB Tryz.underlying222 (by kernel_rfl) (by kernel_rfl) v xT w
theorem Tryz.hasUnwrapP (v : Value) (xT : TypeId) (w : World) : (Instr.typeAssert (.iface 108 v) xT 225 true).run Tryz.prog w = .ok (.tuple #[.iface 108 v, .bool true]) w := run_typeAssert_hasB Tryz.underlying225 (by kernel_rfl) v xT w
theorem Tryz.methodUnwrap (v : Value) (w : World) : (Go.method 450 108 v "Unwrap").run Tryz.prog w = .ok (254, v) w := by kernel_rfl

set_option maxHeartbeats 1600000 in
/-- errors.Is(nil, class). -/
theorem is_nil (t : Int) (w : World) :
    Calls Tryz.prog 35 #[.nilIface, .iface 102 (.int .i64 t)] w fun e w' => e = .returned (.bool false) ∧ w' = w := by
  have hn := run_eql_iface_nil_left (P := Tryz.prog) w 102 (.int .i64 t) Tryz.underlying33
  go_enter Tryz.func35, Tryz.ntmps35
  go_wp2
  go_ret
  exact ⟨rfl, rfl⟩

set_option maxHeartbeats 4000000 in
/-- errors.Is at a placed error: by its class. -/
theorem is_placed (p : Nat) (c t : Int) (w : World) (h1 : w.cell? ⟨p, 1, none⟩ = some (.iface 102 (.int .i64 c))) :
    Calls Tryz.prog 35 #[.iface 108 (.pointer (some ⟨p, 0, none⟩)), .iface 102 (.int .i64 t)] w fun e w' => e = .returned (.bool (c == t)) ∧ w' = w := by
  have hTO := @run_callFunc_extern Tryz.prog 66 _ Extern.ReflectliteType.typeOf Tryz.func66 (by kernel_rfl) (by kernel_rfl) (by kernel_rfl) (by kernel_rfl)
  have tT := Tryz.isTypeOfC
  have cT := Tryz.isComparableC
  have mR := Tryz.isMethodComparable
  have nE := Tryz.noIsC
  have uE := Tryz.noUnwrapC
  have vE := Tryz.noUnwrapsC
  have nW := Tryz.noIsP
  have uW := Tryz.hasUnwrapP
  have mU := Tryz.methodUnwrap
  have heq := run_eql_iface_int (P := Tryz.prog) (k := .i64) w c t Tryz.underlying33 Tryz.isCompC Tryz.underlying102
  have hty := run_eql_iface_types (P := Tryz.prog) 108 102 (.pointer (some ⟨p, 0, none⟩)) (.int .i64 t) Tryz.underlying33 (by decide) w
  by_cases hct : (c == t) = true
  · go_enter Tryz.func35, Tryz.ntmps35
    go_wp2
    refine wp_loop_rounds 2 ?_
    rw [rounds_succ]
    go_wp2
    rw [rounds_succ]
    go_wp2
    go_ret
    exact ⟨by rw [hct]; rfl, rfl⟩
  · have hct' : (c == t) = false := by simpa using hct
    go_enter Tryz.func35, Tryz.ntmps35
    go_wp2
    refine wp_loop_rounds 2 ?_
    rw [rounds_succ]
    go_wp2
    rw [rounds_succ]
    go_wp2
    go_ret
    exact ⟨by rw [hct']; rfl, rfl⟩
end Go.Proofs.YtehgoioinogmkaaGreatDoor
/- Contracts of errors.Is and errors.As at the errors that the program makes: a *api.Within that wraps an api.Class. -/
namespace Go.Proofs.YtehgoioinogmkaaGreatDoor.Dk
open Go.RowKit Go.Extern.Stop Go.Stop Go.Extern Go.Lib

theorem Tryz.isTypeOfC (v : Value) (w : World) : (Extern.ReflectliteType.typeOf #[.iface 102 v]).run Tryz.prog w = .ok (.iface 218 (.agg #[.pointer (some ⟨2, 102, none⟩)])) w := by kernel_rfl
theorem Tryz.isComparableC (w : World) : Sem.run Tryz.prog (callFunc 262 #[.agg #[.pointer (some ⟨2, 102, none⟩)]]) w = .ok (.value (.bool true)) w := by
  have h := @run_callFunc_extern Tryz.prog 262 _ (Extern.ReflectliteType.method fun t => do Rtype.noPackHeld "Comparable" t; pure (.bool (← typeInfo t).comparable)) Tryz.func262 (by kernel_rfl) (by kernel_rfl) (by kernel_rfl) (by kernel_rfl)
  rw [h]
  have e : Sem.run Tryz.prog (Extern.ReflectliteType.method (fun t => do Rtype.noPackHeld "Comparable" t; pure (.bool (← typeInfo t).comparable)) #[.agg #[.pointer (some ⟨2, 102, none⟩)]]) w = .ok (.bool true) w := by kernel_rfl
  rw [e]; rfl
theorem Tryz.isMethodComparable (v : Value) (w : World) : (Go.method 450 218 v "Comparable").run Tryz.prog w = .ok (262, v) w := by kernel_rfl
theorem Tryz.isCompC : (Tryz.prog.info? 102).map (·.comparable) = some true := by kernel_rfl
theorem Tryz.noIsC (v : Value) (xT : TypeId) (w : World) : (Instr.typeAssert (.iface 102 v) xT 230 true).run Tryz.prog w = .ok (.tuple #[.nilIface, .bool false]) w := run_typeAssert_lacksB Tryz.underlying230 (by kernel_rfl) (by kernel_rfl) v xT w
theorem Tryz.noAsC (v : Value) (xT : TypeId) (w : World) : (Instr.typeAssert (.iface 102 v) xT 222 true).run Tryz.prog w = .ok (.tuple #[.nilIface, .bool false]) w := run_typeAssert_lacksB Tryz.underlying222 (by kernel_rfl) (by kernel_rfl) v xT w
theorem Tryz.noUnwrapC (v : Value) (xT : TypeId) (w : World) : (Instr.typeAssert (.iface 102 v) xT 225 true).run Tryz.prog w = .ok (.tuple #[.nilIface, .bool false]) w := run_typeAssert_lacksB Tryz.underlying225 (by kernel_rfl) (by kernel_rfl) v xT w
theorem Tryz.noUnwrapsC (v : Value) (xT : TypeId) (w : World) : (Instr.typeAssert (.iface 102 v) xT 227 true).run Tryz.prog w = .ok (.tuple #[.nilIface, .bool false]) w := run_typeAssert_lacksB Tryz.underlying227 (by kernel_rfl) (by kernel_rfl) v xT w
theorem Tryz.noIsP (v : Value) (xT : TypeId) (w : World) : (Instr.typeAssert (.iface 111 v) xT 230 true).run Tryz.prog w = .ok (.tuple #[.nilIface, .bool false]) w := run_typeAssert_lacksB Tryz.underlying230 (by kernel_rfl) (by kernel_rfl) v xT w
theorem Tryz.noAsP (v : Value) (xT : TypeId) (w : World) : (Instr.typeAssert (.iface 111 v) xT 222 true).run Tryz.prog w = .ok (.tuple #[.nilIface, .bool false]) w := run_typeAssert_lacksB Tryz.underlying222 (by kernel_rfl) (by kernel_rfl) v xT w
theorem Tryz.hasUnwrapP (v : Value) (xT : TypeId) (w : World) : (Instr.typeAssert (.iface 111 v) xT 225 true).run Tryz.prog w = .ok (.tuple #[.iface 111 v, .bool true]) w := run_typeAssert_hasB Tryz.underlying225 (by kernel_rfl) v xT w
theorem Tryz.methodUnwrap (v : Value) (w : World) : (Go.method 450 111 v "Unwrap").run Tryz.prog w = .ok (256, v) w := by kernel_rfl

set_option maxHeartbeats 1600000 in
/-- errors.Is(nil, class). -/
theorem is_nil (t : Int) (w : World) :
    Calls Tryz.prog 35 #[.nilIface, .iface 102 (.int .i64 t)] w fun e w' => e = .returned (.bool false) ∧ w' = w := by
  have hn := run_eql_iface_nil_left (P := Tryz.prog) w 102 (.int .i64 t) Tryz.underlying33
  go_enter Tryz.func35, Tryz.ntmps35
  go_wp2
  go_ret
  exact ⟨rfl, rfl⟩

set_option maxHeartbeats 4000000 in
/-- errors.Is at a placed error: by its class. -/
theorem is_placed (p : Nat) (c t : Int) (w : World) (h1 : w.cell? ⟨p, 1, none⟩ = some (.iface 102 (.int .i64 c))) :
    Calls Tryz.prog 35 #[.iface 111 (.pointer (some ⟨p, 0, none⟩)), .iface 102 (.int .i64 t)] w fun e w' => e = .returned (.bool (c == t)) ∧ w' = w := by
  have hTO := @run_callFunc_extern Tryz.prog 66 _ Extern.ReflectliteType.typeOf Tryz.func66 (by kernel_rfl) (by kernel_rfl) (by kernel_rfl) (by kernel_rfl)
  have tT := Tryz.isTypeOfC
  have cT := Tryz.isComparableC
  have mR := Tryz.isMethodComparable
  have nE := Tryz.noIsC
  have uE := Tryz.noUnwrapC
  have vE := Tryz.noUnwrapsC
  have nW := Tryz.noIsP
  have uW := Tryz.hasUnwrapP
  have mU := Tryz.methodUnwrap
  have heq := run_eql_iface_int (P := Tryz.prog) (k := .i64) w c t Tryz.underlying33 Tryz.isCompC Tryz.underlying102
  have hty := run_eql_iface_types (P := Tryz.prog) 111 102 (.pointer (some ⟨p, 0, none⟩)) (.int .i64 t) Tryz.underlying33 (by decide) w
  by_cases hct : (c == t) = true
  · go_enter Tryz.func35, Tryz.ntmps35
    go_wp2
    refine wp_loop_rounds 2 ?_
    rw [rounds_succ]
    go_wp2
    rw [rounds_succ]
    go_wp2
    go_ret
    exact ⟨by rw [hct]; rfl, rfl⟩
  · have hct' : (c == t) = false := by simpa using hct
    go_enter Tryz.func35, Tryz.ntmps35
    go_wp2
    refine wp_loop_rounds 2 ?_
    rw [rounds_succ]
    go_wp2
    rw [rounds_succ]
    go_wp2
    go_ret
    exact ⟨by rw [hct']; rfl, rfl⟩
end Go.Proofs.YtehgoioinogmkaaGreatDoor.Dk
/- Chains of errors: a class behind any number of wraps; errors.Is of them. -/
namespace Go.Proofs.YtehgoioinogmkaaGreatDoor
open Go.RowKit Go.Extern.Stop Go.Stop Go.Extern Go.Lib

/-- An error of class c behind n wraps. -/
def Chn (w : World) (c : Int) : Nat → Value → Prop
  | 0, e => e = .iface 102 (.int .i64 c)
  | n + 1, e => ∃ T p e', (T = 111 ∨ T = 108) ∧ e = .iface T (.pointer (some ⟨p, 0, none⟩)) ∧ p < w.heap.size ∧ w.cell? ⟨p, 1, none⟩ = some e' ∧ Chn w c n e'
theorem Chn.iface {w : World} {c : Int} : ∀ {n : Nat} {v : Value}, Chn w c n v → ∃ T x, v = .iface T x
  | 0, _, h => ⟨_, _, h⟩
  | _ + 1, _, ⟨_, _, _, _, h, _⟩ => ⟨_, _, h⟩
theorem Chn.below {w w' : World} {c : Int} (hb : Below w.heap.size w w') : ∀ {n : Nat} {v : Value}, Chn w c n v → Chn w' c n v
  | 0, _, h => h
  | _ + 1, _, ⟨T, p, e', hT, h1, h2, h3, h4⟩ => ⟨T, p, e', hT, h1, Nat.lt_of_lt_of_le h2 hb.size, (hb.cell (p := ⟨p, 1, none⟩) h2).trans h3, h4.below hb⟩
set_option maxHeartbeats 8000000 in
set_option maxRecDepth 100000 in
theorem is_loop (c t : Int) (n : Nat) (v : Value) (w : World) (hv : Chn w c n v) :
    Calls Tryz.prog 67 #[v, .iface 102 (.int .i64 t), .bool true] w fun e w' => e = .returned (.bool (c == t)) ∧ w' = w := by
  have nE := Dk.Tryz.noIsC
  have uE := Dk.Tryz.noUnwrapC
  have vE := Dk.Tryz.noUnwrapsC
  have heq := run_eql_iface_int (P := Tryz.prog) (k := .i64) w c t Tryz.underlying33 Dk.Tryz.isCompC Tryz.underlying102
  have HV := hide hv
  obtain ⟨T0, x0, rfl⟩ := hv.iface
  clear hv
  go_enter Tryz.func67, Tryz.ntmps67
  go_wp2_with fail
  go_loopg [0] n (fun g s0 wr => w = wr ∧ Hid (Chn w c g s0))
  case atStart => exact ⟨rfl, unhide HV⟩
  case round =>
    clear HV
    obtain ⟨rfl, hc⟩ := hrel
    cases gk with
    | zero =>
      obtain rfl := unhide hc
      clear hc
      by_cases hct : (c == t) = true
      · go_wp2
        go_ret
        exact ⟨by rw [hct]; rfl, rfl⟩
      · have hct' : (c == t) = false := by simpa using hct
        go_wp2
        go_ret
        exact ⟨by rw [hct']; rfl, rfl⟩
    | succ g =>
      obtain ⟨T, p, e', hT, rfl, hp, h1, hr⟩ := unhide hc
      clear hc
      have HR := hide hr
      obtain ⟨T', x', rfl⟩ := hr.iface
      clear hr
      rcases hT with rfl | rfl
      · have nW := Dk.Tryz.noIsP
        have uW := Dk.Tryz.hasUnwrapP
        have mU := Dk.Tryz.methodUnwrap
        have hty := run_eql_iface_types (P := Tryz.prog) 111 102 (.pointer (some ⟨p, 0, none⟩)) (.int .i64 t) Tryz.underlying33 (by decide) w
        go_wp2
        go_roundg g
        case measure => omega
        case rel => exact ⟨rfl, unhide HR⟩
      · have nW := Tryz.noIsP
        have uW := Tryz.hasUnwrapP
        have mU := Tryz.methodUnwrap
        have hty := run_eql_iface_types (P := Tryz.prog) 108 102 (.pointer (some ⟨p, 0, none⟩)) (.int .i64 t) Tryz.underlying33 (by decide) w
        go_wp2
        go_roundg g
        case measure => omega
        case rel => exact ⟨rfl, unhide HR⟩
set_option maxHeartbeats 4000000 in
/-- errors.Is of a chain: by its class. -/
theorem is_chain {c : Int} {n : Nat} {v : Value} {w : World} (t : Int) (hv : Chn w c n v) :
    Calls Tryz.prog 35 #[v, .iface 102 (.int .i64 t)] w fun e w' => e = .returned (.bool (c == t)) ∧ w' = w := by
  have hTO := @run_callFunc_extern Tryz.prog 66 _ Extern.ReflectliteType.typeOf Tryz.func66 (by kernel_rfl) (by kernel_rfl) (by kernel_rfl) (by kernel_rfl)
  have tT := Dk.Tryz.isTypeOfC
  have cT := Dk.Tryz.isComparableC
  have mR := Dk.Tryz.isMethodComparable
  have HL := hide (is_loop c t n v w hv)
  obtain ⟨T, x, rfl⟩ := hv.iface
  clear hv
  go_enter Tryz.func35, Tryz.ntmps35
  go_wp2_with (go_at_call 67; refine (unhide HL).mono ?_; rintro e w1 ⟨rfl, rfl⟩)
  go_ret
  exact ⟨rfl, rfl⟩
end Go.Proofs.YtehgoioinogmkaaGreatDoor
