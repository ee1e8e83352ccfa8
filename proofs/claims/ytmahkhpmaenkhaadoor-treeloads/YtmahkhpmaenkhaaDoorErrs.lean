/- Contracts of errors.Is and errors.As at the errors that the program makes: a *api.Placed that wraps an api.Class. -/
import Derived.WalkKit
import Derived.Test.YtmahkhpmaenkhaaDoorProg
import Derived.LaidEql
import Derived.Stop.Asserts
import Derived.RowKitTokens
import Derived.Lib.IfaceEq
namespace Go.Proofs.YtmahkhpmaenkhaaDoor
open Go.RowKit Go.Extern.Stop Go.Stop Go.Extern Go.Lib

theorem Tryd.isTypeOfC (v : Value) (w : World) : (Extern.ReflectliteType.typeOf #[.iface 60 v]).run Tryd.prog w = .ok (.iface 121 (.agg #[.pointer (some ⟨5, 60, none⟩)])) w := by kernel_rfl
theorem Tryd.isComparableC (w : World) : Sem.run Tryd.prog (callFunc 106 #[.agg #[.pointer (some ⟨5, 60, none⟩)]]) w = .ok (.value (.bool true)) w := by
  have h := @run_callFunc_extern Tryd.prog 106 _ (Extern.ReflectliteType.method fun t => do Rtype.noPackHeld "Comparable" t; pure (.bool (← typeInfo t).comparable)) Tryd.func106 (by kernel_rfl) (by kernel_rfl) (by kernel_rfl) (by kernel_rfl)
  rw [h]
  have e : Sem.run Tryd.prog (Extern.ReflectliteType.method (fun t => do Rtype.noPackHeld "Comparable" t; pure (.bool (← typeInfo t).comparable)) #[.agg #[.pointer (some ⟨5, 60, none⟩)]]) w = .ok (.bool true) w := by kernel_rfl
  rw [e]; rfl
theorem Tryd.isMethodComparable (v : Value) (w : World) : (Go.method 286 121 v "Comparable").run Tryd.prog w = .ok (106, v) w := by kernel_rfl
theorem Tryd.isCompC : (Tryd.prog.info? 60).map (·.comparable) = some true := by kernel_rfl
theorem Tryd.noIsC (v : Value) (xT : TypeId) (w : World) : (Instr.typeAssert (.iface 60 v) xT 123 true).run Tryd.prog w = .ok (.tuple #[.nilIface, .bool false]) w := run_typeAssert_lacksB Tryd.underlying123 (by kernel_rfl) (by kernel_rfl) v xT w
theorem Tryd.noAsC (v : Value) (xT : TypeId) (w : World) : (Instr.typeAssert (.iface 60 v) xT 136 true).run Tryd.prog w = .ok (.tuple #[.nilIface, .bool false]) w := run_typeAssert_lacksB Tryd.underlying136 (by kernel_rfl) (by kernel_rfl) v xT w
theorem Tryd.noUnwrapC (v : Value) (xT : TypeId) (w : World) : (Instr.typeAssert (.iface 60 v) xT 126 true).run Tryd.prog w = .ok (.tuple #[.nilIface, .bool false]) w := run_typeAssert_lacksB Tryd.underlying126 (by kernel_rfl) (by kernel_rfl) v xT w
theorem Tryd.noUnwrapsC (v : Value) (xT : TypeId) (w : World) : (Instr.typeAssert (.iface 60 v) xT 128 true).run Tryd.prog w = .ok (.tuple #[.nilIface, .bool false]) w := run_typeAssert_lacksB Tryd.underlying128 (by kernel_rfl) (by kernel_rfl) v xT w
theorem Tryd.noIsP (v : Value) (xT : TypeId) (w : World) : (Instr.typeAssert (.iface 95 v) xT 123 true).run Tryd.prog w = .ok (.tuple #[.nilIface, .bool false]) w := run_typeAssert_lacksB Tryd.underlying123 (by kernel_rfl) (by kernel_rfl) v xT w
theorem Tryd.noAsP (v : Value) (xT : TypeId) (w : World) : (Instr.typeAssert (.iface 95 v) xT 136 true).run Tryd.prog w = .ok (.tuple #[.nilIface, .bool false]) w := run_typeAssert_lacksB Tryd.underlying136 (by kernel_rfl) (by kernel_rfl) v xT w
theorem Tryd.hasUnwrapP (v : Value) (xT : TypeId) (w : World) : (Instr.typeAssert (.iface 95 v) xT 126 true).run Tryd.prog w = .ok (.tuple #[.iface 95 v, .bool true]) w := run_typeAssert_hasB Tryd.underlying126 (by kernel_rfl) v xT w
theorem Tryd.methodUnwrap (v : Value) (w : World) : (Go.method 286 95 v "Unwrap").run Tryd.prog w = .ok (98, v) w := by kernel_rfl

set_option maxHeartbeats 1600000 in
/-- errors.Is(nil, class). -/
theorem is_nil (t : Int) (w : World) :
    Calls Tryd.prog 21 #[.nilIface, .iface 60 (.int .i64 t)] w fun e w' => e = .returned (.bool false) ∧ w' = w := by
  have hn := run_eql_iface_nil_left (P := Tryd.prog) w 60 (.int .i64 t) Tryd.underlying35
  go_enter Tryd.func21, Tryd.ntmps21
  go_wp2
  go_ret
  exact ⟨rfl, rfl⟩

set_option maxHeartbeats 4000000 in
/-- errors.Is at a placed error: by its class. -/
theorem is_placed (p : Nat) (c t : Int) (w : World) (h1 : w.cell? ⟨p, 1, none⟩ = some (.iface 60 (.int .i64 c))) :
    Calls Tryd.prog 21 #[.iface 95 (.pointer (some ⟨p, 0, none⟩)), .iface 60 (.int .i64 t)] w fun e w' => e = .returned (.bool (c == t)) ∧ w' = w := by
  have hTO := @run_callFunc_extern Tryd.prog 38 _ Extern.ReflectliteType.typeOf Tryd.func38 (by kernel_rfl) (by kernel_rfl) (by kernel_rfl) (by kernel_rfl)
  have tT := Tryd.isTypeOfC
  have cT := Tryd.isComparableC
  have mR := Tryd.isMethodComparable
  have nE := Tryd.noIsC
  have uE := Tryd.noUnwrapC
  have vE := Tryd.noUnwrapsC
  have nW := Tryd.noIsP
  have uW := Tryd.hasUnwrapP
  have mU := Tryd.methodUnwrap
  have heq := run_eql_iface_int (P := Tryd.prog) (k := .i64) w c t Tryd.underlying35 Tryd.isCompC Tryd.underlying60
  have hty := run_eql_iface_types (P := Tryd.prog) 95 60 (.pointer (some ⟨p, 0, none⟩)) (.int .i64 t) Tryd.underlying35 (by decide) w
  by_cases hct : (c == t) = true
  · go_enter Tryd.func21, Tryd.ntmps21
    go_wp2
    refine wp_loop_rounds 2 ?_
    rw [rounds_succ]
    go_wp2
    rw [rounds_succ]
    go_wp2
    go_ret
    exact ⟨by rw [hct]; rfl, rfl⟩
  · have hct' : (c == t) = false := by simpa using hct
    go_enter Tryd.func21, Tryd.ntmps21
    go_wp2
    refine wp_loop_rounds 2 ?_
    rw [rounds_succ]
    go_wp2
    rw [rounds_succ]
    go_wp2
    go_ret
    exact ⟨by rw [hct']; rfl, rfl⟩
end Go.Proofs.YtmahkhpmaenkhaaDoor
