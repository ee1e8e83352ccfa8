/- Contracts of errors.Is and errors.As at the errors that the program makes: a *api.Placed that wraps an api.Class. -/
import Derived.WalkKit
import Derived.Test.YtobonbjeejbhoaaDoorProg
import Derived.LaidEql
import Derived.Stop.Asserts
import Derived.RowKitTokens
import Derived.Lib.IfaceEq
namespace Go.Proofs.YtobonbjeejbhoaaDoor
open Go.RowKit Go.Extern.Stop Go.Stop Go.Extern Go.Lib

theorem Tryd.isTypeOfC (v : Value) (w : World) : (Extern.ReflectliteType.typeOf #[.iface 48 v]).run Tryd.prog w = .ok (.iface 95 (.agg #[.pointer (some ⟨2, 48, none⟩)])) w := by kernel_rfl
theorem Tryd.isComparableC (w : World) : Sem.run Tryd.prog (callFunc 99 #[.agg #[.pointer (some ⟨2, 48, none⟩)]]) w = .ok (.value (.bool true)) w := by
  have h := @run_callFunc_extern Tryd.prog 99 _ (Extern.ReflectliteType.method fun t => do Rtype.noPackHeld "Comparable" t; pure (.bool (← typeInfo t).comparable)) Tryd.func99 (by kernel_rfl) (by kernel_rfl) (by kernel_rfl) (by kernel_rfl)
  rw [h]
  have e : Sem.run Tryd.prog (Extern.ReflectliteType.method (fun t => do Rtype.noPackHeld "Comparable" t; pure (.bool (← typeInfo t).comparable)) #[.agg #[.pointer (some ⟨2, 48, none⟩)]]) w = .ok (.bool true) w := by kernel_rfl
  rw [e]; rfl
theorem Tryd.isMethodComparable (v : Value) (w : World) : (Go.method 257 95 v "Comparable").run Tryd.prog w = .ok (99, v) w := by kernel_rfl
theorem Tryd.isCompC : (Tryd.prog.info? 48).map (·.comparable) = some true := by kernel_rfl
theorem Tryd.noIsC (v : Value) (xT : TypeId) (w : World) : (Instr.typeAssert (.iface 48 v) xT 107 true).run Tryd.prog w = .ok (.tuple #[.nilIface, .bool false]) w := run_typeAssert_lacksB Tryd.underlying107 (by kernel_rfl) (by kernel_rfl) v xT w
theorem Tryd.noAsC (v : Value) (xT : TypeId) (w : World) : (Instr.typeAssert (.iface 48 v) xT 99 true).run Tryd.prog w = .ok (.tuple #[.nilIface, .bool false]) w := run_typeAssert_lacksB Tryd.underlying99 (by kernel_rfl) (by kernel_rfl) v xT w
theorem Tryd.noUnwrapC (v : Value) (xT : TypeId) (w : World) : (Instr.typeAssert (.iface 48 v) xT 102 true).run Tryd.prog w = .ok (.tuple #[.nilIface, .bool false]) w := run_typeAssert_lacksB Tryd.underlying102 (by kernel_rfl) (by kernel_rfl) v xT w
theorem Tryd.noUnwrapsC (v : Value) (xT : TypeId) (w : World) : (Instr.typeAssert (.iface 48 v) xT 104 true).run Tryd.prog w = .ok (.tuple #[.nilIface, .bool false]) w := run_typeAssert_lacksB Tryd.underlying104 (by kernel_rfl) (by kernel_rfl) v xT w
theorem Tryd.noIsP (v : Value) (xT : TypeId) (w : World) : (Instr.typeAssert (.iface 124 v) xT 107 true).run Tryd.prog w = .ok (.tuple #[.nilIface, .bool false]) w := run_typeAssert_lacksB Tryd.underlying107 (by kernel_rfl) (by kernel_rfl) v xT w
theorem Tryd.noAsP (v : Value) (xT : TypeId) (w : World) : (Instr.typeAssert (.iface 124 v) xT 99 true).run Tryd.prog w = .ok (.tuple #[.nilIface, .bool false]) w := run_typeAssert_lacksB Tryd.underlying99 (by kernel_rfl) (by kernel_rfl) v xT w
theorem Tryd.hasUnwrapP (v : Value) (xT : TypeId) (w : World) : (Instr.typeAssert (.iface 124 v) xT 102 true).run Tryd.prog w = .ok (.tuple #[.iface 124 v, .bool true]) w := run_typeAssert_hasB Tryd.underlying102 (by kernel_rfl) v xT w
theorem Tryd.methodUnwrap (v : Value) (w : World) : (Go.method 257 124 v "Unwrap").run Tryd.prog w = .ok (109, v) w := by kernel_rfl

set_option maxHeartbeats 1600000 in
/-- errors.Is(nil, class). -/
theorem is_nil (t : Int) (w : World) :
    Calls Tryd.prog 29 #[.nilIface, .iface 48 (.int .i64 t)] w fun e w' => e = .returned (.bool false) ∧ w' = w := by
  have hn := run_eql_iface_nil_left (P := Tryd.prog) w 48 (.int .i64 t) Tryd.underlying27
  go_enter Tryd.func29, Tryd.ntmps29
  go_wp2
  go_ret
  exact ⟨rfl, rfl⟩

set_option maxHeartbeats 4000000 in
/-- errors.Is at a placed error: by its class. -/
theorem is_placed (p : Nat) (c t : Int) (w : World) (h1 : w.cell? ⟨p, 1, none⟩ = some (.iface 48 (.int .i64 c))) :
    Calls Tryd.prog 29 #[.iface 124 (.pointer (some ⟨p, 0, none⟩)), .iface 48 (.int .i64 t)] w fun e w' => e = .returned (.bool (c == t)) ∧ w' = w := by
  have hTO := @run_callFunc_extern Tryd.prog 45 _ Extern.ReflectliteType.typeOf Tryd.func45 (by kernel_rfl) (by kernel_rfl) (by kernel_rfl) (by kernel_rfl)
  have tT := Tryd.isTypeOfC
  have cT := Tryd.isComparableC
  have mR := Tryd.isMethodComparable
  have nE := Tryd.noIsC
  have uE := Tryd.noUnwrapC
  have vE := Tryd.noUnwrapsC
  have nW := Tryd.noIsP
  have uW := Tryd.hasUnwrapP
  have mU := Tryd.methodUnwrap
  have heq := run_eql_iface_int (P := Tryd.prog) (k := .i64) w c t Tryd.underlying27 Tryd.isCompC Tryd.underlying48
  have hty := run_eql_iface_types (P := Tryd.prog) 124 48 (.pointer (some ⟨p, 0, none⟩)) (.int .i64 t) Tryd.underlying27 (by decide) w
  by_cases hct : (c == t) = true
  · go_enter Tryd.func29, Tryd.ntmps29
    go_wp2
    refine wp_loop_rounds 2 ?_
    rw [rounds_succ]
    go_wp2
    rw [rounds_succ]
    go_wp2
    go_ret
    exact ⟨by rw [hct]; rfl, rfl⟩
  · have hct' : (c == t) = false := by simpa using hct
    go_enter Tryd.func29, Tryd.ntmps29
    go_wp2
    refine wp_loop_rounds 2 ?_
    rw [rounds_succ]
    go_wp2
    rw [rounds_succ]
    go_wp2
    go_ret
    exact ⟨by rw [hct']; rfl, rfl⟩
end Go.Proofs.YtobonbjeejbhoaaDoor
