/- Contracts of errors.Is and errors.As at the errors that the program makes: a *api.Placed that wraps an api.Class. -/
import Derived.WalkKit
import Derived.Test.YtehgoioinogmkaaGreatDoorProg
import Derived.LaidEql
import Derived.Stop.Asserts
import Derived.RowKitTokens
import Derived.Lib.IfaceEq
namespace Go.Proofs.YtehgoioinogmkaaGreatDoor
open Go.RowKit Go.Extern.Stop Go.Stop Go.Extern Go.Lib

theorem Tryz.isTypeOfC (v : Value) (w : World) : (Extern.ReflectliteType.typeOf #[.iface 102 v]).run Tryz.prog w = .ok (.iface 218 (.agg #[.pointer (some ⟨2, 102, none⟩)])) w := by kernel_rfl
theorem Tryz.isComparableC (w : World) : Sem.run Tryz.prog (callFunc 262 #[.agg #[.pointer (some ⟨2, 102, none⟩)]]) w = .ok (.value (.bool true)) w := by
  have h := @run_callFunc_extern Tryz.prog 262 _ (Extern.ReflectliteType.method fun t => do Rtype.noPackHeld "Comparable" t; pure (.bool (← typeInfo t).comparable)) Tryz.func262 (by kernel_rfl) (by kernel_rfl) (by kernel_rfl) (by kernel_rfl)
  rw [h]
  have e : Sem.run Tryz.prog (Extern.ReflectliteType.method (fun t => do Rtype.noPackHeld "Comparable" t; pure (.bool (← typeInfo t).comparable)) #[.agg #[.pointer (some ⟨2, 102, none⟩)]]) w = .ok (.bool true) w := by kernel_rfl
  rw [e]; rfl
theorem Tryz.isMethodComparable (v : Value) (w : World) : (Go.method 450 218 v "Comparable").run Tryz.prog w = .ok (262, v) w := by kernel_rfl
theorem Tryz.isCompC : (Tryz.prog.info? 102).map (·.comparable) = some true := by kernel_rfl
theorem Tryz.noIsC (v : Value) (xT : TypeId) (w : World) : (Instr.typeAssert (.iface 102 v) xT 230 true).run Tryz.prog w = .ok (.tuple #[.nilIface, .bool false]) w := run_typeAssert_lacksB Tryz.underlying230 (by kernel_rfl) (by kernel_rfl) v xT w
theorem Tryz.noUnwrapC (v : Value) (xT : TypeId) (w : World) : (Instr.typeAssert (.iface 102 v) xT 225 true).run Tryz.prog w = .ok (.tuple #[.nilIface, .bool false]) w := run_typeAssert_lacksB Tryz.underlying225 (by kernel_rfl) (by kernel_rfl) v xT w
theorem Tryz.noUnwrapsC (v : Value) (xT : TypeId) (w : World) : (Instr.typeAssert (.iface 102 v) xT 227 true).run Tryz.prog w = .ok (.tuple #[.nilIface, .bool false]) w := run_typeAssert_lacksB Tryz.underlying227 (by kernel_rfl) (by kernel_rfl) v xT w
theorem Tryz.noIsP (v : Value) (xT : TypeId) (w : World) : (Instr.typeAssert (.iface 108 v) xT 230 true).run Tryz.prog w = .ok (.tuple #[.nilIface, .bool false]) w := run_typeAssert_lacksB Tryz.underlying230 (by kernel_rfl) (by kernel_rfl) v xT w
theorem Tryz.hasUnwrapP (v : Value) (xT : TypeId) (w : World) : (Instr.typeAssert (.iface 108 v) xT 225 true).run Tryz.prog w = .ok (.tuple #[.iface 108 v, .bool true]) w := run_typeAssert_hasB Tryz.underlying225 (by kernel_rfl) v xT w
theorem Tryz.methodUnwrap (v : Value) (w : World) : (Go.method 450 108 v "Unwrap").run Tryz.prog w = .ok (254, v) w := by kernel_rfl

set_option maxHeartbeats 1600000 in
/-- errors.Is(nil, class). -/
theorem is_nil (t : Int) (w : World) :
    Calls Tryz.prog 35 #[.nilIface, .iface 102 (.int .i64 t)] w fun e w' => e = .returned (.bool false) ∧ w' = w := by
  have hn := run_eql_iface_nil_left (P := Tryz.prog) w 102 (.int .i64 t) Tryz.underlying33
  go_enter Tryz.func35, Tryz.ntmps35
  go_wp2
  go_ret
  exact ⟨rfl, rfl⟩

set_option maxHeartbeats 4000000 in
/-- errors.Is at a placed error: by its class. -/
theorem is_placed (p : Nat) (c t : Int) (w : World) (h1 : w.cell? ⟨p, 1, none⟩ = some (.iface 102 (.int .i64 c))) :
    Calls Tryz.prog 35 #[.iface 108 (.pointer (some ⟨p, 0, none⟩)), .iface 102 (.int .i64 t)] w fun e w' => e = .returned (.bool (c == t)) ∧ w' = w := by
  have hTO := @run_callFunc_extern Tryz.prog 66 _ Extern.ReflectliteType.typeOf Tryz.func66 (by kernel_rfl) (by kernel_rfl) (by kernel_rfl) (by kernel_rfl)
  have tT := Tryz.isTypeOfC
  have cT := Tryz.isComparableC
  have mR := Tryz.isMethodComparable
  have nE := Tryz.noIsC
  have uE := Tryz.noUnwrapC
  have vE := Tryz.noUnwrapsC
  have nW := Tryz.noIsP
  have uW := Tryz.hasUnwrapP
  have mU := Tryz.methodUnwrap
  have heq := run_eql_iface_int (P := Tryz.prog) (k := .i64) w c t Tryz.underlying33 Tryz.isCompC Tryz.underlying102
  have hty := run_eql_iface_types (P := Tryz.prog) 108 102 (.pointer (some ⟨p, 0, none⟩)) (.int .i64 t) Tryz.underlying33 (by decide) w
  by_cases hct : (c == t) = true
  · go_enter Tryz.func35, Tryz.ntmps35
    go_wp2
    refine wp_loop_rounds 2 ?_
    rw [rounds_succ]
    go_wp2
    rw [rounds_succ]
    go_wp2
    go_ret
    exact ⟨by rw [hct]; rfl, rfl⟩
  · have hct' : (c == t) = false := by simpa using hct
    go_enter Tryz.func35, Tryz.ntmps35
    go_wp2
    refine wp_loop_rounds 2 ?_
    rw [rounds_succ]
    go_wp2
    rw [rounds_succ]
    go_wp2
    go_ret
    exact ⟨by rw [hct']; rfl, rfl⟩
end Go.Proofs.YtehgoioinogmkaaGreatDoor
/- Contract of errors.As at the errors that the program makes, for the targets *api.Class and **api.Placed. -/
namespace Go.Proofs.YtehgoioinogmkaaGreatDoor
open Go.RowKit Go.Extern.Stop Go.Stop Go.Extern Go.Lib

theorem rlm (v : Value) (f : Value → Sem Value) (g : Array Value → Sem Value) : ReflectliteValue.method.match_2 (fun _ => Sem Value) #[v] f g = f v := rfl
theorem rls (v x : Value) (f : Value → Value → Sem Value) (g : Array Value → Sem Value) : ReflectliteValue.set.match_3 (fun _ => Sem Value) #[v, x] f g = f v x := rfl
theorem Tryz.methodKind (h : Value) (w : World) : (Go.method 450 218 (.agg #[h]) "Kind").run Tryz.prog w = .ok (249, h) w := by kernel_rfl
theorem Tryz.methodElem (h : Value) (w : World) : (Go.method 450 218 (.agg #[h]) "Elem").run Tryz.prog w = .ok (263, .agg #[h]) w := by kernel_rfl
theorem Tryz.methodImplements (h : Value) (w : World) : (Go.method 450 218 (.agg #[h]) "Implements").run Tryz.prog w = .ok (264, .agg #[h]) w := by kernel_rfl
theorem Tryz.methodAssignableTo (h : Value) (w : World) : (Go.method 450 218 (.agg #[h]) "AssignableTo").run Tryz.prog w = .ok (261, .agg #[h]) w := by kernel_rfl

/- target: 114 -/
/- target: 104 -/
theorem Tryz.valueOf_C (t : Addr) (w : World) : (ReflectliteValue.unpack (.iface 104 (.pointer (some t)))).run Tryz.prog w
    = .ok (.agg #[.pointer (some ⟨2, 104, none⟩), .pointer (some ⟨w.heap.size, 0, none⟩), .int .u64 150]) (w.alloc (.cells #[.pointer (some t)] 104)) := by kernel_rfl
theorem Tryz.type_C (a : Addr) (w : World) : (ReflectliteValue.methodAny (ReflectliteValue.valueError "reflectlite.Value.Type" 0) (fun t _ _ _ => ReflectliteType.toType t) #[.agg #[.pointer (some ⟨2, 104, none⟩), .pointer (some a), .int .u64 150]]).run Tryz.prog w
    = .ok (.iface 218 (.agg #[.pointer (some ⟨2, 104, none⟩)])) w := by kernel_rfl
theorem Tryz.kindP_C (w : World) : ((ReflectliteType.abiMethod fun t => Functor.map (fun a : Nat => Value.int IntKind.u8 (a : Int)) (Rtype.kind t)) #[.pointer (some ⟨2, 104, none⟩)]).run Tryz.prog w = .ok (.int .u8 22) w := by kernel_rfl
theorem Tryz.kindE_C (w : World) : ((ReflectliteType.abiMethod fun t => Functor.map (fun a : Nat => Value.int IntKind.u8 (a : Int)) (Rtype.kind t)) #[.pointer (some ⟨2, 102, none⟩)]).run Tryz.prog w = .ok (.int .u8 2) w := by kernel_rfl
theorem Tryz.partsP_C (a : Addr) (w : World) : (ReflectliteValue.parts (.agg #[.pointer (some ⟨2, 104, none⟩), .pointer (some a), .int .u64 150])).run Tryz.prog w = .ok (some (104, a, 150)) w := by kernel_rfl
theorem Tryz.isNil_C (a p : Addr) (W : World) (ha : W.cell? a = some (.pointer (some p))) :
    (ReflectliteValue.method (ReflectliteValue.valueError "reflectlite.Value.IsNil" 0) ReflectliteValue.isNil #[.agg #[.pointer (some ⟨2, 104, none⟩), .pointer (some a), .int .u64 150]]).run Tryz.prog W = .ok (.bool false) W := by
  delta ReflectliteValue.method
  rw [rlm]
  simp only [Sem.run_bind, Tryz.partsP_C, Result.andThen]
  simp [ReflectliteValue.isNil, loadVar, isAgg, underlying, Tryz.underlying104, ha, Result.andThen]
theorem Tryz.elem_C (w : World) : (ReflectliteType.method ReflectliteType.elem #[.agg #[.pointer (some ⟨2, 104, none⟩)]]).run Tryz.prog w = .ok (.iface 218 (.agg #[.pointer (some ⟨2, 102, none⟩)])) w := by kernel_rfl
theorem Tryz.implements_C (w : World) : (ReflectliteType.relation "Implements" ReflectliteType.implements_ #[.agg #[.pointer (some ⟨2, 102, none⟩)], .iface 218 (.agg #[.pointer (some ⟨2, 33, none⟩)])]).run Tryz.prog w = .ok (.bool true) w := by kernel_rfl
theorem Tryz.typeOf_C (v : Value) (w : World) : (ReflectliteType.typeOf #[.iface 102 v]).run Tryz.prog w = .ok (.iface 218 (.agg #[.pointer (some ⟨2, 102, none⟩)])) w := by kernel_rfl
theorem Tryz.assignable_C (w : World) : (ReflectliteType.relation "AssignableTo" ReflectliteType.assignableTo #[.agg #[.pointer (some ⟨2, 102, none⟩)], .iface 218 (.agg #[.pointer (some ⟨2, 102, none⟩)])]).run Tryz.prog w = .ok (.bool true) w := by kernel_rfl
theorem Tryz.valueOfE_C (c : Int) (w : World) : (ReflectliteValue.unpack (.iface 102 (.int .i64 c))).run Tryz.prog w
    = .ok (.agg #[.pointer (some ⟨2, 102, none⟩), .pointer (some ⟨w.heap.size, 0, none⟩), .int .u64 130]) (w.alloc (.cells #[(.int .i64 c)] 102)) := by kernel_rfl
theorem Tryz.elemOf_C (w : World) : (Rtype.elem? 104).run Tryz.prog w = .ok (some 102) w := by kernel_rfl
theorem Tryz.mk_C (p : Addr) (w : World) : (ReflectliteValue.mk 102 p ReflectliteValue.flagAddr).run Tryz.prog w = .ok (.agg #[.pointer (some ⟨2, 102, none⟩), .pointer (some p), .int .u64 386]) w := by kernel_rfl
theorem Tryz.elemV_C (a p : Addr) (W : World) (ha : W.cell? a = some (.pointer (some p))) :
    (ReflectliteValue.method (ReflectliteValue.valueError "reflectlite.Value.Elem" 0) ReflectliteValue.elem #[.agg #[.pointer (some ⟨2, 104, none⟩), .pointer (some a), .int .u64 150]]).run Tryz.prog W
      = .ok (.agg #[.pointer (some ⟨2, 102, none⟩), .pointer (some p), .int .u64 386]) W := by
  delta ReflectliteValue.method
  rw [rlm]
  simp only [Sem.run_bind, Tryz.partsP_C, Result.andThen]
  simp [ReflectliteValue.elem, loadVar, isAgg, underlying, Tryz.underlying104, ha, Result.andThen, Tryz.elemOf_C, Tryz.mk_C]
theorem Tryz.partsA_C (a : Addr) (w : World) : (ReflectliteValue.parts (.agg #[.pointer (some ⟨2, 102, none⟩), .pointer (some a), .int .u64 386])).run Tryz.prog w = .ok (some (102, a, 386)) w := by kernel_rfl
theorem Tryz.partsE_C (a : Addr) (w : World) : (ReflectliteValue.parts (.agg #[.pointer (some ⟨2, 102, none⟩), .pointer (some a), .int .u64 130])).run Tryz.prog w = .ok (some (102, a, 130)) w := by kernel_rfl
theorem Tryz.direct_C (w : World) : (Rtype.directlyAssignable 102 102).run Tryz.prog w = .ok true w := by kernel_rfl
theorem Tryz.set_C (ta b : Addr) (c : Int) (old : Value) (W : World) (hb : W.cell? b = some (.int .i64 c)) (ht : W.cell? ta = some old) (hf : W.frozen? ta = false) :
    (ReflectliteValue.set #[.agg #[.pointer (some ⟨2, 102, none⟩), .pointer (some ta), .int .u64 386], .agg #[.pointer (some ⟨2, 102, none⟩), .pointer (some b), .int .u64 130]]).run Tryz.prog W
      = .ok (.tuple #[]) (W.setCell ta (.int .i64 c)) := by
  delta ReflectliteValue.set
  rw [rls]
  simp only [Sem.run_bind, Tryz.partsA_C, Tryz.partsE_C, Result.andThen]
  simp [ReflectliteValue.flagAddr, loadVar, isAgg, underlying, Tryz.underlying102, hb, Result.andThen, Tryz.direct_C, storeVar, Value.cells, storeCells, Addr.add]
  rw [run_store Tryz.prog W ta _ _ (by rfl)]
  simp [ht, hf]

end Go.Proofs.YtehgoioinogmkaaGreatDoor
