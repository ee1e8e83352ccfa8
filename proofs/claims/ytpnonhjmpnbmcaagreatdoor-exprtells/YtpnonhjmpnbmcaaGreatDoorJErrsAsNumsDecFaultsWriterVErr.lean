/- Contracts of errors.Is and errors.As at the errors that the program makes: a *api.Placed that wraps an api.Class. -/
import Derived.WalkKit
import Derived.Test.YtpnonhjmpnbmcaaGreatDoorProg
import Derived.LaidEql
import Derived.Stop.Asserts
import Derived.RowKitTokens
import Derived.Lib.IfaceEq
import Derived.Test.YtpnonhjmpnbmcaaGreatDoorJPlainLMathLMath2LMath3XLex1XLex2NBigListOpsListOp2ListOp3
import Derived.Deep.RegionWith
import Derived.Lib.AppendStr
namespace Go.Proofs.YtpnonhjmpnbmcaaGreatDoor
open Go.RowKit Go.Extern.Stop Go.Stop Go.Extern Go.Lib
open Act (put)
set_option maxHeartbeats 4000000
set_option maxRecDepth 100000
theorem Tryz.isTypeOfC (v:Value) (w:World):(Extern.ReflectliteType.typeOf #[.iface 95 v]).run Tryz.prog w=.ok (.iface 203 (.agg #[.pointer (some ⟨2,95,none⟩)])) w:=by kernel_rfl
theorem Tryz.isComparableC (w:World):Sem.run Tryz.prog (callFunc 252 #[.agg #[.pointer (some ⟨2,95,none⟩)]]) w=.ok (.value (.bool true)) w:=by
 have h := @run_callFunc_extern Tryz.prog 252 _ (Extern.ReflectliteType.method fun t => do Rtype.noPackHeld "Comparable" t; pure (.bool (← typeInfo t).comparable)) Tryz.func252 (by kernel_rfl) (by kernel_rfl) (by kernel_rfl) (by kernel_rfl)
 rw [h]
 have e : Sem.run Tryz.prog (Extern.ReflectliteType.method (fun t => do Rtype.noPackHeld "Comparable" t; pure (.bool (← typeInfo t).comparable)) #[.agg #[.pointer (some ⟨2, 95, none⟩)]]) w = .ok (.bool true) w := by kernel_rfl
 rw [e];rfl
theorem Tryz.isMethodComparable (v : Value) (w : World) : (Go.method 441 203 v "Comparable").run Tryz.prog w = .ok (252, v) w := by kernel_rfl
theorem Tryz.isCompC:(Tryz.prog.info? 95).map (·.comparable)=some true:=by kernel_rfl
theorem Tryz.noIsC (v:Value) (xT:TypeId) (w:World):(Instr.typeAssert (.iface 95 v) xT 215 true).run Tryz.prog w=.ok (.tuple #[.nilIface,.bool false]) w:=run_typeAssert_lacksB Tryz.underlying215 (by kernel_rfl) (by kernel_rfl) v xT w
theorem Tryz.noUnwrapC (v:Value) (xT:TypeId) (w:World):(Instr.typeAssert (.iface 95 v) xT 210 true).run Tryz.prog w=.ok (.tuple #[.nilIface,.bool false]) w:=run_typeAssert_lacksB Tryz.underlying210 (by kernel_rfl) (by kernel_rfl) v xT w
theorem Tryz.noUnwrapsC (v:Value) (xT:TypeId) (w:World):(Instr.typeAssert (.iface 95 v) xT 212 true).run Tryz.prog w=.ok (.tuple #[.nilIface,.bool false]) w:=run_typeAssert_lacksB Tryz.underlying212 (by kernel_rfl) (by kernel_rfl) v xT w
theorem Tryz.noIsP (v:Value) (xT:TypeId) (w:World):(Instr.typeAssert (.iface 308 v) xT 215 true).run Tryz.prog w=.ok (.tuple #[.nilIface,.bool false]) w:=run_typeAssert_lacksB Tryz.underlying215 (by kernel_rfl) (by kernel_rfl) v xT w
theorem Tryz.hasUnwrapP (v:Value) (xT:TypeId) (w:World):(Instr.typeAssert (.iface 308 v) xT 210 true).run Tryz.prog w=.ok (.tuple #[.iface 308 v,.bool true]) w:=run_typeAssert_hasB Tryz.underlying210 (by kernel_rfl) v xT w
theorem Tryz.methodUnwrap (v : Value) (w : World) : (Go.method 441 308 v "Unwrap").run Tryz.prog w = .ok (262, v) w := by kernel_rfl
/-- errors.Is(nil, class). -/
theorem is_nil (t:Int) (w:World) :
 Calls Tryz.prog 27 #[.nilIface,.iface 95 (.int .i64 t)] w fun e w'=>e=.returned (.bool false)∧w'=w:=by
 have hn:=run_eql_iface_nil_left (P:=Tryz.prog) w 95 (.int .i64 t) Tryz.underlying33
 go_enter Tryz.func27,Tryz.ntmps27
 go_wp2
 go_ret
 exact ⟨rfl,rfl⟩
/-- errors.Is at a placed error: by its class. -/
theorem is_placed (p:Nat) (c t:Int) (w:World) (h1:w.cell? ⟨p,1,none⟩=some (.iface 95 (.int .i64 c))) :
 Calls Tryz.prog 27 #[.iface 308 (.pointer (some ⟨p,0,none⟩)),.iface 95 (.int .i64 t)] w fun e w'=>e=.returned (.bool (c == t))∧w'=w:=by
 have hTO:=@run_callFunc_extern Tryz.prog 58 _ Extern.ReflectliteType.typeOf Tryz.func58 (by kernel_rfl) (by kernel_rfl) (by kernel_rfl) (by kernel_rfl)
 have tT:=Tryz.isTypeOfC
 have cT:=Tryz.isComparableC
 have mR:=Tryz.isMethodComparable
 have nE:=Tryz.noIsC
 have uE:=Tryz.noUnwrapC
 have vE:=Tryz.noUnwrapsC
 have nW:=Tryz.noIsP
 have uW:=Tryz.hasUnwrapP
 have mU:=Tryz.methodUnwrap
 have heq:=run_eql_iface_int (P:=Tryz.prog) (k:=.i64) w c t Tryz.underlying33 Tryz.isCompC Tryz.underlying95
 have hty:=run_eql_iface_types (P:=Tryz.prog) 308 95 (.pointer (some ⟨p,0,none⟩)) (.int .i64 t) Tryz.underlying33 (by decide) w
 by_cases hct:(c == t)=true
 · go_enter Tryz.func27,Tryz.ntmps27
   go_wp2
   refine wp_loop_rounds 2 ?_
   rw [rounds_succ]
   go_wp2
   rw [rounds_succ]
   go_wp2
   go_ret
   exact ⟨by rw [hct];rfl,rfl⟩
 · have hct':(c == t)=false:=by simpa using hct
   go_enter Tryz.func27,Tryz.ntmps27
   go_wp2
   refine wp_loop_rounds 2 ?_
   rw [rounds_succ]
   go_wp2
   rw [rounds_succ]
   go_wp2
   go_ret
   exact ⟨by rw [hct'];rfl,rfl⟩
theorem rlm (v:Value) (f:Value→Sem Value) (g:Array Value→Sem Value):ReflectliteValue.method.match_2 (fun _=>Sem Value) #[v] f g=f v:=rfl
theorem rls (v x:Value) (f:Value→Value→Sem Value) (g:Array Value→Sem Value):ReflectliteValue.set.match_3 (fun _=>Sem Value) #[v,x] f g=f v x:=rfl
theorem Tryz.methodKind (h : Value) (w : World) : (Go.method 441 203 (.agg #[h]) "Kind").run Tryz.prog w = .ok (243, h) w := by kernel_rfl
theorem Tryz.methodElem (h : Value) (w : World) : (Go.method 441 203 (.agg #[h]) "Elem").run Tryz.prog w = .ok (253, .agg #[h]) w := by kernel_rfl
theorem Tryz.methodImplements (h : Value) (w : World) : (Go.method 441 203 (.agg #[h]) "Implements").run Tryz.prog w = .ok (254, .agg #[h]) w := by kernel_rfl
theorem Tryz.methodAssignableTo (h : Value) (w : World) : (Go.method 441 203 (.agg #[h]) "AssignableTo").run Tryz.prog w = .ok (251, .agg #[h]) w := by kernel_rfl
/- target: 97 -/
theorem Tryz.valueOf_C (t:Addr) (w:World):(ReflectliteValue.unpack (.iface 97 (.pointer (some t)))).run Tryz.prog w
 = .ok (.agg #[.pointer (some ⟨2,97,none⟩),.pointer (some ⟨w.heap.size,0,none⟩),.int .u64 150]) (w.alloc (.cells #[.pointer (some t)] 97)):=by kernel_rfl
theorem Tryz.type_C (a : Addr) (w : World) : (ReflectliteValue.methodAny (ReflectliteValue.valueError "reflectlite.Value.Type" 0) (fun t _ _ _ => ReflectliteType.toType t) #[.agg #[.pointer (some ⟨2, 97, none⟩), .pointer (some a), .int .u64 150]]).run Tryz.prog w
 = .ok (.iface 203 (.agg #[.pointer (some ⟨2,97,none⟩)])) w:=by kernel_rfl
theorem Tryz.kindP_C (w:World):((ReflectliteType.abiMethod fun t=>Functor.map (fun a:Nat=>Value.int IntKind.u8 (a:Int)) (Rtype.kind t)) #[.pointer (some ⟨2,97,none⟩)]).run Tryz.prog w=.ok (.int .u8 22) w:=by kernel_rfl
theorem Tryz.kindE_C (w:World):((ReflectliteType.abiMethod fun t=>Functor.map (fun a:Nat=>Value.int IntKind.u8 (a:Int)) (Rtype.kind t)) #[.pointer (some ⟨2,95,none⟩)]).run Tryz.prog w=.ok (.int .u8 2) w:=by kernel_rfl
theorem Tryz.partsP_C (a:Addr) (w:World):(ReflectliteValue.parts (.agg #[.pointer (some ⟨2,97,none⟩),.pointer (some a),.int .u64 150])).run Tryz.prog w=.ok (some (97,a,150)) w:=by kernel_rfl
theorem Tryz.isNil_C (a p:Addr) (W:World) (ha:W.cell? a=some (.pointer (some p))) :
 (ReflectliteValue.method (ReflectliteValue.valueError "reflectlite.Value.IsNil" 0) ReflectliteValue.isNil #[.agg #[.pointer (some ⟨2, 97, none⟩), .pointer (some a), .int .u64 150]]).run Tryz.prog W = .ok (.bool false) W := by
 delta ReflectliteValue.method
 rw [rlm]
 simp only[Sem.run_bind,Tryz.partsP_C,Result.andThen]
 simp [ReflectliteValue.isNil,loadVar,isAgg,underlying,Tryz.underlying97,ha,Result.andThen]
theorem Tryz.elem_C (w:World):(ReflectliteType.method ReflectliteType.elem #[.agg #[.pointer (some ⟨2,97,none⟩)]]).run Tryz.prog w=.ok (.iface 203 (.agg #[.pointer (some ⟨2,95,none⟩)])) w:=by kernel_rfl
theorem Tryz.implements_C (w : World) : (ReflectliteType.relation "Implements" ReflectliteType.implements_ #[.agg #[.pointer (some ⟨2, 95, none⟩)], .iface 203 (.agg #[.pointer (some ⟨2, 33, none⟩)])]).run Tryz.prog w = .ok (.bool true) w := by kernel_rfl
theorem Tryz.typeOf_C (v:Value) (w:World):(ReflectliteType.typeOf #[.iface 95 v]).run Tryz.prog w=.ok (.iface 203 (.agg #[.pointer (some ⟨2,95,none⟩)])) w:=by kernel_rfl
theorem Tryz.assignable_C (w : World) : (ReflectliteType.relation "AssignableTo" ReflectliteType.assignableTo #[.agg #[.pointer (some ⟨2, 95, none⟩)], .iface 203 (.agg #[.pointer (some ⟨2, 95, none⟩)])]).run Tryz.prog w = .ok (.bool true) w := by kernel_rfl
theorem Tryz.valueOfE_C (c:Int) (w:World):(ReflectliteValue.unpack (.iface 95 (.int .i64 c))).run Tryz.prog w
 = .ok (.agg #[.pointer (some ⟨2,95,none⟩),.pointer (some ⟨w.heap.size,0,none⟩),.int .u64 130]) (w.alloc (.cells #[(.int .i64 c)] 95)):=by kernel_rfl
theorem Tryz.elemOf_C (w:World):(Rtype.elem? 97).run Tryz.prog w=.ok (some 95) w:=by kernel_rfl
theorem Tryz.mk_C (p:Addr) (w:World):(ReflectliteValue.mk 95 p ReflectliteValue.flagAddr).run Tryz.prog w=.ok (.agg #[.pointer (some ⟨2,95,none⟩),.pointer (some p),.int .u64 386]) w:=by kernel_rfl
theorem Tryz.elemV_C (a p:Addr) (W:World) (ha:W.cell? a=some (.pointer (some p))) :
 (ReflectliteValue.method (ReflectliteValue.valueError "reflectlite.Value.Elem" 0) ReflectliteValue.elem #[.agg #[.pointer (some ⟨2, 97, none⟩), .pointer (some a), .int .u64 150]]).run Tryz.prog W
  = .ok (.agg #[.pointer (some ⟨2,95,none⟩),.pointer (some p),.int .u64 386]) W:=by
 delta ReflectliteValue.method
 rw [rlm]
 simp only[Sem.run_bind,Tryz.partsP_C,Result.andThen]
 simp [ReflectliteValue.elem,loadVar,isAgg,underlying,Tryz.underlying97,ha,Result.andThen,Tryz.elemOf_C,Tryz.mk_C]
theorem Tryz.partsA_C (a:Addr) (w:World):(ReflectliteValue.parts (.agg #[.pointer (some ⟨2,95,none⟩),.pointer (some a),.int .u64 386])).run Tryz.prog w=.ok (some (95,a,386)) w:=by kernel_rfl
theorem Tryz.partsE_C (a:Addr) (w:World):(ReflectliteValue.parts (.agg #[.pointer (some ⟨2,95,none⟩),.pointer (some a),.int .u64 130])).run Tryz.prog w=.ok (some (95,a,130)) w:=by kernel_rfl
theorem Tryz.direct_C (w:World):(Rtype.directlyAssignable 95 95).run Tryz.prog w=.ok true w:=by kernel_rfl
theorem Tryz.set_C (ta b:Addr) (c:Int) (old:Value) (W:World) (hb:W.cell? b=some (.int .i64 c)) (ht:W.cell? ta=some old) (hf:W.frozen? ta=false) :
 (ReflectliteValue.set #[.agg #[.pointer (some ⟨2,95,none⟩),.pointer (some ta),.int .u64 386],.agg #[.pointer (some ⟨2,95,none⟩),.pointer (some b),.int .u64 130]]).run Tryz.prog W
  = .ok (.tuple #[]) (W.setCell ta (.int .i64 c)):=by
 delta ReflectliteValue.set
 rw [rls]
 simp only[Sem.run_bind,Tryz.partsA_C,Tryz.partsE_C,Result.andThen]
 simp [ReflectliteValue.flagAddr,loadVar,isAgg,underlying,Tryz.underlying95,hb,Result.andThen,Tryz.direct_C,storeVar,Value.cells,storeCells,Addr.add]
 rw [run_store Tryz.prog W ta _ _ (by rfl)]
 simp [ht,hf]
end Go.Proofs.YtpnonhjmpnbmcaaGreatDoor
namespace Go.Proofs.YtpnonhjmpnbmcaaGreatDoor
open Go.RowKit Go.Lib
open Act (put)
set_option maxHeartbeats 4000000
set_option maxRecDepth 100000
theorem Tryz.infoB:(Tryz.prog.info? 5).map (fun i=>(i.zero,i.size,i.bytes))=some (some (.int .u8 0),1,1):=by kernel_rfl
theorem appendUint_any (B m x:Nat) (v:Value) (xs:List Value) (w:World) (hx:x < 18446744073709551616) (hm:m ≤ 1000000000) (hB:B ≤ w.heap.size)
 (hown:w.ownsRow B 5 1 v m xs) :
 Calls Tryz.prog 222 #[v,.int .u64 x] w fun e w'=>
  ∃ v',e=.returned v'∧w'.ownsRow B 5 1 v' (m+(uvarint x).length) (xs ++ byteCells (uvarint x))∧Below B w w'∧KeepT 5 w w':=by
 obtain ⟨i0,hi,hz0,hz1,hz2⟩:=info_parts Tryz.infoB
 go_enter Tryz.func222,Tryz.ntmps222
 go_wp2
 go_loopw [0,1] (fun v n wr=>∃ (y:Nat) (done:List UInt8),y ≤ x∧n=.int .u64 y∧done ++ uvarint y=uvarint x∧wr.ownsRow B 5 1 v (m+done.length) (xs ++ byteCells done)∧Below B w wr∧KeepT 5 w wr)
  (fun _ n _=>(intOf n).toNat)
 case atStart=>exact ⟨x,[],Nat.le_refl _,rfl,rfl,by simpa [byteCells] using hown,Below.refl _ _,KeepT.refl _ _⟩
 case round=>
  obtain ⟨y,done,hy,rfl,hd,hown,hnx,hkt⟩:=hrel
  have hdn:=uv_done hx hd
  have hsz:=hnx.size
  by_cases hge:128 ≤ y
  · go_wp2_with (first | (at_builtin;refine wpList_append_own _ rfl (.tmp 9) (.tmp 13) 52 rfl B 5 i0 (.int .u8 0) 1 1 Tryz.underlying52 hi hz0 hz1 hz2 rfl (by decide) _ _ _ rfl (hown.alloc _) ⟨wr.heap.size,0,none⟩ 1 1 [_] rfl rfl (one_new _ _ _) one_cell (by unfold maxLen;omega) (by omega) (by simp;omega) ?_))
    intro v' w1 hown1 hgrow _
    rw [cells_more] at hown1
    have hb1:=(hnx.alloc (by omega) (.cells #[.int .u8 (bits BinOp.or IntKind.u8 ((y:Int) % 256) 128)] 5)).grown hgrow (by simp;omega) (own_block_ge hown)
    have hk1:=hkt.trans ((KeepT.of_alloc wr (.cells #[.int .u8 (bits BinOp.or IntKind.u8 ((y:Int) % 256) 128)] 5)).trans (KeepT.of_grown (hown.alloc _) hgrow))
    have HU:Hid ((done ++ [(y % 128+128).toUInt8]) ++ uvarint (y / 128)=uvarint x):=uv_more hge hd
    clear hd hown hgrow hnx hkt
    go_wp2
    go_roundw
    case rel=>exact ⟨y / 128,done ++ [(y % 128+128).toUInt8],by omega,by go_num,HU.out,by simpa [Nat.add_assoc] using hown1,hb1,hk1⟩
    case measure=>simp [intOf];omega
  · go_wp2_with (first | (at_builtin;refine wpList_append_own _ rfl (.tmp 15) (.tmp 18) 52 rfl B 5 i0 (.int .u8 0) 1 1 Tryz.underlying52 hi hz0 hz1 hz2 rfl (by decide) _ _ _ rfl (hown.alloc _) ⟨wr.heap.size,0,none⟩ 1 1 [_] rfl rfl (one_new _ _ _) one_cell (by unfold maxLen;omega) (by omega) (by simp;omega) ?_))
    intro v' w1 hown1 hgrow _
    rw [cells_last _ _ _ (Nat.lt_of_not_le hge)] at hown1
    have hb1:=(hnx.alloc (by omega) (.cells #[.int .u8 (y:Int)] 5)).grown hgrow (by simp;omega) (own_block_ge hown)
    have hk1:=hkt.trans ((KeepT.of_alloc wr (.cells #[.int .u8 (y:Int)] 5)).trans (KeepT.of_grown (hown.alloc _) hgrow))
    have HU:Hid (done ++ [y.toUInt8]=uvarint x):=uv_last (by omega) hd
    clear hd hown hgrow hnx hkt
    go_wp2
    go_ret
    refine ⟨v',rfl,?_,hb1,hk1⟩
    rw [← HU.out];simpa [Nat.add_assoc] using hown1
theorem fault_any (c p:Int) (w:World) :
 Calls Tryz.prog 221 #[.int .i64 c,.int .i64 p] w fun e w'=>
  e=.returned (.iface 308 (.pointer (some ⟨w.heap.size,0,none⟩)))∧w'=w.alloc (.cells #[.int .i64 p,.iface 95 (.int .i64 c)] 310):=by
 go_enter Tryz.func221,Tryz.ntmps221
 go_wp2
 go_ret
 exact ⟨rfl,rfl⟩
theorem folded_pos (n:Int) (w:World) (h0:0 ≤ n) (h1:n < 9223372036854775808) :
 Calls Tryz.prog 216 #[.int .i64 n] w fun e w'=>e=.returned (.int .u64 (zigzag n:Nat))∧w'=w:=by
 go_enter Tryz.func216,Tryz.ntmps216
 go_wp2
 go_ret
 exact ⟨ret_int (fold_pos h0 h1),rfl⟩
theorem folded_neg (n:Int) (w:World) (h0:n < 0) (h1:-9223372036854775808 ≤ n) :
 Calls Tryz.prog 216 #[.int .i64 n] w fun e w'=>e=.returned (.int .u64 (zigzag n:Nat))∧w'=w:=by
 go_enter Tryz.func216,Tryz.ntmps216
 go_wp2
 go_ret
 exact ⟨ret_int (fold_neg h0 h1),rfl⟩
theorem folded_any (n:Int) (w:World) (h0:-9223372036854775808 ≤ n) (h1:n < 9223372036854775808) :
 Calls Tryz.prog 216 #[.int .i64 n] w fun e w'=>e=.returned (.int .u64 (zigzag n:Nat))∧w'=w:=by
 by_cases h:0 ≤ n
 · exact folded_pos n w h h1
 · exact folded_neg n w (by omega) h0
end Go.Proofs.YtpnonhjmpnbmcaaGreatDoor
namespace Go.Proofs.YtpnonhjmpnbmcaaGreatDoor
open Go.RowKit Go.Extern.Stop Go.Stop Go.Extern Go.Lib
open Act (put)
set_option maxHeartbeats 4000000
set_option maxRecDepth 100000
/-- The variable errors.errorType as the program's text lays it. -/
def ET (w:World):Prop:=w.cell? ⟨0,0,none⟩=some (.iface 203 (.agg #[.pointer (some ⟨2,33,none⟩)]))
/-- A placed error in memory: its place, its class. -/
def ErrAt (w:World) (b:Nat) (p c:Int):Prop:=w.cell? ⟨b,0,none⟩=some (.int .i64 p)∧w.cell? ⟨b,1,none⟩=some (.iface 95 (.int .i64 c))
abbrev ev (b:Nat):Value:=.iface 308 (.pointer (some ⟨b,0,none⟩))
theorem lt_of_cell {w:World} {a:Addr} {v:Value} (h:w.cell? a=some v):a.block < w.heap.size:=by
 rcases Nat.lt_or_ge a.block w.heap.size with h' | h'
 · exact h'
 · simp [World.cell?,Array.getElem?_eq_none h'] at h
theorem set_post {w W:World} {t:Addr} {v old:Value} (hb:Below w.heap.size w W) (ht0:w.cell? t=some old) :
 (W.setCell t v).cell? t=some v∧Below t.block w (W.setCell t v)∧w.heap.size ≤ (W.setCell t v).heap.size:=by
 have hl:=lt_of_cell ht0
 refine ⟨World.cell?_setCell_same _ _ _ (u:=old) ?_,(hb.mono (Nat.le_of_lt hl)).setCell (Nat.le_refl _) _,by simpa using hb.size⟩
 rw [hb.cell hl];exact ht0
theorem ET.lt {w:World} (h:ET w):0 < w.heap.size:=lt_of_cell h
theorem ET.below {w w':World} {B:Nat} (h:ET w) (hb:Below B w w') (hB:0 < B):ET w':=by
 unfold ET;rw [hb.cell (p:=⟨0,0,none⟩) hB];exact h
theorem ET.alloc {w:World} (h:ET w) (o:Obj):ET (w.alloc o):=by
 unfold ET;rw [World.cell?_alloc_lt _ _ ⟨0,0,none⟩ h.lt];exact h
theorem ErrAt.below {w w':World} {B b:Nat} {p c:Int} (h:ErrAt w b p c) (hb:Below B w w') (hB:b < B):ErrAt w' b p c:=
 ⟨(hb.cell (p:=⟨b,0,none⟩) hB).trans h.1,(hb.cell (p:=⟨b,1,none⟩) hB).trans h.2⟩
theorem ErrAt.lt {w:World} {b:Nat} {p c:Int} (h:ErrAt w b p c):b < w.heap.size:=lt_of_cell h.1
theorem ErrAt.alloc {w:World} {b:Nat} {p c:Int} (h:ErrAt w b p c) (o:Obj):ErrAt (w.alloc o) b p c:=
 ⟨(World.cell?_alloc_lt _ _ ⟨b,0,none⟩ h.lt).trans h.1,(World.cell?_alloc_lt _ _ ⟨b,1,none⟩ h.lt).trans h.2⟩
theorem ErrAt.new (w:World) (p c:Int):ErrAt (w.alloc (.cells #[.int .i64 p,.iface 95 (.int .i64 c)] 310)) w.heap.size p c:=by
 constructor <;> simp
theorem ErrAt.drew {w:World} {b:Nat} {p c:Int} (h:ErrAt w b p c):ErrAt w.drew b p c:=h
theorem ET.drew {w:World} (h:ET w):ET w.drew:=h
/-- consistoryhelp.Class of no error. -/
theorem class_nil (w:World):Calls Tryz.prog 11 #[.nilIface] w fun e w'=>e=.returned (.int .i64 0)∧w'=w:=by
 go_enter Tryz.func11,Tryz.ntmps11
 go_wp2
 go_ret
 exact ⟨rfl,rfl⟩
end Go.Proofs.YtpnonhjmpnbmcaaGreatDoor
namespace Go.Proofs.YtpnonhjmpnbmcaaGreatDoor
open Go.RowKit Go.Lib
open Act (put)
set_option maxHeartbeats 4000000
set_option maxRecDepth 100000
/-- An int of 64 bits. -/
abbrev I6:Type:={p:Int // -9223372036854775808 ≤ p∧p < 9223372036854775808}
/-- A writer at block p: it has gathered these bytes (in a row of its own), or it has failed with a fault of class 20. -/
def WS (w:World) (p:Nat) (s:Option (List UInt8)):Prop:=
 w.frozen? ⟨p,0,none⟩=false∧w.frozen? ⟨p,1,none⟩=false ∧
 match s with
 | some l=>∃ v,w.cell? ⟨p,0,none⟩=some v∧w.cell? ⟨p,1,none⟩=some .nilIface∧w.ownsRow (p+1) 5 1 v l.length (byteCells l)
 | none=>∃ (b:Nat) (pl:I6),w.cell? ⟨p,0,none⟩=some (.slice none 0 0)∧w.cell? ⟨p,1,none⟩=some (ev b)∧p < b∧ErrAt w b pl 20
theorem WS.lt {w:World} {p:Nat} {s:Option (List UInt8)} (h:WS w p s):p < w.heap.size:=by
 cases s with
 | none=>obtain ⟨_,_,b,pl,h0,_⟩:=h;exact lt_of_cell h0
 | some l=>obtain ⟨_,_,v,h0,_⟩:=h;exact lt_of_cell h0
theorem ne01 (p:Nat):(⟨p,0,none⟩:Addr) ≠ ⟨p,1,none⟩:=by intro h;injection h;contradiction
theorem WS.more {w w1:World} {p:Nat} {v v':Value} {l':List UInt8} (h1:w.cell? ⟨p,0,none⟩=some v) (h2:w.cell? ⟨p,1,none⟩=some .nilIface) (f1:w.frozen? ⟨p,0,none⟩=false) (f2:w.frozen? ⟨p,1,none⟩=false)
 (hb:Below (p+1) w w1) (hk:KeepT 5 w w1) (ho:w1.ownsRow (p+1) 5 1 v' l'.length (byteCells l')):WS (w1.setCell ⟨p,0,none⟩ v') p (some l')∧Fr 5 p w (w1.setCell ⟨p,0,none⟩ v'):=by
 have c0:w1.cell? ⟨p,0,none⟩=some v:=(hb.cell (p:=⟨p,0,none⟩) (by simp)).trans h1
 have c1:w1.cell? ⟨p,1,none⟩=some .nilIface:=(hb.cell (p:=⟨p,1,none⟩) (by simp)).trans h2
 have g0:w1.frozen? ⟨p,0,none⟩=false:=(hb.frozen (p:=⟨p,0,none⟩) (by simp)).trans f1
 have g1:w1.frozen? ⟨p,1,none⟩=false:=(hb.frozen (p:=⟨p,1,none⟩) (by simp)).trans f2
 refine ⟨⟨by simpa using g0,by simpa using g1,v',World.cell?_setCell_same _ _ _ c0,?_,ownsRow_setCell_below ho (by simp) _⟩,(Fr.of (hb.mono (by omega)) hk).setCell 0 _⟩
 rw [World.cell?_setCell_other _ _ _ _ (ne01 p)];exact c1
theorem own_slice {w:World} {B:Nat} {e:TypeId} {sz:Nat} {v:Value} {n:Nat} {xs:List Value} (h:w.ownsRow B e sz v n xs):∃ a k,v=.slice a n k:=by
 rcases h.2 with ⟨rfl,rfl⟩ | ⟨g,cap,cur,rfl,_⟩
 · exact ⟨none,0,rfl⟩
 · exact ⟨_,_,rfl⟩
theorem appendUint_s (B m x:Nat) (v:Value) (xs:List Value) (w:World) (hx:x < 18446744073709551616) (hm:m ≤ 1000000000) (hB:B ≤ w.heap.size)
 (hown:w.ownsRow B 5 1 v m xs) :
 Calls Tryz.prog 222 #[v,.int .u64 x] w fun e w'=>
  ∃ a k,e=.returned (.slice a (m+(uvarint x).length) k)∧w'.ownsRow B 5 1 (.slice a (m+(uvarint x).length) k) (m+(uvarint x).length) (xs ++ byteCells (uvarint x))∧Below B w w'∧KeepT 5 w w':=by
 refine (appendUint_any B m x v xs w hx hm hB hown).mono ?_
 rintro e w' ⟨v',rfl,ho,hb,hk⟩
 obtain ⟨a,k,rfl⟩:=own_slice ho
 exact ⟨a,k,rfl,ho,hb,hk⟩
theorem wnumber_any (p x:Nat) (s:Option (List UInt8)) (w:World) (hx:x < 18446744073709551616) (hw:WS w p s) (hl:∀ l,s=some l→l.length ≤ 1000000000) :
 Calls Tryz.prog 215 #[.pointer (some ⟨p,0,none⟩),.int .u64 x] w fun e w'=>
  e=.returned (.tuple #[])∧WS w' p (s.map (· ++ uvarint x))∧Fr 5 p w w':=by
 have hp:=hw.lt
 cases s with
 | none=>
  obtain ⟨f0,f1,b,pl,h0,h1,hb,he⟩:=hw
  go_enter Tryz.func215,Tryz.ntmps215
  go_wp2
  go_end0
  exact ⟨rfl,⟨f0,f1,b,pl,h0,h1,hb,he⟩,Fr.refl _ _ _⟩
 | some l=>
  obtain ⟨f0,f1,v,h0,h1,ho⟩:=hw
  have hl:=hl l rfl
  have HA:=V (appendUint_s (p+1) l.length x v (byteCells l) w hx hl (by omega) ho)
  have HW:=V (fun (w1:World) (v':Value) (hb:Below (p+1) w w1) (hk:KeepT 5 w w1) (ho':w1.ownsRow (p+1) 5 1 v' (l ++ uvarint x).length (byteCells (l ++ uvarint x)))=>WS.more h0 h1 f0 f1 hb hk ho')
  clear ho
  go_enter Tryz.func215,Tryz.ntmps215
  go_wp2_with (go_at_call 222;refine (U HA).mono ?_;rintro e w1 ⟨a1,k1,rfl,ho1,hb1,hk1⟩;have c0:w1.cell? ⟨p,0,none⟩=some v:=(hb1.cell (p:=⟨p,0,none⟩) (Nat.lt_succ_self p)).trans h0;have g0:w1.frozen? ⟨p,0,none⟩=false:=(hb1.frozen (p:=⟨p,0,none⟩) (Nat.lt_succ_self p)).trans f0)
  go_end0
  have R:=U HW w1 _ hb1 hk1 (by rw [byteCells_append,List.length_append];exact ho1)
  exact ⟨rfl,R.1,R.2⟩
theorem own_i6 {w:World} {B:Nat} {v:Value} {l:List UInt8} (h:w.ownsRow B 5 1 v l.length (byteCells l)):-9223372036854775808 ≤ (l.length:Int)∧(l.length:Int) < 9223372036854775808:=by
 rcases h.2 with ⟨_,e⟩ | ⟨g,cap,cur,_,_,_,h1,h2,_⟩
 · omega
 · unfold maxLen at h2
   omega
theorem WS.fail {w:World} {p:Nat} {v x:Value} (hp:p < w.heap.size) (h0:w.cell? ⟨p,0,none⟩=some v) (h1:w.cell? ⟨p,1,none⟩=some x) (f0:w.frozen? ⟨p,0,none⟩=false) (f1:w.frozen? ⟨p,1,none⟩=false) (pl:Int) (hpl:-9223372036854775808 ≤ pl∧pl < 9223372036854775808) :
 WS (((w.setCell ⟨p,0,none⟩ (.slice none 0 0)).setCell ⟨p,1,none⟩ (ev w.heap.size)).alloc (.cells #[.int .i64 pl,.iface 95 (.int .i64 20)] 310)) p none ∧
 Fr 5 p w (((w.setCell ⟨p,0,none⟩ (.slice none 0 0)).setCell ⟨p,1,none⟩ (ev w.heap.size)).alloc (.cells #[.int .i64 pl,.iface 95 (.int .i64 20)] 310)):=by
 have e:((w.setCell ⟨p,0,none⟩ (.slice none 0 0)).setCell ⟨p,1,none⟩ (ev w.heap.size)).heap.size=w.heap.size:=by simp
 have hE:=ErrAt.new ((w.setCell ⟨p,0,none⟩ (.slice none 0 0)).setCell ⟨p,1,none⟩ (ev w.heap.size)) pl 20
 rw [e] at hE
 refine ⟨⟨?_,?_,w.heap.size,⟨pl,hpl⟩,?_,?_,hp,hE⟩,?_⟩
 · rw [World.frozen?_alloc_old _ _ _ (by simp;omega)];simpa using f0
 · rw [World.frozen?_alloc_old _ _ _ (by simp;omega)];simpa using f1
 · rw [World.cell?_alloc_lt _ _ _ (by simpa using hp),World.cell?_setCell_other _ _ _ _ (ne01 p).symm];exact World.cell?_setCell_same _ _ _ h0
 · rw [World.cell?_alloc_lt _ _ _ (by simpa using hp)];exact World.cell?_setCell_same _ _ _ ((World.cell?_setCell_other _ _ _ _ (ne01 p)).trans h1)
 · exact (((Fr.refl _ p w).setCell 0 _).setCell 1 _).alloc (by simp;omega) _
theorem wrefuse_any (p:Nat) (s:Option (List UInt8)) (w:World) (hw:WS w p s) :
 Calls Tryz.prog 213 #[.pointer (some ⟨p,0,none⟩)] w fun e w'=>e=.returned (.tuple #[])∧WS w' p none∧Fr 5 p w w':=by
 have hp:=hw.lt
 cases s with
 | none=>
  obtain ⟨f0,f1,b,pl,h0,h1,hb,he⟩:=hw
  go_enter Tryz.func213,Tryz.ntmps213
  go_wp2
  go_end0
  exact ⟨rfl,⟨f0,f1,b,pl,h0,h1,hb,he⟩,Fr.refl _ _ _⟩
 | some l=>
  obtain ⟨f0,f1,v,h0,h1,ho⟩:=hw
  obtain ⟨a,k,rfl⟩:=own_slice ho
  have HW:=V (WS.fail hp h0 h1 f0 f1 (l.length:Int) (own_i6 ho))
  clear ho
  have hne:¬ p=w.heap.size:=by omega
  go_enter Tryz.func213,Tryz.ntmps213
  go_wp2_with (go_at_call 221;refine (fault_any 20 _ _).mono ?_;rintro e w1 ⟨rfl,rfl⟩)
  go_end0
  exact ⟨rfl,(U HW).1,(U HW).2⟩
theorem wbetween_any (p:Nat) (n lo hi:Int) (s:Option (List UInt8)) (w:World) (hlo:-1000 ≤ lo) (hlh:lo ≤ hi) (hhi:hi ≤ 1000000000) (hw:WS w p s) (hl:∀ l,s=some l→l.length ≤ 1000000000) :
 Calls Tryz.prog 211 #[.pointer (some ⟨p,0,none⟩),.int .i64 n,.int .i64 lo,.int .i64 hi] w fun e w'=>
  e=.returned (.tuple #[])∧WS w' p (if lo ≤ n∧n ≤ hi then s.map (· ++ uvarint (n - lo).toNat) else none)∧Fr 5 p w w':=by
 by_cases h1:n < lo
 · rw [if_neg (by omega)]
   go_enter Tryz.func211,Tryz.ntmps211
   go_wp2_with (go_at_call 213;refine (wrefuse_any p s _ hw).mono ?_;rintro e w1 ⟨rfl,hw1,hb1⟩)
   first | go_end0 | refine bodyPost_ret (results_none rfl _ _ _) rfl ?_
   exact ⟨rfl,hw1,hb1⟩
 · by_cases h2:hi < n
   · rw [if_neg (by omega)]
     go_enter Tryz.func211,Tryz.ntmps211
     go_wp2_with (go_at_call 213;refine (wrefuse_any p s _ hw).mono ?_;rintro e w1 ⟨rfl,hw1,hb1⟩)
     first | go_end0 | refine bodyPost_ret (results_none rfl _ _ _) rfl ?_
     exact ⟨rfl,hw1,hb1⟩
   · rw [if_pos (by omega)]
     obtain ⟨d,hd⟩:=Int.eq_ofNat_of_zero_le (show 0 ≤ n - lo by omega)
     have HD:=V hd
     have hd2:d < 18446744073709551616:=by omega
     rw [hd,Int.toNat_natCast]
     clear hd
     go_enter Tryz.func211,Tryz.ntmps211
     go_wp2_with (go_at_call 215;rw [U HD];refine (wnumber_any p d s _ hd2 hw hl).mono ?_;rintro e w1 ⟨rfl,hw1,hb1⟩)
     first | go_end0 | refine bodyPost_ret (results_none rfl _ _ _) rfl ?_
     exact ⟨rfl,hw1,hb1⟩
theorem wtruth_any (p:Nat) (t:Bool) (s:Option (List UInt8)) (w:World) (hw:WS w p s) (hl:∀ l,s=some l→l.length ≤ 1000000000) :
 Calls Tryz.prog 214 #[.pointer (some ⟨p,0,none⟩),.bool t] w fun e w'=>
  e=.returned (.tuple #[])∧WS w' p (s.map (· ++ uvarint (if t then 1 else 0)))∧Fr 5 p w w':=by
 cases t
 · go_enter Tryz.func214,Tryz.ntmps214
   go_wp2_with (go_at_call 215;refine (wnumber_any p 0 s _ (by decide) hw hl).mono ?_;rintro e w1 ⟨rfl,hw1,hb1⟩)
   first | go_end0 | refine bodyPost_ret (results_none rfl _ _ _) rfl ?_
   exact ⟨rfl,by simpa using hw1,hb1⟩
 · go_enter Tryz.func214,Tryz.ntmps214
   go_wp2_with (go_at_call 215;refine (wnumber_any p 1 s _ (by decide) hw hl).mono ?_;rintro e w1 ⟨rfl,hw1,hb1⟩)
   first | go_end0 | refine bodyPost_ret (results_none rfl _ _ _) rfl ?_
   exact ⟨rfl,by simpa using hw1,hb1⟩
end Go.Proofs.YtpnonhjmpnbmcaaGreatDoor
namespace Go.Proofs.YtpnonhjmpnbmcaaGreatDoor
open Go.RowKit Go.Extern.Stop Go.Stop Go.Extern Go.Lib
open Act (put)
set_option maxHeartbeats 4000000
set_option maxRecDepth 100000
/-- errors.As(a bare class, 97): true, and it is written. -/
theorem as_CC (c:Int) (t:Addr) (old:Value) (w:World) (hg:w.cell? ⟨0,0,none⟩=some (.iface 203 (.agg #[.pointer (some ⟨2,33,none⟩)]))) (ht0:w.cell? t=some old) (hf0:w.frozen? t=false) :
 Calls Tryz.prog 26 #[.iface 95 (.int .i64 c),.iface 97 (.pointer (some t))] w fun ev w'=>ev=.returned (.bool true)∧∃ W,Below w.heap.size w W∧w'=W.setCell t (.int .i64 c):=by
 have h6:=@run_callFunc_extern Tryz.prog 54 _ (fun args=>ReflectliteValue.unpack (args.getD 0 (.tuple #[]))) Tryz.func54 (by kernel_rfl) (by kernel_rfl) (by kernel_rfl) (by kernel_rfl)
 have h7 := @run_callFunc_extern Tryz.prog 55 _ (ReflectliteValue.methodAny (ReflectliteValue.valueError "reflectlite.Value.Type" 0) (fun t _ _ _ => ReflectliteType.toType t)) Tryz.func55 (by kernel_rfl) (by kernel_rfl) (by kernel_rfl) (by kernel_rfl)
 have h8 := @run_callFunc_extern Tryz.prog 56 _ (ReflectliteValue.method (ReflectliteValue.valueError "reflectlite.Value.IsNil" 0) ReflectliteValue.isNil) Tryz.func56 (by kernel_rfl) (by kernel_rfl) (by kernel_rfl) (by kernel_rfl)
 have h27:=@run_callFunc_extern Tryz.prog 243 _ (ReflectliteType.abiMethod fun t=>do pure (.int .u8 (← Rtype.kind t))) Tryz.func243 (by kernel_rfl) (by kernel_rfl) (by kernel_rfl) (by kernel_rfl)
 have h37:=@run_callFunc_extern Tryz.prog 253 _ (ReflectliteType.method ReflectliteType.elem) Tryz.func253 (by kernel_rfl) (by kernel_rfl) (by kernel_rfl) (by kernel_rfl)
 have h38 := @run_callFunc_extern Tryz.prog 254 _ (ReflectliteType.relation "Implements" ReflectliteType.implements_) Tryz.func254 (by kernel_rfl) (by kernel_rfl) (by kernel_rfl) (by kernel_rfl)
 have h10:=@run_callFunc_extern Tryz.prog 58 _ ReflectliteType.typeOf Tryz.func58 (by kernel_rfl) (by kernel_rfl) (by kernel_rfl) (by kernel_rfl)
 have h35 := @run_callFunc_extern Tryz.prog 251 _ (ReflectliteType.relation "AssignableTo" ReflectliteType.assignableTo) Tryz.func251 (by kernel_rfl) (by kernel_rfl) (by kernel_rfl) (by kernel_rfl)
 have h11 := @run_callFunc_extern Tryz.prog 107 _ (ReflectliteValue.method (ReflectliteValue.valueError "reflectlite.Value.Elem" 0) ReflectliteValue.elem) Tryz.func107 (by kernel_rfl) (by kernel_rfl) (by kernel_rfl) (by kernel_rfl)
 have h12:=@run_callFunc_extern Tryz.prog 108 _ ReflectliteValue.set Tryz.func108 (by kernel_rfl) (by kernel_rfl) (by kernel_rfl) (by kernel_rfl)
 have tO:=Tryz.typeOf_C
 have mA:=Tryz.methodAssignableTo
 have a25:=Tryz.assignable_C
 have v25:=Tryz.valueOfE_C
 have f6:=Tryz.valueOf_C
 have f7:=Tryz.type_C
 have mK:=Tryz.methodKind
 have mE:=Tryz.methodElem
 have mI:=Tryz.methodImplements
 have k27:=Tryz.kindP_C
 have k25:=Tryz.kindE_C
 have e27:=Tryz.elem_C
 have i25:=Tryz.implements_C
 have n8:=Tryz.isNil_C ⟨w.heap.size,0,none⟩ t ((w.alloc (.cells #[.pointer (some t)] 97)).alloc (.cells #[.pointer (some ⟨2,97,none⟩),.pointer (some ⟨w.heap.size,0,none⟩),.int .u64 150] 140)) (by simp)
 have hlt:0 < w.heap.size:=by
  rcases Nat.lt_or_ge 0 w.heap.size with h | h
  · exact h
  · simp [World.cell?,Array.getElem?_eq_none h] at hg
 have hg2:((w.alloc (.cells #[.pointer (some t)] 97)).alloc (.cells #[.pointer (some ⟨2,97,none⟩),.pointer (some ⟨w.heap.size,0,none⟩),.int .u64 150] 140)).cell? ⟨0,0,none⟩=some (.iface 203 (.agg #[.pointer (some ⟨2,33,none⟩)])):=by
  rw [World.cell?_alloc_lt _ _ ⟨0,0,none⟩ (by simp <;> omega),World.cell?_alloc_lt _ _ ⟨0,0,none⟩ hlt];exact hg
 have htl:t.block < w.heap.size:=by
  rcases Nat.lt_or_ge t.block w.heap.size with h | h
  · exact h
  · simp [World.cell?,Array.getElem?_eq_none h] at ht0
 have el:=Tryz.elemV_C ⟨w.heap.size,0,none⟩ t (((w.alloc (.cells #[.pointer (some t)] 97)).alloc (.cells #[.pointer (some ⟨2,97,none⟩),.pointer (some ⟨w.heap.size,0,none⟩),.int .u64 150] 140)).alloc (.cells #[.pointer (some ⟨2,97,none⟩),.pointer (some ⟨w.heap.size,0,none⟩),.int .u64 150] 140)) (by rw [World.cell?_alloc_lt _ _ ⟨w.heap.size,0,none⟩ (by simp <;> omega)];simp)
 have st:=Tryz.set_C t ⟨w.heap.size+1+1+1,0,none⟩ c old ((((w.alloc (.cells #[.pointer (some t)] 97)).alloc (.cells #[.pointer (some ⟨2,97,none⟩),.pointer (some ⟨w.heap.size,0,none⟩),.int .u64 150] 140)).alloc (.cells #[.pointer (some ⟨2,97,none⟩),.pointer (some ⟨w.heap.size,0,none⟩),.int .u64 150] 140)).alloc (.cells #[(.int .i64 c)] 95))
  (by rw [World.cell?_alloc_at _ _ _ _ (by simp)];rfl)
  (by rw [World.cell?_alloc_lt _ _ t (by simp <;> omega),World.cell?_alloc_lt _ _ t (by simp <;> omega),World.cell?_alloc_lt _ _ t (by simp <;> omega),World.cell?_alloc_lt _ _ t htl];exact ht0)
  (by rw [World.frozen?_alloc_old _ _ t (by simp <;> omega),World.frozen?_alloc_old _ _ t (by simp <;> omega),World.frozen?_alloc_old _ _ t (by simp <;> omega),World.frozen?_alloc_old _ _ t (Nat.ne_of_lt htl)];exact hf0)
 go_enter Tryz.func26,Tryz.ntmps26
 go_wp2
 refine wp_loop_rounds 1 ?_
 rw [rounds_succ]
 go_wp2
 go_ret
 exact ⟨rfl,_,((((Below.refl _ _).alloc (Nat.le_refl _) _).alloc (by simp) _).alloc (by simp <;> omega) _).alloc (by simp <;> omega) _,rfl⟩
/-- errors.Is at a bare class. -/
theorem is_class (c t:Int) (w:World) :
 Calls Tryz.prog 27 #[.iface 95 (.int .i64 c),.iface 95 (.int .i64 t)] w fun e w'=>e=.returned (.bool (c == t))∧w'=w:=by
 have hTO:=@run_callFunc_extern Tryz.prog 58 _ Extern.ReflectliteType.typeOf Tryz.func58 (by kernel_rfl) (by kernel_rfl) (by kernel_rfl) (by kernel_rfl)
 have tT:=Tryz.isTypeOfC
 have cT:=Tryz.isComparableC
 have mR:=Tryz.isMethodComparable
 have nE:=Tryz.noIsC
 have uE:=Tryz.noUnwrapC
 have vE:=Tryz.noUnwrapsC
 have heq:=run_eql_iface_int (P:=Tryz.prog) (k:=.i64) w c t Tryz.underlying33 Tryz.isCompC Tryz.underlying95
 by_cases hct:(c == t)=true
 · go_enter Tryz.func27,Tryz.ntmps27
   go_wp2
   refine wp_loop_rounds 1 ?_
   rw [rounds_succ]
   go_wp2
   go_ret
   exact ⟨by rw [hct];rfl,rfl⟩
 · have hct':(c == t)=false:=by simpa using hct
   go_enter Tryz.func27,Tryz.ntmps27
   go_wp2
   refine wp_loop_rounds 1 ?_
   rw [rounds_succ]
   go_wp2
   go_ret
   exact ⟨by rw [hct'];rfl,rfl⟩
/-- An error that is a bare class; of 0 none. -/
def errG (c:Int):Value:=if c=0 then .nilIface else .iface 95 (.int .i64 c)
theorem errG_nil:errG 0=.nilIface:=rfl
theorem errG_some {c:Int} (h:c ≠ 0):errG c=.iface 95 (.int .i64 c):=if_neg h
theorem as_bare (c:Int) (t:Addr) (old:Value) (w:World) (hE:ET w) (ht0:w.cell? t=some old) (hf0:w.frozen? t=false) :
 Calls Tryz.prog 26 #[.iface 95 (.int .i64 c),.iface 97 (.pointer (some t))] w fun e w'=>
  e=.returned (.bool true)∧w'.cell? t=some (.int .i64 c)∧Below t.block w w'∧w.heap.size ≤ w'.heap.size:=by
 refine (as_CC c t old w hE ht0 hf0).mono ?_
 rintro e w' ⟨rfl,W,hb,rfl⟩
 exact ⟨rfl,set_post hb ht0⟩
/-- consistoryhelp.Class of a bare class. -/
theorem class_bare (c:Int) (w:World) (hE:ET w) :
 Calls Tryz.prog 11 #[.iface 95 (.int .i64 c)] w fun e w'=>e=.returned (.int .i64 c)∧Below w.heap.size w w':=by
 have hE1:=hE.alloc (.cells #[.int .i64 0] 95)
 have ht1:(w.alloc (.cells #[.int .i64 0] 95)).cell? ⟨w.heap.size,0,none⟩=some (.int .i64 0):=by simp
 have hf1:(w.alloc (.cells #[.int .i64 0] 95)).frozen? ⟨w.heap.size,0,none⟩=false:=by simp
 have hp1:Hid (∀ w1,Below w.heap.size (w.alloc (.cells #[.int .i64 0] 95)) w1→Below w.heap.size w w1):=
  fun w1 hb=>((Below.refl _ _).alloc (Nat.le_refl _) _).trans hb
 have hAs:=V (as_bare c ⟨w.heap.size,0,none⟩ _ _ hE1 ht1 hf1)
 clear hE1 ht1 hf1 hE
 go_enter Tryz.func11,Tryz.ntmps11
 go_wp2_with (first | (go_at_call 26;refine (U hAs).mono ?_;rintro e w1 ⟨rfl,hc1,hb1,_⟩) | (go_at_call 27;refine (is_class c c _).mono ?_;rintro e w2 ⟨rfl,rfl⟩))
 go_ret
 exact ⟨rfl,U hp1 _ hb1⟩
theorem class_g (c:Int) (w:World) (hE:ET w) :
 Calls Tryz.prog 11 #[errG c] w fun e w'=>e=.returned (.int .i64 c)∧Below w.heap.size w w':=by
 by_cases h:c=0
 · subst h
   rw [errG_nil]
   refine (class_nil w).mono ?_
   rintro e w' ⟨rfl,rfl⟩
   exact ⟨rfl,Below.refl _ _⟩
 · rw [errG_some h]
   exact class_bare c w hE
end Go.Proofs.YtpnonhjmpnbmcaaGreatDoor
