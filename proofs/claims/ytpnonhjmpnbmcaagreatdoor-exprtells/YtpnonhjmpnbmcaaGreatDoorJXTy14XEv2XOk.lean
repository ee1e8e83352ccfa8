/- consistorylaw14.typed without a group. -/
import Derived.Test.YtpnonhjmpnbmcaaGreatDoorJXViewXExpr
import Derived.Test.YtpnonhjmpnbmcaaGreatDoorJXWStmtXIseXDl
import Derived.Test.YtpnonhjmpnbmcaaGreatDoorXEv1
namespace Go.Proofs.YtpnonhjmpnbmcaaGreatDoor
open Go.RowKit Go.Lib
open Act (put)
set_option linter.unusedSimpArgs false
set_option linter.unusedVariables false
set_option maxHeartbeats 12800000
set_option maxRecDepth 100000
/-- The condition of a text; its types. -/
def condL (l:List UInt8):Ex:=whereL (dlL ++ l)
def typL (l:List UInt8):Except Int Ex:=exprS (condL l)
def Ty14 (l:List UInt8) (w:World) (e:Ending) (w':World):Prop:=Below w.heap.size w w'∧match typL l with
 | .ok E=>∃ M,e=.returned (.tuple #[.agg M.toArray,.bool true])∧ExM w' (fun b=>w.heap.size ≤ b) M E
 | .error _=>e=.returned (.tuple #[.agg zL.toArray,.bool false])
theorem exprS_err {E:Ex} {c:Int} (h:exprS E=.error c):c ≠ 0:=by
 unfold exprS at h
 split at h
 · have:=resE_err E c h;omega
 · injection h with h;omega
theorem cat_bytes (a b:Array UInt8):(⟨a⟩ ++ ⟨b⟩:ByteArray)=⟨a ++ b⟩:=by
 apply ByteArray.ext
 simp
theorem field_where (k:Int) (nm:List UInt8) {M:List Value} (h:M.length=10) (w:World):(Instr.field 72 (.agg (stC k nm M).toArray) 9).run Tryz.prog w=.ok (.agg M.toArray) w:=
 match M,h with
 | [_,_,_,_,_,_,_,_,_,_],_=>by kernel_rfl
theorem typed14_any (l:List UInt8) (w:World) (hl:l.length ≤ 1900) (hok:exOk (condL l)) :
 Calls Tryz.prog 8 #[sv l,.bool false] w (Ty14 l w):=by
 have HOK:=V hok
 have HLL:Hid ((dlL ++ l).length ≤ 2000):=by show _ ≤ _;rw [List.length_append];have:dlL.length=20:=rfl;omega
 have hl9:(l.length:Int) ≤ 1900:=by omega
 obtain ⟨PP,hPP⟩:∃ PP,PP=Ty14 l w:=⟨_,rfl⟩
 have HPP:=V hPP
 rw [← hPP]
 clear hPP hok hl
 go_enter Tryz.func8,Tryz.ntmps8
 go_upto_region 7 with fail
 have HO0:Hid (VrX (w.alloc (.cells zL.toArray 29)) w.heap.size zL):=VrX.new w rfl
 have HL0:=V (alX (Below.refl w.heap.size w) (.cells zL.toArray 29))
 obtain ⟨w0,hw0⟩:∃ w0,w0=w.alloc (.cells zL.toArray 29):=⟨_,rfl⟩
 rw [← hw0] at HO0 HL0
 unfold zL at hw0
 rw [← hw0]
 clear hw0
 refine wp_region_list ?_
 refine list_call rfl (some 53) rfl 19 #[] (by kernel_rfl) (cols_any w0) ?_
 rintro e w1 ⟨rfl,hct,hb1⟩
 refine ⟨_,rfl,?_⟩
 simp only[put,sA,sB,sC]
 have HO1:=V ((U HO0).below hb1)
 have HL1:=V (trX (U HL0) hb1)
 have HCT:=V hct
 have hbc:w0.heap.size < w1.heap.size:=by
  have h:=hct 0 _ rfl
  exact World.block_lt_of_cell? w1 _ (h 0 _ rfl)
 have HBC:=V hbc
 have HZ0:Hid (w.heap.size < w0.heap.size):=ltX (U HO0).1
 obtain ⟨bc,hbce⟩:∃ bc,bc=w0.heap.size:=⟨_,rfl⟩
 rw [← hbce] at HCT HBC HZ0
 rw [← hbce]
 clear hct hb1 hbc hbce HO0 HL0
 refine lt 54 (sv l) ?_
 simp only[put,sA,sB,sC]
 refine list_to (d:=55) (v:=sv (dlL ++ l)) rfl rfl (by (unfold sv dlL;go_simp;rw [if_neg (by omega),cat_bytes];simp)) ?_
 refine list_call rfl (some 56) rfl 22 #[sv (dlL ++ l)] (by kernel_rfl) (wstmt_any (dlL ++ l) w1 (U HLL) (delete_first l)) ?_
 rintro e w2 ⟨kk,nm,M,rfl,hx2,hb2⟩
 refine ⟨_,rfl,?_⟩
 simp only[put,sA,sB,sC]
 have HO2:=V ((U HO1).below hb2)
 have HL2:=V (trX (U HL1) hb2)
 have hct2:CtAt w2 bc fiveC:=fun i c hc=>rangeAt_blk (U HCT i c hc) (fun hl=>hb2.block bc hl) (by simp [ctC])
 have hbc2:bc < w2.heap.size:=Nat.lt_of_lt_of_le (U HBC) hb2.size
 have HZ2:Hid (w.heap.size < w2.heap.size):=ltX (U HO2).1
 have HXE:=V (rexpr_any w2 bc 5 hct2 hbc2 _ M (condL l) hx2 (U HOK))
 have hlM:=hx2.len
 clear hct2 hbc2 hx2 hb2 HO1 HL1 HCT HBC
 refine list_to (d:=57) (v:=.agg M.toArray) rfl rfl (by (go_simp;rw [field_where kk nm hlM w2];rfl)) ?_
 refine list_call rfl (some 58) rfl 23 #[.slice (some ⟨bc,0,none⟩) 5 5,.agg M.toArray] (by kernel_rfl) (U HXE) ?_
 clear HXE
 rintro e w3 ⟨hb3,hpost⟩
 have HO3:=V ((U HO2).below hb3)
 have HL3:=V (trX (U HL2) hb3)
 cases hT:exprS (condL l) with
 | error c=>
  rw [hT] at hpost
  have hp2:e=.returned (.tuple #[.agg zL.toArray,.int .i64 c]):=hpost
  subst hp2
  have hc0:=exprS_err hT
  have hcb:(c == 0)=false:=beq_eq_false_iff_ne.2 hc0
  have hT:typL l=.error c:=hT
  refine ⟨_,rfl,?_⟩
  simp only[put,sA,sB,sC]
  clear hb3
  as_aux_lemma=>
   refine lt 52 (.tuple #[.agg zL.toArray,.int .i64 c]) ?_
   refine lt 59 (.agg zL.toArray) ?_
   refine lt 60 (.int .i64 c) ?_
   simp only[put,sA,sB,sC]
   have hzN:zL.toArray.size=10:=by rfl
   have hlN:zL.length=10:=rfl
   have hvn:=VrX.new w3 (M:=zL) rfl
   have hal:Below w3.heap.size w3 (w3.alloc (.cells zL.toArray 29)):=alX (Below.refl _ _) _
   refine list_new rfl 29 rfl zL.toArray (zero_of_info zeroEx).1 ?_
   simp only[put,sA,sB,sC]
   refine wpList_store_mid rfl 29 (.tmp 9) (.tmp 59) rfl w3.heap.size 0 zL.toArray rfl rfl (by rw [hzN];exact hvn.there) (by rw [hzN];exact sizeEx) (all_oneCell_toArray (by decide)) ?_
   show wpList _ _ _ _ _ ((w3.alloc (.cells zL.toArray 29)).setCells w3.heap.size 0 zL)
   rw [setCells_new w3 _ _ _ (by rw [hlN];rfl)]
   refine lt 10 (.int .i64 c) ?_
   simp only[put,sA,sB,sC]
   have hal2:Below w3.heap.size w3 (w3.alloc (.cells zL.toArray 29)):=alX (Below.refl _ _) _
   have HV9:=V (VrX.new w3 hlN)
   have HO4:=V ((U HO3).below hal2)
   have HL4:=V (trX (U HL3) hal2)
   have HLT:Hid (w.heap.size < w3.heap.size):=ltX (U HO3).1
   obtain ⟨w4,hw4⟩:∃ w4,w4=w3.alloc (.cells zL.toArray 29):=⟨_,rfl⟩
   rw [← hw4] at HV9 HO4 HL4
   rw [← hw4]
   obtain ⟨b9,hb9⟩:∃ b9,b9=w3.heap.size:=⟨_,rfl⟩
   rw [← hb9] at HV9 HLT
   rw [← hb9]
   clear hw4 hb9 hvn hal hal2 HO3 HL3
   go_upto_region 8 with fail
   refine wp_region_list ?_
   refine wpList_load_mid rfl 29 (.tmp 9) rfl b9 0 rfl zL _ (U HV9).range Tryz.underlying29 rfl (by rw [hlN];exact sizeEx) ?_
   refine lt 62 (.int .i64 c) ?_
   simp only[put,sA,sB,sC]
   refine list_to (d:=63) (v:=.bool false) rfl rfl (by rw [show (Value.int IntKind.i64 c)=.int .i64 c from rfl];go_simp) ?_
   simp only[put,sA,sB,sC]
   refine wpList_store_mid rfl 29 (.tmp 4) (.tmp 61) rfl w.heap.size 0 zL.toArray rfl rfl (by rw [hzN];exact (U HO4).there) (by rw [hzN];exact sizeEx) (all_oneCell_toArray (by decide)) ?_
   show wpList _ _ _ _ _ (w4.setCells w.heap.size 0 zL)
   refine lt 5 (.bool false) ?_
   simp only[put,sA,sB,sC]
   go_wp2_with fail
   have hs:=(U HO4).set (M':=zL) hlN
   refine bodyPost_ret (hs.result2 rfl _ rfl) rfl ?_
   rw [U HPP]
   refine ⟨below_setCells (U HL4) (Nat.le_refl _) 0 zL,?_⟩
   rw [hT]
   rfl
 | ok E2=>
  rw [hT] at hpost
  obtain ⟨N,rfl,hxN⟩:=hpost
  have hT:typL l=.ok E2:=hT
  refine ⟨_,rfl,?_⟩
  simp only[put,sA,sB,sC]
  clear hb3
  as_aux_lemma=>
   refine lt 52 (.tuple #[.agg N.toArray,.int .i64 0]) ?_
   refine lt 59 (.agg N.toArray) ?_
   refine lt 60 (.int .i64 0) ?_
   simp only[put,sA,sB,sC]
   have hzN:N.toArray.size=10:=by simpa using hxN.len
   have hlN:N.length=10:=hxN.len
   have hvn:=VrX.new w3 (M:=zL) rfl
   have hal:Below w3.heap.size w3 (w3.alloc (.cells zL.toArray 29)):=alX (Below.refl _ _) _
   refine list_new rfl 29 rfl zL.toArray (zero_of_info zeroEx).1 ?_
   simp only[put,sA,sB,sC]
   refine wpList_store_mid rfl 29 (.tmp 9) (.tmp 59) rfl w3.heap.size 0 N.toArray rfl rfl (by rw [hzN];exact hvn.there) (by rw [hzN];exact sizeEx) (all_oneCell_toArray hxN.one) ?_
   show wpList _ _ _ _ _ ((w3.alloc (.cells zL.toArray 29)).setCells w3.heap.size 0 N)
   rw [setCells_new w3 _ _ _ (by rw [hlN];rfl)]
   refine lt 10 (.int .i64 0) ?_
   simp only[put,sA,sB,sC]
   have hal2:Below w3.heap.size w3 (w3.alloc (.cells N.toArray 29)):=alX (Below.refl _ _) _
   have HV9:=V (VrX.new w3 hlN)
   have HO4:=V ((U HO3).below hal2)
   have HL4:=V (trX (U HL3) hal2)
   have HLT:Hid (w.heap.size < w3.heap.size):=ltX (U HO3).1
   have HX4:=V (hxN.below hal2)
   obtain ⟨w4,hw4⟩:∃ w4,w4=w3.alloc (.cells N.toArray 29):=⟨_,rfl⟩
   rw [← hw4] at HV9 HO4 HL4 HX4
   rw [← hw4]
   obtain ⟨b9,hb9⟩:∃ b9,b9=w3.heap.size:=⟨_,rfl⟩
   rw [← hb9] at HV9 HLT
   rw [← hb9]
   clear hw4 hb9 hvn hal hal2 HO3 HL3
   go_upto_region 8 with fail
   refine wp_region_list ?_
   refine wpList_load_mid rfl 29 (.tmp 9) rfl b9 0 rfl N _ (U HV9).range Tryz.underlying29 rfl (by rw [hlN];exact sizeEx) ?_
   refine lt 62 (.int .i64 0) ?_
   refine lt 63 (.bool true) ?_
   simp only[put,sA,sB,sC]
   refine wpList_store_mid rfl 29 (.tmp 4) (.tmp 61) rfl w.heap.size 0 N.toArray rfl rfl (by rw [hzN];exact (U HO4).there) (by rw [hzN];exact sizeEx) (all_oneCell_toArray hxN.one) ?_
   show wpList _ _ _ _ _ (w4.setCells w.heap.size 0 N)
   refine lt 5 (.bool true) ?_
   simp only[put,sA,sB,sC]
   go_wp2_with fail
   have hs:=(U HO4).set (M':=N) hlN
   refine bodyPost_ret (hs.result2 rfl _ rfl) rfl ?_
   rw [U HPP]
   refine ⟨below_setCells (U HL4) (Nat.le_refl _) 0 N,?_⟩
   rw [hT]
   exact ⟨N,rfl,((U HX4).setCells (fun h=>by have q:w2.heap.size ≤ w.heap.size:=h;have:=U HZ2;omega) N).keep (fun _ _ _=>rfl) (fun b _ q=>by have q2:w2.heap.size ≤ b:=q;have:=U HZ2;omega)⟩
def argK (kind op:Int):Int × Int:=
 if kind=7 then (if op=19 then (0,1) else (1,1)) else if kind=3 then (1,1) else if kind=4 then (2,2) else if kind=5 then (2,11) else if kind=6 then (2,21) else (0,0)
theorem args_any (w:World) (be oe:Nat) (kind op:Int) (c0:w.cell? ⟨be,oe,none⟩=some (.int .i64 kind)) (c1:w.cell? ⟨be,oe+1,none⟩=some (.int .i64 op)) :
 Calls Tryz.prog 60 #[.pointer (some ⟨be,oe,none⟩)] w fun e w'=>e=.returned (.tuple #[.int .i64 (argK kind op).1,.int .i64 (argK kind op).2])∧w'=w:=by
 by_cases h7:kind=7
 · subst h7
   by_cases h19:op=19
   · subst h19
     go_enter Tryz.func60,Tryz.ntmps60
     go_wp2_with fail
     go_ret2
     exact ⟨rfl,rfl⟩
   · have hg:argK 7 op=(1,1):=by unfold argK;rw [if_pos rfl,if_neg h19]
     have e19:(op == 19)=false:=beq_eq_false_iff_ne.2 h19
     rw [hg]
     clear hg
     go_enter Tryz.func60,Tryz.ntmps60
     go_wp2_with fail
     go_ret2
     exact ⟨rfl,rfl⟩
 · have e7:(kind == 7)=false:=beq_eq_false_iff_ne.2 h7
   by_cases h3:kind=3
   · subst h3
     go_enter Tryz.func60,Tryz.ntmps60
     go_wp2_with fail
     go_ret2
     exact ⟨rfl,rfl⟩
   have e3:(kind == 3)=false:=beq_eq_false_iff_ne.2 h3
   by_cases h4:kind=4
   · subst h4
     go_enter Tryz.func60,Tryz.ntmps60
     go_wp2_with fail
     go_ret2
     exact ⟨rfl,rfl⟩
   have e4:(kind == 4)=false:=beq_eq_false_iff_ne.2 h4
   by_cases h5:kind=5
   · subst h5
     go_enter Tryz.func60,Tryz.ntmps60
     go_wp2_with fail
     go_ret2
     exact ⟨rfl,rfl⟩
   have e5:(kind == 5)=false:=beq_eq_false_iff_ne.2 h5
   by_cases h6:kind=6
   · subst h6
     go_enter Tryz.func60,Tryz.ntmps60
     go_wp2_with fail
     go_ret2
     exact ⟨rfl,rfl⟩
   have e6:(kind == 6)=false:=beq_eq_false_iff_ne.2 h6
   have hg:argK kind op=(0,0):=by unfold argK;rw [if_neg h7,if_neg h3,if_neg h4,if_neg h5,if_neg h6]
   rw [hg]
   clear hg
   go_enter Tryz.func60,Tryz.ntmps60
   go_wp2_with fail
   go_ret2
   exact ⟨rfl,rfl⟩
/-- A part that must be a truth. -/
def trE (r:GV × Int):Int × Int:=if r.2=0 then truthG r.1 else (0,r.2)
/-- IN: what was found so far, what is left. -/
def amongG (x:GV):Int→List (GV × Int)→GV × Int
 | found,[]=>(ofTruthG found,0)
 | found,r :: l=>
  if found=1 then (ofTruthG found,0)
  else if r.2 ≠ 0 then (nullG,r.2)
  else if (testG 5 x r.1).2 ≠ 0 then testedG (testG 5 x r.1).1 (testG 5 x r.1).2
  else amongG x (orG found (testG 5 x r.1).1) l
/-- CASE: the first condition that is True. -/
def choiceG:List (GV × Int)→GV × Int
 | []=>(nullG,0)
 | [v]=>v
 | c :: v :: l=>if (trE c).2 ≠ 0 then (nullG,(trE c).2) else if (trE c).1=1 then v else choiceG l
def unaryG (op:Int) (x:GV × Int):GV × Int:=
 if x.2 ≠ 0 then (nullG,x.2)
 else if op=1 then recG (doG 1 x.1 nullG).1 (doG 1 x.1 nullG).2
 else if op=2 then testedG (notG (truthG x.1).1) (truthG x.1).2
 else if op=3 then (ofTruthG (if x.1.kind=0 then 1 else 0),0)
 else if op=4 then (ofTruthG (if x.1.kind=0 then 0 else 1),0)
 else (nullG,20)
def logicG (op:Int) (x y:GV × Int):GV × Int:=
 if (trE x).2 ≠ 0 ∨ (trE x).1=(if op=18 then 1 else 0) then testedG (trE x).1 (trE x).2
 else testedG (if op=18 then orG (trE x).1 (trE y).1 else andG (trE x).1 (trE y).1) (trE y).2
def binaryG (op:Int) (x y:GV × Int):GV × Int:=
 if op=17 ∨ op=18 then logicG op x y
 else if x.2 ≠ 0 then (nullG,x.2)
 else if y.2 ≠ 0 then (nullG,y.2)
 else if 5 ≤ op∧op ≤ 10 then testedG (testG op x.1 y.1).1 (testG op x.1 y.1).2
 else if 11 ≤ op∧op ≤ 16 then recG (doG op x.1 y.1).1 (doG op x.1 y.1).2
 else (nullG,20)
/-- A node, its arguments reckoned; columns by row. -/
def evN (row:List GV) (a:Nd) (L:List (GV × Int)):GV × Int:=
 if (L.length:Int) < (argK a.kind a.op).1 ∨ (argK a.kind a.op).2 < (L.length:Int) then (nullG,20)
 else if a.kind=1 then soundE (gvN a)
 else if a.kind=2 then (match row[a.at'.toNat]? with | some g=>if a.at' < 0 then (nullG,20) else soundE g | none=>(nullG,20))
 else match a.kind,L with
  | 3,[x]=>unaryG a.op x
  | 4,[x,y]=>binaryG a.op x y
  | 5,x :: l=>if x.2 ≠ 0 ∨ x.1.kind=0 then (nullG,x.2) else amongG x.1 0 l
  | 6,L=>choiceG L
  | _,_=>(nullG,20)
def evL (row:List GV):Fo→List (GV × Int)
 | .nil=>[]
 | .node _ _ a kids rest=>evN row a (evL row kids) :: evL row rest
def evE (row:List GV) (E:Ex):GV × Int:=evN row E.1 (evL row E.2)
theorem evL_len (row:List GV):∀ F:Fo,(evL row F).length=cnt F
 | .nil=>rfl
 | .node _ _ _ _ rest=>by show (evL row rest).length+1=cnt rest+1;rw [evL_len row rest]
theorem evL_get (row:List GV):∀ (F:Fo) (i:Nat) (x:Ex),(toL F)[i]?=some x→(evL row F)[i]?=some (evE row x)
 | .nil,i,x,h=>by simp [toL] at h
 | .node _ _ a kids rest,0,x,h=>by
  simp [toL] at h
  subst h
  rfl
 | .node _ _ a kids rest,i+1,x,h=>by
  have:=evL_get row rest i x (by simpa [toL] using h)
  simpa [evL] using this
theorem foOk_app:∀ F G:Fo,foOk F→foOk G→foOk (Fo.app F G)
 | .nil,_,_,h=>h
 | .node _ _ _ _ r,G,h,hG=>⟨h.1,foOk_app r G h.2 hG⟩
theorem exOk_fo {E:Ex} (h:exOk E) {F:Fo} (hF:foOk F):foOk (Fo.cons E.1 E.2 F):=⟨h,hF⟩
theorem exOk_Z:exOk exZ:=⟨⟨by decide,by decide,by decide,by decide,by decide⟩,trivial⟩
theorem z1:(-9223372036854775808:Int) ≤ 0:=by decide
theorem z2:(0:Int) < 9223372036854775808:=by decide
theorem ndOk_op (k op:Int):ndOk ⟨k,op,0,0,[],[],[],0,0⟩:=⟨z1,z2,Nat.zero_le _,Nat.zero_le _,Nat.zero_le _⟩
theorem exOk_bin {op:Int} {A B:Ex} (hA:exOk A) (hB:exOk B):exOk (binE op A B):=⟨ndOk_op 4 op,exOk_fo hA (exOk_fo hB trivial)⟩
theorem exOk_un {op:Int} {A:Ex} (hA:exOk A):exOk (unE op A):=⟨ndOk_op 3 op,exOk_fo hA trivial⟩
theorem exOk_val {k n:Int} {t:List UInt8} (h1:-9223372036854775808 ≤ n) (h2:n < 9223372036854775808) (ht:t.length ≤ 3000):exOk (valE k n t):=⟨⟨h1,h2,ht,Nat.zero_le _,Nat.zero_le _⟩,trivial⟩
theorem exOk_col {a b:List UInt8} (ha:a.length ≤ 3000) (hb:b.length ≤ 3000):exOk (colE a b):=⟨⟨z1,z2,Nat.zero_le _,ha,hb⟩,trivial⟩
theorem wrap64_ok (n:Int):-9223372036854775808 ≤ wrap64 n∧wrap64 n < 9223372036854775808:=by
 unfold wrap64
 omega
section
variable {T:List Tk} (hT:∀ t ∈ T,t.text.length ≤ 3000)
include hT
theorem tk_len (S:PS):(tkS T S).text.length ≤ 3000:=by
 unfold tkS
 rw [List.getD_eq_getElem?_getD]
 cases h:T[S.i]? with
 | none=>exact Nat.zero_le _
 | some t=>exact hT t (List.mem_of_getElem? h)
theorem name_len (S:PS):(nameS T S).1.length ≤ 3000:=by
 unfold nameS
 split
 · split
   · exact Nat.zero_le _
   · exact tk_len hT S
 · exact Nat.zero_le _
omit hT in
theorem loopW_ok {sub:PS→Ex × PS} (hs:∀ S,exOk (sub S).1) (kw:List UInt8) (op:Int):∀ (n:Nat) (a:Ex) (S:PS),exOk a→exOk (loopW T sub kw op n a S).1
 | 0,_,_,h=>h
 | n+1,a,S,h=>by
  rw [loopW]
  split
  · exact loopW_ok hs kw op n _ _ (exOk_bin h (hs _))
  · exact h
omit hT in
theorem loopG_ok {sub:PS→Ex × PS} (hs:∀ S,exOk (sub S).1) (g1 g2 g3:List UInt8) (o1 o2 o3:Int):∀ (n:Nat) (a:Ex) (S:PS),exOk a→exOk (loopG T sub g1 g2 g3 o1 o2 o3 n a S).1
 | 0,_,_,h=>h
 | n+1,a,S,h=>by
  rw [loopG]
  split
  · exact loopG_ok hs g1 g2 g3 o1 o2 o3 n _ _ (exOk_bin h (hs _))
  · split
    · exact loopG_ok hs g1 g2 g3 o1 o2 o3 n _ _ (exOk_bin h (hs _))
    · split
      · exact loopG_ok hs g1 g2 g3 o1 o2 o3 n _ _ (exOk_bin h (hs _))
      · exact h
omit hT in
theorem exprsS_ok {sub:PS→Ex × PS} (hs:∀ S,exOk (sub S).1):∀ (n:Nat) (l:Fo) (S:PS),foOk l→foOk (exprsS T sub n l S).1
 | 0,_,_,h=>h
 | n+1,l,S,h=>by
  rw [exprsS]
  split
  · dsimp only
    split
    · exact exprsS_ok hs n _ _ (foOk_app _ _ h (exOk_fo (hs _) trivial))
    · exact foOk_app _ _ h (exOk_fo (hs _) trivial)
  · exact h
omit hT in
theorem casesS_ok {sub:PS→Ex × PS} (hs:∀ S,exOk (sub S).1):∀ (n:Nat) (l:Fo) (S:PS),foOk l→foOk (casesS T sub n l S).1
 | 0,_,_,h=>h
 | n+1,l,S,h=>by
  rw [casesS]
  split
  · exact casesS_ok hs n _ _ (foOk_app _ _ h (exOk_fo (hs _) (exOk_fo (hs _) trivial)))
  · exact h
omit hT in
theorem testS_ok {sub3 sub7:PS→Ex × PS} (h3:∀ S,exOk (sub3 S).1) (h7:∀ S,exOk (sub7 S).1) (n:Nat) (S:PS):exOk (testS T sub3 sub7 n S).1:=by
 have hin:∀ (A:Ex) (F:Fo),exOk A→foOk F→exOk ((⟨5,0,0,0,[],[],[],0,0⟩,Fo.cons A.1 A.2 F):Ex):=fun A F hA hF=>⟨ndOk_op 5 0,exOk_fo hA hF⟩
 unfold testS
 dsimp only
 split
 · exact exOk_bin (h3 _) (h3 _)
 · split
   · exact exOk_un (h3 _)
   · dsimp only
     have hr:∀ r:Ex,exOk r→∀ b:Bool,exOk (if b=true then unE 2 r else r):=fun r hr b=>by cases b;exact hr;exact exOk_un hr
     apply hr
     split
     · exact hin _ _ (h3 _) (exprsS_ok h7 _ _ _ trivial)
     · split
       · exact exOk_bin (exOk_bin (h3 _) (h3 _)) (exOk_bin (h3 _) (h3 _))
       · exact h3 _
omit hT in
theorem caseS_ok {sub7:PS→Ex × PS} (h7:∀ S,exOk (sub7 S).1) (n:Nat) (S:PS):exOk (caseS T sub7 n S).1:=by
 unfold caseS
 dsimp only
 refine ⟨ndOk_op 6 0,?_⟩
 show foOk _
 have h:=casesS_ok (T:=T) h7 n .nil (openS T [67,65,83,69] S) trivial
 split
 · exact foOk_app _ _ h (exOk_fo (h7 _) trivial)
 · exact h
omit hT in
theorem ite_ok {p:Prop} [Decidable p] {a b:Ex × PS} (h1:p→exOk a.1) (h2:¬ p→exOk b.1):exOk (if p then a else b).1:=by
 by_cases h:p
 · rw [if_pos h];exact h1 h
 · rw [if_neg h];exact h2 h
theorem factorS_ok {sub1 sub7:PS→Ex × PS} (h1:∀ S,exOk (sub1 S).1) (h7:∀ S,exOk (sub7 S).1) (n:Nat) (S:PS):exOk (factorS T sub1 sub7 n S).1:=by
 have hw:=fun k=>wrap64_ok k
 unfold factorS
 refine ite_ok (fun _=>ite_ok (fun _=>?_) (fun _=>?_)) (fun _=>ite_ok (fun _=>exOk_Z) (fun _=>ite_ok (fun _=>?_) (fun _=>ite_ok (fun _=>?_) (fun _=>ite_ok (fun _=>?_) (fun _=>ite_ok (fun _=>?_) (fun _=>ite_ok (fun _=>?_) (fun _=>ite_ok (fun _=>?_) (fun _=>ite_ok (fun _=>?_) (fun _=>ite_ok (fun _=>?_) (fun _=>?_))))))))))
 · exact exOk_val (hw _).1 (hw _).2 (Nat.zero_le _)
 · exact exOk_un (h1 _)
 · exact exOk_val (hw _).1 (hw _).2 (Nat.zero_le _)
 · exact exOk_val z1 z2 (tk_len hT S)
 · refine ite_ok (fun _=>?_) (fun _=>?_)
   · exact exOk_col (name_len hT _) (name_len hT _)
   · exact exOk_col (Nat.zero_le _) (name_len hT _)
 · exact exOk_val z1 z2 (Nat.zero_le _)
 · exact exOk_val (by decide) (by decide) (Nat.zero_le _)
 · exact exOk_val z1 z2 (Nat.zero_le _)
 · exact h7 _
 · exact caseS_ok h7 n S
 · cases aggI T S 0 aggsL with
   | none=>exact exOk_Z
   | some i=>
    refine ite_ok (fun _=>?_) (fun _=>?_)
    · exact ⟨ndOk_op 7 19,trivial⟩
    · exact ⟨ndOk_op 7 _,exOk_fo (h7 _) trivial⟩
theorem lev_ok:∀ (n k:Nat) (S:PS),exOk (lev T n k S).1
 | 0,_,_=>exOk_Z
 | n+1,k,S=>by
  have ih:=lev_ok n
  rw [lev]
  split
  · exact loopW_ok (ih 6) _ _ _ _ _ (ih 6 _)
  · split
    · exact loopW_ok (ih 5) _ _ _ _ _ (ih 5 _)
    · split
      · split
        · exact exOk_un (ih 5 _)
        · exact ih 4 _
      · split
        · exact testS_ok (ih 3) (ih 7) n S
        · split
          · exact loopG_ok (ih 2) _ _ _ _ _ _ _ _ _ (ih 2 _)
          · split
            · exact loopG_ok (ih 1) _ _ _ _ _ _ _ _ _ (ih 1 _)
            · exact factorS_ok hT (ih 1) (ih 7) n S
theorem parseW_ok:exOk (parseW T):=by
 unfold parseW
 dsimp only
 split
 · show exOk (clauseP T _ _).1
   unfold clauseP
   split
   · exact lev_ok hT 40000 7 _
   · exact exOk_Z
 · exact exOk_Z
end
theorem cond_ok (l:List UInt8) (hl:l.length ≤ 1900):exOk (condL l):=by
 unfold condL whereL
 cases h:lexL (dlL ++ l) 0 with
 | error e=>exact exOk_Z
 | ok ts=>
  have hg:=tg_of h (by rw [List.length_append];have:dlL.length=20:=rfl;omega)
  exact parseW_ok hg.text
end Go.Proofs.YtpnonhjmpnbmcaaGreatDoor
