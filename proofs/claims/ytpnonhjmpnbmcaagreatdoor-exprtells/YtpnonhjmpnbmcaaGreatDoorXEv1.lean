/- Package expr's small calls. -/
import Derived.Test.YtpnonhjmpnbmcaaGreatDoorJVSum3VTest2VKnownKBytesVFewVLaidXBin
import Derived.Test.YtpnonhjmpnbmcaaGreatDoorJHandXBaseXLex3HandL
import Derived.Test.YtpnonhjmpnbmcaaGreatDoorJPlainLMathLMath2LMath3XLex1XLex2NBigListOpsListOp2ListOp3
import Derived.Test.YtpnonhjmpnbmcaaGreatDoorXParse
namespace Go.Proofs.YtpnonhjmpnbmcaaGreatDoor
open Go.RowKit Go.Lib
open Act (put)
set_option linter.unusedSimpArgs false
set_option linter.unusedVariables false
set_option maxHeartbeats 3200000
set_option maxRecDepth 20000
def gvC (g:GV):List Value:=[.int .i64 g.kind,.int .i64 g.int,.string g.text]
theorem gvC_one (g:GV):∀ u ∈ gvC g,u.oneCell'=true:=by
 intro u hu
 simp only[gvC,List.mem_cons,List.not_mem_nil,or_false] at hu
 rcases hu with rfl | rfl | rfl <;> rfl
theorem zeroV:(Tryz.prog.info? 26).map (fun i=>(i.zero,i.size))=some (some (.agg (gvC nullG).toArray),3):=by kernel_rfl
theorem sizeV:(Tryz.prog.info? 26).map (·.size)=some 3:=(zero_of_info zeroV).2
/-- A variable of a value's type. -/
def VV (w:World) (b:Nat) (g:GV):Prop:=w.heap[b]?=some (.cells (gvC g).toArray 26 (0,0))
section
variable {w w':World} {b:Nat} {g:GV}
theorem VV.range (h:VV w b g):w.rangeAt b 0 (gvC g):=fun j v hv=>by
 rw [Nat.zero_add,cellX h];simpa using hv
theorem VV.there (h:VV w b g):w.there b 0 3:=fun j hj=>by
 rw [Nat.zero_add,cellX h,frzX h]
 exact ⟨by simp [gvC,hj],rfl⟩
theorem VV.new (w:World) (g:GV):VV (w.alloc (.cells (gvC g).toArray 26)) w.heap.size g:=heap_alloc_new _ _
theorem VV.keep (h:VV w b g) (hb:w'.heap[b]?=w.heap[b]?):VV w' b g:=hb.trans h
theorem VV.below (h:VV w b g) (hb:Below w.heap.size w w'):VV w' b g:=blkX h hb
theorem VV.set (h:VV w b g) (g':GV):VV (w.setCells b 0 (gvC g')) b g':=by
 have:=setCells_at b (gvC g') 0 w [] (gvC g) rfl rfl h
 show (w.setCells b 0 (gvC g')).heap[b]?=_
 simpa using this
theorem VV.result {fn:Func} {p:Tmp} (h:VV w b g) (hf:fn.results=#[.cell p 26]) (tmps:Array Value) (ht:tmps.getD p undef=.pointer (some ⟨b,0,none⟩)):(results fn tmps).run Tryz.prog w=.ok g.agg w:=by
 rw [res1X hf,ht]
 simp only[asAddr,Sem.run_pure,Result.andThen_ok]
 exact run_loadVar_mid w b 0 26 (gvC g) _ h.range Tryz.underlying26 rfl sizeV
theorem VV.result2 {fn:Func} {p u:Tmp} (h:VV w b g) (hf:fn.results=#[.cell p 26,.tmp u]) (tmps:Array Value) (ht:tmps.getD p undef=.pointer (some ⟨b,0,none⟩)):(results fn tmps).run Tryz.prog w=.ok (.tuple #[g.agg,tmps.getD u undef]) w:=by
 rw [results_cell_tmp hf,ht]
 simp only[asAddr,Sem.run_pure,Result.andThen_ok]
 rw [run_loadVar_mid w b 0 26 (gvC g) _ h.range Tryz.underlying26 rfl sizeV]
 rfl
theorem VV.below_set (h:Below b w w') (vs:List Value):Below b w (w'.setCells b 0 vs):=by
 obtain ⟨e1,e2,e3,e4⟩:=setCells_env b vs 0 w'
 exact ⟨e1.trans h.os,e2.trans h.tape,e3.trans h.output,by rw [e4];exact h.size,fun j hj=>(setCells_heap b vs 0 w' j (by omega)).trans (h.block j hj)⟩
end
theorem below_setCells0 {B:Nat} {a w:World} {b:Nat} (h:Below B a w) (hb:B ≤ b) (vs:List Value):Below B a (w.setCells b 0 vs):=by
 obtain ⟨e1,e2,e3,e4⟩:=setCells_env b vs 0 w
 exact ⟨e1.trans h.os,e2.trans h.tape,e3.trans h.output,by rw [e4];exact h.size,fun j hj=>(setCells_heap b vs 0 w j (by omega)).trans (h.block j hj)⟩
def ofTruthG (n:Int):GV:=if n=2 then nullG else ⟨1,n,⟨#[]⟩⟩
def truthG (g:GV):Int × Int:=if g.kind=0 then (2,0) else if g.kind=1 then (g.int,0) else (0,20)
def recG (g:GV) (c:Int):GV × Int:=if c=4 then (nullG,20) else (g,c)
def testedG (n c:Int):GV × Int:=if c=0 then (ofTruthG n,0) else recG nullG c
def soundE (g:GV):GV × Int:=if g.may=true then (g,0) else (nullG,20)
/-- What tells a value and an error. -/
def GeP (w:World) (r:GV × Int) (e:Ending) (w':World):Prop:=e=.returned (.tuple #[r.1.agg,errG r.2])∧Below w.heap.size w w'
theorem ofTruth_any (n:Int) (w:World):Calls Tryz.prog 29 #[.int .i64 n] w fun e w'=>e=.returned (ofTruthG n).agg∧Below w.heap.size w w':=by
 by_cases h:n=2
 · subst h
   go_enter Tryz.func29,Tryz.ntmps29
   go_upto_region 2 with fail
   obtain ⟨w0,hw0⟩:∃ w0,w0=w.alloc (.cells (gvC nullG).toArray 26):=⟨_,rfl⟩
   have hv0:VV w0 w.heap.size nullG:=by rw [hw0];exact VV.new w nullG
   have hb0:Below w.heap.size w w0:=by rw [hw0];exact alX (Below.refl _ _) _
   have HV:=V hv0
   have HB:=V hb0
   unfold gvC nullG at hw0
   rw [← hw0]
   clear hw0 hv0 hb0
   refine wp_region_list ?_
   refine lt 5 (.agg (gvC nullG).toArray) ?_
   simp only[put,sA,sB,sC]
   refine wpList_store_mid rfl 26 (.tmp 2) (.tmp 5) rfl w.heap.size 0 (gvC nullG).toArray rfl rfl (U HV).there sizeV (all_oneCell_toArray (gvC_one _)) ?_
   show wpList _ _ _ _ _ (w0.setCells w.heap.size 0 (gvC nullG))
   simp only[put,sA,sB,sC]
   go_wp2_with fail
   exact bodyPost_ret (((U HV).set nullG).result rfl _ rfl) rfl ⟨rfl,VV.below_set (U HB) _⟩
 · have e2:(n == 2)=false:=beq_eq_false_iff_ne.2 h
   have hg:ofTruthG n=⟨1,n,⟨#[]⟩⟩:=if_neg h
   rw [hg]
   clear hg
   go_enter Tryz.func29,Tryz.ntmps29
   go_upto_region 3 with fail
   obtain ⟨w0,hw0⟩:∃ w0,w0=w.alloc (.cells (gvC nullG).toArray 26):=⟨_,rfl⟩
   have hv0:VV w0 w.heap.size nullG:=by rw [hw0];exact VV.new w nullG
   have hb0:Below w.heap.size w w0:=by rw [hw0];exact alX (Below.refl _ _) _
   have HV:=V hv0
   have HB:=V hb0
   unfold gvC nullG at hw0
   rw [← hw0]
   clear hw0 hv0 hb0
   refine wp_region_list ?_
   refine lt 6 (.int .i64 n) ?_
   refine lt 7 (.agg (gvC ⟨1,n,⟨#[]⟩⟩).toArray) ?_
   simp only[put,sA,sB,sC]
   refine wpList_store_mid rfl 26 (.tmp 2) (.tmp 7) rfl w.heap.size 0 (gvC ⟨1,n,⟨#[]⟩⟩).toArray rfl rfl (U HV).there sizeV (all_oneCell_toArray (gvC_one _)) ?_
   show wpList _ _ _ _ _ (w0.setCells w.heap.size 0 (gvC ⟨1,n,⟨#[]⟩⟩))
   simp only[put,sA,sB,sC]
   go_wp2_with fail
   exact bodyPost_ret (((U HV).set ⟨1,n,⟨#[]⟩⟩).result rfl _ rfl) rfl ⟨rfl,VV.below_set (U HB) _⟩
theorem ofBool_any (b:Bool) (w:World):Calls Tryz.prog 115 #[.bool b] w fun e w'=>e=.returned (ofTruthG (if b=true then 1 else 0)).agg∧Below w.heap.size w w':=by
 cases b with
 | true=>
  go_enter Tryz.func115,Tryz.ntmps115
  go_upto_region 2 with fail
  obtain ⟨w0,hw0⟩:∃ w0,w0=w.alloc (.cells (gvC nullG).toArray 26):=⟨_,rfl⟩
  have hv0:VV w0 w.heap.size nullG:=by rw [hw0];exact VV.new w nullG
  have hb0:Below w.heap.size w w0:=by rw [hw0];exact alX (Below.refl _ _) _
  have HV:=V hv0
  have HB:=V hb0
  unfold gvC nullG at hw0
  rw [← hw0]
  clear hw0 hv0 hb0
  refine wp_region_list ?_
  refine list_call rfl (some 4) rfl 29 #[.int .i64 1] (by kernel_rfl) (ofTruth_any 1 w0) ?_
  rintro e w1 ⟨rfl,hb1⟩
  refine ⟨_,rfl,?_⟩
  simp only[put,sA,sB,sC]
  have hv1:=(U HV).below hb1
  refine wpList_store_mid rfl 26 (.tmp 2) (.tmp 4) rfl w.heap.size 0 (gvC (ofTruthG 1)).toArray rfl rfl hv1.there sizeV (all_oneCell_toArray (gvC_one _)) ?_
  show wpList _ _ _ _ _ (w1.setCells w.heap.size 0 (gvC (ofTruthG 1)))
  simp only[put,sA,sB,sC]
  go_wp2_with fail
  exact bodyPost_ret ((hv1.set (ofTruthG 1)).result rfl _ rfl) rfl ⟨rfl,VV.below_set (trX (U HB) hb1) _⟩
 | false=>
  go_enter Tryz.func115,Tryz.ntmps115
  go_upto_region 3 with fail
  obtain ⟨w0,hw0⟩:∃ w0,w0=w.alloc (.cells (gvC nullG).toArray 26):=⟨_,rfl⟩
  have hv0:VV w0 w.heap.size nullG:=by rw [hw0];exact VV.new w nullG
  have hb0:Below w.heap.size w w0:=by rw [hw0];exact alX (Below.refl _ _) _
  have HV:=V hv0
  have HB:=V hb0
  unfold gvC nullG at hw0
  rw [← hw0]
  clear hw0 hv0 hb0
  refine wp_region_list ?_
  refine list_call rfl (some 5) rfl 29 #[.int .i64 0] (by kernel_rfl) (ofTruth_any 0 w0) ?_
  rintro e w1 ⟨rfl,hb1⟩
  refine ⟨_,rfl,?_⟩
  simp only[put,sA,sB,sC]
  have hv1:=(U HV).below hb1
  refine wpList_store_mid rfl 26 (.tmp 2) (.tmp 5) rfl w.heap.size 0 (gvC (ofTruthG 0)).toArray rfl rfl hv1.there sizeV (all_oneCell_toArray (gvC_one _)) ?_
  show wpList _ _ _ _ _ (w1.setCells w.heap.size 0 (gvC (ofTruthG 0)))
  simp only[put,sA,sB,sC]
  go_wp2_with fail
  exact bodyPost_ret ((hv1.set (ofTruthG 0)).result rfl _ rfl) rfl ⟨rfl,VV.below_set (trX (U HB) hb1) _⟩
theorem truthOf_any (g:GV) (w:World):Calls Tryz.prog 112 #[g.agg] w fun e w'=>e=.returned (.tuple #[.int .i64 (truthG g).1,errG (truthG g).2])∧Below w.heap.size w w':=by
 obtain ⟨k,n,t⟩:=g
 unfold GV.agg
 dsimp only
 by_cases h0:k=0
 · subst h0
   go_enter Tryz.func112,Tryz.ntmps112
   go_wp2_with fail
   go_ret2
   exact ⟨rfl,alX (Below.refl _ _) _⟩
 · have e0:(k == 0)=false:=beq_eq_false_iff_ne.2 h0
   by_cases h1:k=1
   · subst h1
     go_enter Tryz.func112,Tryz.ntmps112
     go_wp2_with fail
     go_ret2
     exact ⟨rfl,alX (Below.refl _ _) _⟩
   · have e1:(k == 1)=false:=beq_eq_false_iff_ne.2 h1
     have hg:truthG ⟨k,n,t⟩=(0,20):=by unfold truthG;rw [if_neg h0,if_neg h1]
     rw [hg]
     clear hg
     go_enter Tryz.func112,Tryz.ntmps112
     go_wp2_with fail
     go_ret2
     exact ⟨rfl,alX (Below.refl _ _) _⟩
theorem is_errG (c:Int) (w:World):Calls Tryz.prog 27 #[errG c,.iface 95 (.int .i64 4)] w fun e w'=>e=.returned (.bool (c == 4))∧w'=w:=by
 by_cases h:c=0
 · subst h
   show Calls _ _ #[.nilIface,.iface 95 (.int .i64 4)] w _
   have he:(binOp BinOp.eql 33 .nilIface (.iface 95 (.int .i64 4))).run Tryz.prog w=.ok (.bool false) w:=by kernel_rfl
   go_enter Tryz.func27,Tryz.ntmps27
   go_wp2_with fail
   go_ret
   exact ⟨rfl,rfl⟩
 · rw [errG_some h]
   exact is_class c 4 w
theorem reckoned_any (g:GV) (c:Int) (w:World):Calls Tryz.prog 110 #[g.agg,errG c] w (GeP w (recG g c)):=by
 have HI:=V (is_errG c)
 show Calls _ _ #[.agg (gvC g).toArray,errG c] w _
 by_cases h:c=4
 · have hc:(c == 4)=true:=by rw [h];rfl
   rw [hc] at HI
   have hg:recG g c=(nullG,20):=if_pos h
   rw [hg]
   clear hg hc h
   go_enter Tryz.func110,Tryz.ntmps110
   go_upto_region 2 with (go_at_call 27;refine (U HI _).mono ?_;rintro e w9 ⟨rfl,hw9⟩;rw [hw9];clear hw9)
   obtain ⟨wp,hwp⟩:∃ wp,wp=w.alloc (.cells (gvC g).toArray 26):=⟨_,rfl⟩
   have hvp:VV wp w.heap.size g:=by rw [hwp];exact VV.new w g
   have hbp:Below w.heap.size w wp:=by rw [hwp];exact alX (Below.refl _ _) _
   have hzp:wp.heap.size=w.heap.size+1:=by rw [hwp];simp
   obtain ⟨w0,hw0⟩:∃ w0,w0=wp.alloc (.cells (gvC nullG).toArray 26):=⟨_,rfl⟩
   have hal:Below wp.heap.size wp w0:=by rw [hw0];exact alX (Below.refl _ _) _
   have hv0:VV w0 (w.heap.size+1) nullG:=by rw [hw0,← hzp];exact VV.new wp nullG
   have HV:=V hv0
   have HG:=V (hvp.below hal)
   have HB:=V (trX hbp hal)
   rw [hwp,show (gvC nullG).toArray=#[.int .i64 0,.int .i64 0,.string ⟨#[]⟩] from rfl] at hw0
   rw [← hw0]
   clear hwp hvp hbp hzp hw0 hal hv0
   refine wp_region_list ?_
   refine lt 9 (.agg (gvC nullG).toArray) ?_
   refine lt 10 (.iface 95 (.int .i64 20)) ?_
   simp only[put,sA,sB,sC]
   refine wpList_store_mid rfl 26 (.tmp 4) (.tmp 9) rfl (w.heap.size+1) 0 (gvC nullG).toArray rfl rfl (U HV).there sizeV (all_oneCell_toArray (gvC_one _)) ?_
   show wpList _ _ _ _ _ (w0.setCells (w.heap.size+1) 0 (gvC nullG))
   refine lt 5 (.iface 95 (.int .i64 20)) ?_
   simp only[put,sA,sB,sC]
   go_wp2_with fail
   refine bodyPost_ret (((U HV).set nullG).result2 rfl _ rfl) rfl ?_
   exact ⟨rfl,below_setCells0 (U HB) (by omega) _⟩
 · have hc:(c == 4)=false:=beq_eq_false_iff_ne.2 h
   rw [hc] at HI
   have hg:recG g c=(g,c):=if_neg h
   rw [hg]
   clear hg hc h
   go_enter Tryz.func110,Tryz.ntmps110
   go_upto_region 3 with (go_at_call 27;refine (U HI _).mono ?_;rintro e w9 ⟨rfl,hw9⟩;rw [hw9];clear hw9)
   obtain ⟨wp,hwp⟩:∃ wp,wp=w.alloc (.cells (gvC g).toArray 26):=⟨_,rfl⟩
   have hvp:VV wp w.heap.size g:=by rw [hwp];exact VV.new w g
   have hbp:Below w.heap.size w wp:=by rw [hwp];exact alX (Below.refl _ _) _
   have hzp:wp.heap.size=w.heap.size+1:=by rw [hwp];simp
   obtain ⟨w0,hw0⟩:∃ w0,w0=wp.alloc (.cells (gvC nullG).toArray 26):=⟨_,rfl⟩
   have hal:Below wp.heap.size wp w0:=by rw [hw0];exact alX (Below.refl _ _) _
   have hv0:VV w0 (w.heap.size+1) nullG:=by rw [hw0,← hzp];exact VV.new wp nullG
   have HV:=V hv0
   have HG:=V (hvp.below hal)
   have HB:=V (trX hbp hal)
   rw [hwp,show (gvC nullG).toArray=#[.int .i64 0,.int .i64 0,.string ⟨#[]⟩] from rfl] at hw0
   rw [← hw0]
   clear hwp hvp hbp hzp hw0 hal hv0
   refine wp_region_list ?_
   refine wpList_load_mid rfl 26 (.tmp 2) rfl w.heap.size 0 rfl (gvC g) _ (U HG).range Tryz.underlying26 rfl sizeV ?_
   refine lt 12 (errG c) ?_
   simp only[put,sA,sB,sC]
   refine wpList_store_mid rfl 26 (.tmp 4) (.tmp 11) rfl (w.heap.size+1) 0 (gvC g).toArray rfl rfl (U HV).there sizeV (all_oneCell_toArray (gvC_one _)) ?_
   show wpList _ _ _ _ _ (w0.setCells (w.heap.size+1) 0 (gvC g))
   refine lt 5 (errG c) ?_
   simp only[put,sA,sB,sC]
   go_wp2_with fail
   refine bodyPost_ret (((U HV).set g).result2 rfl _ rfl) rfl ?_
   exact ⟨rfl,below_setCells0 (U HB) (by omega) _⟩
theorem tested_any (n c:Int) (w:World):Calls Tryz.prog 113 #[.int .i64 n,errG c] w (GeP w (testedG n c)):=by
 by_cases h:c=0
 · subst h
   show Calls _ _ #[.int .i64 n,.nilIface] w (GeP w (ofTruthG n,0))
   go_enter Tryz.func113,Tryz.ntmps113
   go_upto_region 3 with fail
   obtain ⟨w0,hw0⟩:∃ w0,w0=w.alloc (.cells (gvC nullG).toArray 26):=⟨_,rfl⟩
   have hv0:VV w0 w.heap.size nullG:=by rw [hw0];exact VV.new w nullG
   have hb0:Below w.heap.size w w0:=by rw [hw0];exact alX (Below.refl _ _) _
   have HV:=V hv0
   have HB:=V hb0
   unfold gvC nullG at hw0
   rw [← hw0]
   clear hw0 hv0 hb0
   refine wp_region_list ?_
   refine lt 13 (.int .i64 n) ?_
   refine list_call rfl (some 14) rfl 29 #[.int .i64 n] (by kernel_rfl) (ofTruth_any n w0) ?_
   rintro e w1 ⟨rfl,hb1⟩
   refine ⟨_,rfl,?_⟩
   simp only[put,sA,sB,sC]
   have hv1:=(U HV).below hb1
   refine wpList_store_mid rfl 26 (.tmp 4) (.tmp 14) rfl w.heap.size 0 (gvC (ofTruthG n)).toArray rfl rfl hv1.there sizeV (all_oneCell_toArray (gvC_one _)) ?_
   show wpList _ _ _ _ _ (w1.setCells w.heap.size 0 (gvC (ofTruthG n)))
   refine lt 5 (.nilIface) ?_
   simp only[put,sA,sB,sC]
   go_wp2_with fail
   refine bodyPost_ret ((hv1.set (ofTruthG n)).result2 rfl _ rfl) rfl ?_
   exact ⟨rfl,VV.below_set (trX (U HB) hb1) _⟩
 · have hg:testedG n c=recG nullG c:=if_neg h
   rw [hg,errG_some h]
   have HRC:Hid (∀ W,Calls Tryz.prog 110 #[nullG.agg,.iface 95 (.int .i64 c)] W (GeP W (recG nullG c))):=fun W=>by have:=reckoned_any nullG c W;rwa [errG_some h] at this
   clear hg
   go_enter Tryz.func113,Tryz.ntmps113
   go_upto_region 2 with fail
   obtain ⟨w0,hw0⟩:∃ w0,w0=w.alloc (.cells (gvC nullG).toArray 26):=⟨_,rfl⟩
   have hv0:VV w0 w.heap.size nullG:=by rw [hw0];exact VV.new w nullG
   have hb0:Below w.heap.size w w0:=by rw [hw0];exact alX (Below.refl _ _) _
   have HV:=V hv0
   have HB:=V hb0
   unfold gvC nullG at hw0
   rw [← hw0]
   clear hw0 hv0 hb0
   refine wp_region_list ?_
   refine lt 8 (.agg (gvC nullG).toArray) ?_
   refine lt 9 (.iface 95 (.int .i64 c)) ?_
   refine list_call rfl (some 10) rfl 110 #[nullG.agg,.iface 95 (.int .i64 c)] (by kernel_rfl) (U HRC w0) ?_
   rintro e w1 ⟨rfl,hb1⟩
   refine ⟨_,rfl,?_⟩
   simp only[put,sA,sB,sC]
   have hv1:=(U HV).below hb1
   refine lt 11 (.agg (gvC (recG nullG c).1).toArray) ?_
   refine lt 12 (errG (recG nullG c).2) ?_
   simp only[put,sA,sB,sC]
   refine wpList_store_mid rfl 26 (.tmp 4) (.tmp 11) rfl w.heap.size 0 (gvC (recG nullG c).1).toArray rfl rfl hv1.there sizeV (all_oneCell_toArray (gvC_one _)) ?_
   show wpList _ _ _ _ _ (w1.setCells w.heap.size 0 (gvC (recG nullG c).1))
   refine lt 5 (errG (recG nullG c).2) ?_
   simp only[put,sA,sB,sC]
   go_wp2_with fail
   refine bodyPost_ret ((hv1.set (recG nullG c).1).result2 rfl _ rfl) rfl ?_
   exact ⟨rfl,VV.below_set (trX (U HB) hb1) _⟩
theorem soundE_any (g:GV) (hg:g.ok) (w:World):Calls Tryz.prog 61 #[g.agg] w (GeP w (soundE g)):=by
 have HI:=V (fun (W:World)=>is_any g W hg)
 show Calls _ _ #[.agg (gvC g).toArray] w _
 cases hm:g.may with
 | false=>
  rw [hm] at HI
  have hs:soundE g=(nullG,20):=if_neg (by rw [hm];decide)
  rw [hs]
  clear hs hm
  go_enter Tryz.func61,Tryz.ntmps61
  go_upto_region 1 with fail
  obtain ⟨wp,hwp⟩:∃ wp,wp=w.alloc (.cells (gvC g).toArray 26):=⟨_,rfl⟩
  have hvp:VV wp w.heap.size g:=by rw [hwp];exact VV.new w g
  have hbp:Below w.heap.size w wp:=by rw [hwp];exact alX (Below.refl _ _) _
  have hzp:wp.heap.size=w.heap.size+1:=by rw [hwp];simp
  obtain ⟨w0,hw0⟩:∃ w0,w0=wp.alloc (.cells (gvC nullG).toArray 26):=⟨_,rfl⟩
  have hal:Below wp.heap.size wp w0:=by rw [hw0];exact alX (Below.refl _ _) _
  have hv0:VV w0 (w.heap.size+1) nullG:=by rw [hw0,← hzp];exact VV.new wp nullG
  have HV:=V hv0
  have HG:=V (hvp.below hal)
  have HB:=V (trX hbp hal)
  rw [hwp,show (gvC nullG).toArray=#[.int .i64 0,.int .i64 0,.string ⟨#[]⟩] from rfl] at hw0
  rw [← hw0]
  clear hwp hvp hbp hzp hw0 hal hv0
  refine wp_region_list ?_
  refine wpList_load_mid rfl 26 (.tmp 1) rfl w.heap.size 0 rfl (gvC g) _ (U HG).range Tryz.underlying26 rfl sizeV ?_
  refine list_call rfl (some 5) rfl 109 #[g.agg] (by kernel_rfl) (U HI w0) ?_
  rintro e w1 ⟨rfl,hb1⟩
  refine ⟨_,rfl,?_⟩
  simp only[put,sA,sB,sC]
  have hv1:=(U HV).below hb1
  have HV1:=V hv1
  have HB1:=V (trX (U HB) hb1)
  clear hb1 hv1
  refine lt 6 (.bool true) ?_
  simp only[put,sA,sB,sC]
  go_upto_region 2 with fail
  refine wp_region_list ?_
  refine lt 7 (.agg (gvC nullG).toArray) ?_
  refine lt 8 (.iface 95 (.int .i64 20)) ?_
  simp only[put,sA,sB,sC]
  refine wpList_store_mid rfl 26 (.tmp 2) (.tmp 7) rfl (w.heap.size+1) 0 (gvC nullG).toArray rfl rfl (U HV1).there sizeV (all_oneCell_toArray (gvC_one _)) ?_
  show wpList _ _ _ _ _ (w1.setCells (w.heap.size+1) 0 (gvC nullG))
  refine lt 3 (.iface 95 (.int .i64 20)) ?_
  simp only[put,sA,sB,sC]
  go_wp2_with fail
  refine bodyPost_ret (((U HV1).set nullG).result2 rfl _ rfl) rfl ?_
  exact ⟨rfl,below_setCells0 (U HB1) (by omega) _⟩
 | true=>
  rw [hm] at HI
  have hs:soundE g=(g,0):=if_pos hm
  rw [hs]
  clear hs hm
  go_enter Tryz.func61,Tryz.ntmps61
  go_upto_region 1 with fail
  obtain ⟨wp,hwp⟩:∃ wp,wp=w.alloc (.cells (gvC g).toArray 26):=⟨_,rfl⟩
  have hvp:VV wp w.heap.size g:=by rw [hwp];exact VV.new w g
  have hbp:Below w.heap.size w wp:=by rw [hwp];exact alX (Below.refl _ _) _
  have hzp:wp.heap.size=w.heap.size+1:=by rw [hwp];simp
  obtain ⟨w0,hw0⟩:∃ w0,w0=wp.alloc (.cells (gvC nullG).toArray 26):=⟨_,rfl⟩
  have hal:Below wp.heap.size wp w0:=by rw [hw0];exact alX (Below.refl _ _) _
  have hv0:VV w0 (w.heap.size+1) nullG:=by rw [hw0,← hzp];exact VV.new wp nullG
  have HV:=V hv0
  have HG:=V (hvp.below hal)
  have HB:=V (trX hbp hal)
  rw [hwp,show (gvC nullG).toArray=#[.int .i64 0,.int .i64 0,.string ⟨#[]⟩] from rfl] at hw0
  rw [← hw0]
  clear hwp hvp hbp hzp hw0 hal hv0
  refine wp_region_list ?_
  refine wpList_load_mid rfl 26 (.tmp 1) rfl w.heap.size 0 rfl (gvC g) _ (U HG).range Tryz.underlying26 rfl sizeV ?_
  refine list_call rfl (some 5) rfl 109 #[g.agg] (by kernel_rfl) (U HI w0) ?_
  rintro e w1 ⟨rfl,hb1⟩
  refine ⟨_,rfl,?_⟩
  simp only[put,sA,sB,sC]
  have HV1:=V ((U HV).below hb1)
  have HG1:=V ((U HG).below hb1)
  have HB1:=V (trX (U HB) hb1)
  clear hb1
  refine lt 6 (.bool false) ?_
  simp only[put,sA,sB,sC]
  go_upto_region 3 with fail
  refine wp_region_list ?_
  refine wpList_load_mid rfl 26 (.tmp 1) rfl w.heap.size 0 rfl (gvC g) _ (U HG1).range Tryz.underlying26 rfl sizeV ?_
  simp only[put,sA,sB,sC]
  refine wpList_store_mid rfl 26 (.tmp 2) (.tmp 9) rfl (w.heap.size+1) 0 (gvC g).toArray rfl rfl (U HV1).there sizeV (all_oneCell_toArray (gvC_one _)) ?_
  show wpList _ _ _ _ _ (w1.setCells (w.heap.size+1) 0 (gvC g))
  refine lt 3 (.nilIface) ?_
  simp only[put,sA,sB,sC]
  go_wp2_with fail
  refine bodyPost_ret (((U HV1).set g).result2 rfl _ rfl) rfl ?_
  exact ⟨rfl,below_setCells0 (U HB1) (by omega) _⟩
end Go.Proofs.YtpnonhjmpnbmcaaGreatDoor
