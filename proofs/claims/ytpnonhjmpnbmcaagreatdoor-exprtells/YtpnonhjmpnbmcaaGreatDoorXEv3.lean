/- Package expr: truth, unary, logic, binary. -/
import Derived.Test.YtpnonhjmpnbmcaaGreatDoorJXTy14XEv2XOk
import Derived.Test.YtpnonhjmpnbmcaaGreatDoorJPlainLMathLMath2LMath3XLex1XLex2NBigListOpsListOp2ListOp3
namespace Go.Proofs.YtpnonhjmpnbmcaaGreatDoor
open Go.RowKit Go.Lib
open Act (put)
set_option linter.unusedSimpArgs false
set_option linter.unusedVariables false
set_option maxHeartbeats 6400000
set_option maxRecDepth 20000
/-- What eval tells of the expression at an address, whatever came behind w. -/
def EvAt (w:World) (pg b o:Nat) (r:GV × Int):Prop:=∀ W,Below w.heap.size w W→Calls Tryz.prog 28 #[.pointer (some ⟨pg,0,none⟩),.pointer (some ⟨b,o,none⟩)] W (GeP W r)
theorem setV_new (q:World) (g:GV):(q.alloc (.cells (gvC nullG).toArray 26)).setCells q.heap.size 0 (gvC g)=q.alloc (.cells (gvC g).toArray 26):=by
 exact setCells_new q 26 (gvC nullG).toArray (gvC g) rfl
def TrP (w:World) (r:Int × Int) (e:Ending) (w':World):Prop:=e=.returned (.tuple #[.int .i64 r.1,errG r.2])∧Below w.heap.size w w'
theorem truth_of (w:World) (pg be oe:Nat) (r:GV × Int) (hev:EvAt w pg be oe r):Calls Tryz.prog 119 #[.pointer (some ⟨pg,0,none⟩),.pointer (some ⟨be,oe,none⟩)] w (TrP w (trE r)):=by
 have HEV:=V hev
 obtain ⟨PP,hPP⟩:∃ PP,PP=TrP w (trE r):=⟨_,rfl⟩
 have HPP:=V hPP
 rw [← hPP]
 clear hPP hev
 obtain ⟨w0,hw0⟩:∃ w0,w0=w:=⟨_,rfl⟩
 have HB:Hid (Below w.heap.size w w0):=by rw [hw0];exact Below.refl _ _
 rw [← hw0]
 clear hw0
 go_enter Tryz.func119,Tryz.ntmps119
 go_upto_region 1 with fail
 refine wp_region_list ?_
 refine lt 9 (.pointer (some ⟨pg,0,none⟩)) ?_
 refine lt 10 (.pointer (some ⟨be,oe,none⟩)) ?_
 refine list_call rfl (some 11) rfl 28 #[.pointer (some ⟨pg,0,none⟩),.pointer (some ⟨be,oe,none⟩)] (by kernel_rfl) (U HEV w0 (U HB)) ?_
 rintro e q1 ⟨rfl,hb⟩
 refine ⟨_,rfl,?_⟩
 simp only[put,sA,sB,sC]
 have HB:=V (trX (U HB) hb)
 clear hb
 refine lt 8 (.tuple #[r.1.agg,errG r.2]) ?_
 refine lt 12 (.agg (gvC r.1).toArray) ?_
 refine lt 13 (errG r.2) ?_
 simp only[put,sA,sB,sC]
 refine list_new rfl 26 rfl (gvC nullG).toArray (zero_of_info zeroV).1 ?_
 simp only[put,sA,sB,sC]
 refine wpList_store_mid rfl 26 (.tmp 6) (.tmp 12) rfl q1.heap.size 0 (gvC r.1).toArray rfl rfl (VV.new q1 nullG).there sizeV (all_oneCell_toArray (gvC_one _)) ?_
 show wpList _ _ _ _ _ ((q1.alloc (.cells (gvC nullG).toArray 26)).setCells q1.heap.size 0 (gvC r.1))
 rw [setV_new q1 r.1]
 refine lt 7 (errG r.2) ?_
 simp only[put,sA,sB,sC]
 have HV:=V (VV.new q1 r.1)
 have hb:Below q1.heap.size q1 (q1.alloc (.cells (gvC r.1).toArray 26)):=alX (Below.refl _ _) _
 have HB:=V (trX (U HB) hb)
 obtain ⟨bHV,hb9⟩:∃ bHV,bHV=q1.heap.size:=⟨_,rfl⟩
 obtain ⟨w1,hw9⟩:∃ w1,w1=q1.alloc (.cells (gvC r.1).toArray 26):=⟨_,rfl⟩
 rw [← hw9] at HB HV 
 rw [← hw9]
 rw [← hb9] at HV
 rw [← hb9]
 clear hb hw9 hb9
 by_cases hc:r.2=0
 · have HT:Hid (trE r=truthG r.1):=if_pos hc
   rw [hc]
   have HTO:=V (truthOf_any r.1)
   clear hc
   go_upto_region 2 with fail
   refine wp_region_list ?_
   refine lt 14 (errG 0) ?_
   refine lt 15 (.bool false) ?_
   simp only[put,sA,sB,sC]
   go_upto_region 4 with fail
   refine wp_region_list ?_
   refine wpList_load_mid rfl 26 (.tmp 6) rfl bHV 0 rfl (gvC r.1) _ (U HV).range Tryz.underlying26 rfl sizeV ?_
   refine list_call rfl (some 18) rfl 112 #[.agg (gvC r.1).toArray] (by kernel_rfl) (U HTO w1) ?_
   rintro e w2 ⟨rfl,hb⟩
   refine ⟨_,rfl,?_⟩
   simp only[put,sA,sB,sC]
   have HB:=V (trX (U HB) hb)
   refine lt 19 (.int .i64 (truthG r.1).1) ?_
   refine lt 20 (errG (truthG r.1).2) ?_
   refine lt 4 (.int .i64 (truthG r.1).1) ?_
   refine lt 5 (errG (truthG r.1).2) ?_
   simp only[put,sA,sB,sC]
   go_wp2_with fail
   first
    | (rw [U HPP,U HT];exact ⟨rfl,U HB⟩)
    | (go_ret2;rw [U HPP,U HT];exact ⟨rfl,U HB⟩)
 · have HT:Hid (trE r=(0,r.2)):=if_neg hc
   have HER:=V (errG_some hc)
   rw [errG_some hc]
   go_upto_region 2 with fail
   refine wp_region_list ?_
   refine lt 14 (.iface 95 (.int .i64 r.2)) ?_
   refine lt 15 (.bool true) ?_
   simp only[put,sA,sB,sC]
   go_upto_region 3 with fail
   refine wp_region_list ?_
   refine lt 16 (.iface 95 (.int .i64 r.2)) ?_
   refine lt 4 (.int .i64 0) ?_
   refine lt 5 (.iface 95 (.int .i64 r.2)) ?_
   simp only[put,sA,sB,sC]
   go_wp2_with fail
   first
    | (rw [U HPP,U HT];exact ⟨by (rw [show errG ((0,r.2):Int × Int).2=_ from U HER]) <;> rfl,U HB⟩)
    | (go_ret2;rw [U HPP,U HT];exact ⟨by (rw [show errG ((0,r.2):Int × Int).2=_ from U HER]) <;> rfl,U HB⟩)
theorem unary_of (w:World) (pg be oe ba oa k:Nat) (op:Int) (x:GV × Int) (c1:w.cell? ⟨be,oe+1,none⟩=some (.int .i64 op)) (c7:w.cell? ⟨be,oe+7,none⟩=some (.slice (some ⟨ba,oa,none⟩) 1 k)) (hx:x.1.ok) (hev:EvAt w pg ba oa x):Calls Tryz.prog 63 #[.pointer (some ⟨pg,0,none⟩),.pointer (some ⟨be,oe,none⟩)] w (GeP w (unaryG op x)):=by
 have HEV:=V hev
 have HC1:Hid (∀ W,Below w.heap.size w W→W.cell? ⟨be,oe+1,none⟩=some (.int .i64 op)):=fun W hb=>(hb.cell (p:=⟨be,oe+1,none⟩) (World.block_lt_of_cell? w _ c1)).trans c1
 have HC7:Hid (∀ W,Below w.heap.size w W→W.cell? ⟨be,oe+7,none⟩=some (.slice (some ⟨ba,oa,none⟩) 1 k)):=fun W hb=>(hb.cell (p:=⟨be,oe+7,none⟩) (World.block_lt_of_cell? w _ c7)).trans c7
 have HXO:=V hx
 obtain ⟨R,hR⟩:∃ R,R=unaryG op x:=⟨_,rfl⟩
 obtain ⟨PP,hPP⟩:∃ PP,PP=GeP w R:=⟨_,rfl⟩
 have HPP:=V hPP
 rw [← hR,← hPP]
 clear hPP hev c1 c7 hx
 go_enter Tryz.func63,Tryz.ntmps63
 go_upto_region 1 with fail
 obtain ⟨w0,hw0⟩:∃ w0,w0=w.alloc (.cells (gvC nullG).toArray 26):=⟨_,rfl⟩
 have hb0:Below w.heap.size w w0:=by rw [hw0];exact alX (Below.refl _ _) _
 have HV:=V (show VV w0 w.heap.size nullG by rw [hw0];exact VV.new w nullG)
 have HB:=V hb0
 rw [show (gvC nullG).toArray=#[.int .i64 0,.int .i64 0,.string ⟨#[]⟩] from rfl] at hw0
 rw [← hw0]
 clear hw0 hb0
 have c7:=U HC7 w0 (U HB)
 refine wp_region_list ?_
 refine lt 12 (.pointer (some ⟨pg,0,none⟩)) ?_
 refine lt 13 (.pointer (some ⟨be,oe,none⟩)) ?_
 refine lt 14 (.pointer (some ⟨be,oe,none⟩)) ?_
 refine lt 15 (.pointer (some ⟨be,oe+7,none⟩)) ?_
 simp only[put,sA,sB,sC]
 refine list_to (d:=16) (v:=.slice (some ⟨ba,oa,none⟩) 1 k) rfl rfl (by go_simp) ?_
 simp only[put,sA,sB,sC]
 refine list_to (d:=17) (v:=.pointer (some ⟨ba,oa,none⟩)) rfl rfl (by go_simp) ?_
 simp only[put,sA,sB,sC]
 clear c7
 refine list_call rfl (some 18) rfl 28 #[.pointer (some ⟨pg,0,none⟩),.pointer (some ⟨ba,oa,none⟩)] (by kernel_rfl) (U HEV w0 (U HB)) ?_
 rintro e q1 ⟨rfl,hb⟩
 refine ⟨_,rfl,?_⟩
 simp only[put,sA,sB,sC]
 have HB:=V (trX (U HB) hb)
 have HV:=V ((U HV).below hb)
 clear hb
 refine lt 11 (.tuple #[x.1.agg,errG x.2]) ?_
 refine lt 19 (.agg (gvC x.1).toArray) ?_
 refine lt 20 (errG x.2) ?_
 simp only[put,sA,sB,sC]
 refine list_new rfl 26 rfl (gvC nullG).toArray (zero_of_info zeroV).1 ?_
 simp only[put,sA,sB,sC]
 refine wpList_store_mid rfl 26 (.tmp 6) (.tmp 19) rfl q1.heap.size 0 (gvC x.1).toArray rfl rfl (VV.new q1 nullG).there sizeV (all_oneCell_toArray (gvC_one _)) ?_
 show wpList _ _ _ _ _ ((q1.alloc (.cells (gvC nullG).toArray 26)).setCells q1.heap.size 0 (gvC x.1))
 rw [setV_new q1 x.1]
 refine lt 7 (errG x.2) ?_
 simp only[put,sA,sB,sC]
 have LHX:Hid (w.heap.size < q1.heap.size):=ltX (U HV)
 have HX:=V (VV.new q1 x.1)
 have hb:Below q1.heap.size q1 (q1.alloc (.cells (gvC x.1).toArray 26)):=alX (Below.refl _ _) _
 have HB:=V (trX (U HB) hb)
 have HV:=V ((U HV).below hb)
 obtain ⟨bHX,hb9⟩:∃ bHX,bHX=q1.heap.size:=⟨_,rfl⟩
 obtain ⟨w1,hw9⟩:∃ w1,w1=q1.alloc (.cells (gvC x.1).toArray 26):=⟨_,rfl⟩
 rw [← hw9] at HB HX HV
 rw [← hw9]
 rw [← hb9] at HX LHX
 rw [← hb9]
 clear hb hw9 hb9
 by_cases hc:x.2=0
 · have hR2:unaryG op x=(if op=1 then recG (doG 1 x.1 nullG).1 (doG 1 x.1 nullG).2 else if op=2 then testedG (notG (truthG x.1).1) (truthG x.1).2 else if op=3 then (ofTruthG (if x.1.kind=0 then 1 else 0),0) else if op=4 then (ofTruthG (if x.1.kind=0 then 0 else 1),0) else (nullG,20)):=by
    unfold unaryG
    rw [if_neg (fun h=>h hc)]
   rw [hR2] at hR
   clear hR2
   rw [hc]
   clear hc
   go_upto_region 2 with fail
   refine wp_region_list ?_
   refine lt 21 (errG 0) ?_
   refine lt 22 (.bool false) ?_
   simp only[put,sA,sB,sC]
   go_upto_region 4 with fail
   refine wp_region_list ?_
   refine lt 25 (.pointer (some ⟨bHX,0,none⟩)) ?_
   simp only[put,sA,sB,sC]
   have k0:=cellX (U HX) 0
   simp only[gvC] at k0
   refine list_to (d:=26) (v:=.int .i64 x.1.kind) rfl rfl (by go_simp) ?_
   simp only[put,sA,sB,sC]
   refine list_to (d:=27) (v:=.bool (x.1.kind == 0)) rfl rfl (by go_simp) ?_
   refine lt 8 (.bool (x.1.kind == 0)) ?_
   simp only[put,sA,sB,sC]
   clear k0
   go_upto_region 5 with fail
   have c1:=U HC1 w1 (U HB)
   refine wp_region_list ?_
   refine lt 28 (.pointer (some ⟨be,oe,none⟩)) ?_
   refine lt 29 (.pointer (some ⟨be,oe,none⟩)) ?_
   refine lt 30 (.pointer (some ⟨be,oe+1,none⟩)) ?_
   simp only[put,sA,sB,sC]
   refine list_to (d:=31) (v:=.int .i64 op) rfl rfl (by go_simp) ?_
   simp only[put,sA,sB,sC]
   clear c1
   by_cases h1:op=1
   · have HR:=V (hR.trans (if_pos h1))
     subst h1
     clear hR
     go_upto_region 10 with fail
     skip
     as_aux_lemma=>
      refine wp_region_list ?_
      refine wpList_load_mid rfl 26 (.tmp 6) rfl bHX 0 rfl (gvC x.1) _ (U HX).range Tryz.underlying26 rfl sizeV ?_
      refine lt 41 (.agg (gvC nullG).toArray) ?_
      refine list_call rfl (some 42) rfl 111 #[.int .i64 1,.agg (gvC x.1).toArray,.agg (gvC nullG).toArray] (by kernel_rfl) (do_any 1 x.1 nullG w1 (U HXO) (.inl rfl)) ?_
      rintro e w2 ⟨rfl,hb⟩
      refine ⟨_,rfl,?_⟩
      simp only[put,sA,sB,sC]
      have HB:=V (trX (U HB) hb)
      have HV:=V ((U HV).below hb)
      clear hb
      refine lt 43 (.agg (gvC (doG 1 x.1 nullG).1).toArray) ?_
      refine lt 44 (errG (doG 1 x.1 nullG).2) ?_
      refine list_call rfl (some 45) rfl 110 #[.agg (gvC (doG 1 x.1 nullG).1).toArray,errG (doG 1 x.1 nullG).2] (by kernel_rfl) (reckoned_any (doG 1 x.1 nullG).1 (doG 1 x.1 nullG).2 w2) ?_
      rintro e w3 ⟨rfl,hb⟩
      refine ⟨_,rfl,?_⟩
      simp only[put,sA,sB,sC]
      have HB:=V (trX (U HB) hb)
      have HV:=V ((U HV).below hb)
      clear hb
      obtain ⟨Y,hY⟩:∃ Y,Y=recG (doG 1 x.1 nullG).1 (doG 1 x.1 nullG).2:=⟨_,rfl⟩
      rw [← hY] at HR
      rw [← hY]
      clear hY
      refine lt 46 (.agg (gvC Y.1).toArray) ?_
      refine lt 47 (errG Y.2) ?_
      simp only[put,sA,sB,sC]
      refine wpList_store_mid rfl 26 (.tmp 4) (.tmp 46) rfl w.heap.size 0 (gvC Y.1).toArray rfl rfl (U HV).there sizeV (all_oneCell_toArray (gvC_one _)) ?_
      show wpList _ _ _ _ _ (w3.setCells w.heap.size 0 (gvC Y.1))
      refine lt 5 (errG Y.2) ?_
      simp only[put,sA,sB,sC]
      go_wp2_with fail
      refine bodyPost_ret (((U HV).set Y.1).result2 rfl _ rfl) rfl ?_
      rw [U HPP,U HR]
      exact ⟨rfl,below_setCells0 (U HB) (Nat.le_refl _) _⟩
   have e1:(op == 1)=false:=beq_eq_false_iff_ne.2 h1
   rw [if_neg h1] at hR
   by_cases h2:op=2
   · have HR:=V (hR.trans (if_pos h2))
     subst h2
     clear hR
     go_upto_region 11 with fail
     skip
     as_aux_lemma=>
      refine wp_region_list ?_
      refine wpList_load_mid rfl 26 (.tmp 6) rfl bHX 0 rfl (gvC x.1) _ (U HX).range Tryz.underlying26 rfl sizeV ?_
      refine list_call rfl (some 50) rfl 112 #[.agg (gvC x.1).toArray] (by kernel_rfl) (truthOf_any x.1 w1) ?_
      rintro e w2 ⟨rfl,hb⟩
      refine ⟨_,rfl,?_⟩
      simp only[put,sA,sB,sC]
      have HB:=V (trX (U HB) hb)
      have HV:=V ((U HV).below hb)
      clear hb
      refine lt 48 (.tuple #[.int .i64 (truthG x.1).1,errG (truthG x.1).2]) ?_
      refine lt 51 (.int .i64 (truthG x.1).1) ?_
      refine lt 52 (errG (truthG x.1).2) ?_
      refine lt 9 (.int .i64 (truthG x.1).1) ?_
      refine lt 10 (errG (truthG x.1).2) ?_
      simp only[put,sA,sB,sC]
      go_upto_region 12 with fail
      refine wp_region_list ?_
      refine lt 53 (.int .i64 (truthG x.1).1) ?_
      refine list_call rfl (some 54) rfl 114 #[.int .i64 (truthG x.1).1] (by kernel_rfl) (not_any (truthG x.1).1 w2) ?_
      rintro e w3 ⟨rfl,rfl⟩
      refine ⟨_,rfl,?_⟩
      refine lt 55 (errG (truthG x.1).2) ?_
      refine list_call rfl (some 56) rfl 113 #[.int .i64 (notG (truthG x.1).1),errG (truthG x.1).2] (by kernel_rfl) (tested_any (notG (truthG x.1).1) (truthG x.1).2 w3) ?_
      rintro e w4 ⟨rfl,hb⟩
      refine ⟨_,rfl,?_⟩
      simp only[put,sA,sB,sC]
      have HB:=V (trX (U HB) hb)
      have HV:=V ((U HV).below hb)
      clear hb
      obtain ⟨Y,hY⟩:∃ Y,Y=testedG (notG (truthG x.1).1) (truthG x.1).2:=⟨_,rfl⟩
      rw [← hY] at HR
      rw [← hY]
      clear hY
      refine lt 57 (.agg (gvC Y.1).toArray) ?_
      refine lt 58 (errG Y.2) ?_
      simp only[put,sA,sB,sC]
      refine wpList_store_mid rfl 26 (.tmp 4) (.tmp 57) rfl w.heap.size 0 (gvC Y.1).toArray rfl rfl (U HV).there sizeV (all_oneCell_toArray (gvC_one _)) ?_
      show wpList _ _ _ _ _ (w4.setCells w.heap.size 0 (gvC Y.1))
      refine lt 5 (errG Y.2) ?_
      simp only[put,sA,sB,sC]
      go_wp2_with fail
      refine bodyPost_ret (((U HV).set Y.1).result2 rfl _ rfl) rfl ?_
      rw [U HPP,U HR]
      exact ⟨rfl,below_setCells0 (U HB) (Nat.le_refl _) _⟩
   have e2:(op == 2)=false:=beq_eq_false_iff_ne.2 h2
   rw [if_neg h2] at hR
   by_cases h3:op=3
   · have HR:=V (hR.trans (if_pos h3))
     subst h3
     clear hR
     go_upto_region 14 with fail
     skip
     as_aux_lemma=>
      refine wp_region_list ?_
      refine lt 61 (.bool (x.1.kind == 0)) ?_
      refine list_call rfl (some 62) rfl 115 #[.bool (x.1.kind == 0)] (by kernel_rfl) (ofBool_any (x.1.kind == 0) w1) ?_
      rintro e w2 ⟨rfl,hb⟩
      refine ⟨_,rfl,?_⟩
      simp only[put,sA,sB,sC]
      have HB:=V (trX (U HB) hb)
      have HV:=V ((U HV).below hb)
      clear hb
      obtain ⟨Y,hY⟩:∃ Y,Y=ofTruthG (if (x.1.kind == 0)=true then 1 else 0):=⟨_,rfl⟩
      rw [← hY]
      have HR2:Hid (R=(Y,0)):=by
       show R=_
       rw [U HR,hY]
       by_cases hk:x.1.kind=0
       · simp [hk]
       · simp [hk]
      clear hY HR
      have HR:=HR2
      clear HR2
      refine wpList_store_mid rfl 26 (.tmp 4) (.tmp 62) rfl w.heap.size 0 (gvC Y).toArray rfl rfl (U HV).there sizeV (all_oneCell_toArray (gvC_one _)) ?_
      show wpList _ _ _ _ _ (w2.setCells w.heap.size 0 (gvC Y))
      refine lt 5 (.nilIface) ?_
      simp only[put,sA,sB,sC]
      go_wp2_with fail
      refine bodyPost_ret (((U HV).set Y).result2 rfl _ rfl) rfl ?_
      rw [U HPP,U HR]
      exact ⟨rfl,below_setCells0 (U HB) (Nat.le_refl _) _⟩
   have e3:(op == 3)=false:=beq_eq_false_iff_ne.2 h3
   rw [if_neg h3] at hR
   by_cases h4:op=4
   · have HR:=V (hR.trans (if_pos h4))
     subst h4
     clear hR
     go_upto_region 13 with fail
     skip
     as_aux_lemma=>
      refine wp_region_list ?_
      refine lt 59 (.bool (x.1.kind == 0)) ?_
      refine lt 60 (.bool (!(x.1.kind == 0))) ?_
      refine lt 8 (.bool (!(x.1.kind == 0))) ?_
      simp only[put,sA,sB,sC]
      go_upto_region 14 with fail
      refine wp_region_list ?_
      refine lt 61 (.bool (!(x.1.kind == 0))) ?_
      refine list_call rfl (some 62) rfl 115 #[.bool (!(x.1.kind == 0))] (by kernel_rfl) (ofBool_any (!(x.1.kind == 0)) w1) ?_
      rintro e w2 ⟨rfl,hb⟩
      refine ⟨_,rfl,?_⟩
      simp only[put,sA,sB,sC]
      have HB:=V (trX (U HB) hb)
      have HV:=V ((U HV).below hb)
      clear hb
      obtain ⟨Y,hY⟩:∃ Y,Y=ofTruthG (if (!(x.1.kind == 0))=true then 1 else 0):=⟨_,rfl⟩
      rw [← hY]
      have HR2:Hid (R=(Y,0)):=by
       show R=_
       rw [U HR,hY]
       by_cases hk:x.1.kind=0
       · simp [hk]
       · simp [hk]
      clear hY HR
      have HR:=HR2
      clear HR2
      refine wpList_store_mid rfl 26 (.tmp 4) (.tmp 62) rfl w.heap.size 0 (gvC Y).toArray rfl rfl (U HV).there sizeV (all_oneCell_toArray (gvC_one _)) ?_
      show wpList _ _ _ _ _ (w2.setCells w.heap.size 0 (gvC Y))
      refine lt 5 (.nilIface) ?_
      simp only[put,sA,sB,sC]
      go_wp2_with fail
      refine bodyPost_ret (((U HV).set Y).result2 rfl _ rfl) rfl ?_
      rw [U HPP,U HR]
      exact ⟨rfl,below_setCells0 (U HB) (Nat.le_refl _) _⟩
   have e4:(op == 4)=false:=beq_eq_false_iff_ne.2 h4
   have HR:=V (hR.trans (if_neg h4))
   clear hR
   go_upto_region 15 with fail
   skip
   as_aux_lemma=>
    refine wp_region_list ?_
    refine lt 63 (.agg (gvC nullG).toArray) ?_
    refine lt 64 (.iface 95 (.int .i64 20)) ?_
    simp only[put,sA,sB,sC]
    refine wpList_store_mid rfl 26 (.tmp 4) (.tmp 63) rfl w.heap.size 0 (gvC nullG).toArray rfl rfl (U HV).there sizeV (all_oneCell_toArray (gvC_one _)) ?_
    show wpList _ _ _ _ _ (w1.setCells w.heap.size 0 (gvC nullG))
    refine lt 5 (.iface 95 (.int .i64 20)) ?_
    simp only[put,sA,sB,sC]
    go_wp2_with fail
    refine bodyPost_ret (((U HV).set nullG).result2 rfl _ rfl) rfl ?_
    rw [U HPP,U HR]
    exact ⟨rfl,below_setCells0 (U HB) (Nat.le_refl _) _⟩
 · have HR:Hid (R=(nullG,x.2)):=by show R=_;rw [hR];unfold unaryG;rw [if_pos hc]
   have HER:=V (errG_some hc)
   rw [errG_some hc]
   clear hR
   go_upto_region 2 with fail
   refine wp_region_list ?_
   refine lt 21 (.iface 95 (.int .i64 x.2)) ?_
   refine lt 22 (.bool true) ?_
   simp only[put,sA,sB,sC]
   go_upto_region 3 with fail
   refine wp_region_list ?_
   refine lt 23 (.agg (gvC nullG).toArray) ?_
   refine lt 24 (.iface 95 (.int .i64 x.2)) ?_
   simp only[put,sA,sB,sC]
   refine wpList_store_mid rfl 26 (.tmp 4) (.tmp 23) rfl w.heap.size 0 (gvC nullG).toArray rfl rfl (U HV).there sizeV (all_oneCell_toArray (gvC_one _)) ?_
   show wpList _ _ _ _ _ (w1.setCells w.heap.size 0 (gvC nullG))
   refine lt 5 (.iface 95 (.int .i64 x.2)) ?_
   simp only[put,sA,sB,sC]
   go_wp2_with fail
   refine bodyPost_ret (((U HV).set nullG).result2 rfl _ rfl) rfl ?_
   rw [U HPP,U HR]
   exact ⟨by (rw [show errG ((nullG,x.2):GV × Int).2=_ from U HER]) <;> rfl,below_setCells0 (U HB) (Nat.le_refl _) _⟩
theorem logic_of17 (w:World) (pg be oe ba oa k:Nat) (x y:GV × Int) (c1:w.cell? ⟨be,oe+1,none⟩=some (.int .i64 17)) (c7:w.cell? ⟨be,oe+7,none⟩=some (.slice (some ⟨ba,oa,none⟩) 2 k)) (hev:EvAt w pg ba oa x) (hevy:EvAt w pg ba (oa+10) y):Calls Tryz.prog 116 #[.pointer (some ⟨pg,0,none⟩),.pointer (some ⟨be,oe,none⟩)] w (GeP w (logicG 17 x y)):=by
 have HEV:=V hev
 have HEY:=V hevy
 have HC1:Hid (∀ W,Below w.heap.size w W→W.cell? ⟨be,oe+1,none⟩=some (.int .i64 17)):=fun W hb=>(hb.cell (p:=⟨be,oe+1,none⟩) (World.block_lt_of_cell? w _ c1)).trans c1
 have HC7:Hid (∀ W,Below w.heap.size w W→W.cell? ⟨be,oe+7,none⟩=some (.slice (some ⟨ba,oa,none⟩) 2 k)):=fun W hb=>(hb.cell (p:=⟨be,oe+7,none⟩) (World.block_lt_of_cell? w _ c7)).trans c7
 obtain ⟨R,hR⟩:∃ R,R=logicG 17 x y:=⟨_,rfl⟩
 obtain ⟨PP,hPP⟩:∃ PP,PP=GeP w R:=⟨_,rfl⟩
 have HPP:=V hPP
 rw [← hR,← hPP]
 clear hPP hev hevy c1 c7
 have HRL:=V hR
 clear hR
 go_enter Tryz.func116,Tryz.ntmps116
 go_upto_region 1 with fail
 obtain ⟨w0,hw0⟩:∃ w0,w0=w.alloc (.cells (gvC nullG).toArray 26):=⟨_,rfl⟩
 have hb0:Below w.heap.size w w0:=by rw [hw0];exact alX (Below.refl _ _) _
 have HV:=V (show VV w0 w.heap.size nullG by rw [hw0];exact VV.new w nullG)
 have HB:=V hb0
 rw [show (gvC nullG).toArray=#[.int .i64 0,.int .i64 0,.string ⟨#[]⟩] from rfl] at hw0
 rw [← hw0]
 clear hw0 hb0
 have c1:=U HC1 w0 (U HB)
 go_upto_region 4 with fail
 clear c1
 have c7:=U HC7 w0 (U HB)
 refine wp_region_list ?_
 refine lt 17 (.pointer (some ⟨pg,0,none⟩)) ?_
 refine lt 18 (.pointer (some ⟨be,oe,none⟩)) ?_
 refine lt 19 (.pointer (some ⟨be,oe,none⟩)) ?_
 refine lt 20 (.pointer (some ⟨be,oe+7,none⟩)) ?_
 simp only[put,sA,sB,sC]
 refine list_to (d:=21) (v:=.slice (some ⟨ba,oa,none⟩) 2 k) rfl rfl (by go_simp) ?_
 simp only[put,sA,sB,sC]
 refine list_to (d:=22) (v:=.pointer (some ⟨ba,oa,none⟩)) rfl rfl (by go_simp) ?_
 simp only[put,sA,sB,sC]
 clear c7
 refine list_call rfl (some 23) rfl 119 #[.pointer (some ⟨pg,0,none⟩),.pointer (some ⟨ba,oa,none⟩)] (by kernel_rfl) (truth_of w0 pg _ _ x (fun W hb=>U HEV W (trX (U HB) hb))) ?_
 rintro e w1 ⟨rfl,hb⟩
 refine ⟨_,rfl,?_⟩
 simp only[put,sA,sB,sC]
 have HB:=V (trX (U HB) hb)
 have HV:=V ((U HV).below hb)
 clear hb
 refine lt 16 (.tuple #[.int .i64 (trE x).1,errG (trE x).2]) ?_
 refine lt 24 (.int .i64 (trE x).1) ?_
 refine lt 25 (errG (trE x).2) ?_
 refine lt 8 (.int .i64 (trE x).1) ?_
 refine lt 9 (errG (trE x).2) ?_
 simp only[put,sA,sB,sC]
 by_cases hc:(trE x).2=0
 · by_cases ha:(trE x).1=0
   · have HR:Hid (R=testedG (trE x).1 (trE x).2):=by show R=_;rw [U HRL];unfold logicG;rw [if_pos (.inr ha)]
     have hab:((trE x).1 == 0)=true:=by rw [ha];rfl
     rw [hc]
     go_upto_region 5 with fail
     refine wp_region_list ?_
     refine lt 26 (errG 0) ?_
     refine lt 27 (.bool false) ?_
     refine lt 28 (.bool false) ?_
     simp only[put,sA,sB,sC]
     refine list_want (d:=29) (v:=.int .i64 (trE x).1) rfl (by kernel_rfl) (by kernel_rfl) ?_
     simp only[put,sA,sB,sC]
     refine list_want (d:=30) (v:=.int .i64 0) rfl (by kernel_rfl) (by kernel_rfl) ?_
     simp only[put,sA,sB,sC]
     refine list_want (d:=31) (v:=.bool ((trE x).1 == 0)) rfl (by kernel_rfl) (by go_simp) ?_
     simp only[put,sA,sB,sC]
     rw [hab]
     refine lt 32 (.bool true) ?_
     simp only[put,sA,sB,sC]
     rw [← hc]
     clear hab ha
     skip
     as_aux_lemma=>
      clear hc
      go_upto_region 6 with fail
      refine wp_region_list ?_
      refine lt 33 (.int .i64 (trE x).1) ?_
      refine lt 34 (errG (trE x).2) ?_
      refine list_call rfl (some 35) rfl 113 #[.int .i64 (trE x).1,errG (trE x).2] (by kernel_rfl) (tested_any (trE x).1 (trE x).2 w1) ?_
      rintro e w5 ⟨rfl,hb⟩
      refine ⟨_,rfl,?_⟩
      simp only[put,sA,sB,sC]
      have HB:=V (trX (U HB) hb)
      have HV:=V ((U HV).below hb)
      clear hb
      obtain ⟨Y,hY⟩:∃ Y,Y=testedG (trE x).1 (trE x).2:=⟨_,rfl⟩
      rw [← hY] at HR
      rw [← hY]
      clear hY
      refine lt 36 (.agg (gvC Y.1).toArray) ?_
      refine lt 37 (errG Y.2) ?_
      simp only[put,sA,sB,sC]
      refine wpList_store_mid rfl 26 (.tmp 4) (.tmp 36) rfl w.heap.size 0 (gvC Y.1).toArray rfl rfl (U HV).there sizeV (all_oneCell_toArray (gvC_one _)) ?_
      show wpList _ _ _ _ _ (w5.setCells w.heap.size 0 (gvC Y.1))
      refine lt 5 (errG Y.2) ?_
      simp only[put,sA,sB,sC]
      go_wp2_with fail
      refine bodyPost_ret (((U HV).set Y.1).result2 rfl _ rfl) rfl ?_
      rw [U HPP,U HR]
      exact ⟨rfl,below_setCells0 (U HB) (Nat.le_refl _) _⟩
   · have hab:((trE x).1 == 0)=false:=beq_eq_false_iff_ne.2 ha
     have HR:Hid (R=testedG (andG (trE x).1 (trE y).1) (trE y).2):=by show R=_;rw [U HRL];unfold logicG;rw [if_neg (fun h=>h.elim (fun q=>q hc) ha)];rfl
     rw [hc]
     go_upto_region 5 with fail
     refine wp_region_list ?_
     refine lt 26 (errG 0) ?_
     refine lt 27 (.bool false) ?_
     refine lt 28 (.bool false) ?_
     simp only[put,sA,sB,sC]
     refine list_want (d:=29) (v:=.int .i64 (trE x).1) rfl (by kernel_rfl) (by kernel_rfl) ?_
     simp only[put,sA,sB,sC]
     refine list_want (d:=30) (v:=.int .i64 0) rfl (by kernel_rfl) (by kernel_rfl) ?_
     simp only[put,sA,sB,sC]
     refine list_want (d:=31) (v:=.bool ((trE x).1 == 0)) rfl (by kernel_rfl) (by go_simp) ?_
     simp only[put,sA,sB,sC]
     rw [hab]
     refine lt 32 (.bool false) ?_
     simp only[put,sA,sB,sC]
     clear hab ha hc
     go_upto_region 7 with fail
     have c7:=U HC7 w1 (U HB)
     refine wp_region_list ?_
     refine lt 39 (.pointer (some ⟨pg,0,none⟩)) ?_
     refine lt 40 (.pointer (some ⟨be,oe,none⟩)) ?_
     refine lt 41 (.pointer (some ⟨be,oe,none⟩)) ?_
     refine lt 42 (.pointer (some ⟨be,oe+7,none⟩)) ?_
     simp only[put,sA,sB,sC]
     refine list_to (d:=43) (v:=.slice (some ⟨ba,oa,none⟩) 2 k) rfl rfl (by go_simp) ?_
     simp only[put,sA,sB,sC]
     refine list_to (d:=44) (v:=.pointer (some ⟨ba,oa+10,none⟩)) rfl rfl (by go_simp) ?_
     simp only[put,sA,sB,sC]
     clear c7
     refine list_call rfl (some 45) rfl 119 #[.pointer (some ⟨pg,0,none⟩),.pointer (some ⟨ba,oa+10,none⟩)] (by kernel_rfl) (truth_of w1 pg _ _ y (fun W hb=>U HEY W (trX (U HB) hb))) ?_
     rintro e w2 ⟨rfl,hb⟩
     refine ⟨_,rfl,?_⟩
     simp only[put,sA,sB,sC]
     have HB:=V (trX (U HB) hb)
     have HV:=V ((U HV).below hb)
     clear hb
     refine lt 38 (.tuple #[.int .i64 (trE y).1,errG (trE y).2]) ?_
     refine lt 46 (.int .i64 (trE y).1) ?_
     refine lt 47 (errG (trE y).2) ?_
     refine lt 10 (.int .i64 (trE y).1) ?_
     refine lt 9 (errG (trE y).2) ?_
     simp only[put,sA,sB,sC]
     go_upto_region 8 with fail
     refine wp_region_list ?_
     refine lt 48 (.func (.func 164) #[] #[]) ?_
     refine lt 49 (.int .i64 (trE x).1) ?_
     refine lt 50 (.int .i64 (trE y).1) ?_
     refine list_call rfl (some 51) rfl 164 #[.int .i64 (trE x).1,.int .i64 (trE y).1] (by kernel_rfl) (and_any (trE x).1 (trE y).1 w2) ?_
     rintro e w3 ⟨rfl,rfl⟩
     refine ⟨_,rfl,?_⟩
     refine lt 52 (errG (trE y).2) ?_
     refine list_call rfl (some 53) rfl 113 #[.int .i64 (andG (trE x).1 (trE y).1),errG (trE y).2] (by kernel_rfl) (tested_any (andG (trE x).1 (trE y).1) (trE y).2 w3) ?_
     rintro e w5 ⟨rfl,hb⟩
     refine ⟨_,rfl,?_⟩
     simp only[put,sA,sB,sC]
     have HB:=V (trX (U HB) hb)
     have HV:=V ((U HV).below hb)
     clear hb
     obtain ⟨Y,hY⟩:∃ Y,Y=testedG (andG (trE x).1 (trE y).1) (trE y).2:=⟨_,rfl⟩
     rw [← hY] at HR
     rw [← hY]
     clear hY
     refine lt 54 (.agg (gvC Y.1).toArray) ?_
     refine lt 55 (errG Y.2) ?_
     simp only[put,sA,sB,sC]
     refine wpList_store_mid rfl 26 (.tmp 4) (.tmp 54) rfl w.heap.size 0 (gvC Y.1).toArray rfl rfl (U HV).there sizeV (all_oneCell_toArray (gvC_one _)) ?_
     show wpList _ _ _ _ _ (w5.setCells w.heap.size 0 (gvC Y.1))
     refine lt 5 (errG Y.2) ?_
     simp only[put,sA,sB,sC]
     go_wp2_with fail
     refine bodyPost_ret (((U HV).set Y.1).result2 rfl _ rfl) rfl ?_
     rw [U HPP,U HR]
     exact ⟨rfl,below_setCells0 (U HB) (Nat.le_refl _) _⟩
 · have HR:Hid (R=testedG (trE x).1 (trE x).2):=by show R=_;rw [U HRL];unfold logicG;rw [if_pos (.inl hc)]
   have HER:=V (errG_some hc)
   rw [errG_some hc]
   go_upto_region 5 with fail
   refine wp_region_list ?_
   refine lt 26 (.iface 95 (.int .i64 (trE x).2)) ?_
   refine lt 27 (.bool true) ?_
   refine lt 28 (.bool true) ?_
   simp only[put,sA,sB,sC]
   refine list_skip (d:=29) rfl (by kernel_rfl) ?_
   simp only[put,sA,sB,sC]
   refine list_skip (d:=30) rfl (by kernel_rfl) ?_
   simp only[put,sA,sB,sC]
   refine list_skip (d:=31) rfl (by kernel_rfl) ?_
   refine lt 32 (.bool true) ?_
   simp only[put,sA,sB,sC]
   skip
   as_aux_lemma=>
    go_upto_region 6 with fail
    refine wp_region_list ?_
    refine lt 33 (.int .i64 (trE x).1) ?_
    refine lt 34 (.iface 95 (.int .i64 (trE x).2)) ?_
    simp only[put,sA,sB,sC]
    rw [← U HER]
    refine list_call rfl (some 35) rfl 113 #[.int .i64 (trE x).1,errG (trE x).2] (by kernel_rfl) (tested_any (trE x).1 (trE x).2 w1) ?_
    rintro e w5 ⟨rfl,hb⟩
    refine ⟨_,rfl,?_⟩
    simp only[put,sA,sB,sC]
    have HB:=V (trX (U HB) hb)
    have HV:=V ((U HV).below hb)
    clear hb
    obtain ⟨Y,hY⟩:∃ Y,Y=testedG (trE x).1 (trE x).2:=⟨_,rfl⟩
    rw [← hY] at HR
    rw [← hY]
    clear hY
    refine lt 36 (.agg (gvC Y.1).toArray) ?_
    refine lt 37 (errG Y.2) ?_
    simp only[put,sA,sB,sC]
    refine wpList_store_mid rfl 26 (.tmp 4) (.tmp 36) rfl w.heap.size 0 (gvC Y.1).toArray rfl rfl (U HV).there sizeV (all_oneCell_toArray (gvC_one _)) ?_
    show wpList _ _ _ _ _ (w5.setCells w.heap.size 0 (gvC Y.1))
    refine lt 5 (errG Y.2) ?_
    simp only[put,sA,sB,sC]
    go_wp2_with fail
    refine bodyPost_ret (((U HV).set Y.1).result2 rfl _ rfl) rfl ?_
    rw [U HPP,U HR]
    exact ⟨rfl,below_setCells0 (U HB) (Nat.le_refl _) _⟩
theorem logic_of18 (w:World) (pg be oe ba oa k:Nat) (x y:GV × Int) (c1:w.cell? ⟨be,oe+1,none⟩=some (.int .i64 18)) (c7:w.cell? ⟨be,oe+7,none⟩=some (.slice (some ⟨ba,oa,none⟩) 2 k)) (hev:EvAt w pg ba oa x) (hevy:EvAt w pg ba (oa+10) y):Calls Tryz.prog 116 #[.pointer (some ⟨pg,0,none⟩),.pointer (some ⟨be,oe,none⟩)] w (GeP w (logicG 18 x y)):=by
 have HEV:=V hev
 have HEY:=V hevy
 have HC1:Hid (∀ W,Below w.heap.size w W→W.cell? ⟨be,oe+1,none⟩=some (.int .i64 18)):=fun W hb=>(hb.cell (p:=⟨be,oe+1,none⟩) (World.block_lt_of_cell? w _ c1)).trans c1
 have HC7:Hid (∀ W,Below w.heap.size w W→W.cell? ⟨be,oe+7,none⟩=some (.slice (some ⟨ba,oa,none⟩) 2 k)):=fun W hb=>(hb.cell (p:=⟨be,oe+7,none⟩) (World.block_lt_of_cell? w _ c7)).trans c7
 obtain ⟨R,hR⟩:∃ R,R=logicG 18 x y:=⟨_,rfl⟩
 obtain ⟨PP,hPP⟩:∃ PP,PP=GeP w R:=⟨_,rfl⟩
 have HPP:=V hPP
 rw [← hR,← hPP]
 clear hPP hev hevy c1 c7
 have HRL:=V hR
 clear hR
 go_enter Tryz.func116,Tryz.ntmps116
 go_upto_region 1 with fail
 obtain ⟨w0,hw0⟩:∃ w0,w0=w.alloc (.cells (gvC nullG).toArray 26):=⟨_,rfl⟩
 have hb0:Below w.heap.size w w0:=by rw [hw0];exact alX (Below.refl _ _) _
 have HV:=V (show VV w0 w.heap.size nullG by rw [hw0];exact VV.new w nullG)
 have HB:=V hb0
 rw [show (gvC nullG).toArray=#[.int .i64 0,.int .i64 0,.string ⟨#[]⟩] from rfl] at hw0
 rw [← hw0]
 clear hw0 hb0
 have c1:=U HC1 w0 (U HB)
 go_upto_region 4 with fail
 clear c1
 have c7:=U HC7 w0 (U HB)
 refine wp_region_list ?_
 refine lt 17 (.pointer (some ⟨pg,0,none⟩)) ?_
 refine lt 18 (.pointer (some ⟨be,oe,none⟩)) ?_
 refine lt 19 (.pointer (some ⟨be,oe,none⟩)) ?_
 refine lt 20 (.pointer (some ⟨be,oe+7,none⟩)) ?_
 simp only[put,sA,sB,sC]
 refine list_to (d:=21) (v:=.slice (some ⟨ba,oa,none⟩) 2 k) rfl rfl (by go_simp) ?_
 simp only[put,sA,sB,sC]
 refine list_to (d:=22) (v:=.pointer (some ⟨ba,oa,none⟩)) rfl rfl (by go_simp) ?_
 simp only[put,sA,sB,sC]
 clear c7
 refine list_call rfl (some 23) rfl 119 #[.pointer (some ⟨pg,0,none⟩),.pointer (some ⟨ba,oa,none⟩)] (by kernel_rfl) (truth_of w0 pg _ _ x (fun W hb=>U HEV W (trX (U HB) hb))) ?_
 rintro e w1 ⟨rfl,hb⟩
 refine ⟨_,rfl,?_⟩
 simp only[put,sA,sB,sC]
 have HB:=V (trX (U HB) hb)
 have HV:=V ((U HV).below hb)
 clear hb
 refine lt 16 (.tuple #[.int .i64 (trE x).1,errG (trE x).2]) ?_
 refine lt 24 (.int .i64 (trE x).1) ?_
 refine lt 25 (errG (trE x).2) ?_
 refine lt 8 (.int .i64 (trE x).1) ?_
 refine lt 9 (errG (trE x).2) ?_
 simp only[put,sA,sB,sC]
 by_cases hc:(trE x).2=0
 · by_cases ha:(trE x).1=1
   · have HR:Hid (R=testedG (trE x).1 (trE x).2):=by show R=_;rw [U HRL];unfold logicG;rw [if_pos (.inr ha)]
     have hab:((trE x).1 == 1)=true:=by rw [ha];rfl
     rw [hc]
     go_upto_region 5 with fail
     refine wp_region_list ?_
     refine lt 26 (errG 0) ?_
     refine lt 27 (.bool false) ?_
     refine lt 28 (.bool false) ?_
     simp only[put,sA,sB,sC]
     refine list_want (d:=29) (v:=.int .i64 (trE x).1) rfl (by kernel_rfl) (by kernel_rfl) ?_
     simp only[put,sA,sB,sC]
     refine list_want (d:=30) (v:=.int .i64 1) rfl (by kernel_rfl) (by kernel_rfl) ?_
     simp only[put,sA,sB,sC]
     refine list_want (d:=31) (v:=.bool ((trE x).1 == 1)) rfl (by kernel_rfl) (by go_simp) ?_
     simp only[put,sA,sB,sC]
     rw [hab]
     refine lt 32 (.bool true) ?_
     simp only[put,sA,sB,sC]
     rw [← hc]
     clear hab ha
     skip
     as_aux_lemma=>
      clear hc
      go_upto_region 6 with fail
      refine wp_region_list ?_
      refine lt 33 (.int .i64 (trE x).1) ?_
      refine lt 34 (errG (trE x).2) ?_
      refine list_call rfl (some 35) rfl 113 #[.int .i64 (trE x).1,errG (trE x).2] (by kernel_rfl) (tested_any (trE x).1 (trE x).2 w1) ?_
      rintro e w5 ⟨rfl,hb⟩
      refine ⟨_,rfl,?_⟩
      simp only[put,sA,sB,sC]
      have HB:=V (trX (U HB) hb)
      have HV:=V ((U HV).below hb)
      clear hb
      obtain ⟨Y,hY⟩:∃ Y,Y=testedG (trE x).1 (trE x).2:=⟨_,rfl⟩
      rw [← hY] at HR
      rw [← hY]
      clear hY
      refine lt 36 (.agg (gvC Y.1).toArray) ?_
      refine lt 37 (errG Y.2) ?_
      simp only[put,sA,sB,sC]
      refine wpList_store_mid rfl 26 (.tmp 4) (.tmp 36) rfl w.heap.size 0 (gvC Y.1).toArray rfl rfl (U HV).there sizeV (all_oneCell_toArray (gvC_one _)) ?_
      show wpList _ _ _ _ _ (w5.setCells w.heap.size 0 (gvC Y.1))
      refine lt 5 (errG Y.2) ?_
      simp only[put,sA,sB,sC]
      go_wp2_with fail
      refine bodyPost_ret (((U HV).set Y.1).result2 rfl _ rfl) rfl ?_
      rw [U HPP,U HR]
      exact ⟨rfl,below_setCells0 (U HB) (Nat.le_refl _) _⟩
   · have hab:((trE x).1 == 1)=false:=beq_eq_false_iff_ne.2 ha
     have HR:Hid (R=testedG (orG (trE x).1 (trE y).1) (trE y).2):=by show R=_;rw [U HRL];unfold logicG;rw [if_neg (fun h=>h.elim (fun q=>q hc) ha)];rfl
     rw [hc]
     go_upto_region 5 with fail
     refine wp_region_list ?_
     refine lt 26 (errG 0) ?_
     refine lt 27 (.bool false) ?_
     refine lt 28 (.bool false) ?_
     simp only[put,sA,sB,sC]
     refine list_want (d:=29) (v:=.int .i64 (trE x).1) rfl (by kernel_rfl) (by kernel_rfl) ?_
     simp only[put,sA,sB,sC]
     refine list_want (d:=30) (v:=.int .i64 1) rfl (by kernel_rfl) (by kernel_rfl) ?_
     simp only[put,sA,sB,sC]
     refine list_want (d:=31) (v:=.bool ((trE x).1 == 1)) rfl (by kernel_rfl) (by go_simp) ?_
     simp only[put,sA,sB,sC]
     rw [hab]
     refine lt 32 (.bool false) ?_
     simp only[put,sA,sB,sC]
     clear hab ha hc
     go_upto_region 7 with fail
     have c7:=U HC7 w1 (U HB)
     refine wp_region_list ?_
     refine lt 39 (.pointer (some ⟨pg,0,none⟩)) ?_
     refine lt 40 (.pointer (some ⟨be,oe,none⟩)) ?_
     refine lt 41 (.pointer (some ⟨be,oe,none⟩)) ?_
     refine lt 42 (.pointer (some ⟨be,oe+7,none⟩)) ?_
     simp only[put,sA,sB,sC]
     refine list_to (d:=43) (v:=.slice (some ⟨ba,oa,none⟩) 2 k) rfl rfl (by go_simp) ?_
     simp only[put,sA,sB,sC]
     refine list_to (d:=44) (v:=.pointer (some ⟨ba,oa+10,none⟩)) rfl rfl (by go_simp) ?_
     simp only[put,sA,sB,sC]
     clear c7
     refine list_call rfl (some 45) rfl 119 #[.pointer (some ⟨pg,0,none⟩),.pointer (some ⟨ba,oa+10,none⟩)] (by kernel_rfl) (truth_of w1 pg _ _ y (fun W hb=>U HEY W (trX (U HB) hb))) ?_
     rintro e w2 ⟨rfl,hb⟩
     refine ⟨_,rfl,?_⟩
     simp only[put,sA,sB,sC]
     have HB:=V (trX (U HB) hb)
     have HV:=V ((U HV).below hb)
     clear hb
     refine lt 38 (.tuple #[.int .i64 (trE y).1,errG (trE y).2]) ?_
     refine lt 46 (.int .i64 (trE y).1) ?_
     refine lt 47 (errG (trE y).2) ?_
     refine lt 10 (.int .i64 (trE y).1) ?_
     refine lt 9 (errG (trE y).2) ?_
     simp only[put,sA,sB,sC]
     go_upto_region 8 with fail
     refine wp_region_list ?_
     refine lt 48 (.func (.func 118) #[] #[]) ?_
     refine lt 49 (.int .i64 (trE x).1) ?_
     refine lt 50 (.int .i64 (trE y).1) ?_
     refine list_call rfl (some 51) rfl 118 #[.int .i64 (trE x).1,.int .i64 (trE y).1] (by kernel_rfl) (or_any (trE x).1 (trE y).1 w2) ?_
     rintro e w3 ⟨rfl,rfl⟩
     refine ⟨_,rfl,?_⟩
     refine lt 52 (errG (trE y).2) ?_
     refine list_call rfl (some 53) rfl 113 #[.int .i64 (orG (trE x).1 (trE y).1),errG (trE y).2] (by kernel_rfl) (tested_any (orG (trE x).1 (trE y).1) (trE y).2 w3) ?_
     rintro e w5 ⟨rfl,hb⟩
     refine ⟨_,rfl,?_⟩
     simp only[put,sA,sB,sC]
     have HB:=V (trX (U HB) hb)
     have HV:=V ((U HV).below hb)
     clear hb
     obtain ⟨Y,hY⟩:∃ Y,Y=testedG (orG (trE x).1 (trE y).1) (trE y).2:=⟨_,rfl⟩
     rw [← hY] at HR
     rw [← hY]
     clear hY
     refine lt 54 (.agg (gvC Y.1).toArray) ?_
     refine lt 55 (errG Y.2) ?_
     simp only[put,sA,sB,sC]
     refine wpList_store_mid rfl 26 (.tmp 4) (.tmp 54) rfl w.heap.size 0 (gvC Y.1).toArray rfl rfl (U HV).there sizeV (all_oneCell_toArray (gvC_one _)) ?_
     show wpList _ _ _ _ _ (w5.setCells w.heap.size 0 (gvC Y.1))
     refine lt 5 (errG Y.2) ?_
     simp only[put,sA,sB,sC]
     go_wp2_with fail
     refine bodyPost_ret (((U HV).set Y.1).result2 rfl _ rfl) rfl ?_
     rw [U HPP,U HR]
     exact ⟨rfl,below_setCells0 (U HB) (Nat.le_refl _) _⟩
 · have HR:Hid (R=testedG (trE x).1 (trE x).2):=by show R=_;rw [U HRL];unfold logicG;rw [if_pos (.inl hc)]
   have HER:=V (errG_some hc)
   rw [errG_some hc]
   go_upto_region 5 with fail
   refine wp_region_list ?_
   refine lt 26 (.iface 95 (.int .i64 (trE x).2)) ?_
   refine lt 27 (.bool true) ?_
   refine lt 28 (.bool true) ?_
   simp only[put,sA,sB,sC]
   refine list_skip (d:=29) rfl (by kernel_rfl) ?_
   simp only[put,sA,sB,sC]
   refine list_skip (d:=30) rfl (by kernel_rfl) ?_
   simp only[put,sA,sB,sC]
   refine list_skip (d:=31) rfl (by kernel_rfl) ?_
   refine lt 32 (.bool true) ?_
   simp only[put,sA,sB,sC]
   skip
   as_aux_lemma=>
    go_upto_region 6 with fail
    refine wp_region_list ?_
    refine lt 33 (.int .i64 (trE x).1) ?_
    refine lt 34 (.iface 95 (.int .i64 (trE x).2)) ?_
    simp only[put,sA,sB,sC]
    rw [← U HER]
    refine list_call rfl (some 35) rfl 113 #[.int .i64 (trE x).1,errG (trE x).2] (by kernel_rfl) (tested_any (trE x).1 (trE x).2 w1) ?_
    rintro e w5 ⟨rfl,hb⟩
    refine ⟨_,rfl,?_⟩
    simp only[put,sA,sB,sC]
    have HB:=V (trX (U HB) hb)
    have HV:=V ((U HV).below hb)
    clear hb
    obtain ⟨Y,hY⟩:∃ Y,Y=testedG (trE x).1 (trE x).2:=⟨_,rfl⟩
    rw [← hY] at HR
    rw [← hY]
    clear hY
    refine lt 36 (.agg (gvC Y.1).toArray) ?_
    refine lt 37 (errG Y.2) ?_
    simp only[put,sA,sB,sC]
    refine wpList_store_mid rfl 26 (.tmp 4) (.tmp 36) rfl w.heap.size 0 (gvC Y.1).toArray rfl rfl (U HV).there sizeV (all_oneCell_toArray (gvC_one _)) ?_
    show wpList _ _ _ _ _ (w5.setCells w.heap.size 0 (gvC Y.1))
    refine lt 5 (errG Y.2) ?_
    simp only[put,sA,sB,sC]
    go_wp2_with fail
    refine bodyPost_ret (((U HV).set Y.1).result2 rfl _ rfl) rfl ?_
    rw [U HPP,U HR]
    exact ⟨rfl,below_setCells0 (U HB) (Nat.le_refl _) _⟩
theorem binary_of (w:World) (pg be oe ba oa k:Nat) (op:Int) (x y:GV × Int) (h17:op ≠ 17) (h18:op ≠ 18) (c1:w.cell? ⟨be,oe+1,none⟩=some (.int .i64 op)) (c7:w.cell? ⟨be,oe+7,none⟩=some (.slice (some ⟨ba,oa,none⟩) 2 k)) (hx:x.1.ok) (hy:y.1.ok) (hev:EvAt w pg ba oa x) (hevy:EvAt w pg ba (oa+10) y):Calls Tryz.prog 64 #[.pointer (some ⟨pg,0,none⟩),.pointer (some ⟨be,oe,none⟩)] w (GeP w (binaryG op x y)):=by
 have HEV:=V hev
 have HEY:=V hevy
 have HBE:Hid (be < w.heap.size):=World.block_lt_of_cell? w _ c1
 have HC1:Hid (∀ W,Below w.heap.size w W→W.cell? ⟨be,oe+1,none⟩=some (.int .i64 op)):=fun W hb=>(hb.cell (p:=⟨be,oe+1,none⟩) (World.block_lt_of_cell? w _ c1)).trans c1
 have HC7:Hid (∀ W,Below w.heap.size w W→W.cell? ⟨be,oe+7,none⟩=some (.slice (some ⟨ba,oa,none⟩) 2 k)):=fun W hb=>(hb.cell (p:=⟨be,oe+7,none⟩) (World.block_lt_of_cell? w _ c7)).trans c7
 have HXO:=V hx
 have HYO:=V hy
 have e17:(op == 17)=false:=beq_eq_false_iff_ne.2 h17
 have e18:(op == 18)=false:=beq_eq_false_iff_ne.2 h18
 obtain ⟨R,hR⟩:∃ R,R=binaryG op x y:=⟨_,rfl⟩
 obtain ⟨PP,hPP⟩:∃ PP,PP=GeP w R:=⟨_,rfl⟩
 have HPP:=V hPP
 rw [← hR,← hPP]
 unfold binaryG at hR
 rw [if_neg (fun h=>h.elim h17 h18)] at hR
 clear hPP hev hevy c1 c7 hx hy h17 h18
 go_enter Tryz.func64,Tryz.ntmps64
 go_upto_region 1 with fail
 obtain ⟨w0,hw0⟩:∃ w0,w0=w.alloc (.cells (gvC nullG).toArray 26):=⟨_,rfl⟩
 have hb0:Below w.heap.size w w0:=by rw [hw0];exact alX (Below.refl _ _) _
 have HV:=V (show VV w0 w.heap.size nullG by rw [hw0];exact VV.new w nullG)
 have HB:=V hb0
 rw [show (gvC nullG).toArray=#[.int .i64 0,.int .i64 0,.string ⟨#[]⟩] from rfl] at hw0
 rw [← hw0]
 clear hw0 hb0
 have c1:=U HC1 w0 (U HB)
 go_upto_region 3 with fail
 clear c1 e17 e18
 have c7:=U HC7 w0 (U HB)
 refine wp_region_list ?_
 refine lt 27 (.pointer (some ⟨pg,0,none⟩)) ?_
 refine lt 28 (.pointer (some ⟨be,oe,none⟩)) ?_
 refine lt 29 (.pointer (some ⟨be,oe,none⟩)) ?_
 refine lt 30 (.pointer (some ⟨be,oe+7,none⟩)) ?_
 simp only[put,sA,sB,sC]
 refine list_to (d:=31) (v:=.slice (some ⟨ba,oa,none⟩) 2 k) rfl rfl (by go_simp) ?_
 simp only[put,sA,sB,sC]
 refine list_to (d:=32) (v:=.pointer (some ⟨ba,oa,none⟩)) rfl rfl (by go_simp) ?_
 simp only[put,sA,sB,sC]
 clear c7
 refine list_call rfl (some 33) rfl 28 #[.pointer (some ⟨pg,0,none⟩),.pointer (some ⟨ba,oa,none⟩)] (by kernel_rfl) (U HEV w0 (U HB)) ?_
 rintro e q1 ⟨rfl,hb⟩
 refine ⟨_,rfl,?_⟩
 simp only[put,sA,sB,sC]
 have HB:=V (trX (U HB) hb)
 have HV:=V ((U HV).below hb)
 clear hb
 refine lt 26 (.tuple #[x.1.agg,errG x.2]) ?_
 refine lt 34 (.agg (gvC x.1).toArray) ?_
 refine lt 35 (errG x.2) ?_
 simp only[put,sA,sB,sC]
 refine list_new rfl 26 rfl (gvC nullG).toArray (zero_of_info zeroV).1 ?_
 simp only[put,sA,sB,sC]
 refine wpList_store_mid rfl 26 (.tmp 6) (.tmp 34) rfl q1.heap.size 0 (gvC x.1).toArray rfl rfl (VV.new q1 nullG).there sizeV (all_oneCell_toArray (gvC_one _)) ?_
 show wpList _ _ _ _ _ ((q1.alloc (.cells (gvC nullG).toArray 26)).setCells q1.heap.size 0 (gvC x.1))
 rw [setV_new q1 x.1]
 refine lt 7 (errG x.2) ?_
 simp only[put,sA,sB,sC]
 have LHX:Hid (w.heap.size < q1.heap.size):=ltX (U HV)
 have HX:=V (VV.new q1 x.1)
 have hb:Below q1.heap.size q1 (q1.alloc (.cells (gvC x.1).toArray 26)):=alX (Below.refl _ _) _
 have HB:=V (trX (U HB) hb)
 have HV:=V ((U HV).below hb)
 obtain ⟨bHX,hb9⟩:∃ bHX,bHX=q1.heap.size:=⟨_,rfl⟩
 obtain ⟨w1,hw9⟩:∃ w1,w1=q1.alloc (.cells (gvC x.1).toArray 26):=⟨_,rfl⟩
 rw [← hw9] at HB HX HV
 rw [← hw9]
 rw [← hb9] at HX LHX
 rw [← hb9]
 clear hb hw9 hb9
 have HZX:=LHX
 by_cases hc:x.2=0
 · rw [if_neg (fun h=>h hc)] at hR
   rw [hc]
   clear hc
   go_upto_region 4 with fail
   refine wp_region_list ?_
   refine lt 36 (errG 0) ?_
   refine lt 37 (.bool false) ?_
   simp only[put,sA,sB,sC]
   go_upto_region 6 with fail
   have c7:=U HC7 w1 (U HB)
   refine wp_region_list ?_
   refine lt 41 (.pointer (some ⟨pg,0,none⟩)) ?_
   refine lt 42 (.pointer (some ⟨be,oe,none⟩)) ?_
   refine lt 43 (.pointer (some ⟨be,oe,none⟩)) ?_
   refine lt 44 (.pointer (some ⟨be,oe+7,none⟩)) ?_
   simp only[put,sA,sB,sC]
   refine list_to (d:=45) (v:=.slice (some ⟨ba,oa,none⟩) 2 k) rfl rfl (by go_simp) ?_
   simp only[put,sA,sB,sC]
   refine list_to (d:=46) (v:=.pointer (some ⟨ba,oa+10,none⟩)) rfl rfl (by go_simp) ?_
   simp only[put,sA,sB,sC]
   clear c7
   refine list_call rfl (some 47) rfl 28 #[.pointer (some ⟨pg,0,none⟩),.pointer (some ⟨ba,oa+10,none⟩)] (by kernel_rfl) (U HEY w1 (U HB)) ?_
   rintro e q2 ⟨rfl,hb⟩
   refine ⟨_,rfl,?_⟩
   simp only[put,sA,sB,sC]
   have HB:=V (trX (U HB) hb)
   have HV:=V ((U HV).below hb)
   have HX:=V ((U HX).below hb)
   clear hb
   refine lt 40 (.tuple #[y.1.agg,errG y.2]) ?_
   refine lt 48 (.agg (gvC y.1).toArray) ?_
   refine lt 49 (errG y.2) ?_
   simp only[put,sA,sB,sC]
   refine list_new rfl 26 rfl (gvC nullG).toArray (zero_of_info zeroV).1 ?_
   simp only[put,sA,sB,sC]
   refine wpList_store_mid rfl 26 (.tmp 8) (.tmp 48) rfl q2.heap.size 0 (gvC y.1).toArray rfl rfl (VV.new q2 nullG).there sizeV (all_oneCell_toArray (gvC_one _)) ?_
   show wpList _ _ _ _ _ ((q2.alloc (.cells (gvC nullG).toArray 26)).setCells q2.heap.size 0 (gvC y.1))
   rw [setV_new q2 y.1]
   refine lt 7 (errG y.2) ?_
   simp only[put,sA,sB,sC]
   have LHY:Hid (w.heap.size < q2.heap.size):=ltX (U HV)
   have HY:=V (VV.new q2 y.1)
   have hb:Below q2.heap.size q2 (q2.alloc (.cells (gvC y.1).toArray 26)):=alX (Below.refl _ _) _
   have HB:=V (trX (U HB) hb)
   have HV:=V ((U HV).below hb)
   have HX:=V ((U HX).below hb)
   obtain ⟨bHY,hb9⟩:∃ bHY,bHY=q2.heap.size:=⟨_,rfl⟩
   obtain ⟨w2,hw9⟩:∃ w2,w2=q2.alloc (.cells (gvC y.1).toArray 26):=⟨_,rfl⟩
   rw [← hw9] at HB HY HV HX
   rw [← hw9]
   rw [← hb9] at HY LHY
   rw [← hb9]
   clear hb hw9 hb9
   have HZY:=LHY
   by_cases hd:y.2=0
   · rw [if_neg (fun h=>h hd)] at hR
     rw [hd]
     clear hd
     go_upto_region 7 with fail
     refine wp_region_list ?_
     refine lt 51 (errG 0) ?_
     refine lt 52 (.bool false) ?_
     refine lt 50 (.bool false) ?_
     simp only[put,sA,sB,sC]
     go_upto_region 9 with fail
     have c1:=U HC1 w2 (U HB)
     by_cases q1:5 ≤ op∧op ≤ 10
     · have HR:=V (hR.trans (if_pos q1))
       obtain ⟨q2,q3⟩:=q1
       clear hR
       go_upto_region 10 with fail
       clear c1
       skip
       as_aux_lemma=>
        have HB:=V (U HB).drew
        have HX:=V ((U HX).below (Below.refl _ _).drew)
        have HY:=V ((U HY).below (Below.refl _ _).drew)
        have HV:=V ((U HV).below (Below.refl _ _).drew)
        refine wp_region_held_drew (S:=fun w'=>VV w' bHX x.1∧VV w' bHY y.1∧w'.cell? ⟨be,oe+1,none⟩=some (.int .i64 op)) (by kernel_rfl) ⟨U HX,U HY,U HC1 _ (U HB)⟩ (fun hHeld=>?_)
        refine hand_to (i:=0) (d:=68) (v:=.pointer (some ⟨be,oe,none⟩)) rfl rfl (by kernel_rfl) (by kernel_rfl) (by kernel_rfl) (fun _ _ _ h=>h) (Or.inl ⟨by rfl,?_⟩) hHeld ?_
        · (intro w' hSw;obtain ⟨hS1,hS2,hS3⟩:=hSw;kernel_rfl)
        simp only[put,sA,sB,sC]
        refine hand_to (i:=1) (d:=69) (v:=.pointer (some ⟨be,oe,none⟩)) rfl rfl (by kernel_rfl) (by kernel_rfl) (by kernel_rfl) (fun _ _ _ h=>h) (Or.inl ⟨by rfl,?_⟩) hHeld ?_
        · (intro w' hSw;obtain ⟨hS1,hS2,hS3⟩:=hSw;kernel_rfl)
        simp only[put,sA,sB,sC]
        refine hand_to (i:=2) (d:=70) (v:=.pointer (some ⟨be,oe+1,none⟩)) rfl rfl (by kernel_rfl) (by kernel_rfl) (by kernel_rfl) (fun _ _ _ h=>h) (Or.inl ⟨by rfl,?_⟩) hHeld ?_
        · (intro w' hSw;obtain ⟨hS1,hS2,hS3⟩:=hSw;kernel_rfl)
        simp only[put,sA,sB,sC]
        refine hand_to (i:=3) (d:=71) (v:=.int .i64 op) rfl rfl (by kernel_rfl) (by kernel_rfl) (by kernel_rfl) (fun _ _ _ h=>h) (Or.inl ⟨by rfl,?_⟩) hHeld ?_
        · (intro w' hSw;obtain ⟨hS1,hS2,hS3⟩:=hSw;go_simp)
        simp only[put,sA,sB,sC]
        refine hu 4 72 (.agg (gvC x.1).toArray) rfl (yieldsIf_load_mid (by rfl) 26 (.tmp 6) rfl bHX 0 rfl (gvC x.1) _ (fun w' hw=>hw.1.range) Tryz.underlying26 rfl sizeV) hHeld ?_
        simp only[put,sA,sB,sC]
        refine hu 5 73 (.agg (gvC y.1).toArray) rfl (yieldsIf_load_mid (by rfl) 26 (.tmp 8) rfl bHY 0 rfl (gvC y.1) _ (fun w' hw=>hw.2.1.range) Tryz.underlying26 rfl sizeV) hHeld ?_
        simp only[put,sA,sB,sC]
        refine wpAnyH_ready (rs:=[6]) (by kernel_rfl) (by simp) ?_
        refine AllReadyH.cons rfl (fun K hK=>?_) AllReadyH.nil
        rw [if_pos (by rfl)]
        refine op_call (some 74) rfl 117 #[.int .i64 op,.agg (gvC x.1).toArray,.agg (gvC y.1).toArray] (by kernel_rfl) (test_any op x.1 y.1 w2.drew (U HXO) (U HYO)) ?_
        rintro e w3 ⟨rfl,hb⟩
        refine ⟨_,rfl,?_⟩
        have HB:=V (trX (U HB) hb)
        have HV:=V ((U HV).below hb)
        have HX:=V ((U HX).below hb)
        have HY:=V ((U HY).below hb)
        clear hb
        refine hK.out _ _ ⟨U HX,U HY,U HC1 _ (U HB)⟩ (fun hHeld2=>?_)
        clear hK K hHeld
        have hHeld:=hHeld2
        clear hHeld2
        try simp only[put,sA,sB,sC]
        refine hand_to (i:=7) (d:=75) (v:=.int .i64 (testG op x.1 y.1).1) rfl rfl (by kernel_rfl) (by kernel_rfl) (by kernel_rfl) (fun _ _ _ h=>h) (Or.inl ⟨by rfl,?_⟩) hHeld ?_
        · (intro w' hSw;obtain ⟨hS1,hS2,hS3⟩:=hSw;kernel_rfl)
        simp only[put,sA,sB,sC]
        refine hand_to (i:=8) (d:=76) (v:=errG (testG op x.1 y.1).2) rfl rfl (by kernel_rfl) (by kernel_rfl) (by kernel_rfl) (fun _ _ _ h=>h) (Or.inl ⟨by rfl,?_⟩) hHeld ?_
        · (intro w' hSw;obtain ⟨hS1,hS2,hS3⟩:=hSw;kernel_rfl)
        simp only[put,sA,sB,sC]
        refine wpAnyH_ready (rs:=[9]) (by kernel_rfl) (by simp) ?_
        refine AllReadyH.cons rfl (fun K hK=>?_) AllReadyH.nil
        rw [if_pos (by rfl)]
        refine op_call (some 77) rfl 113 #[.int .i64 (testG op x.1 y.1).1,errG (testG op x.1 y.1).2] (by kernel_rfl) (tested_any (testG op x.1 y.1).1 (testG op x.1 y.1).2 w3) ?_
        rintro e w4 ⟨rfl,hb⟩
        refine ⟨_,rfl,?_⟩
        have HB:=V (trX (U HB) hb)
        have HV:=V ((U HV).below hb)
        have HX:=V ((U HX).below hb)
        have HY:=V ((U HY).below hb)
        clear hb
        refine hK.out _ _ ⟨U HX,U HY,U HC1 _ (U HB)⟩ (fun hHeld2=>?_)
        clear hK K hHeld
        have hHeld:=hHeld2
        clear hHeld2
        try simp only[put,sA,sB,sC]
        obtain ⟨Y,hY⟩:∃ Y,Y=testedG (testG op x.1 y.1).1 (testG op x.1 y.1).2:=⟨_,rfl⟩
        rw [← hY] at HR
        rw [← hY]
        clear hY
        refine hand_to (i:=10) (d:=78) (v:=.agg (gvC Y.1).toArray) rfl rfl (by kernel_rfl) (by kernel_rfl) (by kernel_rfl) (fun _ _ _ h=>h) (Or.inl ⟨by rfl,?_⟩) hHeld ?_
        · (intro w' hSw;obtain ⟨hS1,hS2,hS3⟩:=hSw;kernel_rfl)
        simp only[put,sA,sB,sC]
        refine hand_to (i:=11) (d:=79) (v:=errG Y.2) rfl rfl (by kernel_rfl) (by kernel_rfl) (by kernel_rfl) (fun _ _ _ h=>h) (Or.inl ⟨by rfl,?_⟩) hHeld ?_
        · (intro w' hSw;obtain ⟨hS1,hS2,hS3⟩:=hSw;kernel_rfl)
        simp only[put,sA,sB,sC]
        refine wpAnyH_ready (rs:=[12]) (by kernel_rfl) (by simp) ?_
        refine AllReadyH.cons rfl (fun K hK=>?_) AllReadyH.nil
        rw [if_pos (by rfl)]
        have hne4:w.heap.size ≠ bHX∧w.heap.size ≠ bHY∧be ≠ w.heap.size:=⟨by have:=U HZX;omega,by have:=U HZY;omega,by have:=U HBE;omega⟩
        refine op_store rfl 26 (.tmp 4) (.tmp 78) rfl w.heap.size 0 (gvC Y.1) rfl rfl (U HV).there sizeV (all_oneCell_toArray (gvC_one _)) ?_
        have hkk:∀ j,j ≠ w.heap.size→(w4.setCells w.heap.size 0 (gvC Y.1)).heap[j]?=w4.heap[j]?:=fun j hj=>setCells_heap w.heap.size (gvC Y.1) 0 w4 j hj
        refine hK.out _ _ ⟨(U HX).keep (hkk _ (Ne.symm hne4.1)),(U HY).keep (hkk _ (Ne.symm hne4.2.1)),(World.cell?_of_block (a:=⟨be,oe+1,none⟩) (hkk be hne4.2.2)).trans (U HC1 _ (U HB))⟩ (fun hHeld2=>?_)
        clear hK K hHeld
        have hHeld:=hHeld2
        clear hHeld2
        try simp only[put,sA,sB,sC]
        refine hand_to (i:=13) (d:=5) (v:=errG Y.2) rfl rfl (by kernel_rfl) (by kernel_rfl) (by kernel_rfl) (fun _ _ _ h=>h) (Or.inl ⟨by rfl,?_⟩) hHeld ?_
        · (intro w' hSw;obtain ⟨hS1,hS2,hS3⟩:=hSw;kernel_rfl)
        simp only[put,sA,sB,sC]
        refine wpAnyH_done (by kernel_rfl) ?_ _
        clear hne4 hkk
        go_wp2_with fail
        refine bodyPost_ret (((U HV).set Y.1).result2 rfl _ rfl) rfl ?_
        rw [U HPP,U HR]
        exact ⟨rfl,below_setCells0 (U HB) (Nat.le_refl _) _⟩
     rw [if_neg q1] at hR
     by_cases q2:11 ≤ op∧op ≤ 16
     · have HR:=V (hR.trans (if_pos q2))
       have q3:5 ≤ op:=by omega
       have q4:¬ op ≤ 10:=by omega
       obtain ⟨q5,q6⟩:=q2
       clear hR q1
       go_upto_region 12 with fail
       clear c1
       skip
       as_aux_lemma=>
        have HB:=V (U HB).drew
        have HX:=V ((U HX).below (Below.refl _ _).drew)
        have HY:=V ((U HY).below (Below.refl _ _).drew)
        have HV:=V ((U HV).below (Below.refl _ _).drew)
        refine wp_region_held_drew (S:=fun w'=>VV w' bHX x.1∧VV w' bHY y.1∧w'.cell? ⟨be,oe+1,none⟩=some (.int .i64 op)) (by kernel_rfl) ⟨U HX,U HY,U HC1 _ (U HB)⟩ (fun hHeld=>?_)
        refine hand_to (i:=0) (d:=93) (v:=.pointer (some ⟨be,oe,none⟩)) rfl rfl (by kernel_rfl) (by kernel_rfl) (by kernel_rfl) (fun _ _ _ h=>h) (Or.inl ⟨by rfl,?_⟩) hHeld ?_
        · (intro w' hSw;obtain ⟨hS1,hS2,hS3⟩:=hSw;kernel_rfl)
        simp only[put,sA,sB,sC]
        refine hand_to (i:=1) (d:=94) (v:=.pointer (some ⟨be,oe,none⟩)) rfl rfl (by kernel_rfl) (by kernel_rfl) (by kernel_rfl) (fun _ _ _ h=>h) (Or.inl ⟨by rfl,?_⟩) hHeld ?_
        · (intro w' hSw;obtain ⟨hS1,hS2,hS3⟩:=hSw;kernel_rfl)
        simp only[put,sA,sB,sC]
        refine hand_to (i:=2) (d:=95) (v:=.pointer (some ⟨be,oe+1,none⟩)) rfl rfl (by kernel_rfl) (by kernel_rfl) (by kernel_rfl) (fun _ _ _ h=>h) (Or.inl ⟨by rfl,?_⟩) hHeld ?_
        · (intro w' hSw;obtain ⟨hS1,hS2,hS3⟩:=hSw;kernel_rfl)
        simp only[put,sA,sB,sC]
        refine hand_to (i:=3) (d:=96) (v:=.int .i64 op) rfl rfl (by kernel_rfl) (by kernel_rfl) (by kernel_rfl) (fun _ _ _ h=>h) (Or.inl ⟨by rfl,?_⟩) hHeld ?_
        · (intro w' hSw;obtain ⟨hS1,hS2,hS3⟩:=hSw;go_simp)
        simp only[put,sA,sB,sC]
        refine hu 4 97 (.agg (gvC x.1).toArray) rfl (yieldsIf_load_mid (by rfl) 26 (.tmp 6) rfl bHX 0 rfl (gvC x.1) _ (fun w' hw=>hw.1.range) Tryz.underlying26 rfl sizeV) hHeld ?_
        simp only[put,sA,sB,sC]
        refine hu 5 98 (.agg (gvC y.1).toArray) rfl (yieldsIf_load_mid (by rfl) 26 (.tmp 8) rfl bHY 0 rfl (gvC y.1) _ (fun w' hw=>hw.2.1.range) Tryz.underlying26 rfl sizeV) hHeld ?_
        simp only[put,sA,sB,sC]
        refine wpAnyH_ready (rs:=[6]) (by kernel_rfl) (by simp) ?_
        refine AllReadyH.cons rfl (fun K hK=>?_) AllReadyH.nil
        rw [if_pos (by rfl)]
        refine op_call (some 99) rfl 111 #[.int .i64 op,.agg (gvC x.1).toArray,.agg (gvC y.1).toArray] (by kernel_rfl) (do_any op x.1 y.1 w2.drew (U HXO) (.inr (U HYO))) ?_
        rintro e w3 ⟨rfl,hb⟩
        refine ⟨_,rfl,?_⟩
        have HB:=V (trX (U HB) hb)
        have HV:=V ((U HV).below hb)
        have HX:=V ((U HX).below hb)
        have HY:=V ((U HY).below hb)
        clear hb
        refine hK.out _ _ ⟨U HX,U HY,U HC1 _ (U HB)⟩ (fun hHeld2=>?_)
        clear hK K hHeld
        have hHeld:=hHeld2
        clear hHeld2
        try simp only[put,sA,sB,sC]
        refine hand_to (i:=7) (d:=100) (v:=.agg (gvC (doG op x.1 y.1).1).toArray) rfl rfl (by kernel_rfl) (by kernel_rfl) (by kernel_rfl) (fun _ _ _ h=>h) (Or.inl ⟨by rfl,?_⟩) hHeld ?_
        · (intro w' hSw;obtain ⟨hS1,hS2,hS3⟩:=hSw;kernel_rfl)
        simp only[put,sA,sB,sC]
        refine hand_to (i:=8) (d:=101) (v:=errG (doG op x.1 y.1).2) rfl rfl (by kernel_rfl) (by kernel_rfl) (by kernel_rfl) (fun _ _ _ h=>h) (Or.inl ⟨by rfl,?_⟩) hHeld ?_
        · (intro w' hSw;obtain ⟨hS1,hS2,hS3⟩:=hSw;kernel_rfl)
        simp only[put,sA,sB,sC]
        refine wpAnyH_ready (rs:=[9]) (by kernel_rfl) (by simp) ?_
        refine AllReadyH.cons rfl (fun K hK=>?_) AllReadyH.nil
        rw [if_pos (by rfl)]
        refine op_call (some 102) rfl 110 #[.agg (gvC (doG op x.1 y.1).1).toArray,errG (doG op x.1 y.1).2] (by kernel_rfl) (reckoned_any (doG op x.1 y.1).1 (doG op x.1 y.1).2 w3) ?_
        rintro e w4 ⟨rfl,hb⟩
        refine ⟨_,rfl,?_⟩
        have HB:=V (trX (U HB) hb)
        have HV:=V ((U HV).below hb)
        have HX:=V ((U HX).below hb)
        have HY:=V ((U HY).below hb)
        clear hb
        refine hK.out _ _ ⟨U HX,U HY,U HC1 _ (U HB)⟩ (fun hHeld2=>?_)
        clear hK K hHeld
        have hHeld:=hHeld2
        clear hHeld2
        try simp only[put,sA,sB,sC]
        obtain ⟨Y,hY⟩:∃ Y,Y=recG (doG op x.1 y.1).1 (doG op x.1 y.1).2:=⟨_,rfl⟩
        rw [← hY] at HR
        rw [← hY]
        clear hY
        refine hand_to (i:=10) (d:=103) (v:=.agg (gvC Y.1).toArray) rfl rfl (by kernel_rfl) (by kernel_rfl) (by kernel_rfl) (fun _ _ _ h=>h) (Or.inl ⟨by rfl,?_⟩) hHeld ?_
        · (intro w' hSw;obtain ⟨hS1,hS2,hS3⟩:=hSw;kernel_rfl)
        simp only[put,sA,sB,sC]
        refine hand_to (i:=11) (d:=104) (v:=errG Y.2) rfl rfl (by kernel_rfl) (by kernel_rfl) (by kernel_rfl) (fun _ _ _ h=>h) (Or.inl ⟨by rfl,?_⟩) hHeld ?_
        · (intro w' hSw;obtain ⟨hS1,hS2,hS3⟩:=hSw;kernel_rfl)
        simp only[put,sA,sB,sC]
        refine wpAnyH_ready (rs:=[12]) (by kernel_rfl) (by simp) ?_
        refine AllReadyH.cons rfl (fun K hK=>?_) AllReadyH.nil
        rw [if_pos (by rfl)]
        have hne4:w.heap.size ≠ bHX∧w.heap.size ≠ bHY∧be ≠ w.heap.size:=⟨by have:=U HZX;omega,by have:=U HZY;omega,by have:=U HBE;omega⟩
        refine op_store rfl 26 (.tmp 4) (.tmp 103) rfl w.heap.size 0 (gvC Y.1) rfl rfl (U HV).there sizeV (all_oneCell_toArray (gvC_one _)) ?_
        have hkk:∀ j,j ≠ w.heap.size→(w4.setCells w.heap.size 0 (gvC Y.1)).heap[j]?=w4.heap[j]?:=fun j hj=>setCells_heap w.heap.size (gvC Y.1) 0 w4 j hj
        refine hK.out _ _ ⟨(U HX).keep (hkk _ (Ne.symm hne4.1)),(U HY).keep (hkk _ (Ne.symm hne4.2.1)),(World.cell?_of_block (a:=⟨be,oe+1,none⟩) (hkk be hne4.2.2)).trans (U HC1 _ (U HB))⟩ (fun hHeld2=>?_)
        clear hK K hHeld
        have hHeld:=hHeld2
        clear hHeld2
        try simp only[put,sA,sB,sC]
        refine hand_to (i:=13) (d:=5) (v:=errG Y.2) rfl rfl (by kernel_rfl) (by kernel_rfl) (by kernel_rfl) (fun _ _ _ h=>h) (Or.inl ⟨by rfl,?_⟩) hHeld ?_
        · (intro w' hSw;obtain ⟨hS1,hS2,hS3⟩:=hSw;kernel_rfl)
        simp only[put,sA,sB,sC]
        refine wpAnyH_done (by kernel_rfl) ?_ _
        clear hne4 hkk
        go_wp2_with fail
        refine bodyPost_ret (((U HV).set Y.1).result2 rfl _ rfl) rfl ?_
        rw [U HPP,U HR]
        exact ⟨rfl,below_setCells0 (U HB) (Nat.le_refl _) _⟩
     have HR:=V (hR.trans (if_neg q2))
     have q3:op < 5 ∨ 16 < op:=by omega
     clear hR q1 q2
     rcases q3 with q3 | q3
     · have q4:¬ 5 ≤ op:=by omega
       have q5:¬ 11 ≤ op:=by omega
       go_upto_region 13 with fail
       clear c1
       skip
       as_aux_lemma=>
        refine wp_region_list ?_
        refine lt 105 (.agg (gvC nullG).toArray) ?_
        refine lt 106 (.iface 95 (.int .i64 20)) ?_
        simp only[put,sA,sB,sC]
        refine wpList_store_mid rfl 26 (.tmp 4) (.tmp 105) rfl w.heap.size 0 (gvC nullG).toArray rfl rfl (U HV).there sizeV (all_oneCell_toArray (gvC_one _)) ?_
        show wpList _ _ _ _ _ (w2.setCells w.heap.size 0 (gvC nullG))
        refine lt 5 (.iface 95 (.int .i64 20)) ?_
        simp only[put,sA,sB,sC]
        go_wp2_with fail
        refine bodyPost_ret (((U HV).set nullG).result2 rfl _ rfl) rfl ?_
        rw [U HPP,U HR]
        exact ⟨rfl,below_setCells0 (U HB) (Nat.le_refl _) _⟩
     · have q4:5 ≤ op:=by omega
       have q5:11 ≤ op:=by omega
       have q6:¬ op ≤ 10:=by omega
       have q7:¬ op ≤ 16:=by omega
       go_upto_region 13 with fail
       clear c1
       skip
       as_aux_lemma=>
        refine wp_region_list ?_
        refine lt 105 (.agg (gvC nullG).toArray) ?_
        refine lt 106 (.iface 95 (.int .i64 20)) ?_
        simp only[put,sA,sB,sC]
        refine wpList_store_mid rfl 26 (.tmp 4) (.tmp 105) rfl w.heap.size 0 (gvC nullG).toArray rfl rfl (U HV).there sizeV (all_oneCell_toArray (gvC_one _)) ?_
        show wpList _ _ _ _ _ (w2.setCells w.heap.size 0 (gvC nullG))
        refine lt 5 (.iface 95 (.int .i64 20)) ?_
        simp only[put,sA,sB,sC]
        go_wp2_with fail
        refine bodyPost_ret (((U HV).set nullG).result2 rfl _ rfl) rfl ?_
        rw [U HPP,U HR]
        exact ⟨rfl,below_setCells0 (U HB) (Nat.le_refl _) _⟩
   · have HR:=V (hR.trans (if_pos hd))
     have HER:=V (errG_some hd)
     rw [errG_some hd]
     clear hR
     go_upto_region 7 with fail
     refine wp_region_list ?_
     refine lt 51 (.iface 95 (.int .i64 y.2)) ?_
     refine lt 52 (.bool true) ?_
     refine lt 50 (.bool true) ?_
     simp only[put,sA,sB,sC]
     go_upto_region 8 with fail
     refine wp_region_list ?_
     refine lt 53 (.agg (gvC nullG).toArray) ?_
     refine lt 54 (.iface 95 (.int .i64 y.2)) ?_
     simp only[put,sA,sB,sC]
     refine wpList_store_mid rfl 26 (.tmp 4) (.tmp 53) rfl w.heap.size 0 (gvC nullG).toArray rfl rfl (U HV).there sizeV (all_oneCell_toArray (gvC_one _)) ?_
     show wpList _ _ _ _ _ (w2.setCells w.heap.size 0 (gvC nullG))
     refine lt 5 (.iface 95 (.int .i64 y.2)) ?_
     simp only[put,sA,sB,sC]
     go_wp2_with fail
     refine bodyPost_ret (((U HV).set nullG).result2 rfl _ rfl) rfl ?_
     rw [U HPP,U HR]
     exact ⟨by (rw [show errG ((nullG,y.2):GV × Int).2=_ from U HER]) <;> rfl,below_setCells0 (U HB) (Nat.le_refl _) _⟩
 · have HR:=V (hR.trans (if_pos hc))
   have HER:=V (errG_some hc)
   rw [errG_some hc]
   clear hR
   go_upto_region 4 with fail
   refine wp_region_list ?_
   refine lt 36 (.iface 95 (.int .i64 x.2)) ?_
   refine lt 37 (.bool true) ?_
   simp only[put,sA,sB,sC]
   go_upto_region 5 with fail
   refine wp_region_list ?_
   refine lt 38 (.agg (gvC nullG).toArray) ?_
   refine lt 39 (.iface 95 (.int .i64 x.2)) ?_
   simp only[put,sA,sB,sC]
   refine wpList_store_mid rfl 26 (.tmp 4) (.tmp 38) rfl w.heap.size 0 (gvC nullG).toArray rfl rfl (U HV).there sizeV (all_oneCell_toArray (gvC_one _)) ?_
   show wpList _ _ _ _ _ (w1.setCells w.heap.size 0 (gvC nullG))
   refine lt 5 (.iface 95 (.int .i64 x.2)) ?_
   simp only[put,sA,sB,sC]
   go_wp2_with fail
   refine bodyPost_ret (((U HV).set nullG).result2 rfl _ rfl) rfl ?_
   rw [U HPP,U HR]
   exact ⟨by (rw [show errG ((nullG,x.2):GV × Int).2=_ from U HER]) <;> rfl,below_setCells0 (U HB) (Nat.le_refl _) _⟩
end Go.Proofs.YtpnonhjmpnbmcaaGreatDoor
