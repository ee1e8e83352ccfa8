/- The document's eval: unary, binary. -/
import Derived.Test.YtpnonhjmpnbmcaaGreatDoorJXWt2XWt3XWt4XRv
namespace Go.Proofs.YtpnonhjmpnbmcaaGreatDoor
open Go.RowKit Go.Lib
open Act (put)
set_option linter.unusedSimpArgs false
set_option linter.unusedVariables false
set_option maxHeartbeats 6400000
set_option maxRecDepth 20000
/-- What the document's eval tells of an expression, whatever came behind w. -/
def RvA (w:World) (N:List Value) (ra:Option Addr) (rn rk:Nat) (r:GV × Int):Prop:=∀ W,Below w.heap.size w W→Calls Tryz.prog 25 #[.agg N.toArray,.slice ra rn rk,.slice none 0 0,.bool false] W (RvP W r)
theorem ris_any (b:Bool) (w:World):Calls Tryz.prog 52 #[.bool b] w fun e w'=>e=.returned (ofTruthG (if b then 1 else 0)).agg∧Below w.heap.size w w':=by
 cases b with
 | true=>
  show Calls _ _ _ _ (fun e w'=>e=.returned (ofTruthG 1).agg∧Below w.heap.size w w')
  go_enter Tryz.func52,Tryz.ntmps52
  go_upto_region 2 with fail
  obtain ⟨w0,hw0⟩:∃ w0,w0=w.alloc (.cells (gvC nullG).toArray 26):=⟨_,rfl⟩
  have HV:=V (show VV w0 w.heap.size nullG by rw [hw0];exact VV.new w nullG)
  have HB:=V (show Below w.heap.size w w0 by rw [hw0];exact alX (Below.refl _ _) _)
  unfold gvC nullG at hw0
  rw [← hw0]
  clear hw0
  refine wp_region_list ?_
  refine list_call rfl (some 4) rfl 17 #[.int .i64 1] (by kernel_rfl) (r6of_any (n:=1) (by decide) w0) ?_
  rintro e w5 ⟨rfl,hb⟩
  refine ⟨_,rfl,?_⟩
  simp only[put,sA,sB,sC]
  have HB:=V (trX (U HB) hb)
  have HV:=V ((U HV).below hb)
  refine wpList_store_mid rfl 26 (.tmp 2) (.tmp 4) rfl w.heap.size 0 (gvC (ofTruthG 1)).toArray rfl rfl (U HV).there sizeV (all_oneCell_toArray (gvC_one _)) ?_
  show wpList _ _ _ _ _ (w5.setCells w.heap.size 0 (gvC (ofTruthG 1)))
  simp only[put,sA,sB,sC]
  go_wp2_with fail
  exact bodyPost_ret (((U HV).set (ofTruthG 1)).result rfl _ rfl) rfl ⟨rfl,VV.below_set (U HB) _⟩
 | false=>
  show Calls _ _ _ _ (fun e w'=>e=.returned (ofTruthG 0).agg∧Below w.heap.size w w')
  go_enter Tryz.func52,Tryz.ntmps52
  go_upto_region 3 with fail
  obtain ⟨w0,hw0⟩:∃ w0,w0=w.alloc (.cells (gvC nullG).toArray 26):=⟨_,rfl⟩
  have HV:=V (show VV w0 w.heap.size nullG by rw [hw0];exact VV.new w nullG)
  have HB:=V (show Below w.heap.size w w0 by rw [hw0];exact alX (Below.refl _ _) _)
  unfold gvC nullG at hw0
  rw [← hw0]
  clear hw0
  refine wp_region_list ?_
  refine list_call rfl (some 5) rfl 17 #[.int .i64 0] (by kernel_rfl) (r6of_any (n:=0) (by decide) w0) ?_
  rintro e w5 ⟨rfl,hb⟩
  refine ⟨_,rfl,?_⟩
  simp only[put,sA,sB,sC]
  have HB:=V (trX (U HB) hb)
  have HV:=V ((U HV).below hb)
  refine wpList_store_mid rfl 26 (.tmp 2) (.tmp 5) rfl w.heap.size 0 (gvC (ofTruthG 0)).toArray rfl rfl (U HV).there sizeV (all_oneCell_toArray (gvC_one _)) ?_
  show wpList _ _ _ _ _ (w5.setCells w.heap.size 0 (gvC (ofTruthG 0)))
  simp only[put,sA,sB,sC]
  go_wp2_with fail
  exact bodyPost_ret (((U HV).set (ofTruthG 0)).result rfl _ rfl) rfl ⟨rfl,VV.below_set (U HB) _⟩
theorem reval_k3 (w:World) (n:Nd) (M:List Value) (ba oa k:Nat) (hM:M=ndC n (.slice (some ⟨ba,oa,none⟩) 1 k)) (ra:Option Addr) (rn rk:Nat) (R:GV × Int) (hk:n.kind=3) (hop:n.op=1 ∨ n.op=2 ∨ n.op=3 ∨ n.op=4) (N0:List Value) (hl0:N0.length=10) (hR0:w.rangeAt ba oa N0) (x:GV × Int) (hxo:x.1.ok) (hx:RvA w N0 ra rn rk x) (hR:R=rUn n.op x):Calls Tryz.prog 25 #[.agg M.toArray,.slice ra rn rk,.slice none 0 0,.bool false] w (RvP w R):=by
 have hlM:M.length=10:=by rw [hM];rfl
 obtain ⟨w1,hw1⟩:∃ w1,w1=w.alloc (.cells M.toArray 29):=⟨_,rfl⟩
 have HW1:=V hw1
 have hv1:VrX w1 w.heap.size M:=by rw [hw1];exact VrX.new w hlM
 have hb1:Below w.heap.size w w1:=by rw [hw1];exact alX (Below.refl _ _) _
 have HZ1:Hid (w1.heap.size=w.heap.size+1):=by show w1.heap.size=w.heap.size+1;rw [hw1];simp
 have HVA:=V hv1
 have HB1:=V hb1
 obtain ⟨PP,hPP⟩:∃ PP,PP=RvP w R:=⟨_,rfl⟩
 have HPP:=V hPP
 rw [← hPP]
 clear hPP hv1 hb1 hw1
 have HM:=V hM
 clear hM
 go_enter Tryz.func25,Tryz.ntmps25
 go_upto_region 1 with fail
 rw [← U HW1]
 obtain ⟨w0,hw0⟩:∃ w0,w0=w1.alloc (.cells (gvC nullG).toArray 26):=⟨_,rfl⟩
 have hb0:Below w1.heap.size w1 w0:=by rw [hw0];exact alX (Below.refl _ _) _
 have HV:=V (show VV w0 (w.heap.size+1) nullG by rw [← U HZ1,hw0];exact VV.new w1 nullG)
 have HB:=V (trX (U HB1) hb0)
 have HVA:=V ((U HVA).below hb0)
 rw [show (gvC nullG).toArray=#[.int .i64 0,.int .i64 0,.string ⟨#[]⟩] from rfl] at hw0
 rw [← hw0]
 clear hw0 hb0 HB1 HZ1 HW1
 have HVN:Hid (VrX w0 w.heap.size (ndC n (.slice (some ⟨ba,oa,none⟩) 1 k))):=by
  have h:=U HVA
  rwa [U HM] at h
 have c0:w0.cell? ⟨w.heap.size,0,none⟩=some (.int .i64 n.kind):=cellX (U HVN).1 0
 rw [hk] at c0
 have HC1:Hid (w0.cell? ⟨w.heap.size,1,none⟩=some (.int .i64 n.op)):=cellX (U HVN).1 1
 have HC7:Hid (w0.cell? ⟨w.heap.size,7,none⟩=some (.slice (some ⟨ba,oa,none⟩) 1 k)):=cellX (U HVN).1 7
 have HC8:Hid (w0.cell? ⟨w.heap.size,8,none⟩=some (.int .i64 n.at')):=cellX (U HVN).1 8
 clear HC1 HC7 HC8
 have HR0:=V hR0
 have HL0:=V hl0
 have HXA:=V hx
 clear hR0 hl0 hx
 go_upto_region 36 with fail
 refine wp_region_list ?_
 refine lt 169 (.pointer (some ⟨w.heap.size,7,none⟩)) ?_
 simp only[put,sA,sB,sC]
 have c7:w0.cell? ⟨w.heap.size,7,none⟩=some (.slice (some ⟨ba,oa,none⟩) 1 k):=cellX (U HVN).1 7
 refine list_to (d:=170) (v:=.slice (some ⟨ba,oa,none⟩) 1 k) rfl rfl (by go_simp) ?_
 simp only[put,sA,sB,sC]
 clear c7 c0
 refine list_to (d:=171) (v:=.pointer (some ⟨ba,oa,none⟩)) rfl rfl (by go_simp) ?_
 simp only[put,sA,sB,sC]
 refine wpList_load_mid rfl 29 (.tmp 171) rfl ba (oa) rfl N0 _ (fun jj v hj=>((U HB).cell (p:=⟨ba,oa+jj,none⟩) (World.block_lt_of_cell? w _ (U HR0 jj v hj))).trans (U HR0 jj v hj)) Tryz.underlying29 rfl (by rw [U HL0];exact sizeEx) ?_
 refine lt 173 (.slice ra rn rk) ?_
 refine lt 174 (.slice none 0 0) ?_
 refine lt 175 (.bool false) ?_
 refine list_call rfl (some 176) rfl 25 #[.agg N0.toArray,.slice ra rn rk,.slice none 0 0,.bool false] (by kernel_rfl) (U HXA w0 (U HB)) ?_
 rintro e q0 ⟨rfl,hb⟩
 refine ⟨_,rfl,?_⟩
 simp only[put,sA,sB,sC]
 have HB:=V (trX (U HB) hb)
 have HV:=V ((U HV).below hb)
 have HVN:=V ((U HVN).below hb)
 clear hb
 refine lt 168 (.tuple #[x.1.agg,.int .i64 x.2]) ?_
 refine lt 177 (.agg (gvC x.1).toArray) ?_
 refine lt 178 (.int .i64 x.2) ?_
 simp only[put,sA,sB,sC]
 refine list_new rfl 26 rfl (gvC nullG).toArray (zero_of_info zeroV).1 ?_
 simp only[put,sA,sB,sC]
 refine wpList_store_mid rfl 26 (.tmp 21) (.tmp 177) rfl q0.heap.size 0 (gvC x.1).toArray rfl rfl (VV.new q0 nullG).there sizeV (all_oneCell_toArray (gvC_one _)) ?_
 show wpList _ _ _ _ _ ((q0.alloc (.cells (gvC nullG).toArray 26)).setCells q0.heap.size 0 (gvC x.1))
 rw [setV_new q0 x.1]
 refine lt 22 (.int .i64 x.2) ?_
 simp only[put,sA,sB,sC]
 have HX:=V (VV.new q0 x.1)
 have hb:Below q0.heap.size q0 (q0.alloc (.cells (gvC x.1).toArray 26)):=alX (Below.refl _ _) _
 have HB:=V (trX (U HB) hb)
 have HV:=V ((U HV).below hb)
 have HVN:=V ((U HVN).below hb)
 obtain ⟨bHX,hb9⟩:∃ bHX,bHX=q0.heap.size:=⟨_,rfl⟩
 obtain ⟨w1,hw9⟩:∃ w1,w1=q0.alloc (.cells (gvC x.1).toArray 26):=⟨_,rfl⟩
 rw [← hw9] at HB HX HV HVN
 rw [← hw9]
 rw [← hb9] at HX
 rw [← hb9]
 clear hb hw9 hb9
 by_cases hne:x.2 ≠ 0
 · have hc0:(x.2 != 0)=true:=by simpa using hne
   have HR:Hid (R=(nullG,x.2)):=by show R=_;rw [hR];exact if_pos hne
   clear hR
   skip
   as_aux_lemma=>
    go_upto_region 38 with fail
    refine wp_region_list ?_
    refine lt 181 (.agg (gvC nullG).toArray) ?_
    refine lt 182 (.int .i64 x.2) ?_
    simp only[put,sA,sB,sC]
    refine wpList_store_mid rfl 26 (.tmp 8) (.tmp 181) rfl (w.heap.size+1) 0 (gvC nullG).toArray rfl rfl (U HV).there sizeV (all_oneCell_toArray (gvC_one _)) ?_
    show wpList _ _ _ _ _ (w1.setCells (w.heap.size+1) 0 (gvC nullG))
    refine lt 9 (.int .i64 x.2) ?_
    simp only[put,sA,sB,sC]
    go_wp2_with fail
    refine bodyPost_ret (((U HV).set nullG).result2 rfl _ rfl) rfl ?_
    rw [U HPP,U HR]
    exact ⟨rfl,below_setCells0 (U HB) (Nat.le_succ _) _⟩
 · rw [Decidable.not_not.1 hne]
   have c0:w1.cell? ⟨w.heap.size,0,none⟩=some (.int .i64 n.kind):=cellX (U HVN).1 0
   rw [hk] at c0
   rcases hop with e1 | e2 | e3 | e4
   · skip
     as_aux_lemma=>
      have c1:w1.cell? ⟨w.heap.size,1,none⟩=some (.int .i64 n.op):=cellX (U HVN).1 1
      rw [e1] at c1
      have HR:Hid (R=doG 1 x.1 nullG):=by show R=_;rw [hR];unfold rUn;rw [if_neg hne,if_pos e1]
      obtain ⟨d,hd⟩:∃ d,d=doG 1 x.1 nullG:=⟨_,rfl⟩
      have HDO:Hid (Calls Tryz.prog 50 #[.int .i64 1,.agg (gvC x.1).toArray,.agg (gvC nullG).toArray] w1 fun e w'=>e=.returned (.tuple #[.agg (gvC d.1).toArray,.int .i64 d.2])∧Below w1.heap.size w1 w'):=by rw [hd];exact refDo_any 1 x.1 nullG w1 hxo nullG_ok
      rw [← hd] at HR
      clear hd hR
      go_upto_region 42 with fail
      refine wp_region_list ?_
      refine wpList_load_mid rfl 26 (.tmp 21) rfl bHX 0 rfl (gvC x.1) _ (U HX).range Tryz.underlying26 rfl sizeV ?_
      refine lt 191 (.agg (gvC nullG).toArray) ?_
      refine list_call rfl (some 192) rfl 50 #[.int .i64 1,.agg (gvC x.1).toArray,.agg (gvC nullG).toArray] (by kernel_rfl) (U HDO) ?_
      rintro e w5 ⟨rfl,hb⟩
      refine ⟨_,rfl,?_⟩
      simp only[put,sA,sB,sC]
      have HB:=V (trX (U HB) hb)
      have HV:=V ((U HV).below hb)
      clear hb
      refine lt 193 (.agg (gvC d.1).toArray) ?_
      refine lt 194 (.int .i64 d.2) ?_
      simp only[put,sA,sB,sC]
      refine wpList_store_mid rfl 26 (.tmp 8) (.tmp 193) rfl (w.heap.size+1) 0 (gvC d.1).toArray rfl rfl (U HV).there sizeV (all_oneCell_toArray (gvC_one _)) ?_
      show wpList _ _ _ _ _ (w5.setCells (w.heap.size+1) 0 (gvC d.1))
      refine lt 9 (.int .i64 d.2) ?_
      simp only[put,sA,sB,sC]
      go_wp2_with fail
      refine bodyPost_ret (((U HV).set d.1).result2 rfl _ rfl) rfl ?_
      rw [U HPP,U HR]
      exact ⟨rfl,below_setCells0 (U HB) (Nat.le_succ _) _⟩
   · skip
     as_aux_lemma=>
      have c1:w1.cell? ⟨w.heap.size,1,none⟩=some (.int .i64 n.op):=cellX (U HVN).1 1
      rw [e2] at c1
      have HR:Hid (R=(ofTruthG (notG (rtG x.1)),0)):=by show R=_;rw [hR];unfold rUn;rw [if_neg hne,if_neg (by omega),if_pos e2]
      clear hR
      go_upto_region 44 with fail
      refine wp_region_list ?_
      refine wpList_load_mid rfl 26 (.tmp 21) rfl bHX 0 rfl (gvC x.1) _ (U HX).range Tryz.underlying26 rfl sizeV ?_
      refine list_call rfl (some 198) rfl 30 #[.agg (gvC x.1).toArray] (by kernel_rfl) (rtruth_any x.1 w1) ?_
      rintro e w5 ⟨rfl,hb⟩
      refine ⟨_,rfl,?_⟩
      simp only[put,sA,sB,sC]
      have HB:=V (trX (U HB) hb)
      have HV:=V ((U HV).below hb)
      clear hb
      refine list_call rfl (some 199) rfl 51 #[.int .i64 (rtG x.1)] (by kernel_rfl) (r6not_any (rtG_two x.1) w5) ?_
      rintro e w6 ⟨rfl,hb⟩
      refine ⟨_,rfl,?_⟩
      simp only[put,sA,sB,sC]
      have HB:=V (trX (U HB) hb)
      have HV:=V ((U HV).below hb)
      clear hb
      refine list_call rfl (some 200) rfl 17 #[.int .i64 (notG (rtG x.1))] (by kernel_rfl) (r6of_any (notG_two _) w6) ?_
      rintro e w7 ⟨rfl,hb⟩
      refine ⟨_,rfl,?_⟩
      simp only[put,sA,sB,sC]
      have HB:=V (trX (U HB) hb)
      have HV:=V ((U HV).below hb)
      clear hb
      refine wpList_store_mid rfl 26 (.tmp 8) (.tmp 200) rfl (w.heap.size+1) 0 (gvC (ofTruthG (notG (rtG x.1)))).toArray rfl rfl (U HV).there sizeV (all_oneCell_toArray (gvC_one _)) ?_
      show wpList _ _ _ _ _ (w7.setCells (w.heap.size+1) 0 (gvC (ofTruthG (notG (rtG x.1)))))
      refine lt 9 (.int .i64 0) ?_
      simp only[put,sA,sB,sC]
      go_wp2_with fail
      refine bodyPost_ret (((U HV).set (ofTruthG (notG (rtG x.1)))).result2 rfl _ rfl) rfl ?_
      rw [U HPP,U HR]
      exact ⟨rfl,below_setCells0 (U HB) (Nat.le_succ _) _⟩
   · skip
     as_aux_lemma=>
      have c1:w1.cell? ⟨w.heap.size,1,none⟩=some (.int .i64 n.op):=cellX (U HVN).1 1
      rw [e3] at c1
      have HR:Hid (R=(ofTruthG (if (x.1.kind == 0) then 1 else 0),0)):=by
       show R=_
       rw [hR]
       unfold rUn
       rw [if_neg hne,if_neg (by omega),if_neg (by omega),if_pos e3]
       by_cases hz:x.1.kind=0
       · rw [if_pos hz,hz];rfl
       · rw [if_neg hz]
         have:(x.1.kind == 0)=false:=by simp [hz]
         rw [this]
         rfl
      clear hR
      have cx:w1.cell? ⟨bHX,0,none⟩=some (.int .i64 x.1.kind):=(U HX).range 0 _ rfl
      obtain ⟨bb,hbb⟩:∃ bb,bb=(x.1.kind == 0):=⟨_,rfl⟩
      rw [← hbb] at HR
      obtain ⟨g,hg⟩:∃ g,g=ofTruthG (if bb then 1 else 0):=⟨_,rfl⟩
      have HIS:Hid (Calls Tryz.prog 52 #[.bool bb] w1 fun e w'=>e=.returned (.agg (gvC g).toArray)∧Below w1.heap.size w1 w'):=by rw [hg];exact ris_any bb w1
      rw [← hg] at HR
      have HBB:=V hbb
      clear hbb hg
      go_upto_region 46 with fail
      refine wp_region_list ?_
      refine lt 203 (.pointer (some ⟨bHX,0,none⟩)) ?_
      simp only[put,sA,sB,sC]
      refine list_to (d:=204) (v:=.int .i64 x.1.kind) rfl rfl (by go_simp) ?_
      refine lt 205 (.bool (x.1.kind == 0)) ?_
      simp only[put,sA,sB,sC]
      rw [← U HBB]
      refine list_call rfl (some 206) rfl 52 #[.bool bb] (by kernel_rfl) (U HIS) ?_
      rintro e w5 ⟨rfl,hb⟩
      refine ⟨_,rfl,?_⟩
      simp only[put,sA,sB,sC]
      have HB:=V (trX (U HB) hb)
      have HV:=V ((U HV).below hb)
      clear hb
      refine wpList_store_mid rfl 26 (.tmp 8) (.tmp 206) rfl (w.heap.size+1) 0 (gvC g).toArray rfl rfl (U HV).there sizeV (all_oneCell_toArray (gvC_one _)) ?_
      show wpList _ _ _ _ _ (w5.setCells (w.heap.size+1) 0 (gvC g))
      refine lt 9 (.int .i64 0) ?_
      simp only[put,sA,sB,sC]
      go_wp2_with fail
      refine bodyPost_ret (((U HV).set g).result2 rfl _ rfl) rfl ?_
      rw [U HPP,U HR]
      exact ⟨rfl,below_setCells0 (U HB) (Nat.le_succ _) _⟩
   · skip
     as_aux_lemma=>
      have c1:w1.cell? ⟨w.heap.size,1,none⟩=some (.int .i64 n.op):=cellX (U HVN).1 1
      rw [e4] at c1
      have HR:Hid (R=(ofTruthG (if (x.1.kind != 0) then 1 else 0),0)):=by
       show R=_
       rw [hR]
       unfold rUn
       rw [if_neg hne,if_neg (by omega),if_neg (by omega),if_neg (by omega)]
       by_cases hz:x.1.kind=0
       · rw [if_pos hz,hz];rfl
       · rw [if_neg hz]
         have:(x.1.kind != 0)=true:=by simp [hz]
         rw [this]
         rfl
      clear hR
      have cx:w1.cell? ⟨bHX,0,none⟩=some (.int .i64 x.1.kind):=(U HX).range 0 _ rfl
      obtain ⟨bb,hbb⟩:∃ bb,bb=(x.1.kind != 0):=⟨_,rfl⟩
      rw [← hbb] at HR
      obtain ⟨g,hg⟩:∃ g,g=ofTruthG (if bb then 1 else 0):=⟨_,rfl⟩
      have HIS:Hid (Calls Tryz.prog 52 #[.bool bb] w1 fun e w'=>e=.returned (.agg (gvC g).toArray)∧Below w1.heap.size w1 w'):=by rw [hg];exact ris_any bb w1
      rw [← hg] at HR
      have HBB:=V hbb
      clear hbb hg
      go_upto_region 47 with fail
      refine wp_region_list ?_
      refine lt 207 (.pointer (some ⟨bHX,0,none⟩)) ?_
      simp only[put,sA,sB,sC]
      refine list_to (d:=208) (v:=.int .i64 x.1.kind) rfl rfl (by go_simp) ?_
      refine lt 209 (.bool (x.1.kind != 0)) ?_
      simp only[put,sA,sB,sC]
      rw [← U HBB]
      refine list_call rfl (some 210) rfl 52 #[.bool bb] (by kernel_rfl) (U HIS) ?_
      rintro e w5 ⟨rfl,hb⟩
      refine ⟨_,rfl,?_⟩
      simp only[put,sA,sB,sC]
      have HB:=V (trX (U HB) hb)
      have HV:=V ((U HV).below hb)
      clear hb
      refine wpList_store_mid rfl 26 (.tmp 8) (.tmp 210) rfl (w.heap.size+1) 0 (gvC g).toArray rfl rfl (U HV).there sizeV (all_oneCell_toArray (gvC_one _)) ?_
      show wpList _ _ _ _ _ (w5.setCells (w.heap.size+1) 0 (gvC g))
      refine lt 9 (.int .i64 0) ?_
      simp only[put,sA,sB,sC]
      go_wp2_with fail
      refine bodyPost_ret (((U HV).set g).result2 rfl _ rfl) rfl ?_
      rw [U HPP,U HR]
      exact ⟨rfl,below_setCells0 (U HB) (Nat.le_succ _) _⟩
end Go.Proofs.YtpnonhjmpnbmcaaGreatDoor
