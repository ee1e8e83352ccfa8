/- The document's eval: binary. -/
import Derived.Test.YtpnonhjmpnbmcaaGreatDoorXRv2
namespace Go.Proofs.YtpnonhjmpnbmcaaGreatDoor
open Go.RowKit Go.Lib
open Act (put)
set_option linter.unusedSimpArgs false
set_option linter.unusedVariables false
set_option maxHeartbeats 6400000
set_option maxRecDepth 20000
theorem reval_k4 (w:World) (n:Nd) (M:List Value) (ba oa k:Nat) (hM:M=ndC n (.slice (some ⟨ba,oa,none⟩) 2 k)) (ra:Option Addr) (rn rk:Nat) (R:GV × Int) (hk:n.kind=4) (h5:5 ≤ n.op) (h18:n.op ≤ 18) (N0 N1:List Value) (hl0:N0.length=10) (hR0:w.rangeAt ba oa N0) (hl1:N1.length=10) (hR1:w.rangeAt ba (oa+10) N1) (x y:GV × Int) (hxo:x.1.ok) (hyo:y.1.ok) (hx:RvA w N0 ra rn rk x) (hy:RvA w N1 ra rn rk y) (hR:R=rBi n.op x y):Calls Tryz.prog 25 #[.agg M.toArray,.slice ra rn rk,.slice none 0 0,.bool false] w (RvP w R):=by
 have hlM:M.length=10:=by rw [hM];rfl
 obtain ⟨w1,hw1⟩:∃ w1,w1=w.alloc (.cells M.toArray 29):=⟨_,rfl⟩
 have HW1:=V hw1
 have hv1:VrX w1 w.heap.size M:=by rw [hw1];exact VrX.new w hlM
 have hb1:Below w.heap.size w w1:=by rw [hw1];exact alX (Below.refl _ _) _
 have HZ1:Hid (w1.heap.size=w.heap.size+1):=by show w1.heap.size=w.heap.size+1;rw [hw1];simp
 have HVA:=V hv1
 have HB1:=V hb1
 obtain ⟨PP,hPP⟩:∃ PP,PP=RvP w R:=⟨_,rfl⟩
 have HPP:=V hPP
 rw [← hPP]
 clear hPP hv1 hb1 hw1
 have HM:=V hM
 clear hM
 go_enter Tryz.func25,Tryz.ntmps25
 go_upto_region 1 with fail
 rw [← U HW1]
 obtain ⟨w0,hw0⟩:∃ w0,w0=w1.alloc (.cells (gvC nullG).toArray 26):=⟨_,rfl⟩
 have hb0:Below w1.heap.size w1 w0:=by rw [hw0];exact alX (Below.refl _ _) _
 have HV:=V (show VV w0 (w.heap.size+1) nullG by rw [← U HZ1,hw0];exact VV.new w1 nullG)
 have HB:=V (trX (U HB1) hb0)
 have HVA:=V ((U HVA).below hb0)
 rw [show (gvC nullG).toArray=#[.int .i64 0,.int .i64 0,.string ⟨#[]⟩] from rfl] at hw0
 rw [← hw0]
 clear hw0 hb0 HB1 HZ1 HW1
 have HVN:Hid (VrX w0 w.heap.size (ndC n (.slice (some ⟨ba,oa,none⟩) 2 k))):=by
  have h:=U HVA
  rwa [U HM] at h
 have c0:w0.cell? ⟨w.heap.size,0,none⟩=some (.int .i64 n.kind):=cellX (U HVN).1 0
 rw [hk] at c0
 have HC1:Hid (w0.cell? ⟨w.heap.size,1,none⟩=some (.int .i64 n.op)):=cellX (U HVN).1 1
 have HC7:Hid (w0.cell? ⟨w.heap.size,7,none⟩=some (.slice (some ⟨ba,oa,none⟩) 2 k)):=cellX (U HVN).1 7
 have HC8:Hid (w0.cell? ⟨w.heap.size,8,none⟩=some (.int .i64 n.at')):=cellX (U HVN).1 8
 clear HC1 HC7 HC8
 have HR0:=V hR0
 have HL0:=V hl0
 have HR1:=V hR1
 have HL1:=V hl1
 have HXA:=V hx
 have HYA:=V hy
 clear hR0 hl0 hR1 hl1 hx hy
 go_upto_region 36 with fail
 refine wp_region_list ?_
 refine lt 169 (.pointer (some ⟨w.heap.size,7,none⟩)) ?_
 simp only[put,sA,sB,sC]
 have c7:w0.cell? ⟨w.heap.size,7,none⟩=some (.slice (some ⟨ba,oa,none⟩) 2 k):=cellX (U HVN).1 7
 refine list_to (d:=170) (v:=.slice (some ⟨ba,oa,none⟩) 2 k) rfl rfl (by go_simp) ?_
 simp only[put,sA,sB,sC]
 clear c7 c0
 refine list_to (d:=171) (v:=.pointer (some ⟨ba,oa,none⟩)) rfl rfl (by go_simp) ?_
 simp only[put,sA,sB,sC]
 refine wpList_load_mid rfl 29 (.tmp 171) rfl ba (oa) rfl N0 _ (fun jj v hj=>((U HB).cell (p:=⟨ba,oa+jj,none⟩) (World.block_lt_of_cell? w _ (U HR0 jj v hj))).trans (U HR0 jj v hj)) Tryz.underlying29 rfl (by rw [U HL0];exact sizeEx) ?_
 refine lt 173 (.slice ra rn rk) ?_
 refine lt 174 (.slice none 0 0) ?_
 refine lt 175 (.bool false) ?_
 refine list_call rfl (some 176) rfl 25 #[.agg N0.toArray,.slice ra rn rk,.slice none 0 0,.bool false] (by kernel_rfl) (U HXA w0 (U HB)) ?_
 rintro e q0 ⟨rfl,hb⟩
 refine ⟨_,rfl,?_⟩
 simp only[put,sA,sB,sC]
 have HB:=V (trX (U HB) hb)
 have HV:=V ((U HV).below hb)
 have HVN:=V ((U HVN).below hb)
 clear hb
 refine lt 168 (.tuple #[x.1.agg,.int .i64 x.2]) ?_
 refine lt 177 (.agg (gvC x.1).toArray) ?_
 refine lt 178 (.int .i64 x.2) ?_
 simp only[put,sA,sB,sC]
 refine list_new rfl 26 rfl (gvC nullG).toArray (zero_of_info zeroV).1 ?_
 simp only[put,sA,sB,sC]
 refine wpList_store_mid rfl 26 (.tmp 21) (.tmp 177) rfl q0.heap.size 0 (gvC x.1).toArray rfl rfl (VV.new q0 nullG).there sizeV (all_oneCell_toArray (gvC_one _)) ?_
 show wpList _ _ _ _ _ ((q0.alloc (.cells (gvC nullG).toArray 26)).setCells q0.heap.size 0 (gvC x.1))
 rw [setV_new q0 x.1]
 refine lt 22 (.int .i64 x.2) ?_
 simp only[put,sA,sB,sC]
 have HX:=V (VV.new q0 x.1)
 have hb:Below q0.heap.size q0 (q0.alloc (.cells (gvC x.1).toArray 26)):=alX (Below.refl _ _) _
 have HB:=V (trX (U HB) hb)
 have HV:=V ((U HV).below hb)
 have HVN:=V ((U HVN).below hb)
 obtain ⟨bHX,hb9⟩:∃ bHX,bHX=q0.heap.size:=⟨_,rfl⟩
 obtain ⟨w1,hw9⟩:∃ w1,w1=q0.alloc (.cells (gvC x.1).toArray 26):=⟨_,rfl⟩
 rw [← hw9] at HB HX HV HVN
 rw [← hw9]
 rw [← hb9] at HX
 rw [← hb9]
 clear hb hw9 hb9
 unfold rBi at hR
 by_cases hne:x.2 ≠ 0
 · have hc0:(x.2 != 0)=true:=by simpa using hne
   have HR:Hid (R=(nullG,x.2)):=by show R=_;rw [hR];exact if_pos hne
   clear hR
   skip
   as_aux_lemma=>
    go_upto_region 38 with fail
    refine wp_region_list ?_
    refine lt 181 (.agg (gvC nullG).toArray) ?_
    refine lt 182 (.int .i64 x.2) ?_
    simp only[put,sA,sB,sC]
    refine wpList_store_mid rfl 26 (.tmp 8) (.tmp 181) rfl (w.heap.size+1) 0 (gvC nullG).toArray rfl rfl (U HV).there sizeV (all_oneCell_toArray (gvC_one _)) ?_
    show wpList _ _ _ _ _ (w1.setCells (w.heap.size+1) 0 (gvC nullG))
    refine lt 9 (.int .i64 x.2) ?_
    simp only[put,sA,sB,sC]
    go_wp2_with fail
    refine bodyPost_ret (((U HV).set nullG).result2 rfl _ rfl) rfl ?_
    rw [U HPP,U HR]
    exact ⟨rfl,below_setCells0 (U HB) (Nat.le_succ _) _⟩
 · rw [Decidable.not_not.1 hne]
   rw [if_neg hne] at hR
   have c0:w1.cell? ⟨w.heap.size,0,none⟩=some (.int .i64 n.kind):=cellX (U HVN).1 0
   rw [hk] at c0
   obtain ⟨t,ht⟩:∃ t,t=rtG x.1:=⟨_,rfl⟩
   have ht2:0 ≤ t∧t ≤ 2:=by rw [ht];exact rtG_two _
   have HTR:Hid (Calls Tryz.prog 30 #[.agg (gvC x.1).toArray] w1 fun e w'=>e=.returned (.int .i64 t)∧Below w1.heap.size w1 w'):=by rw [ht];exact rtruth_any x.1 w1
   rw [← ht] at hR
   clear ht
   go_upto_region 48 with fail
   refine wp_region_list ?_
   refine wpList_load_mid rfl 26 (.tmp 21) rfl bHX 0 rfl (gvC x.1) _ (U HX).range Tryz.underlying26 rfl sizeV ?_
   refine list_call rfl (some 212) rfl 30 #[.agg (gvC x.1).toArray] (by kernel_rfl) (U HTR) ?_
   rintro e w2 ⟨rfl,hb⟩
   refine ⟨_,rfl,?_⟩
   simp only[put,sA,sB,sC]
   have HB:=V (trX (U HB) hb)
   have HV:=V ((U HV).below hb)
   have HVN:=V ((U HVN).below hb)
   have HX:=V ((U HX).below hb)
   clear hb
   refine lt 23 (.int .i64 t) ?_
   simp only[put,sA,sB,sC]
   clear c0 HTR
   by_cases e17:n.op=17
   · by_cases h0:t=0
     · subst h0
       have HR:Hid (R=(ofTruthG 0,0)):=by show R=_;rw [hR];exact if_pos (.inl ⟨e17,rfl⟩)
       clear hR
       have c1:w2.cell? ⟨w.heap.size,1,none⟩=some (.int .i64 n.op):=cellX (U HVN).1 1
       rw [e17] at c1
       as_aux_lemma=>
        go_upto_region 50 with fail
        refine wp_region_list ?_
        refine lt 229 (.int .i64 0) ?_
        refine list_call rfl (some 230) rfl 17 #[.int .i64 0] (by kernel_rfl) (r6of_any (n:=0) (by decide) w2) ?_
        rintro e w3 ⟨rfl,hb⟩
        refine ⟨_,rfl,?_⟩
        simp only[put,sA,sB,sC]
        have HB:=V (trX (U HB) hb)
        have HV:=V ((U HV).below hb)
        clear hb
        refine wpList_store_mid rfl 26 (.tmp 8) (.tmp 230) rfl (w.heap.size+1) 0 (gvC (ofTruthG 0)).toArray rfl rfl (U HV).there sizeV (all_oneCell_toArray (gvC_one _)) ?_
        show wpList _ _ _ _ _ (w3.setCells (w.heap.size+1) 0 (gvC (ofTruthG 0)))
        refine lt 9 (.int .i64 0) ?_
        simp only[put,sA,sB,sC]
        go_wp2_with fail
        refine bodyPost_ret (((U HV).set (ofTruthG 0)).result2 rfl _ rfl) rfl ?_
        rw [U HPP,U HR]
        exact ⟨rfl,below_setCells0 (U HB) (Nat.le_succ _) _⟩
     · skip
       as_aux_lemma=>
        have c1:w2.cell? ⟨w.heap.size,1,none⟩=some (.int .i64 n.op):=cellX (U HVN).1 1
        rw [e17] at c1
        have et:(t == 0)=false:=beq_eq_false_iff_ne.2 h0
        rw [if_neg (by omega)] at hR
        go_upto_region 51 with fail
        refine wp_region_list ?_
        refine lt 232 (.pointer (some ⟨w.heap.size,7,none⟩)) ?_
        simp only[put,sA,sB,sC]
        have c7:w2.cell? ⟨w.heap.size,7,none⟩=some (.slice (some ⟨ba,oa,none⟩) 2 k):=cellX (U HVN).1 7
        refine list_to (d:=233) (v:=.slice (some ⟨ba,oa,none⟩) 2 k) rfl rfl (by go_simp) ?_
        simp only[put,sA,sB,sC]
        clear c7
        refine list_to (d:=234) (v:=.pointer (some ⟨ba,oa+10,none⟩)) rfl rfl (by go_simp) ?_
        simp only[put,sA,sB,sC]
        refine wpList_load_mid rfl 29 (.tmp 234) rfl ba (oa+10) rfl N1 _ (fun jj v hj=>((U HB).cell (p:=⟨ba,oa+10+jj,none⟩) (World.block_lt_of_cell? w _ (U HR1 jj v hj))).trans (U HR1 jj v hj)) Tryz.underlying29 rfl (by rw [U HL1];exact sizeEx) ?_
        refine lt 236 (.slice ra rn rk) ?_
        refine lt 237 (.slice none 0 0) ?_
        refine lt 238 (.bool false) ?_
        refine list_call rfl (some 239) rfl 25 #[.agg N1.toArray,.slice ra rn rk,.slice none 0 0,.bool false] (by kernel_rfl) (U HYA w2 (U HB)) ?_
        rintro e q2 ⟨rfl,hb⟩
        refine ⟨_,rfl,?_⟩
        simp only[put,sA,sB,sC]
        have HB:=V (trX (U HB) hb)
        have HV:=V ((U HV).below hb)
        have HVN:=V ((U HVN).below hb)
        have HX:=V ((U HX).below hb)
        clear hb
        refine lt 231 (.tuple #[y.1.agg,.int .i64 y.2]) ?_
        refine lt 240 (.agg (gvC y.1).toArray) ?_
        refine lt 241 (.int .i64 y.2) ?_
        simp only[put,sA,sB,sC]
        refine list_new rfl 26 rfl (gvC nullG).toArray (zero_of_info zeroV).1 ?_
        simp only[put,sA,sB,sC]
        refine wpList_store_mid rfl 26 (.tmp 24) (.tmp 240) rfl q2.heap.size 0 (gvC y.1).toArray rfl rfl (VV.new q2 nullG).there sizeV (all_oneCell_toArray (gvC_one _)) ?_
        show wpList _ _ _ _ _ ((q2.alloc (.cells (gvC nullG).toArray 26)).setCells q2.heap.size 0 (gvC y.1))
        rw [setV_new q2 y.1]
        refine lt 22 (.int .i64 y.2) ?_
        simp only[put,sA,sB,sC]
        have HY:=V (VV.new q2 y.1)
        have hb:Below q2.heap.size q2 (q2.alloc (.cells (gvC y.1).toArray 26)):=alX (Below.refl _ _) _
        have HB:=V (trX (U HB) hb)
        have HV:=V ((U HV).below hb)
        have HVN:=V ((U HVN).below hb)
        have HX:=V ((U HX).below hb)
        obtain ⟨bHY,hb9⟩:∃ bHY,bHY=q2.heap.size:=⟨_,rfl⟩
        obtain ⟨w3,hw9⟩:∃ w3,w3=q2.alloc (.cells (gvC y.1).toArray 26):=⟨_,rfl⟩
        rw [← hw9] at HB HY HV HVN HX
        rw [← hw9]
        rw [← hb9] at HY
        rw [← hb9]
        clear hb hw9 hb9
        by_cases hyn:y.2 ≠ 0
        · have hd0:(y.2 != 0)=true:=by simpa using hyn
          have HR:Hid (R=(nullG,y.2)):=by show R=_;rw [hR];exact if_pos hyn
          clear hR
          go_upto_region 53 with fail
          refine wp_region_list ?_
          refine lt 244 (.agg (gvC nullG).toArray) ?_
          refine lt 245 (.int .i64 y.2) ?_
          simp only[put,sA,sB,sC]
          refine wpList_store_mid rfl 26 (.tmp 8) (.tmp 244) rfl (w.heap.size+1) 0 (gvC nullG).toArray rfl rfl (U HV).there sizeV (all_oneCell_toArray (gvC_one _)) ?_
          show wpList _ _ _ _ _ (w3.setCells (w.heap.size+1) 0 (gvC nullG))
          refine lt 9 (.int .i64 y.2) ?_
          simp only[put,sA,sB,sC]
          go_wp2_with fail
          refine bodyPost_ret (((U HV).set nullG).result2 rfl _ rfl) rfl ?_
          rw [U HPP,U HR]
          exact ⟨rfl,below_setCells0 (U HB) (Nat.le_succ _) _⟩
        · rw [if_neg hyn] at hR
          rw [Decidable.not_not.1 hyn]
          obtain ⟨u,hu⟩:∃ u,u=rtG y.1:=⟨_,rfl⟩
          have hu2:0 ≤ u∧u ≤ 2:=by rw [hu];exact rtG_two _
          have HTR:Hid (Calls Tryz.prog 30 #[.agg (gvC y.1).toArray] w3 fun e w'=>e=.returned (.int .i64 u)∧Below w3.heap.size w3 w'):=by rw [hu];exact rtruth_any y.1 w3
          rw [← hu] at hR
          clear hu
          go_upto_region 54 with fail
          refine wp_region_list ?_
          refine wpList_load_mid rfl 26 (.tmp 24) rfl bHY 0 rfl (gvC y.1) _ (U HY).range Tryz.underlying26 rfl sizeV ?_
          refine list_call rfl (some 247) rfl 30 #[.agg (gvC y.1).toArray] (by kernel_rfl) (U HTR) ?_
          rintro e w4 ⟨rfl,hb⟩
          refine ⟨_,rfl,?_⟩
          simp only[put,sA,sB,sC]
          have HB:=V (trX (U HB) hb)
          have HV:=V ((U HV).below hb)
          have HVN:=V ((U HVN).below hb)
          have HX:=V ((U HX).below hb)
          have HY:=V ((U HY).below hb)
          clear hb
          refine lt 25 (.int .i64 u) ?_
          simp only[put,sA,sB,sC]
          clear HTR
          have c1:w4.cell? ⟨w.heap.size,1,none⟩=some (.int .i64 n.op):=cellX (U HVN).1 1
          rw [e17] at c1
          obtain ⟨v,hv⟩:∃ v,v=andG t u:=⟨_,rfl⟩
          have hv2:0 ≤ v∧v ≤ 2:=by rw [hv];exact andG_two _ _
          have HAN:Hid (Calls Tryz.prog 53 #[.int .i64 t,.int .i64 u] w4 fun e w'=>e=.returned (.int .i64 v)∧w'=w4):=by rw [hv];exact r6and_any ht2 hu2 w4
          have HR:Hid (R=(ofTruthG v,0)):=by show R=_;rw [hR,hv];exact if_pos e17
          clear hv hR
          go_upto_region 56 with fail
          refine wp_region_list ?_
          refine lt 252 (.int .i64 t) ?_
          refine lt 253 (.int .i64 u) ?_
          refine list_call rfl (some 254) rfl 53 #[.int .i64 t,.int .i64 u] (by kernel_rfl) (U HAN) ?_
          rintro e w5 ⟨rfl,hw5⟩
          refine ⟨_,rfl,?_⟩
          simp only[put,sA,sB,sC]
          rw [hw5]
          clear hw5 w5
          refine list_call rfl (some 255) rfl 17 #[.int .i64 v] (by kernel_rfl) (r6of_any hv2 w4) ?_
          rintro e w6 ⟨rfl,hb⟩
          refine ⟨_,rfl,?_⟩
          simp only[put,sA,sB,sC]
          have HB:=V (trX (U HB) hb)
          have HV:=V ((U HV).below hb)
          clear hb
          refine wpList_store_mid rfl 26 (.tmp 8) (.tmp 255) rfl (w.heap.size+1) 0 (gvC (ofTruthG v)).toArray rfl rfl (U HV).there sizeV (all_oneCell_toArray (gvC_one _)) ?_
          show wpList _ _ _ _ _ (w6.setCells (w.heap.size+1) 0 (gvC (ofTruthG v)))
          refine lt 9 (.int .i64 0) ?_
          simp only[put,sA,sB,sC]
          go_wp2_with fail
          refine bodyPost_ret (((U HV).set (ofTruthG v)).result2 rfl _ rfl) rfl ?_
          rw [U HPP,U HR]
          exact ⟨rfl,below_setCells0 (U HB) (Nat.le_succ _) _⟩
   · by_cases e18:n.op=18
     · by_cases h0:t=1
       · subst h0
         have HR:Hid (R=(ofTruthG 1,0)):=by show R=_;rw [hR];exact if_pos (.inr ⟨e18,rfl⟩)
         clear hR
         have c1:w2.cell? ⟨w.heap.size,1,none⟩=some (.int .i64 n.op):=cellX (U HVN).1 1
         rw [e18] at c1
         as_aux_lemma=>
          go_upto_region 50 with fail
          refine wp_region_list ?_
          refine lt 229 (.int .i64 1) ?_
          refine list_call rfl (some 230) rfl 17 #[.int .i64 1] (by kernel_rfl) (r6of_any (n:=1) (by decide) w2) ?_
          rintro e w3 ⟨rfl,hb⟩
          refine ⟨_,rfl,?_⟩
          simp only[put,sA,sB,sC]
          have HB:=V (trX (U HB) hb)
          have HV:=V ((U HV).below hb)
          clear hb
          refine wpList_store_mid rfl 26 (.tmp 8) (.tmp 230) rfl (w.heap.size+1) 0 (gvC (ofTruthG 1)).toArray rfl rfl (U HV).there sizeV (all_oneCell_toArray (gvC_one _)) ?_
          show wpList _ _ _ _ _ (w3.setCells (w.heap.size+1) 0 (gvC (ofTruthG 1)))
          refine lt 9 (.int .i64 0) ?_
          simp only[put,sA,sB,sC]
          go_wp2_with fail
          refine bodyPost_ret (((U HV).set (ofTruthG 1)).result2 rfl _ rfl) rfl ?_
          rw [U HPP,U HR]
          exact ⟨rfl,below_setCells0 (U HB) (Nat.le_succ _) _⟩
       · skip
         as_aux_lemma=>
          have c1:w2.cell? ⟨w.heap.size,1,none⟩=some (.int .i64 n.op):=cellX (U HVN).1 1
          rw [e18] at c1
          have et:(t == 1)=false:=beq_eq_false_iff_ne.2 h0
          rw [if_neg (by omega)] at hR
          go_upto_region 51 with fail
          refine wp_region_list ?_
          refine lt 232 (.pointer (some ⟨w.heap.size,7,none⟩)) ?_
          simp only[put,sA,sB,sC]
          have c7:w2.cell? ⟨w.heap.size,7,none⟩=some (.slice (some ⟨ba,oa,none⟩) 2 k):=cellX (U HVN).1 7
          refine list_to (d:=233) (v:=.slice (some ⟨ba,oa,none⟩) 2 k) rfl rfl (by go_simp) ?_
          simp only[put,sA,sB,sC]
          clear c7
          refine list_to (d:=234) (v:=.pointer (some ⟨ba,oa+10,none⟩)) rfl rfl (by go_simp) ?_
          simp only[put,sA,sB,sC]
          refine wpList_load_mid rfl 29 (.tmp 234) rfl ba (oa+10) rfl N1 _ (fun jj v hj=>((U HB).cell (p:=⟨ba,oa+10+jj,none⟩) (World.block_lt_of_cell? w _ (U HR1 jj v hj))).trans (U HR1 jj v hj)) Tryz.underlying29 rfl (by rw [U HL1];exact sizeEx) ?_
          refine lt 236 (.slice ra rn rk) ?_
          refine lt 237 (.slice none 0 0) ?_
          refine lt 238 (.bool false) ?_
          refine list_call rfl (some 239) rfl 25 #[.agg N1.toArray,.slice ra rn rk,.slice none 0 0,.bool false] (by kernel_rfl) (U HYA w2 (U HB)) ?_
          rintro e q2 ⟨rfl,hb⟩
          refine ⟨_,rfl,?_⟩
          simp only[put,sA,sB,sC]
          have HB:=V (trX (U HB) hb)
          have HV:=V ((U HV).below hb)
          have HVN:=V ((U HVN).below hb)
          have HX:=V ((U HX).below hb)
          clear hb
          refine lt 231 (.tuple #[y.1.agg,.int .i64 y.2]) ?_
          refine lt 240 (.agg (gvC y.1).toArray) ?_
          refine lt 241 (.int .i64 y.2) ?_
          simp only[put,sA,sB,sC]
          refine list_new rfl 26 rfl (gvC nullG).toArray (zero_of_info zeroV).1 ?_
          simp only[put,sA,sB,sC]
          refine wpList_store_mid rfl 26 (.tmp 24) (.tmp 240) rfl q2.heap.size 0 (gvC y.1).toArray rfl rfl (VV.new q2 nullG).there sizeV (all_oneCell_toArray (gvC_one _)) ?_
          show wpList _ _ _ _ _ ((q2.alloc (.cells (gvC nullG).toArray 26)).setCells q2.heap.size 0 (gvC y.1))
          rw [setV_new q2 y.1]
          refine lt 22 (.int .i64 y.2) ?_
          simp only[put,sA,sB,sC]
          have HY:=V (VV.new q2 y.1)
          have hb:Below q2.heap.size q2 (q2.alloc (.cells (gvC y.1).toArray 26)):=alX (Below.refl _ _) _
          have HB:=V (trX (U HB) hb)
          have HV:=V ((U HV).below hb)
          have HVN:=V ((U HVN).below hb)
          have HX:=V ((U HX).below hb)
          obtain ⟨bHY,hb9⟩:∃ bHY,bHY=q2.heap.size:=⟨_,rfl⟩
          obtain ⟨w3,hw9⟩:∃ w3,w3=q2.alloc (.cells (gvC y.1).toArray 26):=⟨_,rfl⟩
          rw [← hw9] at HB HY HV HVN HX
          rw [← hw9]
          rw [← hb9] at HY
          rw [← hb9]
          clear hb hw9 hb9
          by_cases hyn:y.2 ≠ 0
          · have hd0:(y.2 != 0)=true:=by simpa using hyn
            have HR:Hid (R=(nullG,y.2)):=by show R=_;rw [hR];exact if_pos hyn
            clear hR
            go_upto_region 53 with fail
            refine wp_region_list ?_
            refine lt 244 (.agg (gvC nullG).toArray) ?_
            refine lt 245 (.int .i64 y.2) ?_
            simp only[put,sA,sB,sC]
            refine wpList_store_mid rfl 26 (.tmp 8) (.tmp 244) rfl (w.heap.size+1) 0 (gvC nullG).toArray rfl rfl (U HV).there sizeV (all_oneCell_toArray (gvC_one _)) ?_
            show wpList _ _ _ _ _ (w3.setCells (w.heap.size+1) 0 (gvC nullG))
            refine lt 9 (.int .i64 y.2) ?_
            simp only[put,sA,sB,sC]
            go_wp2_with fail
            refine bodyPost_ret (((U HV).set nullG).result2 rfl _ rfl) rfl ?_
            rw [U HPP,U HR]
            exact ⟨rfl,below_setCells0 (U HB) (Nat.le_succ _) _⟩
          · rw [if_neg hyn] at hR
            rw [Decidable.not_not.1 hyn]
            obtain ⟨u,hu⟩:∃ u,u=rtG y.1:=⟨_,rfl⟩
            have hu2:0 ≤ u∧u ≤ 2:=by rw [hu];exact rtG_two _
            have HTR:Hid (Calls Tryz.prog 30 #[.agg (gvC y.1).toArray] w3 fun e w'=>e=.returned (.int .i64 u)∧Below w3.heap.size w3 w'):=by rw [hu];exact rtruth_any y.1 w3
            rw [← hu] at hR
            clear hu
            go_upto_region 54 with fail
            refine wp_region_list ?_
            refine wpList_load_mid rfl 26 (.tmp 24) rfl bHY 0 rfl (gvC y.1) _ (U HY).range Tryz.underlying26 rfl sizeV ?_
            refine list_call rfl (some 247) rfl 30 #[.agg (gvC y.1).toArray] (by kernel_rfl) (U HTR) ?_
            rintro e w4 ⟨rfl,hb⟩
            refine ⟨_,rfl,?_⟩
            simp only[put,sA,sB,sC]
            have HB:=V (trX (U HB) hb)
            have HV:=V ((U HV).below hb)
            have HVN:=V ((U HVN).below hb)
            have HX:=V ((U HX).below hb)
            have HY:=V ((U HY).below hb)
            clear hb
            refine lt 25 (.int .i64 u) ?_
            simp only[put,sA,sB,sC]
            clear HTR
            have c1:w4.cell? ⟨w.heap.size,1,none⟩=some (.int .i64 n.op):=cellX (U HVN).1 1
            rw [e18] at c1
            obtain ⟨v,hv⟩:∃ v,v=orG t u:=⟨_,rfl⟩
            have hv2:0 ≤ v∧v ≤ 2:=by rw [hv];exact orG_two _ _
            have HAN:Hid (Calls Tryz.prog 49 #[.int .i64 t,.int .i64 u] w4 fun e w'=>e=.returned (.int .i64 v)∧w'=w4):=by rw [hv];exact r6or_any ht2 hu2 w4
            have HR:Hid (R=(ofTruthG v,0)):=by show R=_;rw [hR,hv];exact (if_neg e17).trans (if_pos e18)
            clear hv hR
            go_upto_region 58 with fail
            refine wp_region_list ?_
            refine lt 260 (.int .i64 t) ?_
            refine lt 261 (.int .i64 u) ?_
            refine list_call rfl (some 262) rfl 49 #[.int .i64 t,.int .i64 u] (by kernel_rfl) (U HAN) ?_
            rintro e w5 ⟨rfl,hw5⟩
            refine ⟨_,rfl,?_⟩
            simp only[put,sA,sB,sC]
            rw [hw5]
            clear hw5 w5
            refine list_call rfl (some 263) rfl 17 #[.int .i64 v] (by kernel_rfl) (r6of_any hv2 w4) ?_
            rintro e w6 ⟨rfl,hb⟩
            refine ⟨_,rfl,?_⟩
            simp only[put,sA,sB,sC]
            have HB:=V (trX (U HB) hb)
            have HV:=V ((U HV).below hb)
            clear hb
            refine wpList_store_mid rfl 26 (.tmp 8) (.tmp 263) rfl (w.heap.size+1) 0 (gvC (ofTruthG v)).toArray rfl rfl (U HV).there sizeV (all_oneCell_toArray (gvC_one _)) ?_
            show wpList _ _ _ _ _ (w6.setCells (w.heap.size+1) 0 (gvC (ofTruthG v)))
            refine lt 9 (.int .i64 0) ?_
            simp only[put,sA,sB,sC]
            go_wp2_with fail
            refine bodyPost_ret (((U HV).set (ofTruthG v)).result2 rfl _ rfl) rfl ?_
            rw [U HPP,U HR]
            exact ⟨rfl,below_setCells0 (U HB) (Nat.le_succ _) _⟩
     · by_cases h10:n.op ≤ 10
       · skip
         as_aux_lemma=>
          have c1:w2.cell? ⟨w.heap.size,1,none⟩=some (.int .i64 n.op):=cellX (U HVN).1 1
          have et:(n.op == 17)=false:=beq_eq_false_iff_ne.2 e17
          have ev:(n.op == 18)=false:=beq_eq_false_iff_ne.2 e18
          rw [if_neg (by omega)] at hR
          go_upto_region 51 with fail
          refine wp_region_list ?_
          refine lt 232 (.pointer (some ⟨w.heap.size,7,none⟩)) ?_
          simp only[put,sA,sB,sC]
          have c7:w2.cell? ⟨w.heap.size,7,none⟩=some (.slice (some ⟨ba,oa,none⟩) 2 k):=cellX (U HVN).1 7
          refine list_to (d:=233) (v:=.slice (some ⟨ba,oa,none⟩) 2 k) rfl rfl (by go_simp) ?_
          simp only[put,sA,sB,sC]
          clear c7
          refine list_to (d:=234) (v:=.pointer (some ⟨ba,oa+10,none⟩)) rfl rfl (by go_simp) ?_
          simp only[put,sA,sB,sC]
          refine wpList_load_mid rfl 29 (.tmp 234) rfl ba (oa+10) rfl N1 _ (fun jj v hj=>((U HB).cell (p:=⟨ba,oa+10+jj,none⟩) (World.block_lt_of_cell? w _ (U HR1 jj v hj))).trans (U HR1 jj v hj)) Tryz.underlying29 rfl (by rw [U HL1];exact sizeEx) ?_
          refine lt 236 (.slice ra rn rk) ?_
          refine lt 237 (.slice none 0 0) ?_
          refine lt 238 (.bool false) ?_
          refine list_call rfl (some 239) rfl 25 #[.agg N1.toArray,.slice ra rn rk,.slice none 0 0,.bool false] (by kernel_rfl) (U HYA w2 (U HB)) ?_
          rintro e q2 ⟨rfl,hb⟩
          refine ⟨_,rfl,?_⟩
          simp only[put,sA,sB,sC]
          have HB:=V (trX (U HB) hb)
          have HV:=V ((U HV).below hb)
          have HVN:=V ((U HVN).below hb)
          have HX:=V ((U HX).below hb)
          clear hb
          refine lt 231 (.tuple #[y.1.agg,.int .i64 y.2]) ?_
          refine lt 240 (.agg (gvC y.1).toArray) ?_
          refine lt 241 (.int .i64 y.2) ?_
          simp only[put,sA,sB,sC]
          refine list_new rfl 26 rfl (gvC nullG).toArray (zero_of_info zeroV).1 ?_
          simp only[put,sA,sB,sC]
          refine wpList_store_mid rfl 26 (.tmp 24) (.tmp 240) rfl q2.heap.size 0 (gvC y.1).toArray rfl rfl (VV.new q2 nullG).there sizeV (all_oneCell_toArray (gvC_one _)) ?_
          show wpList _ _ _ _ _ ((q2.alloc (.cells (gvC nullG).toArray 26)).setCells q2.heap.size 0 (gvC y.1))
          rw [setV_new q2 y.1]
          refine lt 22 (.int .i64 y.2) ?_
          simp only[put,sA,sB,sC]
          have HY:=V (VV.new q2 y.1)
          have hb:Below q2.heap.size q2 (q2.alloc (.cells (gvC y.1).toArray 26)):=alX (Below.refl _ _) _
          have HB:=V (trX (U HB) hb)
          have HV:=V ((U HV).below hb)
          have HVN:=V ((U HVN).below hb)
          have HX:=V ((U HX).below hb)
          obtain ⟨bHY,hb9⟩:∃ bHY,bHY=q2.heap.size:=⟨_,rfl⟩
          obtain ⟨w3,hw9⟩:∃ w3,w3=q2.alloc (.cells (gvC y.1).toArray 26):=⟨_,rfl⟩
          rw [← hw9] at HB HY HV HVN HX
          rw [← hw9]
          rw [← hb9] at HY
          rw [← hb9]
          clear hb hw9 hb9
          by_cases hyn:y.2 ≠ 0
          · have hd0:(y.2 != 0)=true:=by simpa using hyn
            have HR:Hid (R=(nullG,y.2)):=by show R=_;rw [hR];exact if_pos hyn
            clear hR
            go_upto_region 53 with fail
            refine wp_region_list ?_
            refine lt 244 (.agg (gvC nullG).toArray) ?_
            refine lt 245 (.int .i64 y.2) ?_
            simp only[put,sA,sB,sC]
            refine wpList_store_mid rfl 26 (.tmp 8) (.tmp 244) rfl (w.heap.size+1) 0 (gvC nullG).toArray rfl rfl (U HV).there sizeV (all_oneCell_toArray (gvC_one _)) ?_
            show wpList _ _ _ _ _ (w3.setCells (w.heap.size+1) 0 (gvC nullG))
            refine lt 9 (.int .i64 y.2) ?_
            simp only[put,sA,sB,sC]
            go_wp2_with fail
            refine bodyPost_ret (((U HV).set nullG).result2 rfl _ rfl) rfl ?_
            rw [U HPP,U HR]
            exact ⟨rfl,below_setCells0 (U HB) (Nat.le_succ _) _⟩
          · rw [if_neg hyn] at hR
            rw [Decidable.not_not.1 hyn]
            obtain ⟨u,hu⟩:∃ u,u=rtG y.1:=⟨_,rfl⟩
            have HTR:Hid (Calls Tryz.prog 30 #[.agg (gvC y.1).toArray] w3 fun e w'=>e=.returned (.int .i64 u)∧Below w3.heap.size w3 w'):=by rw [hu];exact rtruth_any y.1 w3
            clear hu
            go_upto_region 54 with fail
            refine wp_region_list ?_
            refine wpList_load_mid rfl 26 (.tmp 24) rfl bHY 0 rfl (gvC y.1) _ (U HY).range Tryz.underlying26 rfl sizeV ?_
            refine list_call rfl (some 247) rfl 30 #[.agg (gvC y.1).toArray] (by kernel_rfl) (U HTR) ?_
            rintro e w4 ⟨rfl,hb⟩
            refine ⟨_,rfl,?_⟩
            simp only[put,sA,sB,sC]
            have HB:=V (trX (U HB) hb)
            have HV:=V ((U HV).below hb)
            have HVN:=V ((U HVN).below hb)
            have HX:=V ((U HX).below hb)
            have HY:=V ((U HY).below hb)
            clear hb
            refine lt 25 (.int .i64 u) ?_
            simp only[put,sA,sB,sC]
            clear HTR
            have c1:w4.cell? ⟨w.heap.size,1,none⟩=some (.int .i64 n.op):=cellX (U HVN).1 1
            obtain ⟨tr,htr⟩:∃ tr,tr=testG n.op x.1 y.1:=⟨_,rfl⟩
            have htr2:0 ≤ tr.1∧tr.1 ≤ 2:=by rw [htr];exact testG_two _ _ _
            have HTE:Hid (Calls Tryz.prog 48 #[.int .i64 n.op,.agg (gvC x.1).toArray,.agg (gvC y.1).toArray] w4 fun e w'=>e=.returned (.tuple #[.int .i64 tr.1,.int .i64 tr.2])∧Below w4.heap.size w4 w'):=by rw [htr];exact refTest_any n.op x.1 y.1 w4 hxo hyo
            have HR:Hid (R=(ofTruthG tr.1,tr.2)):=by show R=_;rw [hR,if_neg (by omega),if_neg (by omega),if_pos h10,← htr]
            clear htr hR
            go_upto_region 60 with fail
            refine wp_region_list ?_
            refine lt 269 (.pointer (some ⟨w.heap.size,1,none⟩)) ?_
            simp only[put,sA,sB,sC]
            refine list_to (d:=270) (v:=.int .i64 n.op) rfl rfl (by go_simp) ?_
            simp only[put,sA,sB,sC]
            clear c1
            refine wpList_load_mid rfl 26 (.tmp 21) rfl bHX 0 rfl (gvC x.1) _ (U HX).range Tryz.underlying26 rfl sizeV ?_
            simp only[put,sA,sB,sC]
            refine wpList_load_mid rfl 26 (.tmp 24) rfl bHY 0 rfl (gvC y.1) _ (U HY).range Tryz.underlying26 rfl sizeV ?_
            refine list_call rfl (some 273) rfl 48 #[.int .i64 n.op,.agg (gvC x.1).toArray,.agg (gvC y.1).toArray] (by kernel_rfl) (U HTE) ?_
            rintro e w5 ⟨rfl,hb⟩
            refine ⟨_,rfl,?_⟩
            simp only[put,sA,sB,sC]
            have HB:=V (trX (U HB) hb)
            have HV:=V ((U HV).below hb)
            clear hb
            refine lt 268 (.tuple #[.int .i64 tr.1,.int .i64 tr.2]) ?_
            refine lt 274 (.int .i64 tr.1) ?_
            refine lt 275 (.int .i64 tr.2) ?_
            refine lt 26 (.int .i64 tr.1) ?_
            refine lt 27 (.int .i64 tr.2) ?_
            simp only[put,sA,sB,sC]
            go_upto_region 61 with fail
            refine wp_region_list ?_
            refine lt 276 (.int .i64 tr.1) ?_
            refine list_call rfl (some 277) rfl 17 #[.int .i64 tr.1] (by kernel_rfl) (r6of_any htr2 w5) ?_
            rintro e w6 ⟨rfl,hb⟩
            refine ⟨_,rfl,?_⟩
            simp only[put,sA,sB,sC]
            have HB:=V (trX (U HB) hb)
            have HV:=V ((U HV).below hb)
            clear hb
            refine lt 278 (.int .i64 tr.2) ?_
            simp only[put,sA,sB,sC]
            refine wpList_store_mid rfl 26 (.tmp 8) (.tmp 277) rfl (w.heap.size+1) 0 (gvC (ofTruthG tr.1)).toArray rfl rfl (U HV).there sizeV (all_oneCell_toArray (gvC_one _)) ?_
            show wpList _ _ _ _ _ (w6.setCells (w.heap.size+1) 0 (gvC (ofTruthG tr.1)))
            refine lt 9 (.int .i64 tr.2) ?_
            simp only[put,sA,sB,sC]
            go_wp2_with fail
            refine bodyPost_ret (((U HV).set (ofTruthG tr.1)).result2 rfl _ rfl) rfl ?_
            rw [U HPP,U HR]
            exact ⟨rfl,below_setCells0 (U HB) (Nat.le_succ _) _⟩
       · skip
         as_aux_lemma=>
          have c1:w2.cell? ⟨w.heap.size,1,none⟩=some (.int .i64 n.op):=cellX (U HVN).1 1
          have et:(n.op == 17)=false:=beq_eq_false_iff_ne.2 e17
          have ev:(n.op == 18)=false:=beq_eq_false_iff_ne.2 e18
          rw [if_neg (by omega)] at hR
          go_upto_region 51 with fail
          refine wp_region_list ?_
          refine lt 232 (.pointer (some ⟨w.heap.size,7,none⟩)) ?_
          simp only[put,sA,sB,sC]
          have c7:w2.cell? ⟨w.heap.size,7,none⟩=some (.slice (some ⟨ba,oa,none⟩) 2 k):=cellX (U HVN).1 7
          refine list_to (d:=233) (v:=.slice (some ⟨ba,oa,none⟩) 2 k) rfl rfl (by go_simp) ?_
          simp only[put,sA,sB,sC]
          clear c7
          refine list_to (d:=234) (v:=.pointer (some ⟨ba,oa+10,none⟩)) rfl rfl (by go_simp) ?_
          simp only[put,sA,sB,sC]
          refine wpList_load_mid rfl 29 (.tmp 234) rfl ba (oa+10) rfl N1 _ (fun jj v hj=>((U HB).cell (p:=⟨ba,oa+10+jj,none⟩) (World.block_lt_of_cell? w _ (U HR1 jj v hj))).trans (U HR1 jj v hj)) Tryz.underlying29 rfl (by rw [U HL1];exact sizeEx) ?_
          refine lt 236 (.slice ra rn rk) ?_
          refine lt 237 (.slice none 0 0) ?_
          refine lt 238 (.bool false) ?_
          refine list_call rfl (some 239) rfl 25 #[.agg N1.toArray,.slice ra rn rk,.slice none 0 0,.bool false] (by kernel_rfl) (U HYA w2 (U HB)) ?_
          rintro e q2 ⟨rfl,hb⟩
          refine ⟨_,rfl,?_⟩
          simp only[put,sA,sB,sC]
          have HB:=V (trX (U HB) hb)
          have HV:=V ((U HV).below hb)
          have HVN:=V ((U HVN).below hb)
          have HX:=V ((U HX).below hb)
          clear hb
          refine lt 231 (.tuple #[y.1.agg,.int .i64 y.2]) ?_
          refine lt 240 (.agg (gvC y.1).toArray) ?_
          refine lt 241 (.int .i64 y.2) ?_
          simp only[put,sA,sB,sC]
          refine list_new rfl 26 rfl (gvC nullG).toArray (zero_of_info zeroV).1 ?_
          simp only[put,sA,sB,sC]
          refine wpList_store_mid rfl 26 (.tmp 24) (.tmp 240) rfl q2.heap.size 0 (gvC y.1).toArray rfl rfl (VV.new q2 nullG).there sizeV (all_oneCell_toArray (gvC_one _)) ?_
          show wpList _ _ _ _ _ ((q2.alloc (.cells (gvC nullG).toArray 26)).setCells q2.heap.size 0 (gvC y.1))
          rw [setV_new q2 y.1]
          refine lt 22 (.int .i64 y.2) ?_
          simp only[put,sA,sB,sC]
          have HY:=V (VV.new q2 y.1)
          have hb:Below q2.heap.size q2 (q2.alloc (.cells (gvC y.1).toArray 26)):=alX (Below.refl _ _) _
          have HB:=V (trX (U HB) hb)
          have HV:=V ((U HV).below hb)
          have HVN:=V ((U HVN).below hb)
          have HX:=V ((U HX).below hb)
          obtain ⟨bHY,hb9⟩:∃ bHY,bHY=q2.heap.size:=⟨_,rfl⟩
          obtain ⟨w3,hw9⟩:∃ w3,w3=q2.alloc (.cells (gvC y.1).toArray 26):=⟨_,rfl⟩
          rw [← hw9] at HB HY HV HVN HX
          rw [← hw9]
          rw [← hb9] at HY
          rw [← hb9]
          clear hb hw9 hb9
          by_cases hyn:y.2 ≠ 0
          · have hd0:(y.2 != 0)=true:=by simpa using hyn
            have HR:Hid (R=(nullG,y.2)):=by show R=_;rw [hR];exact if_pos hyn
            clear hR
            go_upto_region 53 with fail
            refine wp_region_list ?_
            refine lt 244 (.agg (gvC nullG).toArray) ?_
            refine lt 245 (.int .i64 y.2) ?_
            simp only[put,sA,sB,sC]
            refine wpList_store_mid rfl 26 (.tmp 8) (.tmp 244) rfl (w.heap.size+1) 0 (gvC nullG).toArray rfl rfl (U HV).there sizeV (all_oneCell_toArray (gvC_one _)) ?_
            show wpList _ _ _ _ _ (w3.setCells (w.heap.size+1) 0 (gvC nullG))
            refine lt 9 (.int .i64 y.2) ?_
            simp only[put,sA,sB,sC]
            go_wp2_with fail
            refine bodyPost_ret (((U HV).set nullG).result2 rfl _ rfl) rfl ?_
            rw [U HPP,U HR]
            exact ⟨rfl,below_setCells0 (U HB) (Nat.le_succ _) _⟩
          · rw [if_neg hyn] at hR
            rw [Decidable.not_not.1 hyn]
            obtain ⟨u,hu⟩:∃ u,u=rtG y.1:=⟨_,rfl⟩
            have HTR:Hid (Calls Tryz.prog 30 #[.agg (gvC y.1).toArray] w3 fun e w'=>e=.returned (.int .i64 u)∧Below w3.heap.size w3 w'):=by rw [hu];exact rtruth_any y.1 w3
            clear hu
            go_upto_region 54 with fail
            refine wp_region_list ?_
            refine wpList_load_mid rfl 26 (.tmp 24) rfl bHY 0 rfl (gvC y.1) _ (U HY).range Tryz.underlying26 rfl sizeV ?_
            refine list_call rfl (some 247) rfl 30 #[.agg (gvC y.1).toArray] (by kernel_rfl) (U HTR) ?_
            rintro e w4 ⟨rfl,hb⟩
            refine ⟨_,rfl,?_⟩
            simp only[put,sA,sB,sC]
            have HB:=V (trX (U HB) hb)
            have HV:=V ((U HV).below hb)
            have HVN:=V ((U HVN).below hb)
            have HX:=V ((U HX).below hb)
            have HY:=V ((U HY).below hb)
            clear hb
            refine lt 25 (.int .i64 u) ?_
            simp only[put,sA,sB,sC]
            clear HTR
            have c1:w4.cell? ⟨w.heap.size,1,none⟩=some (.int .i64 n.op):=cellX (U HVN).1 1
            obtain ⟨d,hd⟩:∃ d,d=doG n.op x.1 y.1:=⟨_,rfl⟩
            have HDO:Hid (Calls Tryz.prog 50 #[.int .i64 n.op,.agg (gvC x.1).toArray,.agg (gvC y.1).toArray] w4 fun e w'=>e=.returned (.tuple #[.agg (gvC d.1).toArray,.int .i64 d.2])∧Below w4.heap.size w4 w'):=by rw [hd];exact refDo_any n.op x.1 y.1 w4 hxo hyo
            have HR:Hid (R=d):=by show R=_;rw [hR,if_neg (by omega),if_neg (by omega),if_neg h10,← hd]
            clear hd hR
            go_upto_region 62 with fail
            refine wp_region_list ?_
            refine lt 279 (.pointer (some ⟨w.heap.size,1,none⟩)) ?_
            simp only[put,sA,sB,sC]
            refine list_to (d:=280) (v:=.int .i64 n.op) rfl rfl (by go_simp) ?_
            simp only[put,sA,sB,sC]
            clear c1
            refine wpList_load_mid rfl 26 (.tmp 21) rfl bHX 0 rfl (gvC x.1) _ (U HX).range Tryz.underlying26 rfl sizeV ?_
            simp only[put,sA,sB,sC]
            refine wpList_load_mid rfl 26 (.tmp 24) rfl bHY 0 rfl (gvC y.1) _ (U HY).range Tryz.underlying26 rfl sizeV ?_
            refine list_call rfl (some 283) rfl 50 #[.int .i64 n.op,.agg (gvC x.1).toArray,.agg (gvC y.1).toArray] (by kernel_rfl) (U HDO) ?_
            rintro e w5 ⟨rfl,hb⟩
            refine ⟨_,rfl,?_⟩
            simp only[put,sA,sB,sC]
            have HB:=V (trX (U HB) hb)
            have HV:=V ((U HV).below hb)
            clear hb
            refine lt 284 (.agg (gvC d.1).toArray) ?_
            refine lt 285 (.int .i64 d.2) ?_
            simp only[put,sA,sB,sC]
            refine wpList_store_mid rfl 26 (.tmp 8) (.tmp 284) rfl (w.heap.size+1) 0 (gvC d.1).toArray rfl rfl (U HV).there sizeV (all_oneCell_toArray (gvC_one _)) ?_
            show wpList _ _ _ _ _ (w5.setCells (w.heap.size+1) 0 (gvC d.1))
            refine lt 9 (.int .i64 d.2) ?_
            simp only[put,sA,sB,sC]
            go_wp2_with fail
            refine bodyPost_ret (((U HV).set d.1).result2 rfl _ rfl) rfl ?_
            rw [U HPP,U HR]
            exact ⟨rfl,below_setCells0 (U HB) (Nat.le_succ _) _⟩
end Go.Proofs.YtpnonhjmpnbmcaaGreatDoor
