/- The document's eval: IN. -/
import Derived.Test.YtpnonhjmpnbmcaaGreatDoorXRv3
namespace Go.Proofs.YtpnonhjmpnbmcaaGreatDoor
open Go.RowKit Go.Lib
open Act (put)
set_option linter.unusedSimpArgs false
set_option linter.unusedVariables false
set_option maxHeartbeats 6400000
set_option maxRecDepth 20000
theorem reval_k5 (w:World) (n:Nd) (M:List Value) (ba oa c k:Nat) (hM:M=ndC n (.slice (some ⟨ba,oa,none⟩) c k)) (ra:Option Addr) (rn rk:Nat) (R:GV × Int) (hk:n.kind=5) (x:GV × Int) (L:List (GV × Int)) (hcL:L.length+1=c) (hc2:2 ≤ c) (hck:c ≤ 1000) (h0:∃ N:List Value,N.length=10∧w.rangeAt ba oa N∧RvA w N ra rn rk x∧x.1.ok) (hev:∀ j y,L[j]?=some y→∃ N:List Value,N.length=10∧w.rangeAt ba (oa+10 * (j+1)) N∧RvA w N ra rn rk y∧y.1.ok) (hR:R=if x.2 ≠ 0 ∨ x.1.kind=0 then (nullG,x.2) else rAm x.1 0 L):Calls Tryz.prog 25 #[.agg M.toArray,.slice ra rn rk,.slice none 0 0,.bool false] w (RvP w R):=by
 have hlM:M.length=10:=by rw [hM];rfl
 obtain ⟨w1,hw1⟩:∃ w1,w1=w.alloc (.cells M.toArray 29):=⟨_,rfl⟩
 have HW1:=V hw1
 have hv1:VrX w1 w.heap.size M:=by rw [hw1];exact VrX.new w hlM
 have hb1:Below w.heap.size w w1:=by rw [hw1];exact alX (Below.refl _ _) _
 have HZ1:Hid (w1.heap.size=w.heap.size+1):=by show w1.heap.size=w.heap.size+1;rw [hw1];simp
 have HVA:=V hv1
 have HB1:=V hb1
 obtain ⟨PP,hPP⟩:∃ PP,PP=RvP w R:=⟨_,rfl⟩
 have HPP:=V hPP
 rw [← hPP]
 clear hPP hv1 hb1 hw1
 have HM:=V hM
 clear hM
 go_enter Tryz.func25,Tryz.ntmps25
 go_upto_region 1 with fail
 rw [← U HW1]
 obtain ⟨w0,hw0⟩:∃ w0,w0=w1.alloc (.cells (gvC nullG).toArray 26):=⟨_,rfl⟩
 have hb0:Below w1.heap.size w1 w0:=by rw [hw0];exact alX (Below.refl _ _) _
 have HV:=V (show VV w0 (w.heap.size+1) nullG by rw [← U HZ1,hw0];exact VV.new w1 nullG)
 have HB:=V (trX (U HB1) hb0)
 have HVA:=V ((U HVA).below hb0)
 rw [show (gvC nullG).toArray=#[.int .i64 0,.int .i64 0,.string ⟨#[]⟩] from rfl] at hw0
 rw [← hw0]
 clear hw0 hb0 HB1 HZ1 HW1
 have HVN:Hid (VrX w0 w.heap.size (ndC n (.slice (some ⟨ba,oa,none⟩) c k))):=by
  have h:=U HVA
  rwa [U HM] at h
 have c0:w0.cell? ⟨w.heap.size,0,none⟩=some (.int .i64 n.kind):=cellX (U HVN).1 0
 rw [hk] at c0
 have HC1:Hid (w0.cell? ⟨w.heap.size,1,none⟩=some (.int .i64 n.op)):=cellX (U HVN).1 1
 have HC7:Hid (w0.cell? ⟨w.heap.size,7,none⟩=some (.slice (some ⟨ba,oa,none⟩) c k)):=cellX (U HVN).1 7
 have HC8:Hid (w0.cell? ⟨w.heap.size,8,none⟩=some (.int .i64 n.at')):=cellX (U HVN).1 8
 clear HC1 HC7 HC8
 obtain ⟨N0,hlN,hrN,hxN,hxo⟩:=h0
 have HLN:=V hlN
 have HRN:=V hrN
 have HXN:=V hxN
 have HXO:=V hxo
 have HEV:=V hev
 have hc0I:(0:Int) < (c:Int):=by omega
 have hcn0:¬ c=0:=by omega
 have hcI:(c:Int) ≤ 1000:=by omega
 clear hlN hrN hxN hxo hev
 go_upto_region 9 with fail
 refine wp_region_list ?_
 refine lt 51 (.pointer (some ⟨w.heap.size,7,none⟩)) ?_
 simp only[put,sA,sB,sC]
 have c7:w0.cell? ⟨w.heap.size,7,none⟩=some (.slice (some ⟨ba,oa,none⟩) c k):=cellX (U HVN).1 7
 refine list_to (d:=52) (v:=.slice (some ⟨ba,oa,none⟩) c k) rfl rfl (by go_simp) ?_
 simp only[put,sA,sB,sC]
 clear c7 c0
 refine list_to (d:=53) (v:=.pointer (some ⟨ba,oa,none⟩)) rfl rfl (by go_simp) ?_
 simp only[put,sA,sB,sC]
 refine wpList_load_mid rfl 29 (.tmp 53) rfl ba (oa) rfl N0 _ (fun jj v hj=>((U HB).cell (p:=⟨ba,oa+jj,none⟩) (World.block_lt_of_cell? w _ (U HRN jj v hj))).trans (U HRN jj v hj)) Tryz.underlying29 rfl (by rw [U HLN];exact sizeEx) ?_
 refine lt 55 (.slice ra rn rk) ?_
 refine lt 56 (.slice none 0 0) ?_
 refine lt 57 (.bool false) ?_
 refine list_call rfl (some 58) rfl 25 #[.agg N0.toArray,.slice ra rn rk,.slice none 0 0,.bool false] (by kernel_rfl) (U HXN w0 (U HB)) ?_
 rintro e q0 ⟨rfl,hb⟩
 refine ⟨_,rfl,?_⟩
 simp only[put,sA,sB,sC]
 have HB:=V (trX (U HB) hb)
 have HV:=V ((U HV).below hb)
 have HVN:=V ((U HVN).below hb)
 clear hb
 refine lt 50 (.tuple #[x.1.agg,.int .i64 x.2]) ?_
 refine lt 59 (.agg (gvC x.1).toArray) ?_
 refine lt 60 (.int .i64 x.2) ?_
 simp only[put,sA,sB,sC]
 refine list_new rfl 26 rfl (gvC nullG).toArray (zero_of_info zeroV).1 ?_
 simp only[put,sA,sB,sC]
 refine wpList_store_mid rfl 26 (.tmp 10) (.tmp 59) rfl q0.heap.size 0 (gvC x.1).toArray rfl rfl (VV.new q0 nullG).there sizeV (all_oneCell_toArray (gvC_one _)) ?_
 show wpList _ _ _ _ _ ((q0.alloc (.cells (gvC nullG).toArray 26)).setCells q0.heap.size 0 (gvC x.1))
 rw [setV_new q0 x.1]
 refine lt 11 (.int .i64 x.2) ?_
 simp only[put,sA,sB,sC]
 have HX:=V (VV.new q0 x.1)
 have hb:Below q0.heap.size q0 (q0.alloc (.cells (gvC x.1).toArray 26)):=alX (Below.refl _ _) _
 have HB:=V (trX (U HB) hb)
 have HV:=V ((U HV).below hb)
 have HVN:=V ((U HVN).below hb)
 obtain ⟨bHX,hb9⟩:∃ bHX,bHX=q0.heap.size:=⟨_,rfl⟩
 obtain ⟨w1,hw9⟩:∃ w1,w1=q0.alloc (.cells (gvC x.1).toArray 26):=⟨_,rfl⟩
 rw [← hw9] at HB HX HV HVN
 rw [← hw9]
 rw [← hb9] at HX
 rw [← hb9]
 clear hb hw9 hb9
 have cx:w1.cell? ⟨bHX,0,none⟩=some (.int .i64 x.1.kind):=(U HX).range 0 _ rfl
 by_cases hne:x.2 ≠ 0
 · have hd0:(x.2 != 0)=true:=by simpa using hne
   have HR:Hid (R=(nullG,x.2)):=by show R=_;rw [hR];exact if_pos (.inl hne)
   clear hR
   skip
   as_aux_lemma=>
    go_upto_region 11 with fail
    refine wp_region_list ?_
    refine lt 68 (.agg (gvC nullG).toArray) ?_
    refine lt 69 (.int .i64 x.2) ?_
    simp only[put,sA,sB,sC]
    refine wpList_store_mid rfl 26 (.tmp 8) (.tmp 68) rfl (w.heap.size+1) 0 (gvC nullG).toArray rfl rfl (U HV).there sizeV (all_oneCell_toArray (gvC_one _)) ?_
    show wpList _ _ _ _ _ (w1.setCells (w.heap.size+1) 0 (gvC nullG))
    refine lt 9 (.int .i64 x.2) ?_
    simp only[put,sA,sB,sC]
    go_wp2_with fail
    refine bodyPost_ret (((U HV).set nullG).result2 rfl _ rfl) rfl ?_
    rw [U HPP,U HR]
    exact ⟨rfl,below_setCells0 (U HB) (Nat.le_succ _) _⟩
 · have he:x.2=0:=Decidable.not_not.1 hne
   rw [he]
   by_cases hz:x.1.kind=0
   · have hz0:(x.1.kind == 0)=true:=by simpa using hz
     have HR:Hid (R=(nullG,0)):=by show R=_;rw [hR,if_pos (.inr hz),he]
     clear hR
     skip
     as_aux_lemma=>
      go_upto_region 11 with fail
      refine wp_region_list ?_
      refine lt 68 (.agg (gvC nullG).toArray) ?_
      refine lt 69 (.int .i64 0) ?_
      simp only[put,sA,sB,sC]
      refine wpList_store_mid rfl 26 (.tmp 8) (.tmp 68) rfl (w.heap.size+1) 0 (gvC nullG).toArray rfl rfl (U HV).there sizeV (all_oneCell_toArray (gvC_one _)) ?_
      show wpList _ _ _ _ _ (w1.setCells (w.heap.size+1) 0 (gvC nullG))
      refine lt 9 (.int .i64 0) ?_
      simp only[put,sA,sB,sC]
      go_wp2_with fail
      refine bodyPost_ret (((U HV).set nullG).result2 rfl _ rfl) rfl ?_
      rw [U HPP,U HR]
      exact ⟨rfl,below_setCells0 (U HB) (Nat.le_succ _) _⟩
   · have hz0:(x.1.kind == 0)=false:=beq_eq_false_iff_ne.2 hz
     rw [if_neg (fun h=>h.elim hne hz)] at hR
     have HG0:Hid (R=rAm x.1 0 (L.drop (1 - 1))∧VV w1 (w.heap.size+1) nullG∧VrX w1 w.heap.size (ndC n (.slice (some ⟨ba,oa,none⟩) c k))∧VV w1 bHX x.1∧Below w.heap.size w w1):=⟨hR,U HV,U HVN,U HX,U HB⟩
     clear hR HV HVN HX HB HLN HRN HXN
     go_wp2_with fail
     clear cx hz0 hz hne he
     go_loopg [12,13,14,15,16,17] (c - 1) (fun g s12 s13 s14 s15 s16 s17 wr=>∃ (i:Nat) (f:Int),g=c - i∧s12=.int .i64 f∧s13=.int .i64 (i:Int)∧1 ≤ i∧i ≤ c∧(f=0 ∨ f=2)∧Hid (R=rAm x.1 f (L.drop (i - 1))∧VV wr (w.heap.size+1) nullG∧VrX wr w.heap.size (ndC n (.slice (some ⟨ba,oa,none⟩) c k))∧VV wr bHX x.1∧Below w.heap.size w wr))
     case atStart=>exact ⟨1,0,rfl,rfl,rfl,Nat.le_refl _,by omega,.inl rfl,HG0⟩
     case round=>
      obtain ⟨i,f,hgi,rfl,rfl,hi1,hic,hf,HG⟩:=hrel
      clear HG0
      have HRG:=V (U HG).1
      have HV:=V (U HG).2.1
      have HVN:=V (U HG).2.2.1
      have HX:=V (U HG).2.2.2.1
      have HB:=V (U HG).2.2.2.2
      clear HG
      have c7:wr.cell? ⟨w.heap.size,7,none⟩=some (.slice (some ⟨ba,oa,none⟩) c k):=cellX (U HVN).1 7
      have hi0:(0:Int) ≤ (i:Int):=by omega
      by_cases hlt:i < c
      · have hiI:(i:Int) < (c:Int):=by omega
        obtain ⟨y,hy⟩:∃ y,L[i - 1]?=some y:=⟨_,List.getElem?_eq_getElem (by omega)⟩
        have hdr:L.drop (i - 1)=y :: L.drop i:=by
         rw [List.getElem?_eq_some_iff] at hy
         obtain ⟨hy1,hy2⟩:=hy
         rw [List.drop_eq_getElem_cons hy1,hy2,show i - 1+1=i by omega]
        obtain ⟨N,hlN,hrN,hxN,hyo⟩:=U HEV (i - 1) y hy
        rw [show i - 1+1=i by omega] at hrN
        have HLN:=V hlN
        have HRN:=V hrN
        have HXN:=V hxN
        have hR:R=rAm x.1 f (y :: L.drop i):=by rw [U HRG,hdr]
        rw [rAm] at hR
        clear hy hdr HRG hlN hrN hxN
        obtain ⟨w5,hw5⟩:∃ w5,w5=wr:=⟨_,rfl⟩
        rw [← hw5] at HV HVN HX HB c7
        rw [← hw5]
        clear hw5
        go_upto_region 16 with fail
        clear c7
        refine wp_region_list ?_
        refine lt 78 (.pointer (some ⟨w.heap.size,7,none⟩)) ?_
        simp only[put,sA,sB,sC]
        have c7:w5.cell? ⟨w.heap.size,7,none⟩=some (.slice (some ⟨ba,oa,none⟩) c k):=cellX (U HVN).1 7
        refine list_to (d:=79) (v:=.slice (some ⟨ba,oa,none⟩) c k) rfl rfl (by go_simp) ?_
        simp only[put,sA,sB,sC]
        clear c7
        refine lt 80 (.int .i64 (i:Int)) ?_
        simp only[put,sA,sB,sC]
        refine list_to (d:=81) (v:=.pointer (some ⟨ba,oa+10 * i,none⟩)) rfl rfl (by go_simp) ?_
        simp only[put,sA,sB,sC]
        refine wpList_load_mid rfl 29 (.tmp 81) rfl ba (oa+10 * i) rfl N _ (fun jj v hj=>((U HB).cell (p:=⟨ba,oa+10 * i+jj,none⟩) (World.block_lt_of_cell? w _ (U HRN jj v hj))).trans (U HRN jj v hj)) Tryz.underlying29 rfl (by rw [U HLN];exact sizeEx) ?_
        refine lt 83 (.slice ra rn rk) ?_
        refine lt 84 (.slice none 0 0) ?_
        refine lt 85 (.bool false) ?_
        refine list_call rfl (some 86) rfl 25 #[.agg N.toArray,.slice ra rn rk,.slice none 0 0,.bool false] (by kernel_rfl) (U HXN w5 (U HB)) ?_
        rintro e q5 ⟨rfl,hb⟩
        refine ⟨_,rfl,?_⟩
        simp only[put,sA,sB,sC]
        have HB:=V (trX (U HB) hb)
        have HV:=V ((U HV).below hb)
        have HVN:=V ((U HVN).below hb)
        have HX:=V ((U HX).below hb)
        clear hb
        refine lt 77 (.tuple #[y.1.agg,.int .i64 y.2]) ?_
        refine lt 87 (.agg (gvC y.1).toArray) ?_
        refine lt 88 (.int .i64 y.2) ?_
        simp only[put,sA,sB,sC]
        refine list_new rfl 26 rfl (gvC nullG).toArray (zero_of_info zeroV).1 ?_
        simp only[put,sA,sB,sC]
        refine wpList_store_mid rfl 26 (.tmp 14) (.tmp 87) rfl q5.heap.size 0 (gvC y.1).toArray rfl rfl (VV.new q5 nullG).there sizeV (all_oneCell_toArray (gvC_one _)) ?_
        show wpList _ _ _ _ _ ((q5.alloc (.cells (gvC nullG).toArray 26)).setCells q5.heap.size 0 (gvC y.1))
        rw [setV_new q5 y.1]
        refine lt 15 (.int .i64 y.2) ?_
        simp only[put,sA,sB,sC]
        have HY:=V (VV.new q5 y.1)
        have hb:Below q5.heap.size q5 (q5.alloc (.cells (gvC y.1).toArray 26)):=alX (Below.refl _ _) _
        have HB:=V (trX (U HB) hb)
        have HV:=V ((U HV).below hb)
        have HVN:=V ((U HVN).below hb)
        have HX:=V ((U HX).below hb)
        obtain ⟨bHY,hb9⟩:∃ bHY,bHY=q5.heap.size:=⟨_,rfl⟩
        obtain ⟨w6,hw9⟩:∃ w6,w6=q5.alloc (.cells (gvC y.1).toArray 26):=⟨_,rfl⟩
        rw [← hw9] at HB HY HV HVN HX
        rw [← hw9]
        rw [← hb9] at HY
        rw [← hb9]
        clear hb hw9 hb9
        by_cases hyn:y.2 ≠ 0
        · have hd0:(y.2 != 0)=true:=by simpa using hyn
          have HR:Hid (R=(nullG,y.2)):=by show R=_;rw [hR];exact if_pos hyn
          clear hR
          skip
          as_aux_lemma=>
           go_upto_region 18 with fail
           refine wp_region_list ?_
           refine lt 91 (.agg (gvC nullG).toArray) ?_
           refine lt 92 (.int .i64 y.2) ?_
           simp only[put,sA,sB,sC]
           refine wpList_store_mid rfl 26 (.tmp 8) (.tmp 91) rfl (w.heap.size+1) 0 (gvC nullG).toArray rfl rfl (U HV).there sizeV (all_oneCell_toArray (gvC_one _)) ?_
           show wpList _ _ _ _ _ (w6.setCells (w.heap.size+1) 0 (gvC nullG))
           refine lt 9 (.int .i64 y.2) ?_
           simp only[put,sA,sB,sC]
           go_wp2_with fail
           refine bodyPost_ret (((U HV).set nullG).result2 rfl _ rfl) rfl ?_
           rw [U HPP,U HR]
           exact ⟨rfl,below_setCells0 (U HB) (Nat.le_succ _) _⟩
        · rw [if_neg hyn] at hR
          rw [Decidable.not_not.1 hyn]
          obtain ⟨tr,htr⟩:∃ tr,tr=testG 5 x.1 y.1:=⟨_,rfl⟩
          have htr2:0 ≤ tr.1∧tr.1 ≤ 2:=by rw [htr];exact testG_two _ _ _
          have HTE:Hid (Calls Tryz.prog 48 #[.int .i64 5,.agg (gvC x.1).toArray,.agg (gvC y.1).toArray] w6 fun e w'=>e=.returned (.tuple #[.int .i64 tr.1,.int .i64 tr.2])∧Below w6.heap.size w6 w'):=by rw [htr];exact refTest_any 5 x.1 y.1 w6 (U HXO) hyo
          rw [← htr] at hR
          clear htr
          go_upto_region 19 with fail
          refine wp_region_list ?_
          refine wpList_load_mid rfl 26 (.tmp 10) rfl bHX 0 rfl (gvC x.1) _ (U HX).range Tryz.underlying26 rfl sizeV ?_
          simp only[put,sA,sB,sC]
          refine wpList_load_mid rfl 26 (.tmp 14) rfl bHY 0 rfl (gvC y.1) _ (U HY).range Tryz.underlying26 rfl sizeV ?_
          refine list_call rfl (some 96) rfl 48 #[.int .i64 5,.agg (gvC x.1).toArray,.agg (gvC y.1).toArray] (by kernel_rfl) (U HTE) ?_
          rintro e w7 ⟨rfl,hb⟩
          refine ⟨_,rfl,?_⟩
          simp only[put,sA,sB,sC]
          have HB:=V (trX (U HB) hb)
          have HV:=V ((U HV).below hb)
          have HVN:=V ((U HVN).below hb)
          have HX:=V ((U HX).below hb)
          clear hb
          refine lt 93 (.tuple #[.int .i64 tr.1,.int .i64 tr.2]) ?_
          refine lt 97 (.int .i64 tr.1) ?_
          refine lt 98 (.int .i64 tr.2) ?_
          refine lt 16 (.int .i64 tr.1) ?_
          refine lt 17 (.int .i64 tr.2) ?_
          simp only[put,sA,sB,sC]
          clear HTE
          by_cases h1:tr.1=1
          · have HR:Hid (R=(ofTruthG 1,0)):=by show R=_;rw [hR];exact if_pos h1
            clear hR
            have ht1:(tr.1 == 1)=true:=by simpa using h1
            skip
            as_aux_lemma=>
             go_upto_region 21 with fail
             refine wp_region_list ?_
             refine list_call rfl (some 101) rfl 17 #[.int .i64 1] (by kernel_rfl) (r6of_any (n:=1) (by decide) w7) ?_
             rintro e w8 ⟨rfl,hb⟩
             refine ⟨_,rfl,?_⟩
             simp only[put,sA,sB,sC]
             have HB:=V (trX (U HB) hb)
             have HV:=V ((U HV).below hb)
             clear hb
             refine wpList_store_mid rfl 26 (.tmp 8) (.tmp 101) rfl (w.heap.size+1) 0 (gvC (ofTruthG 1)).toArray rfl rfl (U HV).there sizeV (all_oneCell_toArray (gvC_one _)) ?_
             show wpList _ _ _ _ _ (w8.setCells (w.heap.size+1) 0 (gvC (ofTruthG 1)))
             refine lt 9 (.int .i64 0) ?_
             simp only[put,sA,sB,sC]
             go_wp2_with fail
             refine bodyPost_ret (((U HV).set (ofTruthG 1)).result2 rfl _ rfl) rfl ?_
             rw [U HPP,U HR]
             exact ⟨rfl,below_setCells0 (U HB) (Nat.le_succ _) _⟩
          · rw [if_neg h1] at hR
            have ht1:(tr.1 == 1)=false:=beq_eq_false_iff_ne.2 h1
            as_aux_lemma=>
             obtain ⟨v,hv⟩:∃ v,v=orG f tr.1:=⟨_,rfl⟩
             have HOR:Hid (Calls Tryz.prog 49 #[.int .i64 f,.int .i64 tr.1] w7 fun e w'=>e=.returned (.int .i64 v)∧w'=w7):=by rw [hv];exact r6or_any (by omega) htr2 w7
             have hv2:v=0 ∨ v=2:=by
              have h3:tr.1=0 ∨ tr.1=2:=by omega
              rw [hv]
              rcases h3 with h3 | h3 <;> rcases hf with rfl | rfl <;> (rw [h3];first | exact .inl rfl | exact .inr rfl)
             have HRG:Hid (R=rAm x.1 v (L.drop (i+1 - 1))):=by show R=_;rw [hR,hv];rfl
             clear hv hR
             go_upto_region 22 with fail
             refine wp_region_list ?_
             refine lt 102 (.int .i64 f) ?_
             refine lt 103 (.int .i64 tr.1) ?_
             refine list_call rfl (some 104) rfl 49 #[.int .i64 f,.int .i64 tr.1] (by kernel_rfl) (U HOR) ?_
             rintro e w8 ⟨rfl,hw8⟩
             refine ⟨_,rfl,?_⟩
             simp only[put,sA,sB,sC]
             rw [hw8]
             clear hw8 w8
             refine lt 12 (.int .i64 v) ?_
             simp only[put,sA,sB,sC]
             go_wp2_with fail
             have HNX:Hid (R=rAm x.1 v (L.drop (i+1 - 1))∧VV w7 (w.heap.size+1) nullG∧VrX w7 w.heap.size (ndC n (.slice (some ⟨ba,oa,none⟩) c k))∧VV w7 bHX x.1∧Below w.heap.size w w7):=⟨U HRG,U HV,U HVN,U HX,U HB⟩
             go_roundg (c - (i+1))
             case rel=>exact ⟨i+1,v,rfl,rfl,by rw [show ((i+1:Nat):Int)=(i:Int)+1 from rfl],by omega,by omega,hv2,HNX⟩
             case measure=>omega
      · have hiI:¬ (i:Int) < (c:Int):=by omega
        have HR:Hid (R=(ofTruthG f,0)):=by
         show R=_
         rw [U HRG,List.drop_eq_nil_of_le (by omega)]
         rfl
        as_aux_lemma=>
         go_upto_region 23 with fail
         refine wp_region_list ?_
         refine lt 105 (.int .i64 f) ?_
         refine list_call rfl (some 106) rfl 17 #[.int .i64 f] (by kernel_rfl) (r6of_any (n:=f) (by omega) wr) ?_
         rintro e w8 ⟨rfl,hb⟩
         refine ⟨_,rfl,?_⟩
         simp only[put,sA,sB,sC]
         have HB:=V (trX (U HB) hb)
         have HV:=V ((U HV).below hb)
         clear hb
         refine wpList_store_mid rfl 26 (.tmp 8) (.tmp 106) rfl (w.heap.size+1) 0 (gvC (ofTruthG f)).toArray rfl rfl (U HV).there sizeV (all_oneCell_toArray (gvC_one _)) ?_
         show wpList _ _ _ _ _ (w8.setCells (w.heap.size+1) 0 (gvC (ofTruthG f)))
         refine lt 9 (.int .i64 0) ?_
         simp only[put,sA,sB,sC]
         go_wp2_with fail
         refine bodyPost_ret (((U HV).set (ofTruthG f)).result2 rfl _ rfl) rfl ?_
         rw [U HPP,U HR]
         exact ⟨rfl,below_setCells0 (U HB) (Nat.le_succ _) _⟩
end Go.Proofs.YtpnonhjmpnbmcaaGreatDoor
