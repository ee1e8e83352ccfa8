/- The document's eval: CASE. -/
import Derived.Test.YtpnonhjmpnbmcaaGreatDoorXRv4
namespace Go.Proofs.YtpnonhjmpnbmcaaGreatDoor
open Go.RowKit Go.Lib
open Act (put)
set_option linter.unusedSimpArgs false
set_option linter.unusedVariables false
set_option maxHeartbeats 6400000
set_option maxRecDepth 20000
theorem reval_k6 (w:World) (n:Nd) (M:List Value) (ba oa c k:Nat) (hM:M=ndC n (.slice (some ⟨ba,oa,none⟩) c k)) (ra:Option Addr) (rn rk:Nat) (R:GV × Int) (hk:n.kind=6) (L:List (GV × Int)) (hcL:L.length=c) (hc2:2 ≤ c) (hck:c ≤ 1000) (hev:∀ j y,L[j]?=some y→∃ N:List Value,N.length=10∧w.rangeAt ba (oa+10 * j) N∧RvA w N ra rn rk y∧y.1.ok) (hR:R=rCh L):Calls Tryz.prog 25 #[.agg M.toArray,.slice ra rn rk,.slice none 0 0,.bool false] w (RvP w R):=by
 have hlM:M.length=10:=by rw [hM];rfl
 obtain ⟨w1,hw1⟩:∃ w1,w1=w.alloc (.cells M.toArray 29):=⟨_,rfl⟩
 have HW1:=V hw1
 have hv1:VrX w1 w.heap.size M:=by rw [hw1];exact VrX.new w hlM
 have hb1:Below w.heap.size w w1:=by rw [hw1];exact alX (Below.refl _ _) _
 have HZ1:Hid (w1.heap.size=w.heap.size+1):=by show w1.heap.size=w.heap.size+1;rw [hw1];simp
 have HVA:=V hv1
 have HB1:=V hb1
 obtain ⟨PP,hPP⟩:∃ PP,PP=RvP w R:=⟨_,rfl⟩
 have HPP:=V hPP
 rw [← hPP]
 clear hPP hv1 hb1 hw1
 have HM:=V hM
 clear hM
 go_enter Tryz.func25,Tryz.ntmps25
 go_upto_region 1 with fail
 rw [← U HW1]
 obtain ⟨w0,hw0⟩:∃ w0,w0=w1.alloc (.cells (gvC nullG).toArray 26):=⟨_,rfl⟩
 have hb0:Below w1.heap.size w1 w0:=by rw [hw0];exact alX (Below.refl _ _) _
 have HV:=V (show VV w0 (w.heap.size+1) nullG by rw [← U HZ1,hw0];exact VV.new w1 nullG)
 have HB:=V (trX (U HB1) hb0)
 have HVA:=V ((U HVA).below hb0)
 rw [show (gvC nullG).toArray=#[.int .i64 0,.int .i64 0,.string ⟨#[]⟩] from rfl] at hw0
 rw [← hw0]
 clear hw0 hb0 HB1 HZ1 HW1
 have HVN:Hid (VrX w0 w.heap.size (ndC n (.slice (some ⟨ba,oa,none⟩) c k))):=by
  have h:=U HVA
  rwa [U HM] at h
 have c0:w0.cell? ⟨w.heap.size,0,none⟩=some (.int .i64 n.kind):=cellX (U HVN).1 0
 rw [hk] at c0
 have HC1:Hid (w0.cell? ⟨w.heap.size,1,none⟩=some (.int .i64 n.op)):=cellX (U HVN).1 1
 have HC7:Hid (w0.cell? ⟨w.heap.size,7,none⟩=some (.slice (some ⟨ba,oa,none⟩) c k)):=cellX (U HVN).1 7
 have HC8:Hid (w0.cell? ⟨w.heap.size,8,none⟩=some (.int .i64 n.at')):=cellX (U HVN).1 8
 clear HC1 HC7 HC8
 have HEV:=V hev
 have hcI:(c:Int) ≤ 1000:=by omega
 have HG0:Hid (R=rCh (L.drop 0)∧VV w0 (w.heap.size+1) nullG∧VrX w0 w.heap.size (ndC n (.slice (some ⟨ba,oa,none⟩) c k))∧Below w.heap.size w w0):=⟨hR,U HV,U HVN,U HB⟩
 clear hev hR HV HVN HB HVA
 go_wp2_with fail
 clear c0
 go_loopg [18,19,20] c (fun g s18 s19 s20 wr=>∃ i:Nat,g=c - i∧s18=.int .i64 (i:Int)∧i ≤ c∧i % 2=0∧Hid (R=rCh (L.drop i)∧VV wr (w.heap.size+1) nullG∧VrX wr w.heap.size (ndC n (.slice (some ⟨ba,oa,none⟩) c k))∧Below w.heap.size w wr))
 case atStart=>exact ⟨0,rfl,rfl,Nat.zero_le _,rfl,HG0⟩
 case round=>
  obtain ⟨i,hgi,rfl,hic,hev2,HG⟩:=hrel
  clear HG0
  have HRG:=V (U HG).1
  have HV:=V (U HG).2.1
  have HVN:=V (U HG).2.2.1
  have HB:=V (U HG).2.2.2
  clear HG
  have c7:wr.cell? ⟨w.heap.size,7,none⟩=some (.slice (some ⟨ba,oa,none⟩) c k):=cellX (U HVN).1 7
  have hi0:(0:Int) ≤ (i:Int):=by omega
  by_cases hlt:i+1 < c
  · have hiI:(i:Int)+1 < (c:Int):=by omega
    obtain ⟨y,hy⟩:∃ y,L[i]?=some y:=⟨_,List.getElem?_eq_getElem (by omega)⟩
    obtain ⟨v,hv⟩:∃ v,L[i+1]?=some v:=⟨_,List.getElem?_eq_getElem (by omega)⟩
    have hdr:L.drop i=y :: v :: L.drop (i+2):=by
     rw [List.getElem?_eq_some_iff] at hy hv
     obtain ⟨hy1,hy2⟩:=hy
     obtain ⟨hv1,hv2⟩:=hv
     rw [List.drop_eq_getElem_cons hy1,hy2,List.drop_eq_getElem_cons hv1,hv2]
    obtain ⟨N,hlN,hrN,hxN,hyo⟩:=U HEV i y hy
    obtain ⟨NV,hlV,hrV,hxV,hvo⟩:=U HEV (i+1) v hv
    have HLN:=V hlN
    have HRN:=V hrN
    have HXN:=V hxN
    have HLV:=V hlV
    have HRV:=V hrV
    have HXV:=V hxV
    have hR:R=rCh (y :: v :: L.drop (i+2)):=by rw [U HRG,hdr]
    rw [rCh] at hR
    have hilI:(i:Int) < (c:Int):=by omega
    clear hy hv hdr HRG hlN hrN hxN hlV hrV hxV
    obtain ⟨w5,hw5⟩:∃ w5,w5=wr:=⟨_,rfl⟩
    rw [← hw5] at HV HVN HB c7
    rw [← hw5]
    clear hw5
    go_upto_region 28 with fail
    clear c7
    refine wp_region_list ?_
    refine lt 118 (.pointer (some ⟨w.heap.size,7,none⟩)) ?_
    simp only[put,sA,sB,sC]
    have c7:w5.cell? ⟨w.heap.size,7,none⟩=some (.slice (some ⟨ba,oa,none⟩) c k):=cellX (U HVN).1 7
    refine list_to (d:=119) (v:=.slice (some ⟨ba,oa,none⟩) c k) rfl rfl (by go_simp) ?_
    simp only[put,sA,sB,sC]
    clear c7
    refine lt 120 (.int .i64 (i:Int)) ?_
    simp only[put,sA,sB,sC]
    refine list_to (d:=121) (v:=.pointer (some ⟨ba,oa+10 * i,none⟩)) rfl rfl (by go_simp) ?_
    simp only[put,sA,sB,sC]
    refine wpList_load_mid rfl 29 (.tmp 121) rfl ba (oa+10 * i) rfl N _ (fun jj v hj=>((U HB).cell (p:=⟨ba,oa+10 * i+jj,none⟩) (World.block_lt_of_cell? w _ (U HRN jj v hj))).trans (U HRN jj v hj)) Tryz.underlying29 rfl (by rw [U HLN];exact sizeEx) ?_
    refine lt 123 (.slice ra rn rk) ?_
    refine lt 124 (.slice none 0 0) ?_
    refine lt 125 (.bool false) ?_
    refine list_call rfl (some 126) rfl 25 #[.agg N.toArray,.slice ra rn rk,.slice none 0 0,.bool false] (by kernel_rfl) (U HXN w5 (U HB)) ?_
    rintro e q5 ⟨rfl,hb⟩
    refine ⟨_,rfl,?_⟩
    simp only[put,sA,sB,sC]
    have HB:=V (trX (U HB) hb)
    have HV:=V ((U HV).below hb)
    have HVN:=V ((U HVN).below hb)
    clear hb
    refine lt 117 (.tuple #[y.1.agg,.int .i64 y.2]) ?_
    refine lt 127 (.agg (gvC y.1).toArray) ?_
    refine lt 128 (.int .i64 y.2) ?_
    simp only[put,sA,sB,sC]
    refine list_new rfl 26 rfl (gvC nullG).toArray (zero_of_info zeroV).1 ?_
    simp only[put,sA,sB,sC]
    refine wpList_store_mid rfl 26 (.tmp 19) (.tmp 127) rfl q5.heap.size 0 (gvC y.1).toArray rfl rfl (VV.new q5 nullG).there sizeV (all_oneCell_toArray (gvC_one _)) ?_
    show wpList _ _ _ _ _ ((q5.alloc (.cells (gvC nullG).toArray 26)).setCells q5.heap.size 0 (gvC y.1))
    rw [setV_new q5 y.1]
    refine lt 20 (.int .i64 y.2) ?_
    simp only[put,sA,sB,sC]
    have HY:=V (VV.new q5 y.1)
    have hb:Below q5.heap.size q5 (q5.alloc (.cells (gvC y.1).toArray 26)):=alX (Below.refl _ _) _
    have HB:=V (trX (U HB) hb)
    have HV:=V ((U HV).below hb)
    have HVN:=V ((U HVN).below hb)
    obtain ⟨bHY,hb9⟩:∃ bHY,bHY=q5.heap.size:=⟨_,rfl⟩
    obtain ⟨w6,hw9⟩:∃ w6,w6=q5.alloc (.cells (gvC y.1).toArray 26):=⟨_,rfl⟩
    rw [← hw9] at HB HY HV HVN
    rw [← hw9]
    rw [← hb9] at HY
    rw [← hb9]
    clear hb hw9 hb9
    by_cases hyn:y.2 ≠ 0
    · have hd0:(y.2 != 0)=true:=by simpa using hyn
      have HR:Hid (R=(nullG,y.2)):=by show R=_;rw [hR];exact if_pos hyn
      clear hR
      skip
      as_aux_lemma=>
       go_upto_region 30 with fail
       refine wp_region_list ?_
       refine lt 131 (.agg (gvC nullG).toArray) ?_
       refine lt 132 (.int .i64 y.2) ?_
       simp only[put,sA,sB,sC]
       refine wpList_store_mid rfl 26 (.tmp 8) (.tmp 131) rfl (w.heap.size+1) 0 (gvC nullG).toArray rfl rfl (U HV).there sizeV (all_oneCell_toArray (gvC_one _)) ?_
       show wpList _ _ _ _ _ (w6.setCells (w.heap.size+1) 0 (gvC nullG))
       refine lt 9 (.int .i64 y.2) ?_
       simp only[put,sA,sB,sC]
       go_wp2_with fail
       refine bodyPost_ret (((U HV).set nullG).result2 rfl _ rfl) rfl ?_
       rw [U HPP,U HR]
       exact ⟨rfl,below_setCells0 (U HB) (Nat.le_succ _) _⟩
    · rw [if_neg hyn] at hR
      rw [Decidable.not_not.1 hyn]
      obtain ⟨t,ht⟩:∃ t,t=rtG y.1:=⟨_,rfl⟩
      have HTR:Hid (Calls Tryz.prog 30 #[.agg (gvC y.1).toArray] w6 fun e w'=>e=.returned (.int .i64 t)∧Below w6.heap.size w6 w'):=by rw [ht];exact rtruth_any y.1 w6
      rw [← ht] at hR
      clear ht
      go_upto_region 31 with fail
      refine wp_region_list ?_
      refine wpList_load_mid rfl 26 (.tmp 19) rfl bHY 0 rfl (gvC y.1) _ (U HY).range Tryz.underlying26 rfl sizeV ?_
      refine list_call rfl (some 134) rfl 30 #[.agg (gvC y.1).toArray] (by kernel_rfl) (U HTR) ?_
      rintro e w7 ⟨rfl,hb⟩
      refine ⟨_,rfl,?_⟩
      simp only[put,sA,sB,sC]
      have HB:=V (trX (U HB) hb)
      have HV:=V ((U HV).below hb)
      have HVN:=V ((U HVN).below hb)
      clear hb
      refine lt 135 (.bool (t == 1)) ?_
      simp only[put,sA,sB,sC]
      clear HTR
      by_cases h1:t=1
      · skip
        as_aux_lemma=>
         have HR:Hid (R=v):=by show R=_;rw [hR];exact if_pos h1
         clear hR
         have ht1:(t == 1)=true:=by simpa using h1
         obtain ⟨i1,hi1⟩:∃ i1,i1=i+1:=⟨_,rfl⟩
         rw [← hi1] at HRV
         have hi1c:(i:Int)+1=(i1:Int):=by omega
         have hi1I:(i1:Int) < (c:Int):=by omega
         have hi10:(0:Int) ≤ (i1:Int):=by omega
         have hwi:IntKind.i64.wrap (i1:Int)=(i1:Int):=by rw [IntKind.wrap_i64];omega
         clear hi1
         go_upto_region 32 with fail
         refine wp_region_list ?_
         refine lt 136 (.pointer (some ⟨w.heap.size,7,none⟩)) ?_
         simp only[put,sA,sB,sC]
         have c7:w7.cell? ⟨w.heap.size,7,none⟩=some (.slice (some ⟨ba,oa,none⟩) c k):=cellX (U HVN).1 7
         refine list_to (d:=137) (v:=.slice (some ⟨ba,oa,none⟩) c k) rfl rfl (by go_simp) ?_
         simp only[put,sA,sB,sC]
         clear c7
         refine lt 138 (.int .i64 (i:Int)) ?_
         simp only[put,sA,sB,sC]
         refine list_to (d:=139) (v:=.int .i64 (i1:Int)) rfl rfl (by go_simp) ?_
         simp only[put,sA,sB,sC]
         refine list_to (d:=140) (v:=.pointer (some ⟨ba,oa+10 * i1,none⟩)) rfl rfl (by go_simp) ?_
         simp only[put,sA,sB,sC]
         refine wpList_load_mid rfl 29 (.tmp 140) rfl ba (oa+10 * i1) rfl NV _ (fun jj v hj=>((U HB).cell (p:=⟨ba,oa+10 * i1+jj,none⟩) (World.block_lt_of_cell? w _ (U HRV jj v hj))).trans (U HRV jj v hj)) Tryz.underlying29 rfl (by rw [U HLV];exact sizeEx) ?_
         refine lt 142 (.slice ra rn rk) ?_
         refine lt 143 (.slice none 0 0) ?_
         refine lt 144 (.bool false) ?_
         refine list_call rfl (some 145) rfl 25 #[.agg NV.toArray,.slice ra rn rk,.slice none 0 0,.bool false] (by kernel_rfl) (U HXV w7 (U HB)) ?_
         rintro e w9 ⟨rfl,hb⟩
         refine ⟨_,rfl,?_⟩
         simp only[put,sA,sB,sC]
         have HB:=V (trX (U HB) hb)
         have HV:=V ((U HV).below hb)
         clear hb
         refine lt 146 (.agg (gvC v.1).toArray) ?_
         refine lt 147 (.int .i64 v.2) ?_
         simp only[put,sA,sB,sC]
         refine wpList_store_mid rfl 26 (.tmp 8) (.tmp 146) rfl (w.heap.size+1) 0 (gvC v.1).toArray rfl rfl (U HV).there sizeV (all_oneCell_toArray (gvC_one _)) ?_
         show wpList _ _ _ _ _ (w9.setCells (w.heap.size+1) 0 (gvC v.1))
         refine lt 9 (.int .i64 v.2) ?_
         simp only[put,sA,sB,sC]
         go_wp2_with fail
         refine bodyPost_ret (((U HV).set v.1).result2 rfl _ rfl) rfl ?_
         rw [U HPP,U HR]
         exact ⟨rfl,below_setCells0 (U HB) (Nat.le_succ _) _⟩
      · skip
        as_aux_lemma=>
         rw [if_neg h1] at hR
         have ht1:(t == 1)=false:=beq_eq_false_iff_ne.2 h1
         have HRG:Hid (R=rCh (L.drop (i+2))):=V hR
         clear hR
         go_wp2_with fail
         have HNX:Hid (R=rCh (L.drop (i+2))∧VV w7 (w.heap.size+1) nullG∧VrX w7 w.heap.size (ndC n (.slice (some ⟨ba,oa,none⟩) c k))∧Below w.heap.size w w7):=⟨U HRG,U HV,U HVN,U HB⟩
         go_roundg (c - (i+2))
         case rel=>exact ⟨i+2,rfl,by rw [show ((i+2:Nat):Int)=(i:Int)+2 from rfl],by omega,by omega,HNX⟩
         case measure=>omega
  · have hiI:¬ (i:Int)+1 < (c:Int):=by omega
    by_cases hie:i=c
    · skip
      as_aux_lemma=>
       have HR:Hid (R=(nullG,0)):=by
        show R=_
        rw [U HRG,List.drop_eq_nil_of_le (by omega)]
        rfl
       have hrem:Int.tmod (c:Int) 2=0:=by rw [Int.tmod_eq_emod_of_nonneg (by omega)];omega
       go_upto_region 35 with fail
       clear c7
       refine wp_region_list ?_
       refine lt 167 (.agg (gvC nullG).toArray) ?_
       simp only[put,sA,sB,sC]
       refine wpList_store_mid rfl 26 (.tmp 8) (.tmp 167) rfl (w.heap.size+1) 0 (gvC nullG).toArray rfl rfl (U HV).there sizeV (all_oneCell_toArray (gvC_one _)) ?_
       show wpList _ _ _ _ _ (wr.setCells (w.heap.size+1) 0 (gvC nullG))
       refine lt 9 (.int .i64 0) ?_
       simp only[put,sA,sB,sC]
       go_wp2_with fail
       refine bodyPost_ret (((U HV).set nullG).result2 rfl _ rfl) rfl ?_
       rw [U HPP,U HR]
       exact ⟨rfl,below_setCells0 (U HB) (Nat.le_succ _) _⟩
    · skip
      as_aux_lemma=>
       obtain ⟨v,hv⟩:∃ v,L[i]?=some v:=⟨_,List.getElem?_eq_getElem (by omega)⟩
       have hdr:L.drop i=[v]:=by
        rw [List.getElem?_eq_some_iff] at hv
        obtain ⟨hv1,hv2⟩:=hv
        rw [List.drop_eq_getElem_cons hv1,hv2,List.drop_eq_nil_of_le (by omega)]
       obtain ⟨NV,hlV,hrV,hxV,hvo⟩:=U HEV i v hv
       have HLV:=V hlV
       have HRV:=V hrV
       have HXV:=V hxV
       have HR:Hid (R=v):=by show R=_;rw [U HRG,hdr];rfl
       have hrem:Int.tmod (c:Int) 2=1:=by rw [Int.tmod_eq_emod_of_nonneg (by omega)];omega
       have hci:(c:Int) - 1=(i:Int):=by omega
       have hwi:IntKind.i64.wrap (i:Int)=(i:Int):=by rw [IntKind.wrap_i64];omega
       have hilI:(i:Int) < (c:Int):=by omega
       clear hv hdr HRG hlV hrV hxV
       go_upto_region 34 with fail
       clear c7
       refine wp_region_list ?_
       refine lt 153 (.pointer (some ⟨w.heap.size,7,none⟩)) ?_
       simp only[put,sA,sB,sC]
       have c7:wr.cell? ⟨w.heap.size,7,none⟩=some (.slice (some ⟨ba,oa,none⟩) c k):=cellX (U HVN).1 7
       refine list_to (d:=154) (v:=.slice (some ⟨ba,oa,none⟩) c k) rfl rfl (by go_simp) ?_
       refine lt 155 (.pointer (some ⟨w.heap.size,7,none⟩)) ?_
       simp only[put,sA,sB,sC]
       refine list_to (d:=156) (v:=.slice (some ⟨ba,oa,none⟩) c k) rfl rfl (by go_simp) ?_
       simp only[put,sA,sB,sC]
       clear c7
       refine lt 157 (.int .i64 (c:Int)) ?_
       simp only[put,sA,sB,sC]
       refine list_to (d:=158) (v:=.int .i64 (i:Int)) rfl rfl (by go_simp) ?_
       simp only[put,sA,sB,sC]
       refine list_to (d:=159) (v:=.pointer (some ⟨ba,oa+10 * i,none⟩)) rfl rfl (by go_simp) ?_
       simp only[put,sA,sB,sC]
       refine wpList_load_mid rfl 29 (.tmp 159) rfl ba (oa+10 * i) rfl NV _ (fun jj v hj=>((U HB).cell (p:=⟨ba,oa+10 * i+jj,none⟩) (World.block_lt_of_cell? w _ (U HRV jj v hj))).trans (U HRV jj v hj)) Tryz.underlying29 rfl (by rw [U HLV];exact sizeEx) ?_
       refine lt 161 (.slice ra rn rk) ?_
       refine lt 162 (.slice none 0 0) ?_
       refine lt 163 (.bool false) ?_
       refine list_call rfl (some 164) rfl 25 #[.agg NV.toArray,.slice ra rn rk,.slice none 0 0,.bool false] (by kernel_rfl) (U HXV wr (U HB)) ?_
       rintro e w9 ⟨rfl,hb⟩
       refine ⟨_,rfl,?_⟩
       simp only[put,sA,sB,sC]
       have HB:=V (trX (U HB) hb)
       have HV:=V ((U HV).below hb)
       clear hb
       refine lt 165 (.agg (gvC v.1).toArray) ?_
       refine lt 166 (.int .i64 v.2) ?_
       simp only[put,sA,sB,sC]
       refine wpList_store_mid rfl 26 (.tmp 8) (.tmp 165) rfl (w.heap.size+1) 0 (gvC v.1).toArray rfl rfl (U HV).there sizeV (all_oneCell_toArray (gvC_one _)) ?_
       show wpList _ _ _ _ _ (w9.setCells (w.heap.size+1) 0 (gvC v.1))
       refine lt 9 (.int .i64 v.2) ?_
       simp only[put,sA,sB,sC]
       go_wp2_with fail
       refine bodyPost_ret (((U HV).set v.1).result2 rfl _ rfl) rfl ?_
       rw [U HPP,U HR]
       exact ⟨rfl,below_setCells0 (U HB) (Nat.le_succ _) _⟩
end Go.Proofs.YtpnonhjmpnbmcaaGreatDoor
