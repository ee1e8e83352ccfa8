/- Package expr: among. -/
import Derived.Test.YtpnonhjmpnbmcaaGreatDoorXEv3
namespace Go.Proofs.YtpnonhjmpnbmcaaGreatDoor
open Go.RowKit Go.Lib
open Act (put)
set_option linter.unusedSimpArgs false
set_option linter.unusedVariables false
set_option maxHeartbeats 6400000
set_option maxRecDepth 20000
def amongR (x:GV × Int) (l:List (GV × Int)):GV × Int:=if x.2 ≠ 0 ∨ x.1.kind=0 then (nullG,x.2) else amongG x.1 0 l
theorem amongG_one {x:GV} {l:List (GV × Int)}:amongG x 1 l=(ofTruthG 1,0):=by
 cases l with
 | nil=>rfl
 | cons r l=>rw [amongG,if_pos rfl]
theorem among_of (w:World) (pg ba oa k:Nat) (x:GV × Int) (l:List (GV × Int)) (hl:l.length ≤ 1000) (hok:∀ r ∈ x :: l,r.1.ok) (hev:∀ i r,(x :: l)[i]?=some r→EvAt w pg ba (oa+10 * i) r):Calls Tryz.prog 65 #[.pointer (some ⟨pg,0,none⟩),.slice (some ⟨ba,oa,none⟩) (l.length+1) k] w (GeP w (amongR x l)):=by
 have HEVL:Hid (∀ i r,(x :: l)[i]?=some r→EvAt w pg ba (oa+10 * i) r):=hev
 have HEV:Hid (EvAt w pg ba oa x):=hev 0 x rfl
 have HXO:Hid (x.1.ok):=hok x (List.mem_cons_self ..)
 have HOKL:Hid (∀ r ∈ l,r.1.ok):=fun r h=>hok r (List.mem_cons_of_mem _ h)
 have hlI:(l.length:Int) ≤ 1000:=by omega
 obtain ⟨R,hR⟩:∃ R,R=amongR x l:=⟨_,rfl⟩
 obtain ⟨PP,hPP⟩:∃ PP,PP=GeP w R:=⟨_,rfl⟩
 have HPP:=V hPP
 rw [← hR,← hPP]
 have HRL:=V hR
 clear hPP hev hR hok
 go_enter Tryz.func65,Tryz.ntmps65
 go_upto_region 1 with fail
 obtain ⟨w0,hw0⟩:∃ w0,w0=w.alloc (.cells (gvC nullG).toArray 26):=⟨_,rfl⟩
 have hb0:Below w.heap.size w w0:=by rw [hw0];exact alX (Below.refl _ _) _
 have HV:=V (show VV w0 w.heap.size nullG by rw [hw0];exact VV.new w nullG)
 have HB:=V hb0
 rw [show (gvC nullG).toArray=#[.int .i64 0,.int .i64 0,.string ⟨#[]⟩] from rfl] at hw0
 rw [← hw0]
 clear hw0 hb0
 refine wp_region_list ?_
 refine lt 14 (.pointer (some ⟨pg,0,none⟩)) ?_
 refine lt 15 (.slice (some ⟨ba,oa,none⟩) (l.length+1) k) ?_
 simp only[put,sA,sB,sC]
 refine list_to (d:=16) (v:=.pointer (some ⟨ba,oa,none⟩)) rfl rfl (by go_simp) ?_
 refine list_call rfl (some 17) rfl 28 #[.pointer (some ⟨pg,0,none⟩),.pointer (some ⟨ba,oa,none⟩)] (by kernel_rfl) (U HEV w0 (U HB)) ?_
 rintro e q1 ⟨rfl,hb⟩
 refine ⟨_,rfl,?_⟩
 simp only[put,sA,sB,sC]
 have HB:=V (trX (U HB) hb)
 have HV:=V ((U HV).below hb)
 clear hb
 refine lt 13 (.tuple #[x.1.agg,errG x.2]) ?_
 refine lt 18 (.agg (gvC x.1).toArray) ?_
 refine lt 19 (errG x.2) ?_
 simp only[put,sA,sB,sC]
 refine list_new rfl 26 rfl (gvC nullG).toArray (zero_of_info zeroV).1 ?_
 simp only[put,sA,sB,sC]
 refine wpList_store_mid rfl 26 (.tmp 6) (.tmp 18) rfl q1.heap.size 0 (gvC x.1).toArray rfl rfl (VV.new q1 nullG).there sizeV (all_oneCell_toArray (gvC_one _)) ?_
 show wpList _ _ _ _ _ ((q1.alloc (.cells (gvC nullG).toArray 26)).setCells q1.heap.size 0 (gvC x.1))
 rw [setV_new q1 x.1]
 refine lt 7 (errG x.2) ?_
 simp only[put,sA,sB,sC]
 have LHX:Hid (w.heap.size < q1.heap.size):=ltX (U HV)
 have HX:=V (VV.new q1 x.1)
 have hb:Below q1.heap.size q1 (q1.alloc (.cells (gvC x.1).toArray 26)):=alX (Below.refl _ _) _
 have HB:=V (trX (U HB) hb)
 have HV:=V ((U HV).below hb)
 obtain ⟨bHX,hb9⟩:∃ bHX,bHX=q1.heap.size:=⟨_,rfl⟩
 obtain ⟨w1,hw9⟩:∃ w1,w1=q1.alloc (.cells (gvC x.1).toArray 26):=⟨_,rfl⟩
 rw [← hw9] at HB HX HV
 rw [← hw9]
 rw [← hb9] at HX LHX
 rw [← hb9]
 clear hb hw9 hb9
 by_cases hc:x.2=0
 · have HXC:=V hc
   rw [hc]
   clear hc
   go_upto_region 2 with fail
   refine wp_region_list ?_
   refine lt 20 (errG 0) ?_
   refine lt 21 (.bool false) ?_
   refine lt 22 (.bool false) ?_
   simp only[put,sA,sB,sC]
   refine list_want (d:=23) (v:=.pointer (some ⟨bHX,0,none⟩)) rfl (by kernel_rfl) (by kernel_rfl) ?_
   simp only[put,sA,sB,sC]
   have k0:=cellX (U HX) 0
   simp only[gvC] at k0
   refine list_want (d:=24) (v:=.int .i64 x.1.kind) rfl (by kernel_rfl) (by go_simp) ?_
   simp only[put,sA,sB,sC]
   refine list_want (d:=25) (v:=.bool (x.1.kind == 0)) rfl (by kernel_rfl) (by go_simp) ?_
   simp only[put,sA,sB,sC]
   clear k0
   by_cases hk:x.1.kind=0
   · have hkb:(x.1.kind == 0)=true:=by rw [hk];rfl
     rw [hkb]
     refine lt 26 (.bool true) ?_
     simp only[put,sA,sB,sC]
     have HR:Hid (R=(nullG,0)):=by show R=_;rw [U HRL];unfold amongR;rw [if_pos (.inr hk),U HXC]
     clear hk hkb
     go_upto_region 3 with fail
     refine wp_region_list ?_
     refine lt 27 (.agg (gvC nullG).toArray) ?_
     refine lt 28 (errG 0) ?_
     simp only[put,sA,sB,sC]
     refine wpList_store_mid rfl 26 (.tmp 4) (.tmp 27) rfl w.heap.size 0 (gvC nullG).toArray rfl rfl (U HV).there sizeV (all_oneCell_toArray (gvC_one _)) ?_
     show wpList _ _ _ _ _ (w1.setCells w.heap.size 0 (gvC nullG))
     refine lt 5 (errG 0) ?_
     simp only[put,sA,sB,sC]
     go_wp2_with fail
     refine bodyPost_ret (((U HV).set nullG).result2 rfl _ rfl) rfl ?_
     rw [U HPP,U HR]
     exact ⟨rfl,below_setCells0 (U HB) (Nat.le_refl _) _⟩
   · have hkb:(x.1.kind == 0)=false:=beq_eq_false_iff_ne.2 hk
     rw [hkb]
     refine lt 26 (.bool false) ?_
     simp only[put,sA,sB,sC]
     have HG0:Hid (R=amongG x.1 0 (l.drop (1 - 1))∧VV w1 w.heap.size nullG∧VV w1 bHX x.1∧Below w.heap.size w w1):=⟨by rw [U HRL];unfold amongR;rw [if_neg (fun h=>h.elim (fun q=>q (U HXC)) hk)];rfl,U HV,U HX,U HB⟩
     clear hk hkb
     go_wp2_with fail
     clear HV HX HB
     go_loopg [8,9,10,11,12] l.length (fun g s8 s9 s10 s11 s12 wr=>∃ (i:Nat) (found:Int),g=l.length+1 - i∧s8=.int .i64 found∧s9=.int .i64 (i:Int)∧1 ≤ i∧i ≤ l.length+1∧Hid (R=amongG x.1 found (l.drop (i - 1))∧VV wr w.heap.size nullG∧VV wr bHX x.1∧Below w.heap.size w wr))
     case atStart=>exact ⟨1,0,rfl,rfl,rfl,by omega,by omega,HG0⟩
     case round=>
      obtain ⟨i,found,rfl,rfl,rfl,hi1,hi,HG⟩:=hrel
      clear HG0
      obtain ⟨w5,hw5⟩:∃ w5,w5=wr:=⟨_,rfl⟩
      rw [← hw5] at HG
      rw [← hw5]
      clear hw5
      have HRG:=V (U HG).1
      have HV:=V (U HG).2.1
      have HX:=V (U HG).2.2.1
      have HB:=V (U HG).2.2.2
      clear HG
      have hi0:(0:Int) ≤ (i:Int):=by omega
      by_cases hlt:i < l.length+1
      · have hiI:(i:Int) < (l.length:Int)+1:=by omega
        by_cases hf1:found=1
        · subst hf1
          have HR:Hid (R=(ofTruthG 1,0)):=(U HRG).trans amongG_one
          obtain ⟨found,hfd⟩:∃ found:Int,found=1:=⟨1,rfl⟩
          clear HRG
          skip
          as_aux_lemma=>
           clear hfd
           go_upto_region 15 with fail
           refine wp_region_list ?_
           refine lt 67 (.int .i64 1) ?_
           refine list_call rfl (some 68) rfl 29 #[.int .i64 1] (by kernel_rfl) (ofTruth_any 1 w5) ?_
           rintro e w9 ⟨rfl,hb⟩
           refine ⟨_,rfl,?_⟩
           simp only[put,sA,sB,sC]
           have HB:=V (trX (U HB) hb)
           have HV:=V ((U HV).below hb)
           clear hb
           refine wpList_store_mid rfl 26 (.tmp 4) (.tmp 68) rfl w.heap.size 0 (gvC (ofTruthG 1)).toArray rfl rfl (U HV).there sizeV (all_oneCell_toArray (gvC_one _)) ?_
           show wpList _ _ _ _ _ (w9.setCells w.heap.size 0 (gvC (ofTruthG 1)))
           refine lt 5 (.nilIface) ?_
           simp only[put,sA,sB,sC]
           go_wp2_with fail
           refine bodyPost_ret (((U HV).set (ofTruthG 1)).result2 rfl _ rfl) rfl ?_
           rw [U HPP,U HR]
           exact ⟨rfl,below_setCells0 (U HB) (Nat.le_refl _) _⟩
        · have hfb:(found == 1)=false:=beq_eq_false_iff_ne.2 hf1
          skip
          as_aux_lemma=>
           obtain ⟨r,hr⟩:∃ r,l[i - 1]?=some r:=⟨_,List.getElem?_eq_getElem (by omega)⟩
           have hdr:l.drop (i - 1)=r :: l.drop i:=by
            rw [List.getElem?_eq_some_iff] at hr
            obtain ⟨hr1,hr2⟩:=hr
            rw [List.drop_eq_getElem_cons hr1,hr2,show i - 1+1=i by omega]
           have HER:Hid (EvAt w pg ba (oa+10 * i) r):=U HEVL i r (by rw [show i=(i - 1)+1 by omega,List.getElem?_cons_succ];exact hr)
           have HRO:Hid (r.1.ok):=U HOKL r (List.mem_of_getElem? hr)
           have hR:R=amongG x.1 found (r :: l.drop i):=by rw [U HRG,hdr]
           rw [amongG,if_neg hf1] at hR
           have HIH:Hid (i - 1+1=i):=by show i - 1+1=i;omega
           clear hr hdr HRG
           go_upto_region 8 with fail
           refine wp_region_list ?_
           refine lt 40 (.pointer (some ⟨pg,0,none⟩)) ?_
           refine lt 41 (.slice (some ⟨ba,oa,none⟩) (l.length+1) k) ?_
           refine lt 42 (.int .i64 (i:Int)) ?_
           simp only[put,sA,sB,sC]
           refine list_to (d:=43) (v:=.pointer (some ⟨ba,oa+10 * i,none⟩)) rfl rfl (by go_simp) ?_
           refine list_call rfl (some 44) rfl 28 #[.pointer (some ⟨pg,0,none⟩),.pointer (some ⟨ba,oa+10 * i,none⟩)] (by kernel_rfl) (U HER w5 (U HB)) ?_
           rintro e q6 ⟨rfl,hb⟩
           refine ⟨_,rfl,?_⟩
           simp only[put,sA,sB,sC]
           have HB:=V (trX (U HB) hb)
           have HV:=V ((U HV).below hb)
           have HX:=V ((U HX).below hb)
           clear hb
           refine lt 39 (.tuple #[r.1.agg,errG r.2]) ?_
           refine lt 45 (.agg (gvC r.1).toArray) ?_
           refine lt 46 (errG r.2) ?_
           simp only[put,sA,sB,sC]
           refine list_new rfl 26 rfl (gvC nullG).toArray (zero_of_info zeroV).1 ?_
           simp only[put,sA,sB,sC]
           refine wpList_store_mid rfl 26 (.tmp 10) (.tmp 45) rfl q6.heap.size 0 (gvC r.1).toArray rfl rfl (VV.new q6 nullG).there sizeV (all_oneCell_toArray (gvC_one _)) ?_
           show wpList _ _ _ _ _ ((q6.alloc (.cells (gvC nullG).toArray 26)).setCells q6.heap.size 0 (gvC r.1))
           rw [setV_new q6 r.1]
           refine lt 11 (errG r.2) ?_
           simp only[put,sA,sB,sC]
           have LHZ:Hid (w.heap.size < q6.heap.size):=ltX (U HV)
           have HZ:=V (VV.new q6 r.1)
           have hb:Below q6.heap.size q6 (q6.alloc (.cells (gvC r.1).toArray 26)):=alX (Below.refl _ _) _
           have HB:=V (trX (U HB) hb)
           have HV:=V ((U HV).below hb)
           have HX:=V ((U HX).below hb)
           obtain ⟨bHZ,hb9⟩:∃ bHZ,bHZ=q6.heap.size:=⟨_,rfl⟩
           obtain ⟨w6,hw9⟩:∃ w6,w6=q6.alloc (.cells (gvC r.1).toArray 26):=⟨_,rfl⟩
           rw [← hw9] at HB HZ HV HX
           rw [← hw9]
           rw [← hb9] at HZ LHZ
           rw [← hb9]
           clear hb hw9 hb9
           by_cases hc:r.2=0
           · rw [if_neg (fun h=>h hc)] at hR
             rw [hc]
             clear hc
             go_upto_region 9 with fail
             refine wp_region_list ?_
             refine lt 47 (errG 0) ?_
             refine lt 48 (.bool false) ?_
             simp only[put,sA,sB,sC]
             go_upto_region 11 with fail
             refine wp_region_list ?_
             refine wpList_load_mid rfl 26 (.tmp 6) rfl bHX 0 rfl (gvC x.1) _ (U HX).range Tryz.underlying26 rfl sizeV ?_
             simp only[put,sA,sB,sC]
             refine wpList_load_mid rfl 26 (.tmp 10) rfl bHZ 0 rfl (gvC r.1) _ (U HZ).range Tryz.underlying26 rfl sizeV ?_
             simp only[put,sA,sB,sC]
             obtain ⟨tr,htr⟩:∃ tr,tr=testG 5 x.1 r.1:=⟨_,rfl⟩
             have HTC:Hid (Calls Tryz.prog 117 #[.int .i64 5,.agg (gvC x.1).toArray,.agg (gvC r.1).toArray] w6 fun e w'=>e=.returned (.tuple #[.int .i64 tr.1,errG tr.2])∧Below w6.heap.size w6 w'):=by rw [htr];exact test_any 5 x.1 r.1 w6 (U HXO) (U HRO)
             rw [← htr] at hR
             clear htr
             refine list_call rfl (some 54) rfl 117 #[.int .i64 5,.agg (gvC x.1).toArray,.agg (gvC r.1).toArray] (by kernel_rfl) (U HTC) ?_
             rintro e w7 ⟨rfl,hb⟩
             refine ⟨_,rfl,?_⟩
             simp only[put,sA,sB,sC]
             have HX:=V ((U HX).below hb)
             have HB:=V (trX (U HB) hb)
             have HV:=V ((U HV).below hb)
             clear hb
             refine lt 51 (.tuple #[.int .i64 tr.1,errG tr.2]) ?_
             refine lt 55 (.int .i64 tr.1) ?_
             refine lt 56 (errG tr.2) ?_
             refine lt 12 (.int .i64 tr.1) ?_
             refine lt 11 (errG tr.2) ?_
             simp only[put,sA,sB,sC]
             by_cases hd:tr.2=0
             · rw [if_neg (fun h=>h hd)] at hR
               have HRN:=V hR
               rw [hd]
               clear hd hR
               go_upto_region 12 with fail
               refine wp_region_list ?_
               refine lt 57 (errG 0) ?_
               refine lt 58 (.bool false) ?_
               simp only[put,sA,sB,sC]
               go_upto_region 14 with fail
               refine wp_region_list ?_
               refine lt 64 (.int .i64 found) ?_
               refine lt 65 (.int .i64 tr.1) ?_
               refine list_call rfl (some 66) rfl 118 #[.int .i64 found,.int .i64 tr.1] (by kernel_rfl) (or_any found tr.1 w7) ?_
               rintro e w8 ⟨rfl,rfl⟩
               refine ⟨_,rfl,?_⟩
               refine lt 8 (.int .i64 (orG found tr.1)) ?_
               simp only[put,sA,sB,sC]
               go_wp2_with fail
               have HNX:Hid (R=amongG x.1 (orG found tr.1) (l.drop (i+1 - 1))∧VV w8 w.heap.size nullG∧VV w8 bHX x.1∧Below w.heap.size w w8):=⟨U HRN,U HV,U HX,U HB⟩
               go_roundg (l.length+1 - (i+1))
               case rel=>exact ⟨i+1,_,rfl,rfl,by rw [show ((i+1:Nat):Int)=(i:Int)+1 from rfl],by omega,by omega,HNX⟩
               case measure=>omega
             · have HR:=V (hR.trans (if_pos hd))
               have HERR:=V (errG_some hd)
               rw [errG_some hd]
               clear hR
               go_upto_region 12 with fail
               refine wp_region_list ?_
               refine lt 57 (.iface 95 (.int .i64 tr.2)) ?_
               refine lt 58 (.bool true) ?_
               simp only[put,sA,sB,sC]
               go_upto_region 13 with fail
               refine wp_region_list ?_
               refine lt 59 (.int .i64 tr.1) ?_
               refine lt 60 (.iface 95 (.int .i64 tr.2)) ?_
               simp only[put,sA,sB,sC]
               rw [← U HERR]
               refine list_call rfl (some 61) rfl 113 #[.int .i64 tr.1,errG tr.2] (by kernel_rfl) (tested_any tr.1 tr.2 w7) ?_
               rintro e w9 ⟨rfl,hb⟩
               refine ⟨_,rfl,?_⟩
               simp only[put,sA,sB,sC]
               have HB:=V (trX (U HB) hb)
               have HV:=V ((U HV).below hb)
               clear hb
               obtain ⟨Y,hY⟩:∃ Y,Y=testedG tr.1 tr.2:=⟨_,rfl⟩
               rw [← hY] at HR
               rw [← hY]
               clear hY
               refine lt 62 (.agg (gvC Y.1).toArray) ?_
               refine lt 63 (errG Y.2) ?_
               simp only[put,sA,sB,sC]
               refine wpList_store_mid rfl 26 (.tmp 4) (.tmp 62) rfl w.heap.size 0 (gvC Y.1).toArray rfl rfl (U HV).there sizeV (all_oneCell_toArray (gvC_one _)) ?_
               show wpList _ _ _ _ _ (w9.setCells w.heap.size 0 (gvC Y.1))
               refine lt 5 (errG Y.2) ?_
               simp only[put,sA,sB,sC]
               go_wp2_with fail
               refine bodyPost_ret (((U HV).set Y.1).result2 rfl _ rfl) rfl ?_
               rw [U HPP,U HR]
               exact ⟨rfl,below_setCells0 (U HB) (Nat.le_refl _) _⟩
           · have HR:=V (hR.trans (if_pos hc))
             have HERR:=V (errG_some hc)
             rw [errG_some hc]
             clear hR
             go_upto_region 9 with fail
             refine wp_region_list ?_
             refine lt 47 (.iface 95 (.int .i64 r.2)) ?_
             refine lt 48 (.bool true) ?_
             simp only[put,sA,sB,sC]
             go_upto_region 10 with fail
             refine wp_region_list ?_
             refine lt 49 (.agg (gvC nullG).toArray) ?_
             refine lt 50 (.iface 95 (.int .i64 r.2)) ?_
             simp only[put,sA,sB,sC]
             refine wpList_store_mid rfl 26 (.tmp 4) (.tmp 49) rfl w.heap.size 0 (gvC nullG).toArray rfl rfl (U HV).there sizeV (all_oneCell_toArray (gvC_one _)) ?_
             show wpList _ _ _ _ _ (w6.setCells w.heap.size 0 (gvC nullG))
             refine lt 5 (.iface 95 (.int .i64 r.2)) ?_
             simp only[put,sA,sB,sC]
             go_wp2_with fail
             refine bodyPost_ret (((U HV).set nullG).result2 rfl _ rfl) rfl ?_
             rw [U HPP,U HR]
             exact ⟨by (rw [show errG ((nullG,r.2):GV × Int).2=_ from U HERR]) <;> rfl,below_setCells0 (U HB) (Nat.le_refl _) _⟩
      · have hiI:¬ (i:Int) < (l.length:Int)+1:=by omega
        have HR:Hid (R=(ofTruthG found,0)):=by show R=_;rw [U HRG,List.drop_eq_nil_of_le (by omega)];rfl
        clear HRG
        skip
        as_aux_lemma=>
         go_upto_region 15 with fail
         refine wp_region_list ?_
         refine lt 67 (.int .i64 found) ?_
         refine list_call rfl (some 68) rfl 29 #[.int .i64 found] (by kernel_rfl) (ofTruth_any found w5) ?_
         rintro e w9 ⟨rfl,hb⟩
         refine ⟨_,rfl,?_⟩
         simp only[put,sA,sB,sC]
         have HB:=V (trX (U HB) hb)
         have HV:=V ((U HV).below hb)
         clear hb
         refine wpList_store_mid rfl 26 (.tmp 4) (.tmp 68) rfl w.heap.size 0 (gvC (ofTruthG found)).toArray rfl rfl (U HV).there sizeV (all_oneCell_toArray (gvC_one _)) ?_
         show wpList _ _ _ _ _ (w9.setCells w.heap.size 0 (gvC (ofTruthG found)))
         refine lt 5 (.nilIface) ?_
         simp only[put,sA,sB,sC]
         go_wp2_with fail
         refine bodyPost_ret (((U HV).set (ofTruthG found)).result2 rfl _ rfl) rfl ?_
         rw [U HPP,U HR]
         exact ⟨rfl,below_setCells0 (U HB) (Nat.le_refl _) _⟩
 · have HR:Hid (R=(nullG,x.2)):=by show R=_;rw [U HRL];unfold amongR;rw [if_pos (.inl hc)]
   have HERR:=V (errG_some hc)
   rw [errG_some hc]
   go_upto_region 2 with fail
   refine wp_region_list ?_
   refine lt 20 (.iface 95 (.int .i64 x.2)) ?_
   refine lt 21 (.bool true) ?_
   refine lt 22 (.bool true) ?_
   simp only[put,sA,sB,sC]
   refine list_skip (d:=23) rfl (by kernel_rfl) ?_
   simp only[put,sA,sB,sC]
   refine list_skip (d:=24) rfl (by kernel_rfl) ?_
   simp only[put,sA,sB,sC]
   refine list_skip (d:=25) rfl (by kernel_rfl) ?_
   refine lt 26 (.bool true) ?_
   simp only[put,sA,sB,sC]
   go_upto_region 3 with fail
   refine wp_region_list ?_
   refine lt 27 (.agg (gvC nullG).toArray) ?_
   refine lt 28 (.iface 95 (.int .i64 x.2)) ?_
   simp only[put,sA,sB,sC]
   refine wpList_store_mid rfl 26 (.tmp 4) (.tmp 27) rfl w.heap.size 0 (gvC nullG).toArray rfl rfl (U HV).there sizeV (all_oneCell_toArray (gvC_one _)) ?_
   show wpList _ _ _ _ _ (w1.setCells w.heap.size 0 (gvC nullG))
   refine lt 5 (.iface 95 (.int .i64 x.2)) ?_
   simp only[put,sA,sB,sC]
   go_wp2_with fail
   refine bodyPost_ret (((U HV).set nullG).result2 rfl _ rfl) rfl ?_
   rw [U HPP,U HR]
   exact ⟨by (rw [show errG ((nullG,x.2):GV × Int).2=_ from U HERR]) <;> rfl,below_setCells0 (U HB) (Nat.le_refl _) _⟩
end Go.Proofs.YtpnonhjmpnbmcaaGreatDoor
