/- The statement ExprTells. -/
import Derived.Test.YtpnonhjmpnbmcaaGreatDoorJXFitsXCopy
import Derived.Test.YtpnonhjmpnbmcaaGreatDoorJXTy14XEv2XOk
import Derived.Test.YtpnonhjmpnbmcaaGreatDoorXKn
import Derived.Test.YtpnonhjmpnbmcaaGreatDoorJVSum3VTest2VKnownKBytesVFewVLaidXBin
import Derived.Deep.Strs
namespace Go.Proofs.YtpnonhjmpnbmcaaGreatDoor
open Go.RowKit Go.Lib
open Act (put)
set_option linter.unusedSimpArgs false
set_option linter.unusedVariables false
set_option maxHeartbeats 6400000
set_option maxRecDepth 100000
def TeP (w:World) (e:Ending) (w':World):Prop:=e=.returned (.bool true)∧Below w.heap.size w w'
theorem may_size {g:GV} (h:g.may=true):g.text.size ≤ 40:=by
 have hk:=may_kind' h
 obtain ⟨k,n,t⟩:=g
 rcases hk with hk | hk | hk | hk <;> (have hk2:k=_:=hk;subst hk2)
 · rw [(may_0 h).2];exact Nat.zero_le _
 · rw [(may_1 h).2];exact Nat.zero_le _
 · rw [may_2 h];exact Nat.zero_le _
 · exact (may_3 h).2.1
theorem good_truths {r:GV × Int} {t:Int} (h:GoodV r t) (ht:t=0 ∨ t=1):r.1=nullG ∨ r.1=ofTruthG 0 ∨ r.1=ofTruthG 1:=by
 have hk:=(h.to ht).2.1
 have hm:=h.1
 obtain ⟨⟨k,n,x⟩,c⟩:=r
 rcases hk with hk | hk <;> (have hk2:k=_:=hk;subst hk2)
 · obtain ⟨e1,e2⟩:=may_0 hm
   subst e1 e2
   exact .inl rfl
 · obtain ⟨e1,e2⟩:=may_1 hm
   subst e2
   rcases e1 with rfl | rfl
   · exact .inr (.inl rfl)
   · exact .inr (.inr rfl)
theorem simE_kind {E:Ex} (h:simE E=true):E.1.kind ≠ 0:=by
 intro e
 unfold simE at h
 rw [e] at h
 exact absurd h (by simp [simK])
theorem exm_cell {w:World} {Q:Nat→Prop} {M:List Value} {E:Ex} (h:ExM w Q M E):M[0]?=some (.int .i64 E.1.kind)∧M[9]?=some (.int .i64 E.1.ty):=by
 obtain ⟨args,rfl,_⟩:=h
 exact ⟨rfl,rfl⟩
theorem tells_any (w:World) (hE:ET w) (l:List UInt8) (hl:l.length ≤ maxLen) (a:Option Addr) (n k:Nat) (gs:List GV) (h:RVk w a n k gs):Calls Tryz.prog 3 #[sv l,.slice a n k] w (TeP w):=by
 have HKN:=V (xknown_any w hE)
 have HK:=V h
 have HET:Hid (∀ W,Below w.heap.size w W→ET W):=fun W hb=>hE.below hb hE.lt
 obtain ⟨PP,hPP⟩:∃ PP:Ending→World→Prop,PP=TeP w:=⟨_,rfl⟩
 have HPP:=V hPP
 rw [← hPP]
 clear h hPP
 go_enter Tryz.func3,Tryz.ntmps3
 by_cases h8:800 < l.length
 · have h8I:(800:Int) < (l.length:Int):=by omega
   as_aux_lemma=>
    go_upto_region 3 with (go_at_call 6;refine (U HKN).mono ?_;clear HKN;rintro e w1 ⟨rfl,hb1⟩)
    have HB:=V hb1
    refine wp_region_list ?_
    refine list_to (d:=17) (v:=sv l) rfl rfl (rfl) ?_
    simp only[put,sA,sB,sC]
    refine list_to (d:=18) (v:=.int .i64 (l.length:Int)) rfl rfl (by unfold sv;go_simp) ?_
    simp only[put,sA,sB,sC]
    refine list_to (d:=19) (v:=.bool true) rfl rfl (by go_simp) ?_
    refine lt 20 (.bool true) ?_
    simp only[put,sA,sB,sC]
    refine list_skip (d:=21) rfl (by kernel_rfl) ?_
    simp only[put,sA,sB,sC]
    refine list_skip (d:=22) rfl (by kernel_rfl) ?_
    simp only[put,sA,sB,sC]
    refine list_skip (d:=23) rfl (by kernel_rfl) ?_
    refine lt 24 (.bool true) ?_
    simp only[put,sA,sB,sC]
    go_upto_region 4 with fail
    go_wp2_with fail
    rw [U HPP]
    exact ⟨rfl,U HB⟩
 · have h8I:¬ (800:Int) < (l.length:Int):=by omega
   go_upto_region 3 with (go_at_call 6;refine (U HKN).mono ?_;clear HKN;rintro e w1 ⟨rfl,hb1⟩)
   have HB:=V hb1
   clear hb1
   refine wp_region_list ?_
   refine list_to (d:=17) (v:=sv l) rfl rfl (rfl) ?_
   simp only[put,sA,sB,sC]
   refine list_to (d:=18) (v:=.int .i64 (l.length:Int)) rfl rfl (by unfold sv;go_simp) ?_
   simp only[put,sA,sB,sC]
   refine list_to (d:=19) (v:=.bool false) rfl rfl (by go_simp) ?_
   refine lt 20 (.bool false) ?_
   simp only[put,sA,sB,sC]
   refine list_want (d:=21) (v:=.slice a n k) rfl (by kernel_rfl) (by kernel_rfl) ?_
   simp only[put,sA,sB,sC]
   refine list_want_call 22 rfl (by kernel_rfl) 7 #[.slice a n k] (by kernel_rfl) (fits_any w1 a n k gs ((U HK).below (U HB))) ?_
   rintro e w3 ⟨bb,rfl,hb,hty⟩
   refine ⟨_,rfl,?_⟩
   simp only[put,sA,sB,sC]
   have HB:=V (trX (U HB) hb)
   clear hb
   refine list_want (d:=23) (v:=.bool (!bb)) rfl (by kernel_rfl) (by kernel_rfl) ?_
   refine lt 24 (.bool (!bb)) ?_
   simp only[put,sA,sB,sC]
   cases bb with
   | false=>
    clear hty
    go_upto_region 4 with fail
    go_wp2_with fail
    rw [U HPP]
    exact ⟨rfl,U HB⟩
   | true=>
    have hrow:=hty rfl
    clear hty
    have h5:gs.length=5:=hrow.1
    obtain rfl:n=5:=(U HK).1.trans h5
    have HRW0:Hid (∀ W,Below w.heap.size w W→RwAt W a k gs):=fun W hb=>((U HK).below hb).row h5
    have hgok:∀ g ∈ gs,g.ok:=(U HK).2.2.2.1
    go_upto_region 5 with fail
    refine wp_region_list ?_
    refine list_to (d:=26) (v:=sv l) rfl rfl (rfl) ?_
    refine list_call rfl (some 27) rfl 8 #[sv l,.bool false] (by kernel_rfl) (typed14_any l w3 (by omega) (cond_ok l (by omega))) ?_
    rintro e q ⟨hb,hpost⟩
    cases hT:typL l with
    | error c=>
     rw [hT] at hpost
     have hp2:e=.returned (.tuple #[.agg zL.toArray,.bool false]):=hpost
     subst hp2
     refine ⟨_,rfl,?_⟩
     simp only[put,sA,sB,sC]
     have HB:=V (trX (U HB) hb)
     clear hb hpost
     have hzzL:zL.toArray.size=10:=rfl
     have hlzL:zL.length=10:=rfl
     have honezL:=all_oneCell_toArray (show ∀ u ∈ zL,u.oneCell'=true by decide)
     refine lt 25 (.tuple #[.agg zL.toArray,.bool false]) ?_
     refine lt 28 (.agg zL.toArray) ?_
     refine lt 29 (.bool false) ?_
     simp only[put,sA,sB,sC]
     refine list_new rfl 29 rfl zL.toArray (zero_of_info zeroEx).1 ?_
     simp only[put,sA,sB,sC]
     refine wpList_store_mid rfl 29 (.tmp 5) (.tmp 28) rfl q.heap.size 0 zL.toArray rfl rfl (by rw [hzzL];exact (VrX.new q (M:=zL) rfl).there) (by rw [hzzL];exact sizeEx) honezL ?_
     show wpList _ _ _ _ _ ((q.alloc (.cells zL.toArray 29)).setCells q.heap.size 0 zL)
     simp only[put,sA,sB,sC]
     have HE5:=V ((VrX.new q (M:=zL) rfl).set (M':=zL) hlzL)
     have hb:Below q.heap.size q ((q.alloc (.cells zL.toArray 29)).setCells q.heap.size 0 zL):=below_setCells (alX (Below.refl _ _) _) (Nat.le_refl _) 0 zL
     have HBq:=V hb
     have HB:=V (trX (U HB) hb)
     obtain ⟨b5,hb9⟩:∃ b5,b5=q.heap.size:=⟨_,rfl⟩
     obtain ⟨w2,hw9⟩:∃ w2,w2=(q.alloc (.cells zL.toArray 29)).setCells q.heap.size 0 zL:=⟨_,rfl⟩
     rw [← hw9] at HB HE5 HBq
     rw [← hw9]
     rw [← hb9] at HE5
     rw [← hb9]
     clear hb hw9 hb9
     refine lt 6 (.bool false) ?_
     simp only[put,sA,sB,sC]
     go_upto_region 7 with fail
     go_wp2_with fail
     rw [U HPP]
     exact ⟨rfl,U HB⟩
    | ok E=>
     rw [hT] at hpost
     obtain ⟨M,rfl,hxM⟩:=hpost
     refine ⟨_,rfl,?_⟩
     simp only[put,sA,sB,sC]
     have HB:=V (trX (U HB) hb)
     clear hb
     have hlM:=hxM.len
     have hzM:M.toArray.size=10:=by simpa using hlM
     have honeM:=all_oneCell_toArray hxM.one
     have hE1:isE (condL l)=true∧resE (condL l)=.ok E:=by
      have h:=hT
      unfold typL exprS at h
      split at h
      · exact ⟨by assumption,h⟩
      · cases h
     obtain ⟨hexT,hexO,hsim⟩:=res_ok hE1.2 hE1.1 (cond_ok l (by omega))
     obtain ⟨hrv,hgood⟩:=ex_good hrow hexT
     obtain ⟨r,hr⟩:∃ r,r=evE gs E:=⟨_,rfl⟩
     have hrok:r.1.ok:=by rw [hr];exact evE_ok hgok hexO
     refine lt 25 (.tuple #[.agg M.toArray,.bool true]) ?_
     refine lt 28 (.agg M.toArray) ?_
     refine lt 29 (.bool true) ?_
     simp only[put,sA,sB,sC]
     refine list_new rfl 29 rfl zL.toArray (zero_of_info zeroEx).1 ?_
     simp only[put,sA,sB,sC]
     refine wpList_store_mid rfl 29 (.tmp 5) (.tmp 28) rfl q.heap.size 0 M.toArray rfl rfl (by rw [hzM];exact (VrX.new q (M:=zL) rfl).there) (by rw [hzM];exact sizeEx) honeM ?_
     show wpList _ _ _ _ _ ((q.alloc (.cells zL.toArray 29)).setCells q.heap.size 0 M)
     simp only[put,sA,sB,sC]
     have HE5:=V ((VrX.new q (M:=zL) rfl).set (M':=M) hlM)
     have hb:Below q.heap.size q ((q.alloc (.cells zL.toArray 29)).setCells q.heap.size 0 M):=below_setCells (alX (Below.refl _ _) _) (Nat.le_refl _) 0 M
     have HBq:=V hb
     have HB:=V (trX (U HB) hb)
     obtain ⟨b5,hb9⟩:∃ b5,b5=q.heap.size:=⟨_,rfl⟩
     obtain ⟨w2,hw9⟩:∃ w2,w2=(q.alloc (.cells zL.toArray 29)).setCells q.heap.size 0 M:=⟨_,rfl⟩
     rw [← hw9] at HB HE5 HBq
     rw [← hw9]
     rw [← hb9] at HE5
     rw [← hb9]
     clear hb hw9 hb9
     refine lt 6 (.bool true) ?_
     simp only[put,sA,sB,sC]
     have HXM:Hid (ExM w2 (fun b=>b < w2.heap.size) M E):=(hxM.keep (Q':=fun b=>b < w2.heap.size) (fun b _ hl=>(U HBq).block b hl) (fun b hl _=>Nat.lt_of_lt_of_le hl (U HBq).size))
     have HRW:Hid (∀ W,Below w2.heap.size w2 W→RwAt W a k gs):=fun W hb=>U HRW0 W (trX (U HB) hb)
     have htx:r.1.text.size ≤ 281474976710656:=by
      rw [hr]
      exact Nat.le_trans (may_size hgood.1) (by decide)
     have HEVP:Hid (∀ W ad k5,Below w2.heap.size w2 W→RwAt W ad k5 gs→Calls Tryz.prog 9 #[.agg M.toArray,.slice ad 5 k5] W (GeP W r)):=fun W ad k5 hb hrd=>by
      rw [hr]
      exact evalp_any gs hgok W (fun b=>b < w2.heap.size) M E ad 5 k5 ⟨h5.symm,hrd⟩ ((U HXM).below hb) hexO hsim (by rw [← hr];exact htx)
     have HRR:=V hr
     have HRVQ:=V hrv
     have HGD:=V hgood
     have HSM:=V hsim
     clear hr hrv hgood hT hE1 htx hsim
     go_upto_region 8 with fail
     go_cut [7,8] from 32 to 38 (fun s7 s8 wx=>∃ b7,s7=.pointer (some ⟨b7,0,none⟩)∧s8=errG r.2∧Hid (VV wx b7 r.1∧VrX wx b5 M∧Below w2.heap.size w2 wx))
     case first=>
      as_aux_lemma=>
       refine wp_region_held_drew (S:=fun w'=>VrX w' b5 M) (by kernel_rfl) ((U HE5).below (Below.refl w2.heap.size w2).drew) (fun hHeld=>?_)
       have HBw:Hid (Below w2.heap.size w2 w2.drew):=(Below.refl w2.heap.size w2).drew
       have HE5:=V ((U HE5).below (Below.refl w2.heap.size w2).drew)
       refine hu 0 33 (.agg M.toArray) rfl (yieldsIf_load_mid (by rfl) 29 (.tmp 5) rfl b5 0 rfl M _ (fun w' hw=>hw.range) Tryz.underlying29 rfl (by rw [hlM];exact sizeEx)) hHeld ?_
       simp only[put,sA,sB,sC]
       refine ht 1 34 (.slice a 5 k) hHeld ?_
       simp only[put,sA,sB,sC]
       refine any_two (i:=2) (j:=7) (by kernel_rfl) rfl rfl (fun K hK=>?_) (fun K hK=>?_)
       · rw [if_pos (by rfl)]
         refine copy_op (some 35) rfl (.const (.slice none 0 0)) (.tmp 34) rfl rfl gs h5 a k rfl (U HRW w2.drew (U HBw)) ?_
         intro ad k5 w5 hrd hb
         have HRD:=V hrd
         have HBw:=V (trX (U HBw) hb)
         have HE5:=V ((U HE5).below hb)
         clear hrd hb
         refine hK.out _ _ (U HE5) (fun hHeld2=>?_)
         clear hK K hHeld
         have hHeld:=hHeld2
         clear hHeld2
         try simp only[put,sA,sB,sC]
         refine any_two (i:=3) (j:=7) (by kernel_rfl) rfl rfl (fun K hK=>?_) (fun K hK=>?_)
         · rw [if_pos (by rfl)]
           refine op_call (some 36) rfl 9 #[.agg M.toArray,.slice ad 5 k5] (by kernel_rfl) (U HEVP w5 ad k5 (U HBw) (U HRD)) ?_
           rintro e w6 ⟨rfl,hb⟩
           refine ⟨_,rfl,?_⟩
           have HBw:=V (trX (U HBw) hb)
           have HE5:=V ((U HE5).below hb)
           clear hb
           refine hK.out _ _ (U HE5) (fun hHeld2=>?_)
           clear hK K hHeld
           have hHeld:=hHeld2
           clear hHeld2
           try simp only[put,sA,sB,sC]
           refine ht 4 32 (.tuple #[r.1.agg,errG r.2]) hHeld ?_
           simp only[put,sA,sB,sC]
           refine ht 5 37 (.agg (gvC r.1).toArray) hHeld ?_
           simp only[put,sA,sB,sC]
           refine ht 6 38 (errG r.2) hHeld ?_
           simp only[put,sA,sB,sC]
           refine wpAnyH_ready (rs:=[7]) (by kernel_rfl) (by simp) ?_
           refine AllReadyH.cons (i:=7) (rs:=[]) (o:=?o1) ?ho1 ?hh1 AllReadyH.nil
           case ho1=>exact rfl
           intro K hK
           rw [if_pos (by kernel_rfl)]
           have HB7:Hid (w2.heap.size ≤ w6.heap.size):=(U HBw).size
           have HL5:Hid (b5 < w6.heap.size):=ltX (U HE5).1
           refine op_new (some 7) rfl 26 rfl (gvC nullG).toArray (zero_of_info zeroV).1 ?_
           have hb:Below w6.heap.size w6 (w6.alloc (.cells (gvC nullG).toArray 26)):=alX (Below.refl _ _) _
           have HV7:=V (VV.new w6 nullG)
           have HBw:=V (trX (U HBw) hb)
           have HE5:=V ((U HE5).below hb)
           obtain ⟨b7,hb7⟩:∃ b7,b7=w6.heap.size:=⟨_,rfl⟩
           obtain ⟨w7,hw9⟩:∃ w7,w7=w6.alloc (.cells (gvC nullG).toArray 26):=⟨_,rfl⟩
           rw [← hw9] at HBw HV7 HE5
           rw [← hw9]
           rw [← hb7] at HV7 HB7 HL5
           rw [← hb7]
           clear hb hb7 hw9
           refine hK.out _ _ (U HE5) (fun hHeld2=>?_)
           clear hK K hHeld
           have hHeld:=hHeld2
           clear hHeld2
           try simp only[put,sA,sB,sC]
           refine wpAnyH_ready (rs:=[8]) (by kernel_rfl) (by simp) ?_
           refine AllReadyH.cons (i:=8) (rs:=[]) (o:=?o2) ?ho2 ?hh2 AllReadyH.nil
           case ho2=>exact rfl
           intro K hK
           rw [if_pos (by kernel_rfl)]
           refine op_store rfl 26 (.tmp 7) (.tmp 37) rfl b7 0 (gvC r.1) rfl rfl (U HV7).there sizeV (all_oneCell_toArray (gvC_one _)) ?_
           show K _ (w7.setCells b7 0 (gvC r.1))
           have HV9:=V ((U HV7).set r.1)
           have HBz:=V (below_setCells (U HBw) (U HB7) 0 (gvC r.1))
           have HE9:=V ((U HE5).keep (w':=w7.setCells b7 0 (gvC r.1)) (setCells_heap b7 (gvC r.1) 0 w7 b5 (by have:=U HL5;omega)))
           refine hK.out _ _ (U HE9) (fun hHeld2=>?_)
           clear hK K hHeld
           have hHeld:=hHeld2
           clear hHeld2
           try simp only[put,sA,sB,sC]
           refine ht 9 8 (errG r.2) hHeld ?_
           simp only[put,sA,sB,sC]
           refine wpAnyH_done (by kernel_rfl) ?_ _
           go_wp2_with fail
           go_meet
           exact ⟨b7,rfl,rfl,V ⟨U HV9,U HE9,U HBz⟩⟩
         · rw [if_pos (by rfl)]
           have HB7:Hid (w2.heap.size ≤ w5.heap.size):=(U HBw).size
           have HL5:Hid (b5 < w5.heap.size):=ltX (U HE5).1
           refine op_new (some 7) rfl 26 rfl (gvC nullG).toArray (zero_of_info zeroV).1 ?_
           have hb:Below w5.heap.size w5 (w5.alloc (.cells (gvC nullG).toArray 26)):=alX (Below.refl _ _) _
           have HV7:=V (VV.new w5 nullG)
           have HBw:=V (trX (U HBw) hb)
           have HE5:=V ((U HE5).below hb)
           have HRD:=V ((U HRD).below hb)
           obtain ⟨b7,hb7⟩:∃ b7,b7=w5.heap.size:=⟨_,rfl⟩
           obtain ⟨w7,hw9⟩:∃ w7,w7=w5.alloc (.cells (gvC nullG).toArray 26):=⟨_,rfl⟩
           rw [← hw9] at HBw HV7 HE5 HRD
           rw [← hw9]
           rw [← hb7] at HV7 HB7 HL5
           rw [← hb7]
           clear hb hb7 hw9
           refine hK.out _ _ (U HE5) (fun hHeld2=>?_)
           clear hK K hHeld
           have hHeld:=hHeld2
           clear hHeld2
           try simp only[put,sA,sB,sC]
           refine wpAnyH_ready (rs:=[3]) (by kernel_rfl) (by simp) ?_
           refine AllReadyH.cons (i:=3) (rs:=[]) (o:=?o3) ?ho3 ?hh3 AllReadyH.nil
           case ho3=>exact rfl
           intro K hK
           rw [if_pos (by kernel_rfl)]
           refine op_call (some 36) rfl 9 #[.agg M.toArray,.slice ad 5 k5] (by kernel_rfl) (U HEVP w7 ad k5 (U HBw) (U HRD)) ?_
           rintro e w8 ⟨rfl,hb⟩
           refine ⟨_,rfl,?_⟩
           have HBw:=V (trX (U HBw) hb)
           have HE5:=V ((U HE5).below hb)
           have HV7:=V ((U HV7).below hb)
           clear hb
           refine hK.out _ _ (U HE5) (fun hHeld2=>?_)
           clear hK K hHeld
           have hHeld:=hHeld2
           clear hHeld2
           try simp only[put,sA,sB,sC]
           refine ht 4 32 (.tuple #[r.1.agg,errG r.2]) hHeld ?_
           simp only[put,sA,sB,sC]
           refine ht 5 37 (.agg (gvC r.1).toArray) hHeld ?_
           simp only[put,sA,sB,sC]
           refine ht 6 38 (errG r.2) hHeld ?_
           simp only[put,sA,sB,sC]
           refine wpAnyH_ready (rs:=[8]) (by kernel_rfl) (by simp) ?_
           refine AllReadyH.cons (i:=8) (rs:=[]) (o:=?o4) ?ho4 ?hh4 AllReadyH.nil
           case ho4=>exact rfl
           intro K hK
           rw [if_pos (by kernel_rfl)]
           refine op_store rfl 26 (.tmp 7) (.tmp 37) rfl b7 0 (gvC r.1) rfl rfl (U HV7).there sizeV (all_oneCell_toArray (gvC_one _)) ?_
           show K _ (w8.setCells b7 0 (gvC r.1))
           have HV9:=V ((U HV7).set r.1)
           have HBz:=V (below_setCells (U HBw) (U HB7) 0 (gvC r.1))
           have HE9:=V ((U HE5).keep (w':=w8.setCells b7 0 (gvC r.1)) (setCells_heap b7 (gvC r.1) 0 w8 b5 (by have:=U HL5;omega)))
           refine hK.out _ _ (U HE9) (fun hHeld2=>?_)
           clear hK K hHeld
           have hHeld:=hHeld2
           clear hHeld2
           try simp only[put,sA,sB,sC]
           refine ht 9 8 (errG r.2) hHeld ?_
           simp only[put,sA,sB,sC]
           refine wpAnyH_done (by kernel_rfl) ?_ _
           go_wp2_with fail
           go_meet
           exact ⟨b7,rfl,rfl,V ⟨U HV9,U HE9,U HBz⟩⟩
       · rw [if_pos (by rfl)]
         have HB7:Hid (w2.heap.size ≤ w2.drew.heap.size):=(U HBw).size
         have HL5:Hid (b5 < w2.drew.heap.size):=ltX (U HE5).1
         refine op_new (some 7) rfl 26 rfl (gvC nullG).toArray (zero_of_info zeroV).1 ?_
         have hb:Below w2.drew.heap.size w2.drew (w2.drew.alloc (.cells (gvC nullG).toArray 26)):=alX (Below.refl _ _) _
         have HV7:=V (VV.new w2.drew nullG)
         have HBw:=V (trX (U HBw) hb)
         have HE5:=V ((U HE5).below hb)
         obtain ⟨b7,hb7⟩:∃ b7,b7=w2.drew.heap.size:=⟨_,rfl⟩
         obtain ⟨w7,hw9⟩:∃ w7,w7=w2.drew.alloc (.cells (gvC nullG).toArray 26):=⟨_,rfl⟩
         rw [← hw9] at HBw HV7 HE5
         rw [← hw9]
         rw [← hb7] at HV7 HB7 HL5
         rw [← hb7]
         clear hb hb7 hw9
         refine hK.out _ _ (U HE5) (fun hHeld2=>?_)
         clear hK K hHeld
         have hHeld:=hHeld2
         clear hHeld2
         try simp only[put,sA,sB,sC]
         refine wpAnyH_ready (rs:=[2]) (by kernel_rfl) (by simp) ?_
         refine AllReadyH.cons (i:=2) (rs:=[]) (o:=?o5) ?ho5 ?hh5 AllReadyH.nil
         case ho5=>exact rfl
         intro K hK
         rw [if_pos (by kernel_rfl)]
         refine copy_op (some 35) rfl (.const (.slice none 0 0)) (.tmp 34) rfl rfl gs h5 a k rfl (U HRW w7 (U HBw)) ?_
         intro ad k5 w5 hrd hb
         have HRD:=V hrd
         have HBw:=V (trX (U HBw) hb)
         have HE5:=V ((U HE5).below hb)
         have HV7:=V ((U HV7).below hb)
         clear hrd hb
         refine hK.out _ _ (U HE5) (fun hHeld2=>?_)
         clear hK K hHeld
         have hHeld:=hHeld2
         clear hHeld2
         try simp only[put,sA,sB,sC]
         refine wpAnyH_ready (rs:=[3]) (by kernel_rfl) (by simp) ?_
         refine AllReadyH.cons (i:=3) (rs:=[]) (o:=?o6) ?ho6 ?hh6 AllReadyH.nil
         case ho6=>exact rfl
         intro K hK
         rw [if_pos (by kernel_rfl)]
         refine op_call (some 36) rfl 9 #[.agg M.toArray,.slice ad 5 k5] (by kernel_rfl) (U HEVP w5 ad k5 (U HBw) (U HRD)) ?_
         rintro e w8 ⟨rfl,hb⟩
         refine ⟨_,rfl,?_⟩
         have HBw:=V (trX (U HBw) hb)
         have HE5:=V ((U HE5).below hb)
         have HV7:=V ((U HV7).below hb)
         clear hb
         refine hK.out _ _ (U HE5) (fun hHeld2=>?_)
         clear hK K hHeld
         have hHeld:=hHeld2
         clear hHeld2
         try simp only[put,sA,sB,sC]
         refine ht 4 32 (.tuple #[r.1.agg,errG r.2]) hHeld ?_
         simp only[put,sA,sB,sC]
         refine ht 5 37 (.agg (gvC r.1).toArray) hHeld ?_
         simp only[put,sA,sB,sC]
         refine ht 6 38 (errG r.2) hHeld ?_
         simp only[put,sA,sB,sC]
         refine wpAnyH_ready (rs:=[8]) (by kernel_rfl) (by simp) ?_
         refine AllReadyH.cons (i:=8) (rs:=[]) (o:=?o7) ?ho7 ?hh7 AllReadyH.nil
         case ho7=>exact rfl
         intro K hK
         rw [if_pos (by kernel_rfl)]
         refine op_store rfl 26 (.tmp 7) (.tmp 37) rfl b7 0 (gvC r.1) rfl rfl (U HV7).there sizeV (all_oneCell_toArray (gvC_one _)) ?_
         show K _ (w8.setCells b7 0 (gvC r.1))
         have HV9:=V ((U HV7).set r.1)
         have HBz:=V (below_setCells (U HBw) (U HB7) 0 (gvC r.1))
         have HE9:=V ((U HE5).keep (w':=w8.setCells b7 0 (gvC r.1)) (setCells_heap b7 (gvC r.1) 0 w8 b5 (by have:=U HL5;omega)))
         refine hK.out _ _ (U HE9) (fun hHeld2=>?_)
         clear hK K hHeld
         have hHeld:=hHeld2
         clear hHeld2
         try simp only[put,sA,sB,sC]
         refine ht 9 8 (errG r.2) hHeld ?_
         simp only[put,sA,sB,sC]
         refine wpAnyH_done (by kernel_rfl) ?_ _
         go_wp2_with fail
         go_meet
         exact ⟨b7,rfl,rfl,V ⟨U HV9,U HE9,U HBz⟩⟩
     case rest=>
      obtain ⟨b7,rfl,rfl,HZ⟩:=hcut
      as_aux_lemma=>
       have HB:=V (trX (U HB) (U HZ).2.2)
       have HBw:=V (U HZ).2.2
       have HV7:=V (U HZ).1
       have HE5:=V (U HZ).2.1
       have HRVA:Hid (∀ W,Below w2.heap.size w2 W→RvA W M a 5 k r):=fun W hb=>by
        have h:=reval_all gs hrow hgok a k (szF E.2+1) W (fun b=>b < w2.heap.size) M E ((U HXM).below hb) hexT hexO (U HRW W hb) (Nat.lt_succ_self _)
        rw [h5,U HRVQ,← U HRR] at h
        exact h
       obtain ⟨ty,hty⟩:∃ ty,ty=E.1.ty:=⟨_,rfl⟩
       have HTY:=V hty
       clear hty
       have HRV:Hid (∀ W,Below w2.heap.size w2 W→Calls Tryz.prog 10 #[.agg M.toArray,.slice a 5 k] W (RvP W r)):=fun W hb=>rEval_of W M hlM a 5 k r (U HRVA W hb)
       clear HEVP HZ
       go_upto_region 9 with fail
       refine wp_region_list ?_
       refine wpList_load_mid rfl 29 (.tmp 5) rfl b5 0 rfl M _ (U HE5).range Tryz.underlying29 rfl (by rw [hlM];exact sizeEx) ?_
       refine lt 41 (.slice a 5 k) ?_
       refine list_call rfl (some 42) rfl 10 #[.agg M.toArray,.slice a 5 k] (by kernel_rfl) (U HRV wc (U HBw)) ?_
       rintro e q9 ⟨rfl,hb⟩
       refine ⟨_,rfl,?_⟩
       simp only[put,sA,sB,sC]
       have HB:=V (trX (U HB) hb)
       have HBw:=V (trX (U HBw) hb)
       have HE5:=V ((U HE5).below hb)
       have HV7:=V ((U HV7).below hb)
       clear hb
       refine lt 39 (.tuple #[r.1.agg,.int .i64 r.2]) ?_
       refine lt 43 (.agg (gvC r.1).toArray) ?_
       refine lt 44 (.int .i64 r.2) ?_
       simp only[put,sA,sB,sC]
       refine list_new rfl 26 rfl (gvC nullG).toArray (zero_of_info zeroV).1 ?_
       simp only[put,sA,sB,sC]
       refine wpList_store_mid rfl 26 (.tmp 9) (.tmp 43) rfl q9.heap.size 0 (gvC r.1).toArray rfl rfl (VV.new q9 nullG).there sizeV (all_oneCell_toArray (gvC_one _)) ?_
       show wpList _ _ _ _ _ ((q9.alloc (.cells (gvC nullG).toArray 26)).setCells q9.heap.size 0 (gvC r.1))
       rw [setV_new q9 r.1]
       refine lt 10 (.int .i64 r.2) ?_
       simp only[put,sA,sB,sC]
       have HV9:=V (VV.new q9 r.1)
       have hb:Below q9.heap.size q9 (q9.alloc (.cells (gvC r.1).toArray 26)):=alX (Below.refl _ _) _
       have HB:=V (trX (U HB) hb)
       have HBw:=V (trX (U HBw) hb)
       have HE5:=V ((U HE5).below hb)
       have HV7:=V ((U HV7).below hb)
       obtain ⟨b9,hb9⟩:∃ b9,b9=q9.heap.size:=⟨_,rfl⟩
       obtain ⟨w8,hw9⟩:∃ w8,w8=q9.alloc (.cells (gvC r.1).toArray 26):=⟨_,rfl⟩
       rw [← hw9] at HB HBw HE5 HV7 HV9
       rw [← hw9]
       rw [← hb9] at HV9
       rw [← hb9]
       clear hb hw9 hb9
       go_upto_region 10 with fail
       refine wp_region_list ?_
       refine wpList_load_mid rfl 26 (.tmp 7) rfl b7 0 rfl (gvC r.1) _ (U HV7).range Tryz.underlying26 rfl sizeV ?_
       simp only[put,sA,sB,sC]
       refine wpList_load_mid rfl 26 (.tmp 9) rfl b9 0 rfl (gvC r.1) _ (U HV9).range Tryz.underlying26 rfl sizeV ?_
       simp only[put,sA,sB,sC]
       refine list_to (d:=47) (v:=.bool false) rfl rfl (by first | (unfold gvC;go_simp;done) | (unfold gvC;kernel_rfl)) ?_
       refine lt 48 (.bool false) ?_
       simp only[put,sA,sB,sC]
       refine list_want (d:=49) (v:=errG r.2) rfl (by kernel_rfl) (by kernel_rfl) ?_
       simp only[put,sA,sB,sC]
       refine list_want_call 50 rfl (by kernel_rfl) 11 #[errG r.2] (by kernel_rfl) (class_g r.2 w8 (U HET w8 (U HB))) ?_
       rintro e w9 ⟨rfl,hb⟩
       refine ⟨_,rfl,?_⟩
       simp only[put,sA,sB,sC]
       have HB:=V (trX (U HB) hb)
       have HBw:=V (trX (U HBw) hb)
       have HE5:=V ((U HE5).below hb)
       clear hb
       refine list_want (d:=51) (v:=.int .i64 r.2) rfl (by kernel_rfl) (by kernel_rfl) ?_
       simp only[put,sA,sB,sC]
       refine list_want (d:=52) (v:=.bool false) rfl (by kernel_rfl) (by go_simp) ?_
       refine lt 53 (.bool false) ?_
       simp only[put,sA,sB,sC]
       have c9:w9.cell? ⟨b5,9,none⟩=some (.int .i64 ty):=(U HE5).range 9 _ (by rw [U HTY];exact (exm_cell (U HXM)).2)
       by_cases ht:ty ≠ 1∧ty ≠ 0
       · obtain ⟨ht1,ht0⟩:=ht
         skip
         as_aux_lemma=>
          have e1:(ty != 1)=true:=by simpa using ht1
          have e0:(ty != 0)=true:=by simpa using ht0
          go_upto_region 13 with fail
          go_wp2_with fail
          rw [U HPP]
          exact ⟨rfl,U HB⟩
       · have ht01:ty=0 ∨ ty=1:=by omega
         have hval:=good_truths (U HGD) (by rw [← U HTY];exact ht01)
         obtain ⟨t,htt⟩:∃ t,t=decide (rtG r.1=1):=⟨_,rfl⟩
         have HPT:Hid (∀ W,Below w2.heap.size w2 W→Calls Tryz.prog 12 #[.agg M.toArray,.slice a 5 k] W fun e w'=>e=.returned (.tuple #[.bool t,errG r.2])∧Below W.heap.size W w'):=fun W hb=>by
          rw [htt,U HRR]
          exact pTruth_of gs hgok W (fun b=>b < w2.heap.size) M E a 5 k ⟨h5.symm,U HRW W hb⟩ ((U HXM).below hb) hexO (U HSM) (simE_kind (U HSM)) hval
         have HRT:Hid (∀ W,Below w2.heap.size w2 W→Calls Tryz.prog 13 #[.agg M.toArray,.slice a 5 k] W fun e w'=>e=.returned (.tuple #[.bool t,.int .i64 r.2])∧Below W.heap.size W w'):=fun W hb=>by
          rw [htt]
          exact rTruth_of W M hlM E.1.kind (exm_cell (U HXM)).1 (simE_kind (U HSM)) a 5 k r (by rw [U HRR];exact (U HGD).2.2.1) (U HRVA W hb)
         clear htt
         rcases ht01 with rfl | rfl
         · skip
           as_aux_lemma=>
            go_upto_region 14 with fail
            clear c9
            refine wp_region_list ?_
            refine wpList_load_mid rfl 29 (.tmp 5) rfl b5 0 rfl M _ (U HE5).range Tryz.underlying29 rfl (by rw [hlM];exact sizeEx) ?_
            refine lt 64 (.slice a 5 k) ?_
            refine list_call rfl (some 65) rfl 12 #[.agg M.toArray,.slice a 5 k] (by kernel_rfl) (U HPT w9 (U HBw)) ?_
            rintro e u1 ⟨rfl,hb⟩
            refine ⟨_,rfl,?_⟩
            simp only[put,sA,sB,sC]
            have HB:=V (trX (U HB) hb)
            have HBw:=V (trX (U HBw) hb)
            have HE5:=V ((U HE5).below hb)
            clear hb
            refine lt 62 (.tuple #[.bool t,errG r.2]) ?_
            refine lt 66 (.bool t) ?_
            refine lt 67 (errG r.2) ?_
            refine lt 11 (.bool t) ?_
            refine lt 8 (errG r.2) ?_
            simp only[put,sA,sB,sC]
            go_upto_region 15 with fail
            refine wp_region_list ?_
            refine wpList_load_mid rfl 29 (.tmp 5) rfl b5 0 rfl M _ (U HE5).range Tryz.underlying29 rfl (by rw [hlM];exact sizeEx) ?_
            refine lt 70 (.slice a 5 k) ?_
            refine list_call rfl (some 71) rfl 13 #[.agg M.toArray,.slice a 5 k] (by kernel_rfl) (U HRT u1 (U HBw)) ?_
            rintro e u2 ⟨rfl,hb⟩
            refine ⟨_,rfl,?_⟩
            simp only[put,sA,sB,sC]
            have HB:=V (trX (U HB) hb)
            clear hb
            refine lt 68 (.tuple #[.bool t,.int .i64 r.2]) ?_
            refine lt 72 (.bool t) ?_
            refine lt 73 (.int .i64 r.2) ?_
            refine lt 12 (.bool t) ?_
            refine lt 10 (.int .i64 r.2) ?_
            simp only[put,sA,sB,sC]
            go_upto_region 16 with fail
            refine wp_region_list ?_
            refine lt 75 (.agg zL.toArray) ?_
            refine lt 76 (.slice a 5 k) ?_
            refine list_call rfl (some 77) rfl 12 #[.agg zL.toArray,.slice a 5 k] (by kernel_rfl) (pTruth_zero u2 (.slice a 5 k)) ?_
            rintro e u3 ⟨rfl,hb⟩
            refine ⟨_,rfl,?_⟩
            simp only[put,sA,sB,sC]
            have HB:=V (trX (U HB) hb)
            clear hb
            refine lt 74 (.tuple #[.bool true,.nilIface]) ?_
            refine lt 78 (.bool true) ?_
            refine lt 79 (.nilIface) ?_
            refine lt 13 (.bool true) ?_
            refine lt 14 (.nilIface) ?_
            simp only[put,sA,sB,sC]
            go_upto_region 17 with fail
            refine wp_region_list ?_
            refine lt 80 (.bool t) ?_
            refine lt 81 (.bool t) ?_
            simp only[put,sA,sB,sC]
            refine list_to (d:=82) (v:=.bool true) rfl rfl (by cases t <;> kernel_rfl) ?_
            refine lt 83 (.bool true) ?_
            simp only[put,sA,sB,sC]
            refine list_want (d:=84) (v:=errG r.2) rfl (by kernel_rfl) (by kernel_rfl) ?_
            simp only[put,sA,sB,sC]
            refine list_want_call 85 rfl (by kernel_rfl) 11 #[errG r.2] (by kernel_rfl) (class_g r.2 u3 (U HET u3 (U HB))) ?_
            rintro e u4 ⟨rfl,hb⟩
            refine ⟨_,rfl,?_⟩
            simp only[put,sA,sB,sC]
            have HB:=V (trX (U HB) hb)
            clear hb
            refine list_want (d:=86) (v:=.int .i64 r.2) rfl (by kernel_rfl) (by kernel_rfl) ?_
            simp only[put,sA,sB,sC]
            refine list_want (d:=87) (v:=.bool true) rfl (by kernel_rfl) (by go_simp) ?_
            refine lt 88 (.bool true) ?_
            refine lt 89 (.bool true) ?_
            simp only[put,sA,sB,sC]
            refine list_want (d:=90) (v:=.bool true) rfl (by kernel_rfl) (by kernel_rfl) ?_
            refine lt 91 (.bool true) ?_
            refine lt 92 (.bool true) ?_
            simp only[put,sA,sB,sC]
            refine list_want (d:=93) (v:=.nilIface) rfl (by kernel_rfl) (by kernel_rfl) ?_
            simp only[put,sA,sB,sC]
            refine list_want (d:=94) (v:=.bool true) rfl (by kernel_rfl) (by kernel_rfl) ?_
            refine lt 95 (.bool true) ?_
            refine lt 4 (.bool true) ?_
            simp only[put,sA,sB,sC]
            go_wp2_with fail
            rw [U HPP]
            exact ⟨rfl,U HB⟩
         · skip
           as_aux_lemma=>
            go_upto_region 14 with fail
            clear c9
            refine wp_region_list ?_
            refine wpList_load_mid rfl 29 (.tmp 5) rfl b5 0 rfl M _ (U HE5).range Tryz.underlying29 rfl (by rw [hlM];exact sizeEx) ?_
            refine lt 64 (.slice a 5 k) ?_
            refine list_call rfl (some 65) rfl 12 #[.agg M.toArray,.slice a 5 k] (by kernel_rfl) (U HPT w9 (U HBw)) ?_
            rintro e u1 ⟨rfl,hb⟩
            refine ⟨_,rfl,?_⟩
            simp only[put,sA,sB,sC]
            have HB:=V (trX (U HB) hb)
            have HBw:=V (trX (U HBw) hb)
            have HE5:=V ((U HE5).below hb)
            clear hb
            refine lt 62 (.tuple #[.bool t,errG r.2]) ?_
            refine lt 66 (.bool t) ?_
            refine lt 67 (errG r.2) ?_
            refine lt 11 (.bool t) ?_
            refine lt 8 (errG r.2) ?_
            simp only[put,sA,sB,sC]
            go_upto_region 15 with fail
            refine wp_region_list ?_
            refine wpList_load_mid rfl 29 (.tmp 5) rfl b5 0 rfl M _ (U HE5).range Tryz.underlying29 rfl (by rw [hlM];exact sizeEx) ?_
            refine lt 70 (.slice a 5 k) ?_
            refine list_call rfl (some 71) rfl 13 #[.agg M.toArray,.slice a 5 k] (by kernel_rfl) (U HRT u1 (U HBw)) ?_
            rintro e u2 ⟨rfl,hb⟩
            refine ⟨_,rfl,?_⟩
            simp only[put,sA,sB,sC]
            have HB:=V (trX (U HB) hb)
            clear hb
            refine lt 68 (.tuple #[.bool t,.int .i64 r.2]) ?_
            refine lt 72 (.bool t) ?_
            refine lt 73 (.int .i64 r.2) ?_
            refine lt 12 (.bool t) ?_
            refine lt 10 (.int .i64 r.2) ?_
            simp only[put,sA,sB,sC]
            go_upto_region 16 with fail
            refine wp_region_list ?_
            refine lt 75 (.agg zL.toArray) ?_
            refine lt 76 (.slice a 5 k) ?_
            refine list_call rfl (some 77) rfl 12 #[.agg zL.toArray,.slice a 5 k] (by kernel_rfl) (pTruth_zero u2 (.slice a 5 k)) ?_
            rintro e u3 ⟨rfl,hb⟩
            refine ⟨_,rfl,?_⟩
            simp only[put,sA,sB,sC]
            have HB:=V (trX (U HB) hb)
            clear hb
            refine lt 74 (.tuple #[.bool true,.nilIface]) ?_
            refine lt 78 (.bool true) ?_
            refine lt 79 (.nilIface) ?_
            refine lt 13 (.bool true) ?_
            refine lt 14 (.nilIface) ?_
            simp only[put,sA,sB,sC]
            go_upto_region 17 with fail
            refine wp_region_list ?_
            refine lt 80 (.bool t) ?_
            refine lt 81 (.bool t) ?_
            simp only[put,sA,sB,sC]
            refine list_to (d:=82) (v:=.bool true) rfl rfl (by cases t <;> kernel_rfl) ?_
            refine lt 83 (.bool true) ?_
            simp only[put,sA,sB,sC]
            refine list_want (d:=84) (v:=errG r.2) rfl (by kernel_rfl) (by kernel_rfl) ?_
            simp only[put,sA,sB,sC]
            refine list_want_call 85 rfl (by kernel_rfl) 11 #[errG r.2] (by kernel_rfl) (class_g r.2 u3 (U HET u3 (U HB))) ?_
            rintro e u4 ⟨rfl,hb⟩
            refine ⟨_,rfl,?_⟩
            simp only[put,sA,sB,sC]
            have HB:=V (trX (U HB) hb)
            clear hb
            refine list_want (d:=86) (v:=.int .i64 r.2) rfl (by kernel_rfl) (by kernel_rfl) ?_
            simp only[put,sA,sB,sC]
            refine list_want (d:=87) (v:=.bool true) rfl (by kernel_rfl) (by go_simp) ?_
            refine lt 88 (.bool true) ?_
            refine lt 89 (.bool true) ?_
            simp only[put,sA,sB,sC]
            refine list_want (d:=90) (v:=.bool true) rfl (by kernel_rfl) (by kernel_rfl) ?_
            refine lt 91 (.bool true) ?_
            refine lt 92 (.bool true) ?_
            simp only[put,sA,sB,sC]
            refine list_want (d:=93) (v:=.nilIface) rfl (by kernel_rfl) (by kernel_rfl) ?_
            simp only[put,sA,sB,sC]
            refine list_want (d:=94) (v:=.bool true) rfl (by kernel_rfl) (by kernel_rfl) ?_
            refine lt 95 (.bool true) ?_
            refine lt 4 (.bool true) ?_
            simp only[put,sA,sB,sC]
            go_wp2_with fail
            rw [U HPP]
            exact ⟨rfl,U HB⟩
end Go.Proofs.YtpnonhjmpnbmcaaGreatDoor
namespace Go.Proofs.YtpnonhjmpnbmcaaGreatDoor
open Go.ChangeShapes Go.WideShapes Go.ChangeAt Go.RowKit Go.Lib
open Act (put)
set_option linter.unusedSimpArgs false
set_option linter.unusedVariables false
set_option maxHeartbeats 6400000
set_option maxRecDepth 100000
theorem xv_list {α:Type} (Q:Nat→α→Prop):∀ n,(∀ i,i < n→∃ g,Q i g)→∃ gs:List α,gs.length=n∧∀ i g,gs[i]?=some g→Q i g:=by
 intro n
 induction n with
 | zero=>intro _;exact ⟨[],rfl,fun i g h=>by simp at h⟩
 | succ n ih=>
  intro h
  obtain ⟨gs,hl,hg⟩:=ih fun i hi=>h i (by omega)
  obtain ⟨g,hq⟩:=h n (by omega)
  refine ⟨gs ++ [g],by simp [hl],fun i x hx=>?_⟩
  rcases Nat.lt_trichotomy i n with hi | hi | hi
  · rw [List.getElem?_append_left (by omega)] at hx;exact hg i x hx
  · subst hi
    rw [List.getElem?_append_right (by omega),hl] at hx
    simp at hx;subst hx;exact hq
  · rw [List.getElem?_eq_none (by simp;omega)] at hx;cases hx
theorem xv_three {α:Type} {cs:List α} (h:cs.length=3):∃ a b c,cs=[a,b,c]:=by
 match cs,h with
 | [a,b,c],_=>exact ⟨a,b,c,rfl⟩
theorem xv_c3:Tryz.prog.cellsOf 26=3:=by kernel_rfl
theorem xv_cs:Tryz.prog.cellsOf 9=1:=by kernel_rfl
theorem xv_c64:Tryz.prog.cellsOf 2=1:=by kernel_rfl
theorem xv_ci:Tryz.prog.cellsOf 3=1:=by kernel_rfl
section
variable {H:Type} {enc:TypeId × Value→H} {W:World} {base:Nat} {sp:Nat→Bool} {hd:Bool}
theorem xv_val {fuel:Nat} {cs:List Value} {x:DataW H × List MemPlace} (h:DataW.trod enc Tryz.prog W base sp hd fuel 26 cs=some x) :
 ∃ g:GV,g.ok∧cs=[.int .i64 g.kind,.int .i64 g.int,.string g.text]:=by
 obtain ⟨y0,y1,y2,n,_,hl,h0,h1,h2⟩:=Go.Deep.trod_struct3 Tryz.underlying26 h
 rw [xv_c3] at hl
 obtain ⟨a,b,c,rfl⟩:=xv_three hl
 simp [xv_cs,xv_c64,xv_ci] at h0 h1 h2
 obtain ⟨k,e0,_,_⟩:=DataW.trod_int Tryz.underlying3 h0
 obtain ⟨i,e1,_,w1⟩:=DataW.trod_int Tryz.underlying2 h1
 obtain ⟨t,e2,_,w2⟩:=DataW.trod_string Tryz.underlying9 h2
 simp at e0 e1 e2
 subst e0 e1 e2
 have:=bounds_i64 w1
 exact ⟨⟨k,i,t⟩,⟨by dsimp only;omega,by dsimp only;omega,w2⟩,rfl⟩
theorem xv_addr {b0:Nat} {a:Addr} {len cap:Nat} (h:Value.okWide Tryz.prog W .any b0 22 (.slice (some a) len cap)):a.spot=none∧a.block < W.heap.size:=by
 simp only[Value.okWide,Tryz.underlying22,Cell.okWide,Cell.ok] at h
 obtain ⟨_,_,_,h2,row,cells,h3,_⟩:=h
 refine ⟨h2,?_⟩
 rcases Nat.lt_or_ge a.block W.heap.size with h' | h'
 · exact h'
 · simp [World.shape?,Array.getElem?_eq_none h'] at h3
theorem xv_in {b0:Nat} {a:Option Addr} {len cap:Nat} {d:DataW H} {ps:List MemPlace}
 (hv:Value.okWide Tryz.prog W .any b0 22 (.slice a len cap)) (hT:DataW.Trod enc Tryz.prog W base sp hd 22 (.slice a len cap) d ps) :
 ∃ gs:List GV,RVk W a len cap gs:=by
 obtain ⟨fuel,hf⟩:=hT
 rcases DataW.trod_slice Tryz.underlying22 hf with ⟨hcs,_⟩ | ⟨x,l,c,elems,rest,n,_,hcs,_,hb,hl,hm,hlen,hel,_⟩
 · simp [Value.cells] at hcs
   obtain ⟨rfl,rfl,rfl⟩:=hcs
   exact ⟨[],rfl,Nat.le_refl _,Nat.zero_le _,fun g hg=>(by cases hg),.inl rfl⟩
 · simp [Value.cells] at hcs
   obtain ⟨rfl,rfl,rfl⟩:=hcs
   obtain ⟨hs,hblk⟩:=xv_addr hv
   obtain ⟨b,off,spot⟩:=x
   simp only at hs
   subst hs
   rw [xv_c3] at hel
   have each:∀ i,i < len→∃ g:GV,g.ok∧W.rangeAt b (off+3 * i) (gvC g):=by
    intro i hi
    have he:=hel i hi
    rw [List.getElem?_eq_getElem (by omega),Option.bind_eq_some_iff] at he
    obtain ⟨cs,hc,ht⟩:=he
    obtain ⟨g,hg,rfl⟩:=xv_val ht
    obtain ⟨_,_,hcell⟩:=World.cells?_some hc
    rw [Go.WideShapes.add_plain] at hcell
    have c0:=hcell 0 (by omega)
    have c1:=hcell 1 (by omega)
    have c2:=hcell 2 (by omega)
    rw [Go.WideShapes.add_plain] at c0 c1 c2
    refine ⟨g,hg,fun j v hj=>?_⟩
    rw [Nat.mul_comm 3 i]
    match j,hj with
    | 0,hj=>injection hj with hj;subst hj;simpa using c0
    | 1,hj=>injection hj with hj;subst hj;simpa using c1
    | 2,hj=>injection hj with hj;subst hj;simpa using c2
    | j+3,hj=>simp [gvC] at hj
   obtain ⟨gs,hgl,hgs⟩:=xv_list _ len each
   refine ⟨gs,hgl.symm,by omega,by omega,fun g hg=>?_,.inr ⟨b,off,rfl,hblk,fun i g hg=>(hgs i g hg).2⟩⟩
   obtain ⟨i,hi⟩:=List.mem_iff_getElem?.1 hg
   exact (hgs i g hi).1
end
theorem tells_in (w:World) (hE:ET w) (s:ByteArray) (hs:s.size ≤ maxLen) (a:Option Addr) (n k:Nat) (gs:List GV) (h:RVk w a n k gs):Calls Tryz.prog 3 #[.string s,.slice a n k] w (TeP w):=by
 have e:Value.string s=sv s.data.toList:=by
  unfold sv
  congr 1
 rw [e]
 exact tells_any w hE s.data.toList (by simpa using hs) a n k gs h
end Go.Proofs.YtpnonhjmpnbmcaaGreatDoor
