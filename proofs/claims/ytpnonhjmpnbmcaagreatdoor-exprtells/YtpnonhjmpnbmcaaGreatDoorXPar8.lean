/- The document's parser: product. -/
import Derived.Test.YtpnonhjmpnbmcaaGreatDoorXPar7
namespace Go.Proofs.YtpnonhjmpnbmcaaGreatDoor
open Go.RowKit Go.Lib
open Act (put)
set_option linter.unusedSimpArgs false
set_option maxHeartbeats 12800000
set_option maxRecDepth 20000
theorem product_lv {T:List Tk} {p bt c:Nat} (hT:TG T) {sub:PS→Ex × PS} {B n:Nat} (hn:B ≤ n) (hs:LvC T p bt c 225 sub B) :
 LvC T p bt c 223 (fun S=>(loopG T sub [42] [47] [37] 13 14 15) n (sub S).1 (sub S).2) B:=by
 intro w S hp hmu
 have hbtlt:=hp.bt_lt
 have hplt:=hp.lt_p
 have hpb:=hp.ne
 obtain ⟨b2,hb2⟩:∃ b2,b2=w.heap.size:=⟨_,rfl⟩
 have hal:Below w.heap.size w (w.alloc (.cells zL.toArray 29)):=(Below.refl _ _).alloc (Nat.le_refl _) _
 have HV2:Hid (VrX (w.alloc (.cells zL.toArray 29)) b2 zL):=by rw [hb2];exact VrX.new w rfl
 have HC1:Hid (Calls Tryz.prog 225 #[.pointer (some ⟨p,0,none⟩)] (w.alloc (.cells zL.toArray 29)) fun e w'=>∃ M,e=.returned (.agg M.toArray)∧M.length=10∧(storeCells ⟨w'.heap.size,0,none⟩ M).run Tryz.prog (w'.alloc (.cells zL.toArray 29))=.ok () (w'.alloc (.cells M.toArray 29))∧Hid (LW T p bt c b2 w'.heap.size (muS T S) w (w'.alloc (.cells M.toArray 29)) ((loopG T sub [42] [47] [37] 13 14 15) n (sub S).1 (sub S).2) (loopG T sub [42] [47] [37] 13 14 15) M (sub S).1 (sub S).2 n)):=by
  refine (hs _ S (hp.below hal) hmu).mono ?_
  rintro e w' ⟨M,rfl,hx,hp',hf,hm⟩
  have hz:(w.alloc (.cells zL.toArray 29)).heap.size=w.heap.size+1:=by simp
  have hsz:=hf.size
  have hbw:Below w'.heap.size w' (w'.alloc (.cells M.toArray 29)):=(Below.refl _ _).alloc (Nat.le_refl _) _
  refine ⟨M,rfl,hx.len,storeNew w' hx.len hx.one,VrX.new w' hx.len,?_,hp'.below hbw,?_,?_,rfl,by omega,hm,hb2,by omega⟩
  · exact (hx.keep (Q':=fun b=>b2 < b∧b ≠ w'.heap.size) (fun _ _ _=>rfl) (fun b hl q=>⟨by omega,by omega⟩)).below hbw
  · exact ((FrX.of_below hal).trans hf).trans (FrX.of_below hbw)
  · exact ((U HV2).keep (hf.blk b2 (by omega) (by omega))).below hbw
 have HMU:=V hmu
 have HSUB:=V hs
 have HNE2:Hid (b2 ≠ p∧b2 ≠ bt):=⟨by omega,by omega⟩
 obtain ⟨R,hR⟩:∃ R,R=(loopG T sub [42] [47] [37] 13 14 15) n (sub S).1 (sub S).2:=⟨_,rfl⟩
 have HRB:Hid (∀ e w',LvP T p bt c w S R e w'→LvP T p bt c w S ((loopG T sub [42] [47] [37] 13 14 15) n (sub S).1 (sub S).2) e w'):=fun e w' h=>by rw [← hR];exact h
 rw [← hR] at HC1
 obtain ⟨PP,hPP⟩:∃ PP,PP=LvP T p bt c w S ((loopG T sub [42] [47] [37] 13 14 15) n (sub S).1 (sub S).2):=⟨_,rfl⟩
 rw [← hPP] at HRB
 show Calls _ _ _ _ (LvP T p bt c w S ((loopG T sub [42] [47] [37] 13 14 15) n (sub S).1 (sub S).2))
 rw [← hPP]
 clear hp hmu hs hal hR hPP HV2
 rw [← hb2] at hbtlt hplt
 go_enter Tryz.func223,Tryz.ntmps223
 have HB2:=V hb2
 clear hb2
 go_wp2_with (go_at_call 225;refine (U HC1).mono ?_;clear HC1;rintro e w2 ⟨M0,rfl,hl0,hst0,HL0⟩;unfold zL at hst0)
 clear hst0
 have HLZ:Hid (w2.heap.size ≠ p∧w2.heap.size ≠ bt):=by
  have h:=(U HL0).b3p
  exact ⟨by omega,by omega⟩
 obtain ⟨b3,hb3⟩:∃ b3,b3=w2.heap.size:=⟨_,rfl⟩
 obtain ⟨W3,hW3⟩:∃ W3,W3=w2.alloc (.cells M0.toArray 29):=⟨_,rfl⟩
 rw [← hb3,← hW3] at HL0 ⊢
 rw [← hb3] at HLZ
 rw [← U HB2]
 clear hb3 hW3 hl0
 go_loopg [] (muS T (sub S).2) (fun g wr=>∃ (M:List Value) (a:Ex) (S1:PS) (m:Nat),g=muS T S1∧Hid (LW T p bt c b2 b3 (muS T S) w wr R (loopG T sub [42] [47] [37] 13 14 15) M a S1 m))
 case atStart=>exact ⟨_,_,_,_,rfl,HL0⟩
 case round=>
  obtain ⟨M,a,S1,m,rfl,HL⟩:=hrel
  clear HL0
  cases he:(S1.err == 0) with
  | false=>
   have HE0:=V he
   have HEQ:Hid (R=(a,S1)):=by
    have h:=(U HL).eq
    show R=_
    rw [← h]
    have hno:∀ x,isS T 5 x S1=false:=fun x=>by unfold isS;rw [he];rfl
    cases m with
    | zero=>rfl
    | succ m=>rw [loopG,if_neg (by rw [hno];decide),if_neg (by rw [hno];decide),if_neg (by rw [hno];decide)]
   clear he
   as_aux_lemma=>
    go_upto_region 10 with (go_at_call 96;refine (lw_ok (U HL) (U HLZ).1 hplt).mono ?_;rw [U HE0];rintro e w1 ⟨rfl,HL1⟩)
    have hlen:=(U HL1).ex.len
    refine wp_region_list ?_
    refine wpList_load_mid rfl 29 (.tmp 3) rfl b3 0 rfl M _ (U HL1).var.range Tryz.underlying29 rfl (by rw [hlen];exact sizeEx) ?_
    refine wpList_store_mid rfl 29 (.tmp 2) (.tmp 30) rfl b2 0 M.toArray rfl rfl (by rw [List.size_toArray,hlen];exact (U HL1).out.there) (by rw [List.size_toArray,hlen];exact sizeEx) (all_oneCell_toArray (U HL1).ex.one) ?_
    go_wp2_with fail
    obtain ⟨h1,h2⟩:=(U HL1).done (S0:=S) (U HEQ) (Nat.le_refl _) (U HNE2).2 (U HNE2).1
    exact bodyPost_ret (h1.result rfl _ rfl) rfl (U HRB _ _ h2)
  | true=>
   have HE0:=V he
   clear he
   cases hy:isS T 5 [42] S1 with
   | true=>
    as_aux_lemma=>
     have HY:Hid (isS T 5 [42] S1=true):=hy
     have hm1:=muS_next hT hy (by decide) (U HL).px.lt
     have hmu1:=(U HL).mu
     have hfu:=(U HL).fuel
     obtain ⟨m',rfl⟩:∃ m',m=m'+1:=⟨m - 1,by omega⟩
     have HEQ:Hid ((loopG T sub [42] [47] [37] 13 14 15) m' (binE 13 a (sub (nextS T S1)).1) (sub (nextS T S1)).2=R):=by
      have h:=(U HL).eq
      rw [loopG,if_pos hy] at h
      exact h
     have HS4:Hid (∀ W,PX T W p bt c (nextS T S1)→Calls Tryz.prog 225 #[.pointer (some ⟨p,0,none⟩)] W (LvP T p bt c W (nextS T S1) (sub (nextS T S1)))):=fun W h=>U HSUB W _ h (by have:=U HMU;omega)
     have HM1:=V (And.intro hm1 (And.intro hmu1 hfu))
     clear hy hm1 hmu1 hfu 
     go_wp2_with (first | (go_at_call 96;refine (lw_ok (U HL) (U HLZ).1 hplt).mono ?_;rw [U HE0];rintro e w1 ⟨rfl,HL1⟩) | (go_at_call 95;refine (lw_yes hT (U HL1) (U HY)).mono ?_;rintro e w4 ⟨rfl,HP4,HF4⟩))
     have HLK:=HL1
     have HV4D:Hid (VrX w4.drew b3 M):=(U HLK).var.keep ((U HF4).blk b3 (ltX (U HLK).var.1) (U HLZ).1)
     have HP4D:Hid (PX T w4.drew p bt c (nextS T S1)):=(U HP4).drew
     have HLT4:Hid (b3 < w4.drew.heap.size):=ltX (U HV4D).1
     have HXA:Hid (∀ w5,FrX p w4.drew w5→ExM w5 (fun b=>b2 < b∧b ≠ b3) M a):=fun w5 hf=>(U HLK).ex.keep (fun b hq hl=>(((U HF4).drew.trans hf).blk b hl (by have:=hq.1;omega))) (fun _ _ h=>h)
     have HXN:Hid (∀ w5 N E,ExM w5 (fun b=>w4.drew.heap.size ≤ b) N E→ExM w5 (fun b=>b2 < b∧b ≠ b3) N E):=fun w5 N E h=>h.keep (fun _ _ _=>rfl) (fun b _ q=>by have h1:=U HLT4;have h2:=(U HLK).b3p;exact ⟨by omega,by omega⟩)
     have hl:=(U HLK).ex.len
     refine wp_region_last 4 (fun w'=>VrX w' b3 M) (by kernel_rfl) HV4D.out (fun hHeld=>?_)
     refine lu 0 12 (.agg M.toArray) rfl (yieldsIf_load_mid (by rfl) 29 (.tmp 3) rfl b3 0 rfl M _ (fun w hw=>hw.range) Tryz.underlying29 rfl (by rw [hl];exact sizeEx)) hHeld ?_
     simp only[put,sA,sB,sC]
     refine lu 1 13 (.pointer (some ⟨p,0,none⟩)) rfl (Or.inl ⟨by rfl,?_⟩) hHeld ?_
     · (intro w' hSw;obtain hSw':=hSw;go_simp)
     simp only[put,sA,sB,sC]
     refine last_one (i:=2) (by kernel_rfl) rfl (fun K hK=>?_)
     go_simp
     (go_at_call 225;refine (U HS4 _ HP4D.out).mono ?_;rintro e w5 ⟨N,rfl,hx5,hp5,hf5,hm5⟩;have HXA5:=V (U HXA w5 hf5);have HXN5:=V (U HXN w5 _ _ hx5);have HV5:=V (HV4D.out.keep (hf5.blk b3 HLT4.out HLZ.out.1));have HP5:=V hp5;have HF5:=V hf5;have HM5:=V hm5;clear hx5 hp5 hf5 hm5)
     go_wp2_with fail
     refine hK.out _ _ (fun _=>U HV5) (fun hHeld2=>?_)
     clear hK K hHeld
     have hHeld:=hHeld2 (by decide)
     clear hHeld2
     try simp only[put,sA,sB,sC]
     refine last_one (i:=3) (by kernel_rfl) rfl (fun K hK=>?_)
     go_simp
     (go_at_call 184;refine (binary_any 13 M N a _ (fun b=>b2 < b∧b ≠ b3) w5 (U HXA5) (U HXN5)).mono ?_;rintro e w6 ⟨M6,rfl,hx6,hb6⟩;have HV6:=V ((U HV5).below hb6);have HX6:=V hx6;have HB6:=V hb6;clear hx6 hb6)
     go_wp2_with fail
     refine hK.out _ _ (fun _=>U HV6) (fun hHeld2=>?_)
     clear hK K hHeld
     have hHeld:=hHeld2 (by decide)
     clear hHeld2
     try simp only[put,sA,sB,sC]
     refine last_one (i:=4) (by kernel_rfl) rfl (fun K hK=>?_)
     rw [if_pos (by rfl)]
     refine wp_store_mid 29 (.tmp 3) (.tmp 15) rfl b3 0 M6.toArray rfl rfl (by rw [List.size_toArray,(U HX6).len];exact (U HV6).there) (by rw [List.size_toArray,(U HX6).len];exact sizeEx) (all_oneCell_toArray (U HX6).one) ?_
     refine hK.out _ _ (fun h=>absurd rfl h) (fun _=>?_)
     clear hK K hHeld
     try simp only[put,sA,sB,sC]
     refine last_done (by kernel_rfl) ?_ _
     go_wp2_with fail
     have HNX:Hid (LW T p bt c b2 b3 (muS T S) w (w6.setCells b3 0 M6) R (loopG T sub [42] [47] [37] 13 14 15) M6 (binE 13 a (sub (nextS T S1)).1) (sub (nextS T S1)).2 m'):=by
      have h1:=U HM1
      have h2:=U HM5
      refine (U HLK).next (w5:=w6) ?_ ((U HP5).below (U HB6)) (((U HF4).drew.trans (U HF5)).trans (FrX.of_below (U HB6))) (U HEQ) (by omega) (by omega) (U HLZ).2 (U HLZ).1 (U HNE2).1
      refine (U HX6).keep (fun _ _ _=>rfl) (fun b _ q=>?_)
      rcases q with q | q
      · exact q
      · have h3:=(U HF5).size
        have h4:=U HLT4
        have h5:=(U HLK).b3p
        exact ⟨by omega,by omega⟩
     have HDEC:Hid (muS T (sub (nextS T S1)).2 < muS T S1):=by
      have h1:=U HM1
      have h2:=U HM5
      show _ < _
      omega
     go_roundg (muS T (sub (nextS T S1)).2)
     case rel=>exact ⟨_,_,_,_,rfl,HNX⟩
     case measure=>exact U HDEC
   | false=>
    have hn1:=hy
    clear hy
    cases hy:isS T 5 [47] S1 with
    | true=>
     as_aux_lemma=>
      have HN1:Hid (isS T 5 [42] S1=false):=hn1
      have HY:Hid (isS T 5 [47] S1=true):=hy
      have hm1:=muS_next hT hy (by decide) (U HL).px.lt
      have hmu1:=(U HL).mu
      have hfu:=(U HL).fuel
      obtain ⟨m',rfl⟩:∃ m',m=m'+1:=⟨m - 1,by omega⟩
      have HEQ:Hid ((loopG T sub [42] [47] [37] 13 14 15) m' (binE 14 a (sub (nextS T S1)).1) (sub (nextS T S1)).2=R):=by
       have h:=(U HL).eq
       rw [loopG,if_neg (by rw [hn1];decide),if_pos hy] at h
       exact h
      have HS4:Hid (∀ W,PX T W p bt c (nextS T S1)→Calls Tryz.prog 225 #[.pointer (some ⟨p,0,none⟩)] W (LvP T p bt c W (nextS T S1) (sub (nextS T S1)))):=fun W h=>U HSUB W _ h (by have:=U HMU;omega)
      have HM1:=V (And.intro hm1 (And.intro hmu1 hfu))
      clear hy hm1 hmu1 hfu hn1
      go_wp2_with (first | (go_at_call 96;refine (lw_ok (U HL) (U HLZ).1 hplt).mono ?_;rw [U HE0];rintro e w1 ⟨rfl,HL1⟩) | (go_at_call 95;refine (lw_no hT (U HL1) (U HN1) (U HLZ).1 hplt).mono ?_;rintro e w2 ⟨rfl,HL2⟩;clear HN1) | (go_at_call 95;refine (lw_yes hT (U HL2) (U HY)).mono ?_;rintro e w4 ⟨rfl,HP4,HF4⟩))
      have HLK:=HL2
      have HV4D:Hid (VrX w4.drew b3 M):=(U HLK).var.keep ((U HF4).blk b3 (ltX (U HLK).var.1) (U HLZ).1)
      have HP4D:Hid (PX T w4.drew p bt c (nextS T S1)):=(U HP4).drew
      have HLT4:Hid (b3 < w4.drew.heap.size):=ltX (U HV4D).1
      have HXA:Hid (∀ w5,FrX p w4.drew w5→ExM w5 (fun b=>b2 < b∧b ≠ b3) M a):=fun w5 hf=>(U HLK).ex.keep (fun b hq hl=>(((U HF4).drew.trans hf).blk b hl (by have:=hq.1;omega))) (fun _ _ h=>h)
      have HXN:Hid (∀ w5 N E,ExM w5 (fun b=>w4.drew.heap.size ≤ b) N E→ExM w5 (fun b=>b2 < b∧b ≠ b3) N E):=fun w5 N E h=>h.keep (fun _ _ _=>rfl) (fun b _ q=>by have h1:=U HLT4;have h2:=(U HLK).b3p;exact ⟨by omega,by omega⟩)
      have hl:=(U HLK).ex.len
      refine wp_region_last 4 (fun w'=>VrX w' b3 M) (by kernel_rfl) HV4D.out (fun hHeld=>?_)
      refine lu 0 19 (.agg M.toArray) rfl (yieldsIf_load_mid (by rfl) 29 (.tmp 3) rfl b3 0 rfl M _ (fun w hw=>hw.range) Tryz.underlying29 rfl (by rw [hl];exact sizeEx)) hHeld ?_
      simp only[put,sA,sB,sC]
      refine lu 1 20 (.pointer (some ⟨p,0,none⟩)) rfl (Or.inl ⟨by rfl,?_⟩) hHeld ?_
      · (intro w' hSw;obtain hSw':=hSw;go_simp)
      simp only[put,sA,sB,sC]
      refine last_one (i:=2) (by kernel_rfl) rfl (fun K hK=>?_)
      go_simp
      (go_at_call 225;refine (U HS4 _ HP4D.out).mono ?_;rintro e w5 ⟨N,rfl,hx5,hp5,hf5,hm5⟩;have HXA5:=V (U HXA w5 hf5);have HXN5:=V (U HXN w5 _ _ hx5);have HV5:=V (HV4D.out.keep (hf5.blk b3 HLT4.out HLZ.out.1));have HP5:=V hp5;have HF5:=V hf5;have HM5:=V hm5;clear hx5 hp5 hf5 hm5)
      go_wp2_with fail
      refine hK.out _ _ (fun _=>U HV5) (fun hHeld2=>?_)
      clear hK K hHeld
      have hHeld:=hHeld2 (by decide)
      clear hHeld2
      try simp only[put,sA,sB,sC]
      refine last_one (i:=3) (by kernel_rfl) rfl (fun K hK=>?_)
      go_simp
      (go_at_call 184;refine (binary_any 14 M N a _ (fun b=>b2 < b∧b ≠ b3) w5 (U HXA5) (U HXN5)).mono ?_;rintro e w6 ⟨M6,rfl,hx6,hb6⟩;have HV6:=V ((U HV5).below hb6);have HX6:=V hx6;have HB6:=V hb6;clear hx6 hb6)
      go_wp2_with fail
      refine hK.out _ _ (fun _=>U HV6) (fun hHeld2=>?_)
      clear hK K hHeld
      have hHeld:=hHeld2 (by decide)
      clear hHeld2
      try simp only[put,sA,sB,sC]
      refine last_one (i:=4) (by kernel_rfl) rfl (fun K hK=>?_)
      rw [if_pos (by rfl)]
      refine wp_store_mid 29 (.tmp 3) (.tmp 22) rfl b3 0 M6.toArray rfl rfl (by rw [List.size_toArray,(U HX6).len];exact (U HV6).there) (by rw [List.size_toArray,(U HX6).len];exact sizeEx) (all_oneCell_toArray (U HX6).one) ?_
      refine hK.out _ _ (fun h=>absurd rfl h) (fun _=>?_)
      clear hK K hHeld
      try simp only[put,sA,sB,sC]
      refine last_done (by kernel_rfl) ?_ _
      go_wp2_with fail
      have HNX:Hid (LW T p bt c b2 b3 (muS T S) w (w6.setCells b3 0 M6) R (loopG T sub [42] [47] [37] 13 14 15) M6 (binE 14 a (sub (nextS T S1)).1) (sub (nextS T S1)).2 m'):=by
       have h1:=U HM1
       have h2:=U HM5
       refine (U HLK).next (w5:=w6) ?_ ((U HP5).below (U HB6)) (((U HF4).drew.trans (U HF5)).trans (FrX.of_below (U HB6))) (U HEQ) (by omega) (by omega) (U HLZ).2 (U HLZ).1 (U HNE2).1
       refine (U HX6).keep (fun _ _ _=>rfl) (fun b _ q=>?_)
       rcases q with q | q
       · exact q
       · have h3:=(U HF5).size
         have h4:=U HLT4
         have h5:=(U HLK).b3p
         exact ⟨by omega,by omega⟩
      have HDEC:Hid (muS T (sub (nextS T S1)).2 < muS T S1):=by
       have h1:=U HM1
       have h2:=U HM5
       show _ < _
       omega
      go_roundg (muS T (sub (nextS T S1)).2)
      case rel=>exact ⟨_,_,_,_,rfl,HNX⟩
      case measure=>exact U HDEC
    | false=>
     have hn2:=hy
     clear hy
     cases hy:isS T 5 [37] S1 with
     | true=>
      as_aux_lemma=>
       have HN1:Hid (isS T 5 [42] S1=false):=hn1
       have HN2:Hid (isS T 5 [47] S1=false):=hn2
       have HY:Hid (isS T 5 [37] S1=true):=hy
       have hm1:=muS_next hT hy (by decide) (U HL).px.lt
       have hmu1:=(U HL).mu
       have hfu:=(U HL).fuel
       obtain ⟨m',rfl⟩:∃ m',m=m'+1:=⟨m - 1,by omega⟩
       have HEQ:Hid ((loopG T sub [42] [47] [37] 13 14 15) m' (binE 15 a (sub (nextS T S1)).1) (sub (nextS T S1)).2=R):=by
        have h:=(U HL).eq
        rw [loopG,if_neg (by rw [hn1];decide),if_neg (by rw [hn2];decide),if_pos hy] at h
        exact h
       have HS4:Hid (∀ W,PX T W p bt c (nextS T S1)→Calls Tryz.prog 225 #[.pointer (some ⟨p,0,none⟩)] W (LvP T p bt c W (nextS T S1) (sub (nextS T S1)))):=fun W h=>U HSUB W _ h (by have:=U HMU;omega)
       have HM1:=V (And.intro hm1 (And.intro hmu1 hfu))
       clear hy hm1 hmu1 hfu hn1 hn2
       go_wp2_with (first | (go_at_call 96;refine (lw_ok (U HL) (U HLZ).1 hplt).mono ?_;rw [U HE0];rintro e w1 ⟨rfl,HL1⟩) | (go_at_call 95;refine (lw_no hT (U HL1) (U HN1) (U HLZ).1 hplt).mono ?_;rintro e w2 ⟨rfl,HL2⟩;clear HN1) | (go_at_call 95;refine (lw_no hT (U HL2) (U HN2) (U HLZ).1 hplt).mono ?_;rintro e w3 ⟨rfl,HL3⟩;clear HN2) | (go_at_call 95;refine (lw_yes hT (U HL3) (U HY)).mono ?_;rintro e w4 ⟨rfl,HP4,HF4⟩))
       have HLK:=HL3
       have HV4D:Hid (VrX w4.drew b3 M):=(U HLK).var.keep ((U HF4).blk b3 (ltX (U HLK).var.1) (U HLZ).1)
       have HP4D:Hid (PX T w4.drew p bt c (nextS T S1)):=(U HP4).drew
       have HLT4:Hid (b3 < w4.drew.heap.size):=ltX (U HV4D).1
       have HXA:Hid (∀ w5,FrX p w4.drew w5→ExM w5 (fun b=>b2 < b∧b ≠ b3) M a):=fun w5 hf=>(U HLK).ex.keep (fun b hq hl=>(((U HF4).drew.trans hf).blk b hl (by have:=hq.1;omega))) (fun _ _ h=>h)
       have HXN:Hid (∀ w5 N E,ExM w5 (fun b=>w4.drew.heap.size ≤ b) N E→ExM w5 (fun b=>b2 < b∧b ≠ b3) N E):=fun w5 N E h=>h.keep (fun _ _ _=>rfl) (fun b _ q=>by have h1:=U HLT4;have h2:=(U HLK).b3p;exact ⟨by omega,by omega⟩)
       have hl:=(U HLK).ex.len
       refine wp_region_last 4 (fun w'=>VrX w' b3 M) (by kernel_rfl) HV4D.out (fun hHeld=>?_)
       refine lu 0 26 (.agg M.toArray) rfl (yieldsIf_load_mid (by rfl) 29 (.tmp 3) rfl b3 0 rfl M _ (fun w hw=>hw.range) Tryz.underlying29 rfl (by rw [hl];exact sizeEx)) hHeld ?_
       simp only[put,sA,sB,sC]
       refine lu 1 27 (.pointer (some ⟨p,0,none⟩)) rfl (Or.inl ⟨by rfl,?_⟩) hHeld ?_
       · (intro w' hSw;obtain hSw':=hSw;go_simp)
       simp only[put,sA,sB,sC]
       refine last_one (i:=2) (by kernel_rfl) rfl (fun K hK=>?_)
       go_simp
       (go_at_call 225;refine (U HS4 _ HP4D.out).mono ?_;rintro e w5 ⟨N,rfl,hx5,hp5,hf5,hm5⟩;have HXA5:=V (U HXA w5 hf5);have HXN5:=V (U HXN w5 _ _ hx5);have HV5:=V (HV4D.out.keep (hf5.blk b3 HLT4.out HLZ.out.1));have HP5:=V hp5;have HF5:=V hf5;have HM5:=V hm5;clear hx5 hp5 hf5 hm5)
       go_wp2_with fail
       refine hK.out _ _ (fun _=>U HV5) (fun hHeld2=>?_)
       clear hK K hHeld
       have hHeld:=hHeld2 (by decide)
       clear hHeld2
       try simp only[put,sA,sB,sC]
       refine last_one (i:=3) (by kernel_rfl) rfl (fun K hK=>?_)
       go_simp
       (go_at_call 184;refine (binary_any 15 M N a _ (fun b=>b2 < b∧b ≠ b3) w5 (U HXA5) (U HXN5)).mono ?_;rintro e w6 ⟨M6,rfl,hx6,hb6⟩;have HV6:=V ((U HV5).below hb6);have HX6:=V hx6;have HB6:=V hb6;clear hx6 hb6)
       go_wp2_with fail
       refine hK.out _ _ (fun _=>U HV6) (fun hHeld2=>?_)
       clear hK K hHeld
       have hHeld:=hHeld2 (by decide)
       clear hHeld2
       try simp only[put,sA,sB,sC]
       refine last_one (i:=4) (by kernel_rfl) rfl (fun K hK=>?_)
       rw [if_pos (by rfl)]
       refine wp_store_mid 29 (.tmp 3) (.tmp 29) rfl b3 0 M6.toArray rfl rfl (by rw [List.size_toArray,(U HX6).len];exact (U HV6).there) (by rw [List.size_toArray,(U HX6).len];exact sizeEx) (all_oneCell_toArray (U HX6).one) ?_
       refine hK.out _ _ (fun h=>absurd rfl h) (fun _=>?_)
       clear hK K hHeld
       try simp only[put,sA,sB,sC]
       refine last_done (by kernel_rfl) ?_ _
       go_wp2_with fail
       have HNX:Hid (LW T p bt c b2 b3 (muS T S) w (w6.setCells b3 0 M6) R (loopG T sub [42] [47] [37] 13 14 15) M6 (binE 15 a (sub (nextS T S1)).1) (sub (nextS T S1)).2 m'):=by
        have h1:=U HM1
        have h2:=U HM5
        refine (U HLK).next (w5:=w6) ?_ ((U HP5).below (U HB6)) (((U HF4).drew.trans (U HF5)).trans (FrX.of_below (U HB6))) (U HEQ) (by omega) (by omega) (U HLZ).2 (U HLZ).1 (U HNE2).1
        refine (U HX6).keep (fun _ _ _=>rfl) (fun b _ q=>?_)
        rcases q with q | q
        · exact q
        · have h3:=(U HF5).size
          have h4:=U HLT4
          have h5:=(U HLK).b3p
          exact ⟨by omega,by omega⟩
       have HDEC:Hid (muS T (sub (nextS T S1)).2 < muS T S1):=by
        have h1:=U HM1
        have h2:=U HM5
        show _ < _
        omega
       go_roundg (muS T (sub (nextS T S1)).2)
       case rel=>exact ⟨_,_,_,_,rfl,HNX⟩
       case measure=>exact U HDEC
     | false=>
      have HEQ:Hid (R=(a,S1)):=by
       have h:=(U HL).eq
       show R=_
       rw [← h]
       cases m with
       | zero=>rfl
       | succ m=>rw [loopG,if_neg (by rw [hn1];decide),if_neg (by rw [hn2];decide),if_neg (by rw [hy];decide)]
      have HN1:Hid (isS T 5 [42] S1=false):=hn1
      have HN2:Hid (isS T 5 [47] S1=false):=hn2
      have HN3:Hid (isS T 5 [37] S1=false):=hy
      clear hn1 hn2 hy
      as_aux_lemma=>
       go_upto_region 3 with (first | (go_at_call 96;refine (lw_ok (U HL) (U HLZ).1 hplt).mono ?_;rw [U HE0];rintro e w1 ⟨rfl,HL1⟩) | (go_at_call 95;refine (lw_no hT (U HL1) (U HN1) (U HLZ).1 hplt).mono ?_;rintro e w2 ⟨rfl,HL2⟩;clear HN1) | (go_at_call 95;refine (lw_no hT (U HL2) (U HN2) (U HLZ).1 hplt).mono ?_;rintro e w3 ⟨rfl,HL3⟩;clear HN2) | (go_at_call 95;refine (lw_no hT (U HL3) (U HN3) (U HLZ).1 hplt).mono ?_;rintro e w4 ⟨rfl,HL4⟩;clear HN3))
       have hlen:=(U HL4).ex.len
       refine wp_region_list ?_
       refine wpList_load_mid rfl 29 (.tmp 3) rfl b3 0 rfl M _ (U HL4).var.range Tryz.underlying29 rfl (by rw [hlen];exact sizeEx) ?_
       refine wpList_store_mid rfl 29 (.tmp 2) (.tmp 8) rfl b2 0 M.toArray rfl rfl (by rw [List.size_toArray,hlen];exact (U HL4).out.there) (by rw [List.size_toArray,hlen];exact sizeEx) (all_oneCell_toArray (U HL4).ex.one) ?_
       go_wp2_with fail
       obtain ⟨h1,h2⟩:=(U HL4).done (S0:=S) (U HEQ) (Nat.le_refl _) (U HNE2).2 (U HNE2).1
       exact bodyPost_ret (h1.result rfl _ rfl) rfl (U HRB _ _ h2)
end Go.Proofs.YtpnonhjmpnbmcaaGreatDoor
