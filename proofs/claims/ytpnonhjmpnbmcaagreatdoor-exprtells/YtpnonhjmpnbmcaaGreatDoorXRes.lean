/- The document's expressions resolved: scope.expr. -/
import Derived.Test.YtpnonhjmpnbmcaaGreatDoorXCol
namespace Go.Proofs.YtpnonhjmpnbmcaaGreatDoor
open Go.RowKit Go.Lib
open Act (put)
set_option linter.unusedSimpArgs false
set_option linter.unusedVariables false
set_option maxHeartbeats 12800000
set_option maxRecDepth 100000
def RsC (m:Nat):Prop:=∀ (w:World) (M:List Value) (E:Ex) (v0 v3:Value),v0.oneCell'=true→v3.oneCell'=true→CoAt w v0→ExM w (fun b=>b < w.heap.size) M E→isE E=true→szF E.2 < m→Calls Tryz.prog 45 #[.agg #[v0,.bool false,.bool false,v3,.bool true],.agg M.toArray] w (ReP (fun b=>w.heap.size ≤ b) w (resE E))
theorem res_step (mm:Nat) (ih:RsC mm):RsC (mm+1):=by
 intro w M E v0 v3 hv0 hv3 hco h his hsz
 have hlM:=h.len
 obtain ⟨args,rfl,hs⟩:=h
 obtain ⟨n,F⟩:=E
 dsimp only at hs hlM hsz ⊢
 obtain ⟨a,k,rfl⟩:=slAt_slice hs
 have hcnt:=slAt_cnt hs
 have hcI:(cnt F:Int) ≤ 9223372036854775807:=by unfold maxLen at hcnt;omega
 have HX0:=V (RX.new (v0:=v0) (v3:=v3) (n:=n) hs)
 have HCO:=V hco
 simp only[isE,Bool.and_eq_true] at his
 have HIS:=V his
 have HSZ:=V hsz
 obtain ⟨M,hM⟩:∃ M,M=ndC n (.slice a (cnt F) k):=⟨_,rfl⟩
 obtain ⟨R,hR⟩:∃ R,R=resE (n,F):=⟨_,rfl⟩
 have HRE:=V hR
 obtain ⟨PP,hPP⟩:∃ PP,PP=ReP (fun b=>w.heap.size ≤ b) w R:=⟨_,rfl⟩
 have HPP:=V hPP
 have HMM:=V hM
 rw [← hM] at hlM HX0 ⊢
 rw [← hR,← hPP]
 have hkk:n.kind=1 ∨ n.kind=2 ∨ n.kind=7 ∨ (n.kind ≠ 1∧n.kind ≠ 2∧n.kind ≠ 7∧(n.kind=3 ∨ n.kind=4 ∨ n.kind=5 ∨ n.kind=6)):=by
  have h:=isNd_kind his.2
  omega
 clear hM hR hs hPP hco his hsz
 unfold zL at HX0
 go_enter Tryz.func45,Tryz.ntmps45
 go_upto_region 1 with fail
 obtain ⟨w1,hw1⟩:∃ w1,w1=((w.alloc (.cells #[v0,.bool false,.bool false,v3,.bool true] 119)).alloc (.cells M.toArray 29)).alloc (.cells zL.toArray 29):=⟨_,rfl⟩
 unfold zL at hw1
 rw [← hw1] at HX0
 rw [← hw1]
 clear hw1
 have hz2:w.heap.size+1+1=w.heap.size+2:=rfl
 try rw [hz2]
 obtain ⟨b0,hb0⟩:∃ b0,b0=w.heap.size:=⟨_,rfl⟩
 obtain ⟨b1,hb1⟩:∃ b1,b1=w.heap.size+1:=⟨_,rfl⟩
 obtain ⟨b2,hb2⟩:∃ b2,b2=w.heap.size+2:=⟨_,rfl⟩
 rw [← hb2,← hb1,← hb0] at HX0
 rw [← hb2,← hb1,← hb0]
 clear hz2
 have HBB:=V (And.intro hb0 (And.intro hb1 hb2))
 clear hb0 hb1 hb2
 obtain ⟨c0,c2,c7,c9,f9,f7⟩:=(U HX0).cells
 rcases hkk with hk | hk | hk | ⟨hk1,hk2,hk7,hk⟩
 · skip
   as_aux_lemma=>
    have HR:Hid (R=.ok ({ n with ty:=n.vk },F)):=by
     show R=_
     rw [U HRE]
     show ndR n F _=_
     unfold ndR
     rw [if_pos hk]
    have HN:Hid (F=.nil):=by
     have h:=(U HIS).2
     unfold isNd at h
     rw [if_pos hk] at h
     simp only[Bool.and_eq_true,beq_iff_eq] at h
     have h2:=h.2.2.1
     show F=_
     cases hF:F with
     | nil=>rfl
     | node _ _ _ _ _=>rw [hF] at h2;exact absurd h2 (Nat.succ_ne_zero _)
    rw [hk] at c0
    clear HSZ
    go_upto_region 4 with fail
    obtain ⟨hlow,hout,hva,hkeep⟩:=(U HX0).set 9 (.int .i64 n.vk)
    have hva':VrX (w1.setCell ⟨b1,9,none⟩ (.int .i64 n.vk)) b1 (ndC { n with ty:=n.vk } (.slice a (cnt F) k)):=⟨by rw [hva];rfl,rfl⟩
    obtain ⟨w2,hw2⟩:∃ w2,w2=w1.setCell ⟨b1,9,none⟩ (.int .i64 n.vk):=⟨_,rfl⟩
    rw [← hw2] at hlow hout hva'
    rw [← hw2]
    clear hw2 hva hkeep
    refine wp_region_list ?_
    refine wpList_load_mid rfl 29 (.tmp 3) rfl b1 0 rfl (ndC { n with ty:=n.vk } (.slice a (cnt F) k)) _ hva'.range Tryz.underlying29 rfl sizeEx ?_
    simp only[put,sA,sB,sC]
    refine wpList_store_mid rfl 29 (.tmp 4) (.tmp 18) rfl b2 0 (ndC { n with ty:=n.vk } (.slice a (cnt F) k)).toArray rfl rfl hout.there sizeEx (all_oneCell_toArray (ndC_one rfl)) ?_
    show wpList _ _ _ _ _ (w2.setCells b2 0 (ndC { n with ty:=n.vk } (.slice a (cnt F) k)))
    refine lt 5 (.int .i64 0) ?_
    simp only[put,sA,sB,sC]
    go_wp2_with fail
    have hs:=hout.set (M':=(ndC { n with ty:=n.vk } (.slice a (cnt F) k))) rfl
    refine bodyPost_ret (hs.result2 rfl _ rfl) rfl ?_
    rw [U HPP,U HR]
    obtain ⟨e1,e2,e3,e4⟩:=setCells_env b2 (ndC { n with ty:=n.vk } (.slice a (cnt F) k)) 0 w2
    have h2:=(U HX0).p2
    refine ⟨⟨e1.trans hlow.os,e2.trans hlow.tape,e3.trans hlow.output,by rw [e4];exact hlow.size,fun b hb=>(setCells_heap b2 (ndC { n with ty:=n.vk } (.slice a (cnt F) k)) 0 w2 b (by omega)).trans (hlow.block b hb)⟩,_,rfl,_,rfl,?_⟩
    have hsl:=(U HX0).sl
    rw [U HN] at hsl ⊢
    exact slAt_nil hsl
 · skip
   as_aux_lemma=>
    have HF:Hid (R=resE (n,F)):=HRE
    have HN:Hid (F=.nil):=by
     have h:=(U HIS).2
     unfold isNd at h
     rw [if_neg (by omega),if_pos hk] at h
     simp only[Bool.and_eq_true,beq_iff_eq] at h
     have h2:=h.2.2.1
     show F=_
     cases hF:F with
     | nil=>rfl
     | node _ _ _ _ _=>rw [hF] at h2;exact absurd h2 (Nat.succ_ne_zero _)
    have HL2:=V (U HX0).low
    have HO2:=V (U HX0).out
    have HV2:=V (U HX0).va
    have HZ1:Hid (b2 < w1.heap.size):=ltX (U HX0).out.1
    have HCC:Hid (Calls Tryz.prog 99 #[.agg #[v0,.bool false,.bool false,v3,.bool true],.agg (ndC n (.slice a (cnt F) k)).toArray] w1 (ReP (fun b=>w1.heap.size ≤ b) w1 (resE (n,F)))):=
     col_any w1 _ (n,F) v0 v3 hv3 ⟨_,rfl,(U HX0).sl.keep (fun _ _ _=>rfl) (fun b hl _=>hl)⟩ ((U HCO).below (U HX0).low) hk (U HN)
    rw [hk] at c0
    clear HSZ HRE c2 c7 c9 f9 f7
    go_upto_region 6 with fail
    refine wp_region_list ?_
    refine wpList_load_mid rfl 119 (.tmp 2) rfl b0 0 rfl [v0,.bool false,.bool false,v3,.bool true] _ (sc_range (U HX0).sc) Tryz.underlying119 rfl sizeSc ?_
    simp only[put,sA,sB,sC]
    refine wpList_load_mid rfl 29 (.tmp 3) rfl b1 0 rfl (ndC n (.slice a (cnt F) k)) _ (U HV2).range Tryz.underlying29 rfl sizeEx ?_
    refine list_call rfl (some 23) rfl 99 #[.agg #[v0,.bool false,.bool false,v3,.bool true],.agg (ndC n (.slice a (cnt F) k)).toArray] (by kernel_rfl) (U HCC) ?_
    clear HCC
    rintro e w3 ⟨hb3,hpost⟩
    have hzz:=U HZ1
    cases hT:resE (n,F) with
    | error c=>
     rw [hT] at hpost
     have hp2:e=.returned (.tuple #[.agg zL.toArray,.int .i64 c]):=hpost
     subst hp2
     refine ⟨_,rfl,?_⟩
     refine lt 24 (.agg zL.toArray) ?_
     refine lt 25 (.int .i64 c) ?_
     simp only[put,sA,sB,sC]
     have hzN:zL.toArray.size=10:=by rfl
     have hout:=(U HO2).below hb3
     refine wpList_store_mid rfl 29 (.tmp 4) (.tmp 24) rfl b2 0 zL.toArray rfl rfl (by rw [hzN];exact hout.there) (by rw [hzN];exact sizeEx) (all_oneCell_toArray (by decide)) ?_
     show wpList _ _ _ _ _ (w3.setCells b2 0 zL)
     refine lt 5 (.int .i64 c) ?_
     simp only[put,sA,sB,sC]
     go_wp2_with fail
     have hs:=hout.set (M':=zL) rfl
     refine bodyPost_ret (hs.result2 rfl _ rfl) rfl ?_
     have h2:=(U HBB).2.2
     have h0:=(U HBB).1
     have hl2:=(U HL2)
     have hz:=hl2.size
     have hlow:Below w.heap.size w w3:=⟨hb3.os.trans hl2.os,hb3.tape.trans hl2.tape,hb3.output.trans hl2.output,Nat.le_trans hl2.size hb3.size,fun b hb=>(hb3.block b (by omega)).trans (hl2.block b hb)⟩
     rw [U HPP,U HF,hT]
     exact ⟨below_setCells hlow (by omega) 0 zL,rfl⟩
    | ok E2=>
     rw [hT] at hpost
     obtain ⟨N,rfl,hxN⟩:=hpost
     refine ⟨_,rfl,?_⟩
     refine lt 24 (.agg N.toArray) ?_
     refine lt 25 (.int .i64 0) ?_
     simp only[put,sA,sB,sC]
     have hzN:N.toArray.size=10:=by simpa using hxN.len
     have hout:=(U HO2).below hb3
     refine wpList_store_mid rfl 29 (.tmp 4) (.tmp 24) rfl b2 0 N.toArray rfl rfl (by rw [hzN];exact hout.there) (by rw [hzN];exact sizeEx) (all_oneCell_toArray hxN.one) ?_
     show wpList _ _ _ _ _ (w3.setCells b2 0 N)
     refine lt 5 (.int .i64 0) ?_
     simp only[put,sA,sB,sC]
     go_wp2_with fail
     have hs:=hout.set (M':=N) hxN.len
     refine bodyPost_ret (hs.result2 rfl _ rfl) rfl ?_
     have h2:=(U HBB).2.2
     have h0:=(U HBB).1
     have hl2:=(U HL2)
     have hz:=hl2.size
     have hlow:Below w.heap.size w w3:=⟨hb3.os.trans hl2.os,hb3.tape.trans hl2.tape,hb3.output.trans hl2.output,Nat.le_trans hl2.size hb3.size,fun b hb=>(hb3.block b (by omega)).trans (hl2.block b hb)⟩
     rw [U HPP,U HF,hT]
     exact ⟨below_setCells hlow (by omega) 0 N,N,rfl,(hxN.setCells (fun h=>absurd h (by omega)) N).keep (fun _ _ _=>rfl) (fun b _ q=>by have q2:w1.heap.size ≤ b:=q;omega)⟩
 · skip
   as_aux_lemma=>
    have HR:Hid (R=.error 4):=by
     show R=_
     rw [U HRE]
     show ndR n F _=_
     unfold ndR
     rw [if_neg (by omega),if_neg (by omega),if_pos hk]
    rw [hk] at c0
    have q1:w1.cell? ⟨b0,1,none⟩=some (.bool false):=cellX (U HX0).sc 1
    have HL2:=V (U HX0).low
    have HO2:=V (U HX0).out
    clear HSZ HRE c2 c7 c9 f9 f7
    go_upto_region 9 with fail
    refine wp_region_list ?_
    refine lt 31 (.agg zL.toArray) ?_
    simp only[put,sA,sB,sC]
    refine wpList_store_mid rfl 29 (.tmp 4) (.tmp 31) rfl b2 0 zL.toArray rfl rfl (U HO2).there sizeEx (all_oneCell_toArray (by decide)) ?_
    show wpList _ _ _ _ _ (w1.setCells b2 0 zL)
    refine lt 5 (.int .i64 4) ?_
    simp only[put,sA,sB,sC]
    go_wp2_with fail
    have hs:=(U HO2).set (M':=zL) rfl
    refine bodyPost_ret (hs.result2 rfl _ rfl) rfl ?_
    rw [U HPP,U HR]
    exact ⟨below_setCells (U HL2) (by have h2:=(U HBB).2.2;omega) 0 zL,rfl⟩
 · skip
   have e1:(n.kind == 1)=false:=beq_eq_false_iff_ne.2 hk1
   have e2:(n.kind == 2)=false:=beq_eq_false_iff_ne.2 hk2
   have e7:(n.kind == 7)=false:=beq_eq_false_iff_ne.2 hk7
   have HKI:=V hk
   have HCN:Hid (cnt F ≤ 21):=by
    have h:=(U HIS).2
    have hk:=U HKI
    show cnt F ≤ 21
    unfold isNd at h
    simp only[Bool.and_eq_true] at h
    have h2:=h.2
    rcases hk with hk | hk | hk | hk <;> rw [hk] at h2 <;> simp at h2 <;> omega
   obtain ⟨RL,hRL⟩:∃ RL,RL=resL (toL F):=⟨_,rfl⟩
   have HR:Hid (R=resK n RL):=by
    show R=_
    rw [U HRE,hRL]
    show ndR n F _=_
    unfold ndR
    rw [if_neg hk1,if_neg hk2,if_neg hk7,resF_L]
    cases resL (toL F) <;> rfl
   have HL0:Hid (RLX w w1 b0 b1 b2 v0 v3 n F a k none 0 0 [] RL 0):=⟨U HX0,⟨⟨rfl,.inl ⟨rfl,rfl⟩⟩,rfl,fun _ h=>by cases h⟩,by rw [List.drop_zero,← hRL];cases RL <;> rfl,rfl⟩
   clear hk1 hk2 hk7 hk hRL c7 c9 f9 f7 HRE
   go_wp2_with fail
   clear e1 e2 e7 c0 HX0
   go_loopg [6,7,8,9] (cnt F) (fun g s6 s7 s8 s9 wr=>∃ (i:Nat) (ar:Option Addr) (kr:Nat) (Es:List (List Value × Ex)),g=cnt F - i∧s6=.slice ar i kr∧s7=.int .i64 (i:Int)∧i ≤ cnt F∧Hid (RLX w wr b0 b1 b2 v0 v3 n F a k ar i kr Es RL i))
   case atStart=>exact ⟨0,none,0,[],rfl,rfl,rfl,Nat.zero_le _,HL0⟩
   case round=>
    obtain ⟨i,ar,kr,Es,rfl,rfl,rfl,hi,HG⟩:=hrel
    clear HL0
    obtain ⟨c0,c2,c7,c9,f9,f7⟩:=(U HG).rx.cells
    clear c0 c2 c9 f9 f7
    have hi0:(0:Int) ≤ (i:Int):=by omega
    by_cases hlt:i < cnt F
    · have hiI:(i:Int) < (cnt F:Int):=by omega
      go_upto_region 15 with fail
      skip
      obtain ⟨x,hx⟩:∃ x,(toL F)[i]?=some x:=⟨_,List.getElem?_eq_getElem (by rw [← cnt_toL];exact hlt)⟩
      rcases (U HG).rx.sl with ⟨hf,_⟩ | ⟨bq,oq,cq,he,hc1,hc2,hrow⟩
      · rw [hf] at hlt;exact absurd hlt (Nat.not_lt_zero _)
      injection he with q1 _ q3
      subst q1
      subst q3
      obtain ⟨N0,hN,hrg,hbq⟩:=row_nth F i bq oq x hrow hx
      have hdr:(toL F).drop i=x :: (toL F).drop (i+1):=by
       rw [List.getElem?_eq_some_iff] at hx
       obtain ⟨hx1,hx2⟩:=hx
       rw [List.drop_eq_getElem_cons hx1,hx2]
      have HEQ:Hid (RL=joinR (Es.map (·.2)) (resL (x :: (toL F).drop (i+1)))):=by
       show RL=_
       rw [← hdr]
       exact (U HG).eq
      have hlN0:=hN.len
      have HRG:=V hrg
      have HAP:Hid (∀ b,wr.heap.size ≤ b→b2+1 ≤ b∧(Value.slice ar i kr).ownBlock ≠ some b):=fun b hb=>⟨by have:=ltX (U HG).rx.out.1;omega,fun e=>by have:=((U HG).row.own b e).2;omega⟩
      have HC:Hid (∀ W,Below wr.heap.size wr W→Calls Tryz.prog 45 #[.agg #[v0,.bool false,.bool false,v3,.bool true],.agg N0.toArray] W (ReP (fun b=>W.heap.size ≤ b) W (resE x))):=fun W hb=>ih W N0 x v0 v3 hv0 hv3 ((U HCO).below (trX (U HG).rx.low hb)) (hN.keep (fun b _ hl=>hb.block b hl) (fun b hl _=>Nat.lt_of_lt_of_le hl hb.size)) (isF_get F i x (U HIS).1 hx) (by have h1:=szF_get F i x hx;have h2:=U HSZ;omega)
      clear hx hdr hN hrg hrow hbq hc1 hc2
      cases hy:resE x with
      | error c=>
       have HY:=V hy
       clear hy
       skip
       go_cut [8,9] from 41 to 50 (fun s8 s9 wx=>∃ (b8:Nat) (N:List Value),s8=.pointer (some ⟨b8,0,none⟩)∧s9=.int .i64 c∧Hid (VrX wx b8 N∧RLX w wx b0 b1 b2 v0 v3 n F (some ⟨bq,oq,none⟩) k ar i kr Es RL i∧N=zL))
       case first=>
        as_aux_lemma=>
         refine wp_region_held_drew (S:=fun w'=>w'.heap[b0]?=some (.cells #[v0,.bool false,.bool false,v3,.bool true] 119 (0,0))∧w'.cell? ⟨b1,7,none⟩=some (.slice (some ⟨bq,oq,none⟩) (cnt F) k)∧w'.rangeAt bq (oq+10 * i) N0) (by kernel_rfl) ⟨((Below.refl wr.heap.size wr).drew.block b0 (ltX (U HG).rx.sc)).trans (U HG).rx.sc,((Below.refl wr.heap.size wr).drew.cell (p:=⟨b1,7,none⟩) (ltX (U HG).rx.va.1)).trans c7,rangeAt_blk (U HRG) (fun hl=>(Below.refl wr.heap.size wr).drew.block bq hl) (by intro e;rw [e] at hlN0;cases hlN0)⟩ (fun hHeld=>?_)
         refine hu 0 42 (.agg [v0,.bool false,.bool false,v3,.bool true].toArray) rfl (yieldsIf_load_mid (by rfl) 119 (.tmp 2) rfl b0 (0) rfl [v0,.bool false,.bool false,v3,.bool true] _ (fun w' hw=>sc_range hw.1) Tryz.underlying119 rfl (sizeSc)) hHeld ?_
         simp only[put,sA,sB,sC]
         refine hand_to (i:=1) (d:=43) (v:=(.pointer (some ⟨b1,7,none⟩))) rfl rfl (by kernel_rfl) (by kernel_rfl) (by kernel_rfl) (fun _ _ _ h=>h) (Or.inl ⟨by rfl,?_⟩) hHeld ?_
         · (intro w' hSw;obtain ⟨hS1,hS2,hS3⟩:=hSw;go_simp)
         simp only[put,sA,sB,sC]
         refine hand_to (i:=2) (d:=44) (v:=(.slice (some ⟨bq,oq,none⟩) (cnt F) k)) rfl rfl (by kernel_rfl) (by kernel_rfl) (by kernel_rfl) (fun _ _ _ h=>h) (Or.inl ⟨by rfl,?_⟩) hHeld ?_
         · (intro w' hSw;obtain ⟨hS1,hS2,hS3⟩:=hSw;go_simp)
         simp only[put,sA,sB,sC]
         refine hand_to (i:=3) (d:=45) (v:=(.int .i64 (i:Int))) rfl rfl (by kernel_rfl) (by kernel_rfl) (by kernel_rfl) (fun _ _ _ h=>h) (Or.inl ⟨by rfl,?_⟩) hHeld ?_
         · (intro w' hSw;obtain ⟨hS1,hS2,hS3⟩:=hSw;go_simp)
         simp only[put,sA,sB,sC]
         refine hand_to (i:=4) (d:=46) (v:=(.pointer (some ⟨bq,oq+10 * i,none⟩))) rfl rfl (by kernel_rfl) (by kernel_rfl) (by kernel_rfl) (fun _ _ _ h=>h) (Or.inl ⟨by rfl,?_⟩) hHeld ?_
         · (intro w' hSw;obtain ⟨hS1,hS2,hS3⟩:=hSw;go_simp)
         simp only[put,sA,sB,sC]
         refine hu 5 47 (.agg N0.toArray) rfl (yieldsIf_load_mid (by rfl) 29 (.tmp 46) rfl bq (oq+10 * i) rfl N0 _ (fun w' hw=>hw.2.2) Tryz.underlying29 rfl (by rw [hlN0];exact sizeEx)) hHeld ?_
         simp only[put,sA,sB,sC]
         refine any_two (i:=6) (j:=10) (by kernel_rfl) rfl rfl (fun K hK=>?_) (fun K hK=>?_)
         · rw [if_pos (by rfl)]
           refine op_call (some 48) rfl 45 #[.agg #[v0,.bool false,.bool false,v3,.bool true],.agg N0.toArray] (by kernel_rfl) (U HC wr.drew (Below.refl _ _).drew) ?_
           rw [U HY]
           rintro e w2 ⟨hb2,rfl⟩
           refine ⟨_,rfl,?_⟩
           have hlN:zL.length=10:=rfl
           have hzN:zL.toArray.size=10:=by simpa using hlN
           have hbw:Below wr.heap.size wr w2:=(Below.refl wr.heap.size wr).drew.trans hb2
           refine hK.out _ _ ⟨(hbw.block b0 (ltX (U HG).rx.sc)).trans (U HG).rx.sc,(hbw.cell (p:=⟨b1,7,none⟩) (ltX (U HG).rx.va.1)).trans c7,rangeAt_blk (U HRG) (fun hl=>hbw.block bq hl) (by intro e;rw [e] at hlN0;cases hlN0)⟩ (fun hHeld2=>?_)
           clear hK K hHeld
           have hHeld:=hHeld2
           clear hHeld2
           try simp only[put,sA,sB,sC]
           refine hand_to (i:=7) (d:=41) (v:=(.tuple #[.agg zL.toArray,.int .i64 c])) rfl rfl (by kernel_rfl) (by kernel_rfl) (by kernel_rfl) (fun _ _ _ h=>h) (Or.inl ⟨by rfl,?_⟩) hHeld ?_
           · (intro w' hSw;obtain ⟨hS1,hS2,hS3⟩:=hSw;kernel_rfl)
           simp only[put,sA,sB,sC]
           refine hand_to (i:=8) (d:=49) (v:=(.agg zL.toArray)) rfl rfl (by kernel_rfl) (by kernel_rfl) (by kernel_rfl) (fun _ _ _ h=>h) (Or.inl ⟨by rfl,?_⟩) hHeld ?_
           · (intro w' hSw;obtain ⟨hS1,hS2,hS3⟩:=hSw;kernel_rfl)
           simp only[put,sA,sB,sC]
           refine hand_to (i:=9) (d:=50) (v:=(.int .i64 c)) rfl rfl (by kernel_rfl) (by kernel_rfl) (by kernel_rfl) (fun _ _ _ h=>h) (Or.inl ⟨by rfl,?_⟩) hHeld ?_
           · (intro w' hSw;obtain ⟨hS1,hS2,hS3⟩:=hSw;kernel_rfl)
           simp only[put,sA,sB,sC]
           refine wpAnyH_ready (rs:=[10]) (by kernel_rfl) (by simp) ?_
           refine AllReadyH.cons rfl (fun K hK=>?_) AllReadyH.nil
           rw [if_pos (by rfl)]
           refine op_new (some 8) rfl 29 rfl zL.toArray (zero_of_info zeroEx).1 ?_
           have hal:Below w2.heap.size w2 (w2.alloc (.cells zL.toArray 29)):=alX (Below.refl _ _) _
           have hbw3:Below wr.heap.size wr (w2.alloc (.cells zL.toArray 29)):=trX hbw hal
           refine hK.out _ _ ⟨(hbw3.block b0 (ltX (U HG).rx.sc)).trans (U HG).rx.sc,(hbw3.cell (p:=⟨b1,7,none⟩) (ltX (U HG).rx.va.1)).trans c7,rangeAt_blk (U HRG) (fun hl=>hbw3.block bq hl) (by intro e;rw [e] at hlN0;cases hlN0)⟩ (fun hHeld2=>?_)
           clear hK K hHeld
           have hHeld:=hHeld2
           clear hHeld2
           try simp only[put,sA,sB,sC]
           refine wpAnyH_ready (rs:=[11]) (by kernel_rfl) (by simp) ?_
           refine AllReadyH.cons rfl (fun K hK=>?_) AllReadyH.nil
           rw [if_pos (by rfl)]
           have hvn:=VrX.new w2 (M:=zL) rfl
           refine op_store rfl 29 (.tmp 8) (.tmp 49) rfl w2.heap.size 0 zL rfl rfl (by rw [hzN];exact hvn.there) (by rw [hzN];exact sizeEx) (all_oneCell_toArray (by decide)) ?_
           have hbw4:Below wr.heap.size wr ((w2.alloc (.cells zL.toArray 29)).setCells w2.heap.size 0 zL):=below_setCells hbw3 hbw.size 0 zL
           refine hK.out _ _ ⟨(hbw4.block b0 (ltX (U HG).rx.sc)).trans (U HG).rx.sc,(hbw4.cell (p:=⟨b1,7,none⟩) (ltX (U HG).rx.va.1)).trans c7,rangeAt_blk (U HRG) (fun hl=>hbw4.block bq hl) (by intro e;rw [e] at hlN0;cases hlN0)⟩ (fun hHeld2=>?_)
           clear hK K hHeld
           have hHeld:=hHeld2
           clear hHeld2
           try simp only[put,sA,sB,sC]
           refine hand_to (i:=12) (d:=9) (v:=(.int .i64 c)) rfl rfl (by kernel_rfl) (by kernel_rfl) (by kernel_rfl) (fun _ _ _ h=>h) (Or.inl ⟨by rfl,?_⟩) hHeld ?_
           · (intro w' hSw;obtain ⟨hS1,hS2,hS3⟩:=hSw;kernel_rfl)
           simp only[put,sA,sB,sC]
           refine wpAnyH_done (by kernel_rfl) ?_ _
           go_wp2_with fail
           go_meet
           refine ⟨w2.heap.size,zL,rfl,?_,V ⟨hvn.set hlN,(U HG).below hbw4,?_⟩⟩
           · rfl
           · rfl
         · rw [if_pos (by rfl)]
           refine op_new (some 8) rfl 29 rfl zL.toArray (zero_of_info zeroEx).1 ?_
           have hal:Below wr.heap.size wr (wr.drew.alloc (.cells zL.toArray 29)):=alX (Below.refl wr.heap.size wr).drew _
           have hz8:(wr.drew.alloc (.cells zL.toArray 29)).heap.size=wr.heap.size+1:=by simp
           have hvn:=VrX.new wr.drew (M:=zL) rfl
           refine hK.out _ _ ⟨(hal.block b0 (ltX (U HG).rx.sc)).trans (U HG).rx.sc,(hal.cell (p:=⟨b1,7,none⟩) (ltX (U HG).rx.va.1)).trans c7,rangeAt_blk (U HRG) (fun hl=>hal.block bq hl) (by intro e;rw [e] at hlN0;cases hlN0)⟩ (fun hHeld2=>?_)
           clear hK K hHeld
           have hHeld:=hHeld2
           clear hHeld2
           try simp only[put,sA,sB,sC]
           refine wpAnyH_ready (rs:=[6]) (by kernel_rfl) (by simp) ?_
           refine AllReadyH.cons rfl (fun K hK=>?_) AllReadyH.nil
           rw [if_pos (by rfl)]
           refine op_call (some 48) rfl 45 #[.agg #[v0,.bool false,.bool false,v3,.bool true],.agg N0.toArray] (by kernel_rfl) (U HC (wr.drew.alloc (.cells zL.toArray 29)) hal) ?_
           rw [U HY]
           rintro e w2 ⟨hb2,rfl⟩
           refine ⟨_,rfl,?_⟩
           have hlN:zL.length=10:=rfl
           have hzN:zL.toArray.size=10:=by simpa using hlN
           have hbw:Below wr.heap.size wr w2:=trX hal hb2
           have hv2:VrX w2 wr.heap.size zL:=hvn.below hb2
           refine hK.out _ _ ⟨(hbw.block b0 (ltX (U HG).rx.sc)).trans (U HG).rx.sc,(hbw.cell (p:=⟨b1,7,none⟩) (ltX (U HG).rx.va.1)).trans c7,rangeAt_blk (U HRG) (fun hl=>hbw.block bq hl) (by intro e;rw [e] at hlN0;cases hlN0)⟩ (fun hHeld2=>?_)
           clear hK K hHeld
           have hHeld:=hHeld2
           clear hHeld2
           try simp only[put,sA,sB,sC]
           refine hand_to (i:=7) (d:=41) (v:=(.tuple #[.agg zL.toArray,.int .i64 c])) rfl rfl (by kernel_rfl) (by kernel_rfl) (by kernel_rfl) (fun _ _ _ h=>h) (Or.inl ⟨by rfl,?_⟩) hHeld ?_
           · (intro w' hSw;obtain ⟨hS1,hS2,hS3⟩:=hSw;kernel_rfl)
           simp only[put,sA,sB,sC]
           refine hand_to (i:=8) (d:=49) (v:=(.agg zL.toArray)) rfl rfl (by kernel_rfl) (by kernel_rfl) (by kernel_rfl) (fun _ _ _ h=>h) (Or.inl ⟨by rfl,?_⟩) hHeld ?_
           · (intro w' hSw;obtain ⟨hS1,hS2,hS3⟩:=hSw;kernel_rfl)
           simp only[put,sA,sB,sC]
           refine hand_to (i:=9) (d:=50) (v:=(.int .i64 c)) rfl rfl (by kernel_rfl) (by kernel_rfl) (by kernel_rfl) (fun _ _ _ h=>h) (Or.inl ⟨by rfl,?_⟩) hHeld ?_
           · (intro w' hSw;obtain ⟨hS1,hS2,hS3⟩:=hSw;kernel_rfl)
           simp only[put,sA,sB,sC]
           refine wpAnyH_ready (rs:=[11]) (by kernel_rfl) (by simp) ?_
           refine AllReadyH.cons rfl (fun K hK=>?_) AllReadyH.nil
           rw [if_pos (by rfl)]
           refine op_store rfl 29 (.tmp 8) (.tmp 49) rfl wr.heap.size 0 zL rfl rfl (by rw [hzN];exact hv2.there) (by rw [hzN];exact sizeEx) (all_oneCell_toArray (by decide)) ?_
           have hbw4:Below wr.heap.size wr (w2.setCells wr.heap.size 0 zL):=below_setCells hbw (Nat.le_refl _) 0 zL
           refine hK.out _ _ ⟨(hbw4.block b0 (ltX (U HG).rx.sc)).trans (U HG).rx.sc,(hbw4.cell (p:=⟨b1,7,none⟩) (ltX (U HG).rx.va.1)).trans c7,rangeAt_blk (U HRG) (fun hl=>hbw4.block bq hl) (by intro e;rw [e] at hlN0;cases hlN0)⟩ (fun hHeld2=>?_)
           clear hK K hHeld
           have hHeld:=hHeld2
           clear hHeld2
           try simp only[put,sA,sB,sC]
           refine hand_to (i:=12) (d:=9) (v:=(.int .i64 c)) rfl rfl (by kernel_rfl) (by kernel_rfl) (by kernel_rfl) (fun _ _ _ h=>h) (Or.inl ⟨by rfl,?_⟩) hHeld ?_
           · (intro w' hSw;obtain ⟨hS1,hS2,hS3⟩:=hSw;kernel_rfl)
           simp only[put,sA,sB,sC]
           refine wpAnyH_done (by kernel_rfl) ?_ _
           go_wp2_with fail
           go_meet
           refine ⟨wr.heap.size,zL,rfl,?_,V ⟨hv2.set hlN,(U HG).below hbw4,?_⟩⟩
           · rfl
           · rfl
       case rest=>
        obtain ⟨b8,N,rfl,rfl,HZ⟩:=hcut
        have hz:=U HZ
        clear HC HRG HG c7
        have HF:Hid (R=.error c):=by
         show R=_
         rw [U HR,U HEQ]
         unfold resL
         rw [U HY]
         rfl
        have hc0:(c != 0)=true:=by
         have:=resE_err x c (U HY)
         simp;omega
        have hout:=(U HZ).2.1.rx.out
        have hlow:=(U HZ).2.1.rx.low
        have H2:=V (U HZ).2.1.rx.p2
        have hcE:(c=0)=False:=eq_false (by have:=resE_err x c (U HY);omega)
        clear hz
        go_upto_region 17 with fail
        refine wp_region_list ?_
        refine lt 53 (.agg zL.toArray) ?_
        refine lt 54 (.int .i64 c) ?_
        simp only[put,sA,sB,sC]
        refine wpList_store_mid rfl 29 (.tmp 4) (.tmp 53) rfl b2 0 zL.toArray rfl rfl hout.there sizeEx (all_oneCell_toArray (by decide)) ?_
        show wpList _ _ _ _ _ (wc.setCells b2 0 zL)
        refine lt 5 (.int .i64 c) ?_
        simp only[put,sA,sB,sC]
        go_wp2_with fail
        have hs:=hout.set (M':=zL) rfl
        refine bodyPost_ret (hs.result2 rfl _ rfl) rfl ?_
        rw [U HPP,U HF]
        exact ⟨below_setCells hlow (by have h2:=U H2;omega) 0 zL,rfl⟩
      | ok Y=>
       have HY:=V hy
       clear hy
       skip
       go_cut [8,9] from 41 to 50 (fun s8 s9 wx=>∃ (b8:Nat) (N:List Value),s8=.pointer (some ⟨b8,0,none⟩)∧s9=.int .i64 0∧Hid (VrX wx b8 N∧RLX w wx b0 b1 b2 v0 v3 n F (some ⟨bq,oq,none⟩) k ar i kr Es RL i∧ExM wx (fun b=>wr.heap.size ≤ b) N Y))
       case first=>
        as_aux_lemma=>
         refine wp_region_held_drew (S:=fun w'=>w'.heap[b0]?=some (.cells #[v0,.bool false,.bool false,v3,.bool true] 119 (0,0))∧w'.cell? ⟨b1,7,none⟩=some (.slice (some ⟨bq,oq,none⟩) (cnt F) k)∧w'.rangeAt bq (oq+10 * i) N0) (by kernel_rfl) ⟨((Below.refl wr.heap.size wr).drew.block b0 (ltX (U HG).rx.sc)).trans (U HG).rx.sc,((Below.refl wr.heap.size wr).drew.cell (p:=⟨b1,7,none⟩) (ltX (U HG).rx.va.1)).trans c7,rangeAt_blk (U HRG) (fun hl=>(Below.refl wr.heap.size wr).drew.block bq hl) (by intro e;rw [e] at hlN0;cases hlN0)⟩ (fun hHeld=>?_)
         refine hu 0 42 (.agg [v0,.bool false,.bool false,v3,.bool true].toArray) rfl (yieldsIf_load_mid (by rfl) 119 (.tmp 2) rfl b0 (0) rfl [v0,.bool false,.bool false,v3,.bool true] _ (fun w' hw=>sc_range hw.1) Tryz.underlying119 rfl (sizeSc)) hHeld ?_
         simp only[put,sA,sB,sC]
         refine hand_to (i:=1) (d:=43) (v:=(.pointer (some ⟨b1,7,none⟩))) rfl rfl (by kernel_rfl) (by kernel_rfl) (by kernel_rfl) (fun _ _ _ h=>h) (Or.inl ⟨by rfl,?_⟩) hHeld ?_
         · (intro w' hSw;obtain ⟨hS1,hS2,hS3⟩:=hSw;go_simp)
         simp only[put,sA,sB,sC]
         refine hand_to (i:=2) (d:=44) (v:=(.slice (some ⟨bq,oq,none⟩) (cnt F) k)) rfl rfl (by kernel_rfl) (by kernel_rfl) (by kernel_rfl) (fun _ _ _ h=>h) (Or.inl ⟨by rfl,?_⟩) hHeld ?_
         · (intro w' hSw;obtain ⟨hS1,hS2,hS3⟩:=hSw;go_simp)
         simp only[put,sA,sB,sC]
         refine hand_to (i:=3) (d:=45) (v:=(.int .i64 (i:Int))) rfl rfl (by kernel_rfl) (by kernel_rfl) (by kernel_rfl) (fun _ _ _ h=>h) (Or.inl ⟨by rfl,?_⟩) hHeld ?_
         · (intro w' hSw;obtain ⟨hS1,hS2,hS3⟩:=hSw;go_simp)
         simp only[put,sA,sB,sC]
         refine hand_to (i:=4) (d:=46) (v:=(.pointer (some ⟨bq,oq+10 * i,none⟩))) rfl rfl (by kernel_rfl) (by kernel_rfl) (by kernel_rfl) (fun _ _ _ h=>h) (Or.inl ⟨by rfl,?_⟩) hHeld ?_
         · (intro w' hSw;obtain ⟨hS1,hS2,hS3⟩:=hSw;go_simp)
         simp only[put,sA,sB,sC]
         refine hu 5 47 (.agg N0.toArray) rfl (yieldsIf_load_mid (by rfl) 29 (.tmp 46) rfl bq (oq+10 * i) rfl N0 _ (fun w' hw=>hw.2.2) Tryz.underlying29 rfl (by rw [hlN0];exact sizeEx)) hHeld ?_
         simp only[put,sA,sB,sC]
         refine any_two (i:=6) (j:=10) (by kernel_rfl) rfl rfl (fun K hK=>?_) (fun K hK=>?_)
         · rw [if_pos (by rfl)]
           refine op_call (some 48) rfl 45 #[.agg #[v0,.bool false,.bool false,v3,.bool true],.agg N0.toArray] (by kernel_rfl) (U HC wr.drew (Below.refl _ _).drew) ?_
           rw [U HY]
           rintro e w2 ⟨hb2,N,rfl,hx2⟩
           refine ⟨_,rfl,?_⟩
           have hlN:=hx2.len
           have hzN:N.toArray.size=10:=by simpa using hlN
           have hbw:Below wr.heap.size wr w2:=(Below.refl wr.heap.size wr).drew.trans hb2
           refine hK.out _ _ ⟨(hbw.block b0 (ltX (U HG).rx.sc)).trans (U HG).rx.sc,(hbw.cell (p:=⟨b1,7,none⟩) (ltX (U HG).rx.va.1)).trans c7,rangeAt_blk (U HRG) (fun hl=>hbw.block bq hl) (by intro e;rw [e] at hlN0;cases hlN0)⟩ (fun hHeld2=>?_)
           clear hK K hHeld
           have hHeld:=hHeld2
           clear hHeld2
           try simp only[put,sA,sB,sC]
           refine hand_to (i:=7) (d:=41) (v:=(.tuple #[.agg N.toArray,.int .i64 0])) rfl rfl (by kernel_rfl) (by kernel_rfl) (by kernel_rfl) (fun _ _ _ h=>h) (Or.inl ⟨by rfl,?_⟩) hHeld ?_
           · (intro w' hSw;obtain ⟨hS1,hS2,hS3⟩:=hSw;kernel_rfl)
           simp only[put,sA,sB,sC]
           refine hand_to (i:=8) (d:=49) (v:=(.agg N.toArray)) rfl rfl (by kernel_rfl) (by kernel_rfl) (by kernel_rfl) (fun _ _ _ h=>h) (Or.inl ⟨by rfl,?_⟩) hHeld ?_
           · (intro w' hSw;obtain ⟨hS1,hS2,hS3⟩:=hSw;kernel_rfl)
           simp only[put,sA,sB,sC]
           refine hand_to (i:=9) (d:=50) (v:=(.int .i64 0)) rfl rfl (by kernel_rfl) (by kernel_rfl) (by kernel_rfl) (fun _ _ _ h=>h) (Or.inl ⟨by rfl,?_⟩) hHeld ?_
           · (intro w' hSw;obtain ⟨hS1,hS2,hS3⟩:=hSw;kernel_rfl)
           simp only[put,sA,sB,sC]
           refine wpAnyH_ready (rs:=[10]) (by kernel_rfl) (by simp) ?_
           refine AllReadyH.cons rfl (fun K hK=>?_) AllReadyH.nil
           rw [if_pos (by rfl)]
           refine op_new (some 8) rfl 29 rfl zL.toArray (zero_of_info zeroEx).1 ?_
           have hal:Below w2.heap.size w2 (w2.alloc (.cells zL.toArray 29)):=alX (Below.refl _ _) _
           have hbw3:Below wr.heap.size wr (w2.alloc (.cells zL.toArray 29)):=trX hbw hal
           refine hK.out _ _ ⟨(hbw3.block b0 (ltX (U HG).rx.sc)).trans (U HG).rx.sc,(hbw3.cell (p:=⟨b1,7,none⟩) (ltX (U HG).rx.va.1)).trans c7,rangeAt_blk (U HRG) (fun hl=>hbw3.block bq hl) (by intro e;rw [e] at hlN0;cases hlN0)⟩ (fun hHeld2=>?_)
           clear hK K hHeld
           have hHeld:=hHeld2
           clear hHeld2
           try simp only[put,sA,sB,sC]
           refine wpAnyH_ready (rs:=[11]) (by kernel_rfl) (by simp) ?_
           refine AllReadyH.cons rfl (fun K hK=>?_) AllReadyH.nil
           rw [if_pos (by rfl)]
           have hvn:=VrX.new w2 (M:=zL) rfl
           refine op_store rfl 29 (.tmp 8) (.tmp 49) rfl w2.heap.size 0 N rfl rfl (by rw [hzN];exact hvn.there) (by rw [hzN];exact sizeEx) (all_oneCell_toArray hx2.one) ?_
           have hbw4:Below wr.heap.size wr ((w2.alloc (.cells zL.toArray 29)).setCells w2.heap.size 0 N):=below_setCells hbw3 hbw.size 0 N
           refine hK.out _ _ ⟨(hbw4.block b0 (ltX (U HG).rx.sc)).trans (U HG).rx.sc,(hbw4.cell (p:=⟨b1,7,none⟩) (ltX (U HG).rx.va.1)).trans c7,rangeAt_blk (U HRG) (fun hl=>hbw4.block bq hl) (by intro e;rw [e] at hlN0;cases hlN0)⟩ (fun hHeld2=>?_)
           clear hK K hHeld
           have hHeld:=hHeld2
           clear hHeld2
           try simp only[put,sA,sB,sC]
           refine hand_to (i:=12) (d:=9) (v:=(.int .i64 0)) rfl rfl (by kernel_rfl) (by kernel_rfl) (by kernel_rfl) (fun _ _ _ h=>h) (Or.inl ⟨by rfl,?_⟩) hHeld ?_
           · (intro w' hSw;obtain ⟨hS1,hS2,hS3⟩:=hSw;kernel_rfl)
           simp only[put,sA,sB,sC]
           refine wpAnyH_done (by kernel_rfl) ?_ _
           go_wp2_with fail
           go_meet
           refine ⟨w2.heap.size,N,rfl,?_,V ⟨hvn.set hlN,(U HG).below hbw4,?_⟩⟩
           · rfl
           · exact ((hx2.keep (Q:=_) (Q':=fun b=>wr.heap.size ≤ b∧b ≠ w2.heap.size) (fun b _ hl=>hal.block b hl) (fun b hl q=>⟨q,by omega⟩)).setCells (fun h=>h.2 rfl) N).keep (fun _ _ _=>rfl) (fun b _ q=>q.1)
         · rw [if_pos (by rfl)]
           refine op_new (some 8) rfl 29 rfl zL.toArray (zero_of_info zeroEx).1 ?_
           have hal:Below wr.heap.size wr (wr.drew.alloc (.cells zL.toArray 29)):=alX (Below.refl wr.heap.size wr).drew _
           have hz8:(wr.drew.alloc (.cells zL.toArray 29)).heap.size=wr.heap.size+1:=by simp
           have hvn:=VrX.new wr.drew (M:=zL) rfl
           refine hK.out _ _ ⟨(hal.block b0 (ltX (U HG).rx.sc)).trans (U HG).rx.sc,(hal.cell (p:=⟨b1,7,none⟩) (ltX (U HG).rx.va.1)).trans c7,rangeAt_blk (U HRG) (fun hl=>hal.block bq hl) (by intro e;rw [e] at hlN0;cases hlN0)⟩ (fun hHeld2=>?_)
           clear hK K hHeld
           have hHeld:=hHeld2
           clear hHeld2
           try simp only[put,sA,sB,sC]
           refine wpAnyH_ready (rs:=[6]) (by kernel_rfl) (by simp) ?_
           refine AllReadyH.cons rfl (fun K hK=>?_) AllReadyH.nil
           rw [if_pos (by rfl)]
           refine op_call (some 48) rfl 45 #[.agg #[v0,.bool false,.bool false,v3,.bool true],.agg N0.toArray] (by kernel_rfl) (U HC (wr.drew.alloc (.cells zL.toArray 29)) hal) ?_
           rw [U HY]
           rintro e w2 ⟨hb2,N,rfl,hx2⟩
           refine ⟨_,rfl,?_⟩
           have hlN:=hx2.len
           have hzN:N.toArray.size=10:=by simpa using hlN
           have hbw:Below wr.heap.size wr w2:=trX hal hb2
           have hv2:VrX w2 wr.heap.size zL:=hvn.below hb2
           refine hK.out _ _ ⟨(hbw.block b0 (ltX (U HG).rx.sc)).trans (U HG).rx.sc,(hbw.cell (p:=⟨b1,7,none⟩) (ltX (U HG).rx.va.1)).trans c7,rangeAt_blk (U HRG) (fun hl=>hbw.block bq hl) (by intro e;rw [e] at hlN0;cases hlN0)⟩ (fun hHeld2=>?_)
           clear hK K hHeld
           have hHeld:=hHeld2
           clear hHeld2
           try simp only[put,sA,sB,sC]
           refine hand_to (i:=7) (d:=41) (v:=(.tuple #[.agg N.toArray,.int .i64 0])) rfl rfl (by kernel_rfl) (by kernel_rfl) (by kernel_rfl) (fun _ _ _ h=>h) (Or.inl ⟨by rfl,?_⟩) hHeld ?_
           · (intro w' hSw;obtain ⟨hS1,hS2,hS3⟩:=hSw;kernel_rfl)
           simp only[put,sA,sB,sC]
           refine hand_to (i:=8) (d:=49) (v:=(.agg N.toArray)) rfl rfl (by kernel_rfl) (by kernel_rfl) (by kernel_rfl) (fun _ _ _ h=>h) (Or.inl ⟨by rfl,?_⟩) hHeld ?_
           · (intro w' hSw;obtain ⟨hS1,hS2,hS3⟩:=hSw;kernel_rfl)
           simp only[put,sA,sB,sC]
           refine hand_to (i:=9) (d:=50) (v:=(.int .i64 0)) rfl rfl (by kernel_rfl) (by kernel_rfl) (by kernel_rfl) (fun _ _ _ h=>h) (Or.inl ⟨by rfl,?_⟩) hHeld ?_
           · (intro w' hSw;obtain ⟨hS1,hS2,hS3⟩:=hSw;kernel_rfl)
           simp only[put,sA,sB,sC]
           refine wpAnyH_ready (rs:=[11]) (by kernel_rfl) (by simp) ?_
           refine AllReadyH.cons rfl (fun K hK=>?_) AllReadyH.nil
           rw [if_pos (by rfl)]
           refine op_store rfl 29 (.tmp 8) (.tmp 49) rfl wr.heap.size 0 N rfl rfl (by rw [hzN];exact hv2.there) (by rw [hzN];exact sizeEx) (all_oneCell_toArray hx2.one) ?_
           have hbw4:Below wr.heap.size wr (w2.setCells wr.heap.size 0 N):=below_setCells hbw (Nat.le_refl _) 0 N
           refine hK.out _ _ ⟨(hbw4.block b0 (ltX (U HG).rx.sc)).trans (U HG).rx.sc,(hbw4.cell (p:=⟨b1,7,none⟩) (ltX (U HG).rx.va.1)).trans c7,rangeAt_blk (U HRG) (fun hl=>hbw4.block bq hl) (by intro e;rw [e] at hlN0;cases hlN0)⟩ (fun hHeld2=>?_)
           clear hK K hHeld
           have hHeld:=hHeld2
           clear hHeld2
           try simp only[put,sA,sB,sC]
           refine hand_to (i:=12) (d:=9) (v:=(.int .i64 0)) rfl rfl (by kernel_rfl) (by kernel_rfl) (by kernel_rfl) (fun _ _ _ h=>h) (Or.inl ⟨by rfl,?_⟩) hHeld ?_
           · (intro w' hSw;obtain ⟨hS1,hS2,hS3⟩:=hSw;kernel_rfl)
           simp only[put,sA,sB,sC]
           refine wpAnyH_done (by kernel_rfl) ?_ _
           go_wp2_with fail
           go_meet
           refine ⟨wr.heap.size,N,rfl,?_,V ⟨hv2.set hlN,(U HG).below hbw4,?_⟩⟩
           · rfl
           · exact ((hx2.keep (Q:=_) (Q':=fun b=>wr.heap.size ≤ b∧b ≠ wr.heap.size) (fun _ _ _=>rfl) (fun b hl q=>by have q2:(wr.drew.alloc (.cells zL.toArray 29)).heap.size ≤ b:=q;rw [hz8] at q2;exact ⟨by omega,by omega⟩)).setCells (fun h=>h.2 rfl) N).keep (fun _ _ _=>rfl) (fun b _ q=>q.1)
       case rest=>
        obtain ⟨b8,N,rfl,rfl,HZ⟩:=hcut
        have hz:=U HZ
        clear HC HRG HG c7
        have hlN:=hz.2.2.len
        have hi11:i ≤ 21:=by have h1:=U HCN;omega
        have hfo:=fold10 hlN
        have HRW:=V hz.2.1.row
        have HOWN:=V hz.2.1.row.own
        have HXN:Hid (ExM wc (fun b=>b2+1 ≤ b∧(Value.slice ar i kr).ownBlock ≠ some b) N Y):=hz.2.2.keep (fun _ _ _=>rfl) (fun b _ q=>(U HAP) b q)
        have hbase:b2+1 ≤ wc.heap.size:=ltX hz.2.1.rx.out.1
        have HV8:=V hz.1
        have HRX:=V hz.2.1.rx
        clear hz
        go_upto_region 18 with fail
        refine wp_region_list ?_
        refine lt 55 (.slice ar i kr) ?_
        simp only[put,sA,sB,sC]
        refine wpList_load_mid rfl 29 (.tmp 8) rfl b8 0 rfl N _ (U HV8).range Tryz.underlying29 rfl (by rw [hlN];exact sizeEx) ?_
        simp only[put,sA,sB,sC]
        go_wp2_with (at_builtin;refine append_ex rfl (.tmp 55) (.tmp 57) rfl (U HRW) hbase rfl N Y (U HXN) rfl (by omega) ?_;intro ad4 k4 w4 ho4 hb4;have HO4:=V ho4;have HB4:=V hb4;clear ho4 hb4)
        have HNX:Hid (RLX w w4 b0 b1 b2 v0 v3 n F (some ⟨bq,oq,none⟩) k ad4 (i+1) k4 (Es ++ [(N,Y)]) RL (i+1)):=by
         refine ⟨(U HRX).own (U HB4),U HO4,?_,rfl⟩
         rw [U HEQ,joinR_cons (U HY),List.map_append]
         rfl
        go_roundg (cnt F - (i+1))
        case rel=>exact ⟨i+1,ad4,k4,Es ++ [(N,Y)],rfl,rfl,by rw [show ((i+1:Nat):Int)=(i:Int)+1 from rfl],by omega,HNX⟩
        case measure=>omega
    · have hiI:¬ (i:Int) < (cnt F:Int):=by omega
      have hie:i=cnt F:=by omega
      clear hlt
      subst hie
      go_upto_region 19 with fail
      skip
      as_aux_lemma=>
       have HF:Hid (R=typedS (n,toFo Es)):=by
        show R=_
        rw [U HR,(U HG).eq,List.drop_eq_nil_of_le (by rw [← cnt_toL];exact Nat.le_refl _)]
        show typedS (n,foE ((Es.map (·.2)) ++ []))=_
        rw [List.append_nil,← toFo_foE]
       obtain ⟨hlow,hout,hva,hkeep⟩:=(U HG).rx.set 7 (.slice ar (cnt F) kr)
       have hva':VrX (wr.setCell ⟨b1,7,none⟩ (.slice ar (cnt F) kr)) b1 (ndC n (.slice ar (cnt F) kr)):=⟨by rw [hva];rfl,rfl⟩
       have hrow:=(U HG).row.keep (w':=wr.setCell ⟨b1,7,none⟩ (.slice ar (cnt F) kr)) (fun b h1 _=>hkeep b (by have h:=(U HBB).2;omega))
       have hlen:cnt F=cnt (toFo Es):=by rw [cnt_toFo];exact (U HG).row.len
       have HEX:Hid (ExM (wr.setCell ⟨b1,7,none⟩ (.slice ar (cnt F) kr)) (fun b=>b2+1 ≤ b) (ndC n (.slice ar (cnt F) kr)) (n,toFo Es)):=⟨_,rfl,hrow.slice⟩
       have HCE:Hid (n.kind=6→cnt (toFo Es) ≤ 1000):=fun _=>by have h1:=U HCN;rw [← hlen];omega
       have HL2:=V hlow
       have HO2:=V hout
       have HV2:=V hva'
       obtain ⟨c0',c2',c7',c9',f9',f7⟩:=(U HG).rx.cells
       clear c0' c2' c9' f9' c7'
       clear hlow hout hva hva' hkeep hrow hlen HR
       go_upto_region 20 with fail
       obtain ⟨w2,hw2⟩:∃ w2,w2=wr.setCell ⟨b1,7,none⟩ (.slice ar (cnt F) kr):=⟨_,rfl⟩
       rw [← hw2] at HL2 HO2 HV2 HEX
       rw [← hw2]
       clear hw2 c7 f7 HG
       have hTY:=typed_all w2 _ _ _ (U HEX) (U HKI) (U HCE)
       refine wp_region_list ?_
       refine wpList_load_mid rfl 29 (.tmp 3) rfl b1 0 rfl (ndC n (.slice ar (cnt F) kr)) _ (U HV2).range Tryz.underlying29 rfl sizeEx ?_
       refine list_call rfl (some 62) rfl 100 #[.agg (ndC n (.slice ar (cnt F) kr)).toArray] (by kernel_rfl) hTY ?_
       clear hTY
       rintro e w3 ⟨hb3,hpost⟩
       cases hT:typedS (n,toFo Es) with
       | error c=>
        rw [hT] at hpost
        have hp2:e=.returned (.tuple #[.agg zL.toArray,.int .i64 c]):=hpost
        subst hp2
        refine ⟨_,rfl,?_⟩
        refine lt 63 (.agg zL.toArray) ?_
        refine lt 64 (.int .i64 c) ?_
        simp only[put,sA,sB,sC]
        have hzN:zL.toArray.size=10:=by rfl
        have hout:=(U HO2).below hb3
        refine wpList_store_mid rfl 29 (.tmp 4) (.tmp 63) rfl b2 0 zL.toArray rfl rfl (by rw [hzN];exact hout.there) (by rw [hzN];exact sizeEx) (all_oneCell_toArray (by decide)) ?_
        show wpList _ _ _ _ _ (w3.setCells b2 0 zL)
        refine lt 5 (.int .i64 c) ?_
        simp only[put,sA,sB,sC]
        go_wp2_with fail
        have hs:=hout.set (M':=zL) rfl
        refine bodyPost_ret (hs.result2 rfl _ rfl) rfl ?_
        have h2:=(U HBB).2.2
        have h0:=(U HBB).1
        have hl2:=(U HL2)
        have hz:=hl2.size
        have hlow:Below w.heap.size w w3:=⟨hb3.os.trans hl2.os,hb3.tape.trans hl2.tape,hb3.output.trans hl2.output,Nat.le_trans hl2.size hb3.size,fun b hb=>(hb3.block b (by omega)).trans (hl2.block b hb)⟩
        rw [U HPP,U HF,hT]
        exact ⟨below_setCells hlow (by omega) 0 zL,rfl⟩
       | ok E2=>
        rw [hT] at hpost
        obtain ⟨N,rfl,hxN⟩:=hpost
        refine ⟨_,rfl,?_⟩
        refine lt 63 (.agg N.toArray) ?_
        refine lt 64 (.int .i64 0) ?_
        simp only[put,sA,sB,sC]
        have hzN:N.toArray.size=10:=by simpa using hxN.len
        have hout:=(U HO2).below hb3
        refine wpList_store_mid rfl 29 (.tmp 4) (.tmp 63) rfl b2 0 N.toArray rfl rfl (by rw [hzN];exact hout.there) (by rw [hzN];exact sizeEx) (all_oneCell_toArray hxN.one) ?_
        show wpList _ _ _ _ _ (w3.setCells b2 0 N)
        refine lt 5 (.int .i64 0) ?_
        simp only[put,sA,sB,sC]
        go_wp2_with fail
        have hs:=hout.set (M':=N) hxN.len
        refine bodyPost_ret (hs.result2 rfl _ rfl) rfl ?_
        have h2:=(U HBB).2.2
        have h0:=(U HBB).1
        have hl2:=(U HL2)
        have hz:=hl2.size
        have hlow:Below w.heap.size w w3:=⟨hb3.os.trans hl2.os,hb3.tape.trans hl2.tape,hb3.output.trans hl2.output,Nat.le_trans hl2.size hb3.size,fun b hb=>(hb3.block b (by omega)).trans (hl2.block b hb)⟩
        rw [U HPP,U HF,hT]
        exact ⟨below_setCells hlow (by omega) 0 N,N,rfl,(hxN.setCells (fun h=>absurd h (by omega)) N).keep (fun _ _ _=>rfl) (fun b _ q=>by have q2:b2+1 ≤ b:=q;omega)⟩
theorem res_all:∀ m,RsC m
 | 0=>fun _ _ _ _ _ _ _ _ _ _ h=>absurd h (Nat.not_lt_zero _)
 | m+1=>res_step m (res_all m)
end Go.Proofs.YtpnonhjmpnbmcaaGreatDoor
