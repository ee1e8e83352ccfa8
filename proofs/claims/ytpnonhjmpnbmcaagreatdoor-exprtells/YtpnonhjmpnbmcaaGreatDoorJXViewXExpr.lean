/- The statements' columns; the document's view of them. -/
import Derived.Test.YtpnonhjmpnbmcaaGreatDoorXRes
namespace Go.Proofs.YtpnonhjmpnbmcaaGreatDoor
open Go.RowKit Go.Lib
open Act (put)
set_option linter.unusedSimpArgs false
set_option linter.unusedVariables false
set_option maxHeartbeats 12800000
set_option maxRecDepth 100000
def CtAt (w:World) (b:Nat) (cs:List CT):Prop:=∀ i c,cs[i]?=some c→w.rangeAt b (i * 3) (ctC c)
theorem CoAt.of {w:World} {B:Nat} {a:Option Addr} {k:Nat} (h:w.ownsRow B 182 4 (.slice a 5 k) 5 (fiveC.flatMap (coC []))):CoAt w (.slice a 5 k):=by
 rcases h.2 with ⟨_,h0⟩ | ⟨g,cap,cur,e,hb,hc,h1,h2,h3,h4⟩
 · exact absurd h0 (by decide)
 · injection e with e1 e2 e3
   subst e1
   subst e3
   refine ⟨g,k,rfl,ltX hc,fun i c hi j v hj=>?_⟩
   rw [cellX hc]
   have hi5:i < 5:=(List.getElem?_eq_some_iff.1 hi).1
   have hj4:j < 4:=(List.getElem?_eq_some_iff.1 hj).1
   have hq:(fiveC.flatMap (coC []))[i * 4+j]?=some v:=by
    have h5:i=0 ∨ i=1 ∨ i=2 ∨ i=3 ∨ i=4:=by omega
    have h3:j=0 ∨ j=1 ∨ j=2 ∨ j=3:=by omega
    rcases h5 with rfl | rfl | rfl | rfl | rfl <;> (injection hi with hi;subst hi) <;> rcases h3 with rfl | rfl | rfl | rfl <;> (injection hj with hj;subst hj;rfl)
   rw [← h4,List.getElem?_take_of_lt (by omega)] at hq
   simpa using hq
theorem infoCo:(Tryz.prog.info? 182).map (fun i=>(i.zero,i.size,i.bytes))=some (some (.agg #[.string ⟨#[]⟩,.string ⟨#[]⟩,.int .i64 0,.bool false]),4,48):=by kernel_rfl
theorem cols_any (w:World):Calls Tryz.prog 19 #[] w fun e w'=>e=.returned (.slice (some ⟨w.heap.size,0,none⟩) 5 5)∧CtAt w' w.heap.size fiveC∧Below w.heap.size w w':=by
 have HB:Hid (CtAt (w.alloc (.cells (fiveC.flatMap ctC).toArray 56)) w.heap.size fiveC∧Below w.heap.size w (w.alloc (.cells (fiveC.flatMap ctC).toArray 56))):=by
  refine ⟨fun i c hc=>?_,alX (Below.refl _ _) _⟩
  intro j v hv
  rw [cellX (heap_alloc_new w (.cells (fiveC.flatMap ctC).toArray 56))]
  have hi:i < 5:=(List.getElem?_eq_some_iff.1 hc).1
  have hj:j < 3:=(List.getElem?_eq_some_iff.1 hv).1
  have h5:i=0 ∨ i=1 ∨ i=2 ∨ i=3 ∨ i=4:=by omega
  have h3:j=0 ∨ j=1 ∨ j=2:=by omega
  rcases h5 with rfl | rfl | rfl | rfl | rfl <;> (injection hc with hc;subst hc) <;> rcases h3 with rfl | rfl | rfl <;> (injection hv with hv;subst hv;rfl)
 go_enter Tryz.func19,Tryz.ntmps19
 go_wp2_with fail
 go_ret
 exact ⟨rfl,U HB⟩
theorem view_any (tab:List UInt8) (cs:List CT) (w:World) (bc k0:Nat) (h:CtAt w bc cs) (hl:cs.length ≤ 1000) (hbc:bc < w.heap.size) :
 Calls Tryz.prog 39 #[sv tab,.slice (some ⟨bc,0,none⟩) cs.length k0] w fun e w'=>∃ a k,e=.returned (.slice a cs.length k)∧w'.ownsRow w.heap.size 182 4 (.slice a cs.length k) cs.length (cs.flatMap (coC tab))∧Below w.heap.size w w':=by
 have HC:=V h
 have hlI:(cs.length:Int) ≤ 1000:=by omega
 have HG0:Hid (w.ownsRow w.heap.size 182 4 (.slice none 0 0) 0 ((cs.take 0).flatMap (coC tab))∧Below w.heap.size w w):=⟨⟨rfl,.inl ⟨rfl,rfl⟩⟩,Below.refl _ _⟩
 clear h
 unfold sv
 go_enter Tryz.func39,Tryz.ntmps39
 go_wp2_with fail
 go_loopg [5,6] cs.length (fun g s5 s6 wr=>∃ (i:Nat) (a:Option Addr) (k:Nat),g=cs.length - i∧s5=.slice a i k∧s6=.int .i64 (i:Int)∧i ≤ cs.length∧Hid (wr.ownsRow w.heap.size 182 4 (.slice a i k) i ((cs.take i).flatMap (coC tab))∧Below w.heap.size w wr))
 case atStart=>exact ⟨0,none,0,rfl,rfl,rfl,Nat.zero_le _,HG0⟩
 case round=>
  obtain ⟨i,a,k,rfl,rfl,rfl,hi,HG⟩:=hrel
  clear HG0
  have hi0:(0:Int) ≤ (i:Int):=by omega
  by_cases hlt:i < cs.length
  · have hiI:(i:Int) < (cs.length:Int):=by omega
    obtain ⟨c,hc⟩:∃ c,cs[i]?=some c:=⟨_,List.getElem?_eq_getElem hlt⟩
    have hr:=U HC i c hc
    have q0:=((U HG).2.cell (p:=⟨bc,i * 3,none⟩) hbc).trans (hr 0 _ rfl)
    have q1:=((U HG).2.cell (p:=⟨bc,i * 3+1,none⟩) hbc).trans (hr 1 _ rfl)
    have q2:=((U HG).2.cell (p:=⟨bc,i * 3+2,none⟩) hbc).trans (hr 2 _ rfl)
    have HTK:Hid ((cs.take (i+1)).flatMap (coC tab)=(cs.take i).flatMap (coC tab) ++ coC tab c):=by
     show _=_
     rw [List.take_add_one,hc]
     simp
    have hi9:i ≤ 100000000:=by omega
    clear hc hr
    unfold sv at q0
    go_wp2_with (at_builtin;refine append1 rfl (.tmp 13) (.tmp 20) 115 rfl w.heap.size 182 _ 4 48 Tryz.underlying115 infoCo rfl (by decide) (by decide) _ i _ rfl (own_keepX (U HG).1 (alX (Below.refl wr.heap.size wr) (.cells (coC tab c).toArray 182))) wr.heap.size (coC tab c) rfl (heap_alloc_new _ _) rfl (by intro u hu;simp only[coC,List.mem_cons,List.not_mem_nil,or_false] at hu;rcases hu with rfl | rfl | rfl | rfl <;> rfl) hi9 (Nat.le_trans (U HG).2.size (alX (Below.refl wr.heap.size wr) (.cells (coC tab c).toArray 182)).size) ?_;intro ad4 k4 w4 ho4 hb4;have HO4:=V ho4;have HB4:=V hb4;clear ho4 hb4)
    have HNX:Hid (w4.ownsRow w.heap.size 182 4 (.slice ad4 (i+1) k4) (i+1) ((cs.take (i+1)).flatMap (coC tab))∧Below w.heap.size w w4):=by
     refine ⟨by rw [U HTK];exact U HO4,?_⟩
     exact ((U HG).2.trans ((alX (Below.refl wr.heap.size wr) (.cells (coC tab c).toArray 182)).mono (U HG).2.size)).trans (U HB4)
    go_roundg (cs.length - (i+1))
    case rel=>exact ⟨i+1,ad4,k4,rfl,rfl,by rw [show ((i+1:Nat):Int)=(i:Int)+1 from rfl],by omega,HNX⟩
    case measure=>omega
  · have hiI:¬ (i:Int) < (cs.length:Int):=by omega
    have hie:i=cs.length:=by omega
    subst hie
    have HE:=V (U HG)
    clear HG
    go_wp2_with fail
    have h:=U HE
    rw [List.take_length] at h
    first
     | exact ⟨a,k,rfl,h.1,h.2⟩
     | (go_ret;exact ⟨a,k,rfl,h.1,h.2⟩)
def exprS (E:Ex):Except Int Ex:=if isE E=true then resE E else .error 20
theorem rexpr_any (w:World) (bc kc:Nat) (hct:CtAt w bc fiveC) (hbc:bc < w.heap.size) (Q:Nat→Prop) (M:List Value) (E:Ex) (h:ExM w Q M E) (hok:exOk E) :
 Calls Tryz.prog 23 #[.slice (some ⟨bc,0,none⟩) 5 kc,.agg M.toArray] w (ReP (fun b=>w.heap.size ≤ b) w (exprS E)):=by
 have hlM:=h.len
 have HXI:Hid (∀ W,ExM W (fun b=>b < W.heap.size) M E→Calls Tryz.prog 44 #[.agg M.toArray] W fun e w'=>e=.returned (.bool (isE E))∧Below W.heap.size W w'):=fun W h=>isE_any W _ M E h hok
 obtain ⟨args,rfl,hs⟩:=h
 obtain ⟨n,F⟩:=E
 dsimp only at hs hlM
 obtain ⟨a,k,rfl⟩:=slAt_slice hs
 have HCT:Hid (∀ W,Below w.heap.size w W→CtAt W.drew bc fiveC):=fun W hb i c hc=>rangeAt_blk (hct i c hc) (fun hl=>hb.block bc hl) (by simp [ctC])
 have HBC:Hid (∀ W,Below w.heap.size w W→bc < W.drew.heap.size):=fun W hb=>Nat.lt_of_lt_of_le hbc hb.size
 have HT0:=V (TY.new (n:=n) hs)
 have HX0:=V (U HXI _ ⟨_,rfl,(U HT0).sl.keep (fun _ _ _=>rfl) (fun b hl _=>hl)⟩)
 obtain ⟨R,hR⟩:∃ R,R=exprS (n,F):=⟨_,rfl⟩
 have HRE:=V hR
 obtain ⟨PP,hPP⟩:∃ PP,PP=ReP (fun b=>w.heap.size ≤ b) w R:=⟨_,rfl⟩
 have HPP:=V hPP
 rw [← hR,← hPP]
 obtain ⟨M,hM⟩:∃ M,M=(ndC n (.slice a (cnt F) k)):=⟨_,rfl⟩
 have HMM:=V hM
 rw [← hM] at hlM ⊢
 clear hR hPP hM hs hct hbc HXI
 go_enter Tryz.func23,Tryz.ntmps23
 go_upto_region 1 with fail
 rw [U HMM] at *
 have HT1:Hid (TY Q w ((w.alloc (.cells (ndC n (.slice a (cnt F) k)).toArray 29)).alloc (.cells zL.toArray 29)) w.heap.size (w.heap.size+1) n F a k):=HT0
 clear HT0
 have HISE:=HX0
 clear HX0
 obtain ⟨w1,hw1⟩:∃ w1,w1=(w.alloc (.cells (ndC n (.slice a (cnt F) k)).toArray 29)).alloc (.cells zL.toArray 29):=⟨_,rfl⟩
 rw [← hw1] at HT1 HISE
 unfold zL at hw1
 rw [← hw1]
 clear hw1
 refine wp_region_list ?_
 refine wpList_load_mid rfl 29 (.tmp 3) rfl w.heap.size 0 rfl (ndC n (.slice a (cnt F) k)) _ (U HT1).va.range Tryz.underlying29 rfl sizeEx ?_
 refine list_call rfl (some 7) rfl 44 #[.agg (ndC n (.slice a (cnt F) k)).toArray] (by kernel_rfl) (U HISE) ?_
 clear HISE
 rintro e w2 ⟨rfl,hb2⟩
 refine ⟨_,rfl,?_⟩
 simp only[put,sA,sB,sC]
 have HT2:=V ((U HT1).below hb2)
 clear hb2
 cases hE:isE (n,F) with
 | true=>
  skip
  as_aux_lemma=>
   have HF:Hid (R=resE (n,F)):=by show R=_;rw [U HRE];unfold exprS;rw [hE];rfl
   have HIE:=V hE
   clear hE
   go_upto_region 3 with fail
   have HTd:=V ((U HT2).below (Below.refl _ _).drew)
   have HVI:=V (view_any [] fiveC)
   refine wp_region_held_drew (S:=fun w'=>VrX w' w.heap.size (ndC n (.slice a (cnt F) k))) (by kernel_rfl) (U HTd).va (fun hHeld=>?_)
   refine ht 0 15 (.slice (some ⟨bc,0,none⟩) 5 kc) hHeld ?_
   simp only[put,sA,sB,sC]
   refine hu 3 18 (.agg (ndC n (.slice a (cnt F) k)).toArray) rfl (yieldsIf_load_mid (by rfl) 29 (.tmp 3) rfl w.heap.size 0 rfl (ndC n (.slice a (cnt F) k)) _ (fun w' hw=>hw.range) Tryz.underlying29 rfl sizeEx) hHeld ?_
   simp only[put,sA,sB,sC]
   refine wpAnyH_ready (rs:=[1]) (by kernel_rfl) (by simp) ?_
   refine AllReadyH.cons rfl (fun K hK=>?_) AllReadyH.nil
   rw [if_pos (by rfl)]
   refine op_call (some 16) rfl 39 #[sv [],.slice (some ⟨bc,0,none⟩) 5 kc] (by kernel_rfl) (U HVI w2.drew bc kc (U HCT w2 (U HT2).low) (by decide) (U HBC w2 (U HT2).low)) ?_
   rintro e w3 ⟨av,kv,rfl,hown,hb3⟩
   have HCV:=V (CoAt.of hown)
   clear hown
   refine ⟨_,rfl,?_⟩
   have HT3:=V ((U HTd).below hb3)
   refine hK.out _ _ (U HT3).va (fun hHeld2=>?_)
   clear hK K hHeld
   have hHeld:=hHeld2
   clear hHeld2
   try simp only[put,sA,sB,sC]
   refine ht 2 17 (.agg #[.slice av 5 kv,.bool false,.bool false,.slice none 0 0,.bool true]) hHeld ?_
   simp only[put,sA,sB,sC]
   have HZ3:Hid (w.heap.size+1 < w3.heap.size):=ltX (U HT3).out.1
   have HCX:Hid (Calls Tryz.prog 45 #[.agg #[.slice av 5 kv,.bool false,.bool false,.slice none 0 0,.bool true],.agg (ndC n (.slice a (cnt F) k)).toArray] w3 (ReP (fun b=>w3.heap.size ≤ b) w3 (resE (n,F)))):=res_all (szF F+1) w3 (ndC n (.slice a (cnt F) k)) (n,F) (.slice av 5 kv) (.slice none 0 0) rfl rfl (U HCV) ⟨_,rfl,(U HT3).sl.keep (fun _ _ _=>rfl) (fun b hl _=>hl)⟩ (U HIE) (Nat.lt_succ_self _)
   refine wpAnyH_ready (rs:=[4]) (by kernel_rfl) (by simp) ?_
   refine AllReadyH.cons rfl (fun K hK=>?_) AllReadyH.nil
   rw [if_pos (by rfl)]
   refine op_call (some 19) rfl 45 #[.agg #[.slice av 5 kv,.bool false,.bool false,.slice none 0 0,.bool true],.agg (ndC n (.slice a (cnt F) k)).toArray] (by kernel_rfl) (U HCX) ?_
   clear HCX
   rintro e w4 ⟨hb4,hpost⟩
   have HT4:=V ((U HT3).below hb4)
   cases hT:resE (n,F) with
   | error c=>
    rw [hT] at hpost
    have hp2:e=.returned (.tuple #[.agg zL.toArray,.int .i64 c]):=hpost
    subst hp2
    refine ⟨_,rfl,?_⟩
    refine hK.out _ _ (U HT4).va (fun hHeld2=>?_)
    clear hK K hHeld
    have hHeld:=hHeld2
    clear hHeld2
    try simp only[put,sA,sB,sC]
    refine ht 5 20 (.agg zL.toArray) hHeld ?_
    refine ht 6 21 (.int .i64 c) hHeld ?_
    simp only[put,sA,sB,sC]
    refine wpAnyH_ready (rs:=[7]) (by kernel_rfl) (by simp) ?_
    refine AllReadyH.cons rfl (fun K hK=>?_) AllReadyH.nil
    rw [if_pos (by rfl)]
    have hzN:zL.toArray.size=10:=by rfl
    have hout:=(U HT4).out
    refine op_store rfl 29 (.tmp 4) (.tmp 20) rfl (w.heap.size+1) 0 zL rfl rfl (by rw [hzN];exact hout.there) (by rw [hzN];exact sizeEx) (all_oneCell_toArray (by decide)) ?_
    have hva5:=(U HT4).va.keep (setCells_heap (w.heap.size+1) zL 0 w4 w.heap.size (by omega))
    refine hK.out _ _ hva5 (fun hHeld2=>?_)
    clear hK K hHeld
    have hHeld:=hHeld2
    clear hHeld2
    try simp only[put,sA,sB,sC]
    refine ht 8 5 (.int .i64 c) hHeld ?_
    simp only[put,sA,sB,sC]
    refine wpAnyH_done (by kernel_rfl) ?_ _
    go_wp2_with fail
    have hs:=hout.set (M':=zL) rfl
    refine bodyPost_ret (hs.result2 rfl _ rfl) rfl ?_
    rw [U HPP,U HF,hT]
    exact ⟨below_setCells (U HT4).low (by omega) 0 zL,rfl⟩
   | ok E2=>
    rw [hT] at hpost
    obtain ⟨N,rfl,hxN⟩:=hpost
    refine ⟨_,rfl,?_⟩
    refine hK.out _ _ (U HT4).va (fun hHeld2=>?_)
    clear hK K hHeld
    have hHeld:=hHeld2
    clear hHeld2
    try simp only[put,sA,sB,sC]
    refine ht 5 20 (.agg N.toArray) hHeld ?_
    refine ht 6 21 (.int .i64 0) hHeld ?_
    simp only[put,sA,sB,sC]
    refine wpAnyH_ready (rs:=[7]) (by kernel_rfl) (by simp) ?_
    refine AllReadyH.cons rfl (fun K hK=>?_) AllReadyH.nil
    rw [if_pos (by rfl)]
    have hzN:N.toArray.size=10:=by simpa using hxN.len
    have hout:=(U HT4).out
    refine op_store rfl 29 (.tmp 4) (.tmp 20) rfl (w.heap.size+1) 0 N rfl rfl (by rw [hzN];exact hout.there) (by rw [hzN];exact sizeEx) (all_oneCell_toArray hxN.one) ?_
    have hva5:=(U HT4).va.keep (setCells_heap (w.heap.size+1) N 0 w4 w.heap.size (by omega))
    refine hK.out _ _ hva5 (fun hHeld2=>?_)
    clear hK K hHeld
    have hHeld:=hHeld2
    clear hHeld2
    try simp only[put,sA,sB,sC]
    refine ht 8 5 (.int .i64 0) hHeld ?_
    simp only[put,sA,sB,sC]
    refine wpAnyH_done (by kernel_rfl) ?_ _
    go_wp2_with fail
    have hs:=hout.set (M':=N) hxN.len
    refine bodyPost_ret (hs.result2 rfl _ rfl) rfl ?_
    rw [U HPP,U HF,hT]
    exact ⟨below_setCells (U HT4).low (by omega) 0 N,N,rfl,(hxN.setCells (fun h=>absurd h (by have:=(U HZ3);omega)) N).keep (fun _ _ _=>rfl) (fun b _ q=>by have q2:w3.heap.size ≤ b:=q;have:=(U HZ3);omega)⟩
 | false=>
  skip
  as_aux_lemma=>
   have HF:Hid (R=.error 20):=by show R=_;rw [U HRE];unfold exprS;rw [hE];rfl
   have HIE:=V hE
   clear hE
   go_upto_region 2 with fail
   refine wp_region_list ?_
   refine lt 14 (.agg zL.toArray) ?_
   simp only[put,sA,sB,sC]
   refine wpList_store_mid rfl 29 (.tmp 4) (.tmp 14) rfl (w.heap.size+1) 0 zL.toArray rfl rfl (U HT2).out.there sizeEx (all_oneCell_toArray (by decide)) ?_
   show wpList _ _ _ _ _ (w2.setCells (w.heap.size+1) 0 zL)
   refine lt 5 (.int .i64 20) ?_
   simp only[put,sA,sB,sC]
   go_wp2_with fail
   have hs:=(U HT2).out.set (M':=zL) rfl
   refine bodyPost_ret (hs.result2 rfl _ rfl) rfl ?_
   rw [U HPP,U HF]
   exact ⟨below_setCells (U HT2).low (by omega) 0 zL,rfl⟩
end Go.Proofs.YtpnonhjmpnbmcaaGreatDoor
