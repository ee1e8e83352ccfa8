/- The document's parser: factor. -/
import Derived.Test.YtpnonhjmpnbmcaaGreatDoorJXPar9XPar10XPar11XApp2
namespace Go.Proofs.YtpnonhjmpnbmcaaGreatDoor
open Go.RowKit Go.Lib
open Act (put)
set_option linter.unusedSimpArgs false
set_option linter.unusedVariables false
set_option maxHeartbeats 25600000
set_option maxRecDepth 100000
theorem RVX.drewN {T:List Tk} {p bt c b2:Nat} {w wr:World} {S:PS} (h:RVX T p bt c b2 w wr S) (m:Nat):RVX T p bt c b2 w (wr.drewN m) S:=⟨h.out,h.px.drewN m,h.fr.drewN m,h.b2p⟩
/-- A cell of another block written. -/
theorem RVX.setO {T:List Tk} {p bt c b2:Nat} {w wr:World} {S:PS} (h:RVX T p bt c b2 w wr S) {b:Nat} (hb:w.heap.size < b) (hp:b ≠ p) (ht:b ≠ bt) (i:Nat) (v:Value):RVX T p bt c b2 w (wr.setCell ⟨b,i,none⟩ v) S:=
 ⟨h.out.keep (Below.heap_setCell wr ⟨b,i,none⟩ v b2 (by have:=h.b2p;show b2 ≠ b;omega)),⟨(Below.heap_setCell wr ⟨b,i,none⟩ v p (Ne.symm hp)).trans h.px.blk,h.px.toks.keep (fun _=>Below.heap_setCell wr ⟨b,i,none⟩ v bt (Ne.symm ht)),h.px.ne,h.px.lt,h.px.dlo,h.px.dhi,h.px.err⟩,h.fr.setNew (by omega) i v,h.b2p⟩
/-- What factor tells behind the aggregates' names. -/
def aggR (T:List Tk) (sub7:PS→Ex × PS) (S:PS):Option Nat→Ex × PS
 | some i=>
  if i=0∧isS T 5 [42] (openS T [40] (nextS T S))=true then ((⟨7,19,0,0,[],[],[],0,0⟩,.nil),closeS T [41] (nextS T (openS T [40] (nextS T S))))
  else ((⟨7,19+i,0,0,[],[],[],0,0⟩,Fo.cons (sub7 (openS T [40] (nextS T S))).1.1 (sub7 (openS T [40] (nextS T S))).1.2 .nil),closeS T [41] (sub7 (openS T [40] (nextS T S))).2)
 | none=>(exZ,failS T 1 S)
/-- The loop over the aggregates' names. -/
structure AGW (T:List Tk) (p bt c b2 b9:Nat) (w wr:World) (S:PS) (k:Nat) (A:Option Nat):Prop where
 rv:RVX T p bt c b2 w wr S
 arr:wr.heap[b9]?=some (.cells #[.string ⟨#[67,79,85,78,84]⟩,.string ⟨#[83,85,77]⟩,.string ⟨#[77,73,78]⟩,.string ⟨#[77,65,88]⟩] 312 (0,0))
 b9p:b9 ≠ p
 b9b:b2 < b9
 eq:aggI T S k (aggsL.drop k)=A
theorem AGW.move {T:List Tk} {p bt c b2 b9:Nat} {w wr w':World} {S:PS} {k:Nat} {A:Option Nat} (h:AGW T p bt c b2 b9 w wr S k A) (hp:PX T w' p bt c S) (hf:FrX p wr w') (hpl:p < b2):AGW T p bt c b2 b9 w w' S k A:=
 ⟨h.rv.move hp hf hpl,hf.keep h.arr h.b9p,h.b9p,h.b9b,h.eq⟩
theorem factor_lv {T:List Tk} {p bt c:Nat} (hT:TG T) {sub1 sub7:PS→Ex × PS} {B n:Nat} (h1:1 ≤ B→LvC T p bt c 225 sub1 (B - 1)) (h7:1 ≤ B→LvC T p bt c 150 sub7 (B - 1)) (hc:LvC T p bt c 228 (caseS T sub7 n) B) :
 LvC T p bt c 225 (factorS T sub1 sub7 n) B:=by
 intro w S hp hmu
 have hbtlt:=hp.bt_lt
 have hplt:=hp.lt_p
 have HV0:=V (RVX.new hp)
 have HNE:Hid (w.heap.size ≠ bt∧w.heap.size ≠ p∧p < w.heap.size):=⟨by omega,by omega,by omega⟩
 have HI:=V hp.lt
 have HMU:=V hmu
 clear hp hbtlt hplt hmu
 obtain ⟨PP,hPP⟩:∃ PP,PP=LvP T p bt c w S (factorS T sub1 sub7 n S):=⟨_,rfl⟩
 have HPP:=V hPP
 rw [← hPP]
 clear hPP
 cases hb:isS T 5 [45] S with
 | true=>
  by_cases hk3:(T.getD (S.i+1) ⟨0,[],0⟩).kind=3
  · skip
    as_aux_lemma=>
     have hk1:S.i+1 < T.length:=hT.more (U HI) (by have:=(isS_err hb).2.1;omega)
     have hk1I:(S.i:Int)+1 < (T.length:Int):=by omega
     have hi0:(0:Int) ≤ (S.i:Int):=by omega
     have hTl:(T.length:Int) ≤ 3000:=by have:=hT.len;omega
     have HNB:=V hb
     have hkI:(((T.getD (S.i+1) ⟨0,[],0⟩).kind:Int) == 3)=true:=by rw [hk3];rfl
     have hnx:nextS T S={ S with i:=S.i+1 }:=by unfold nextS;rw [if_pos ⟨(isS_err hb).1,hk1⟩]
     obtain ⟨r,hr⟩:∃ r,r=numberS T most8 (nextS T S):=⟨_,rfl⟩
     have HEQ:Hid (factorS T sub1 sub7 n S=(valE 2 (wrap64 (IntKind.u64.wrap (-r.1))) [],nextS T r.2)):=by
      show factorS T sub1 sub7 n S=_
      unfold factorS
      rw [if_pos hb,if_pos hk3]
      dsimp only
      rw [← hr]
     have HMF:Hid (muS T (nextS T r.2) ≤ muS T S):=by
      have h1:=muS_nle T r.2
      have h2:=muS_number T most8 (nextS T S)
      have h3:=muS_nle T S
      rw [← hr] at h2
      show _ ≤ _
      omega
     have HRN:=V hr
     have HTK:Hid (∀ w',PX T w' p bt c S→w'.cell? ⟨p,0,none⟩=some (.slice (some ⟨bt,0,none⟩) T.length c)∧w'.cell? ⟨p,1,none⟩=some (.int .i64 (S.i:Int))∧w'.cell? ⟨bt,(S.i+1) * 3,none⟩=some (.int .i64 ((T.getD (S.i+1) ⟨0,[],0⟩).kind:Int))):=fun w' h=>⟨h.cells.1,h.cells.2.1,(h.tok hk1).1⟩
     obtain ⟨kk,hkk⟩:∃ kk,kk=(T.getD (S.i+1) ⟨0,[],0⟩).kind:=⟨_,rfl⟩
     rw [← hkk] at hkI HTK
     clear hb hk3 hkk hk1 hnx hr
     go_enter Tryz.func225,Tryz.ntmps225
     go_upto_region 2 with (go_at_call 153;refine (sign_any' (U HV0).px [45]).mono ?_;rw [U HNB];rintro e w1 ⟨rfl,hp1,hf1⟩;have HV1:=V ((U HV0).move hp1 hf1 (U HNE).2.2);clear hp1 hf1 HV0)
     obtain ⟨c0,c1,t0⟩:=U HTK w1 (U HV1).px
     go_quiet (fail)
     have HV2:=V ((U HV1).drewN nq)
     clear HV1 c0 c1 t0
     go_wp2_with (first | (go_at_call 154;refine (next_any hT (U HV2).px).mono ?_;rintro e w3 ⟨rfl,hp1,hf1⟩;have HV3:=V ((U HV2).move hp1 hf1 (U HNE).2.2);clear hp1 hf1 HV2) | (go_at_call 188;refine (number_any hT (U HV3).px most8 (by decide)).mono ?_;rw [← U HRN];rintro e w4 ⟨rfl,hp1,hf1⟩;have HV4:=V ((U HV3).move hp1 hf1 (U HNE).2.2);clear hp1 hf1 HV3) | (go_at_call 154;refine (next_any hT (U HV4).px).mono ?_;rintro e w5 ⟨rfl,hp1,hf1⟩;have HV5:=V ((U HV4).move hp1 hf1 (U HNE).2.2);clear hp1 hf1 HV4) | (go_at_call 227;refine (value_any 2 (wrap64 (IntKind.u64.wrap (-r.1))) [] (fun b=>w.heap.size < b) _).mono ?_;rintro e w6 ⟨M,rfl,hx,hb⟩;have hl:=hx.len;have hv:=(U HV5).below hb;have hst:=hv.out.storeC hx.len hx.one;have HX:=V hx;have HV6:=V hv;clear hx hv hb HV5))
     obtain ⟨h1,h2⟩:=(U HV6).done (S0:=S) (U HX) (U HMF) (U HNE).1 (U HNE).2.1
     exact bodyPost_ret (h1.result rfl _ rfl) rfl (by rw [U HPP,U HEQ];exact h2)
  · skip
    as_aux_lemma=>
     have hk1:S.i+1 < T.length:=hT.more (U HI) (by have:=(isS_err hb).2.1;omega)
     have hk1I:(S.i:Int)+1 < (T.length:Int):=by omega
     have hi0:(0:Int) ≤ (S.i:Int):=by omega
     have hTl:(T.length:Int) ≤ 3000:=by have:=hT.len;omega
     have HNB:=V hb
     have hkI:(((T.getD (S.i+1) ⟨0,[],0⟩).kind:Int) == 3)=false:=by rw [beq_eq_false_iff_ne];omega
     have hmo:=muS_open_lt hT (x:=[45]) (U HI) (isS_err hb).1
     have HEQ:Hid (factorS T sub1 sub7 n S=(unE 1 (sub1 (openS T [45] S)).1,closeS T [] (sub1 (openS T [45] S)).2)):=by
      show factorS T sub1 sub7 n S=_
      unfold factorS
      rw [if_pos hb,if_neg hk3]
     have HMO:=V hmo
     have HTK:Hid (∀ w',PX T w' p bt c S→w'.cell? ⟨p,0,none⟩=some (.slice (some ⟨bt,0,none⟩) T.length c)∧w'.cell? ⟨p,1,none⟩=some (.int .i64 (S.i:Int))∧w'.cell? ⟨bt,(S.i+1) * 3,none⟩=some (.int .i64 ((T.getD (S.i+1) ⟨0,[],0⟩).kind:Int))):=fun w' h=>⟨h.cells.1,h.cells.2.1,(h.tok hk1).1⟩
     obtain ⟨kk,hkk⟩:∃ kk,kk=(T.getD (S.i+1) ⟨0,[],0⟩).kind:=⟨_,rfl⟩
     rw [← hkk] at hkI HTK
     clear hb hk3 hkk hk1 hmo
     go_enter Tryz.func225,Tryz.ntmps225
     go_upto_region 2 with (go_at_call 153;refine (sign_any' (U HV0).px [45]).mono ?_;rw [U HNB];rintro e w1 ⟨rfl,hp1,hf1⟩;have HV1:=V ((U HV0).move hp1 hf1 (U HNE).2.2);clear hp1 hf1 HV0)
     obtain ⟨c0,c1,t0⟩:=U HTK w1 (U HV1).px
     go_quiet (fail)
     have HV2:=V ((U HV1).drewN nq)
     clear HV1 c0 c1 t0
     go_upto_region 10 with (first | (go_at_call 178;refine (open_any hT (U HV2).px [45]).mono ?_;rintro e w3 ⟨rfl,hp1,hf1⟩;have HV3:=V ((U HV2).move hp1 hf1 (U HNE).2.2);clear hp1 hf1 HV2) | (go_at_call 225;refine ((U HV3).call (h1 (by have h1:=U HMO;have h2:=U HMU;omega)) (by have h1:=U HMO;have h2:=U HMU;omega) (U HNE).2.2).mono ?_;rintro e w4 ⟨M4,rfl,hx,hv,hf,hm⟩;have hl4:=hx.len;have HX4:=V hx;have HV4:=V hv;have HM4:=V hm;have hst4:=hv.out.storeC hx.len hx.one;have hsn4:=storeNew w4 hx.len hx.one;unfold zL at hsn4;clear hx hv hf hm) | (go_at_call 180;refine (close_any hT ((U HV4).below (alX (Below.refl _ _) (.cells M4.toArray 29))).px []).mono ?_;rintro e w5 ⟨rfl,hp4,hf4⟩;have HP5:=V hp4;have HF5:=V hf4;clear hp4 hf4))
     have hw3:Below w4.heap.size w4 (w4.alloc (.cells M4.toArray 29)):=alX (Below.refl _ _) _
     have hz3:(w4.alloc (.cells M4.toArray 29)).heap.size=w4.heap.size+1:=by simp
     have hlo:=ltX (U HV4).out.1
     have hv4:VrX w5 w4.heap.size M4:=(VrX.new w4 hl4).keep ((U HF5).blk _ (by omega) (by have:=(U HNE).2.2;omega))
     have HV5:=V (((U HV4).below hw3).move (U HP5) (U HF5) (U HNE).2.2)
     have HXV:Hid (ExM w5 (fun b=>w.heap.size < b) M4 (sub1 (openS T [45] S)).1):=by
      have h1:=ltX (U HV3).out.1
      have h2:=(U HX4).below hw3
      exact h2.keep (fun b hq hl=>(U HF5).blk b hl (by have:=(U HNE).2.2;omega)) (fun b _ q=>by omega)
     have HVV:=V hv4
     clear hst4 hsn4 hw3 hz3 hlo hv4
     have HMF:Hid (muS T (closeS T [] (sub1 (openS T [45] S)).2) ≤ muS T S):=by
      have h1:=muS_close T [] (sub1 (openS T [45] S)).2
      have h2:=U HM4
      have h3:=U HMO
      show _ ≤ _
      omega
     refine wp_region_list ?_
     refine wpList_load_mid rfl 29 (.tmp 4) rfl w4.heap.size 0 rfl M4 _ (U HVV).range Tryz.underlying29 rfl (by rw [hl4];exact sizeEx) ?_
     go_wp2_with (go_at_call 210;refine (unary_any 1 M4 _ (fun b=>w.heap.size < b) w5 (U HXV)).mono ?_;rintro e w6 ⟨M,rfl,hx5,hb5⟩;have hl5:=hx5.len;have hv5:=(U HV5).below hb5;have hst5:=hv5.out.storeC hx5.len hx5.one;have HX6:=V hx5;have HV6:=V hv5;clear hx5 hb5 hv5)
     have HX:Hid (ExM w6 (fun b=>w.heap.size < b) M (unE 1 (sub1 (openS T [45] S)).1)):=(U HX6).keep (fun _ _ _=>rfl) (fun b _ q=>by
      have h1:=ltX (U HV5).out.1
      rcases q with q | q
      · exact q
      · omega)
     obtain ⟨h1,h2⟩:=(U HV6).done (S0:=S) (U HX) (U HMF) (U HNE).1 (U HNE).2.1
     exact bodyPost_ret (h1.result rfl _ rfl) rfl (by rw [U HPP,U HEQ];exact h2)
 | false=>
  by_cases he:S.err ≠ 0
  · skip
    as_aux_lemma=>
     have HOKF:Hid ((S.err == 0)=false):=by simpa [Hid] using he
     have HEQ:Hid (factorS T sub1 sub7 n S=(exZ,S)):=by
      show factorS T sub1 sub7 n S=_
      unfold factorS
      rw [if_neg (by rw [hb];decide),if_pos he]
     have HMF:Hid (muS T S ≤ muS T S):=Nat.le_refl _
     have HNB:=V hb
     clear hb he
     go_enter Tryz.func225,Tryz.ntmps225
     go_upto_region 12 with (first | (go_at_call 153;refine (sign_any' (U HV0).px [45]).mono ?_;rw [U HNB];rintro e w1 ⟨rfl,hp1,hf1⟩;have HV1:=V ((U HV0).move hp1 hf1 (U HNE).2.2);clear hp1 hf1 HV0) | (go_at_call 96;refine (ok_any' (U HV1).px).mono ?_;rw [U HOKF];rintro e w2 ⟨rfl,hp1,hf1⟩;have HV2:=V ((U HV1).move hp1 hf1 (U HNE).2.2);clear hp1 hf1 HV1))
     refine wp_region_list ?_
     refine lt 49 (.agg zL.toArray) ?_
     refine wpList_store_mid rfl 29 (.tmp 2) (.tmp 49) rfl w.heap.size 0 zL.toArray rfl rfl (U HV2).out.there sizeEx (all_oneCell_toArray (by intro v hv;simp [zL] at hv;rcases hv with rfl | rfl | rfl | rfl | rfl | rfl | rfl | rfl | rfl | rfl <;> rfl)) ?_
     go_wp2_with fail
     have HX:Hid (ExM w2 (fun b=>w.heap.size < b) zL exZ):=⟨.slice none 0 0,rfl,.inl ⟨rfl,0,rfl⟩⟩
     obtain ⟨h1,h2⟩:=(U HV2).done (S0:=S) (U HX) (U HMF) (U HNE).1 (U HNE).2.1
     exact bodyPost_ret (h1.result rfl _ rfl) rfl (by rw [U HPP,U HEQ];exact h2)
  by_cases k3:(tkS T S).kind=3
  · skip
    as_aux_lemma=>
     have hok:S.err=0:=Classical.not_not.mp he
     have HOKF:Hid ((S.err == 0)=true):=by rw [hok];rfl
     have HNB:=V hb
     have hlt:(S.i:Int) < (T.length:Int):=by have:=U HI;omega
     have hi0:(0:Int) ≤ (S.i:Int):=by omega
     have hTl:(T.length:Int) ≤ 3000:=by have:=hT.len;omega
     obtain ⟨r,hr⟩:∃ r,r=numberS T most7 S:=⟨_,rfl⟩
     have HRN:=V hr
     have HEQ:Hid (factorS T sub1 sub7 n S=(valE 2 (wrap64 r.1) [],nextS T r.2)):=by
      show factorS T sub1 sub7 n S=_
      unfold factorS
      rw [if_neg (by rw [hb];decide),if_neg he,if_pos k3]
      dsimp only
      rw [← hr]
     have HMF:Hid (muS T (nextS T r.2) ≤ muS T S):=by
      show _ ≤ _
      have h1:=muS_nle T r.2
      have h2:=muS_number T most7 S
      rw [← hr] at h2
      omega
     obtain ⟨tk,htk⟩:∃ tk,tk=tkS T S:=⟨_,rfl⟩
     have htl:(tk.text.length:Int) ≤ 3000:=by rw [htk];have:=hT.text _ (tkS_mem (U HI));omega
     have q3:((tk.kind:Int) == 3)=true:=by rw [htk,k3];rfl
     have HT:Hid (∀ w',PX T w' p bt c S→w'.cell? ⟨p,0,none⟩=some (.slice (some ⟨bt,0,none⟩) T.length c)∧w'.cell? ⟨p,1,none⟩=some (.int .i64 (S.i:Int))∧w'.cell? ⟨bt,S.i * 3,none⟩=some (.int .i64 (tk.kind:Int))∧w'.cell? ⟨bt,S.i * 3+1,none⟩=some (.string ⟨tk.text.toArray⟩)∧w'.cell? ⟨bt,S.i * 3+2,none⟩=some (.int .i64 (tk.pos:Int))∧p < w'.heap.size∧bt < w'.heap.size):=fun w' h=>by
      have t:=h.tok h.lt
      rw [htk]
      exact ⟨h.cells.1,h.cells.2.1,t.1,t.2.1,t.2.2,h.lt_p,h.bt_lt⟩
     clear hr
     clear hb he k3 hok htk
     go_enter Tryz.func225,Tryz.ntmps225
     go_upto_region 13 with (first | (go_at_call 153;refine (sign_any' (U HV0).px [45]).mono ?_;rw [U HNB];rintro e w1 ⟨rfl,hp1,hf1⟩;have HV1:=V ((U HV0).move hp1 hf1 (U HNE).2.2);clear hp1 hf1 HV0) | (go_at_call 96;refine (ok_any' (U HV1).px).mono ?_;rw [U HOKF];rintro e w2 ⟨rfl,hp1,hf1⟩;have HV2:=V ((U HV1).move hp1 hf1 (U HNE).2.2);clear hp1 hf1 HV1))
     obtain ⟨c0,c1,t0,t1,t2,hpl,hbl⟩:=U HT _ (U HV2).px
     go_region
     have hB:Below w2.heap.size w2 (w2.alloc (.cells #[.int .i64 (tk.kind:Int),.string ⟨tk.text.toArray⟩,.int .i64 (tk.pos:Int)] 193)).drew:=((Below.refl _ _).alloc (Nat.le_refl _) _).drew
     have e0:(w2.alloc (.cells #[.int .i64 (tk.kind:Int),.string ⟨tk.text.toArray⟩,.int .i64 (tk.pos:Int)] 193)).drew.cell? ⟨w2.heap.size,0,none⟩=some (.int .i64 (tk.kind:Int)):=by simp
     have eb:(w2.alloc (.cells #[.int .i64 (tk.kind:Int),.string ⟨tk.text.toArray⟩,.int .i64 (tk.pos:Int)] 193)).drew.heap[w2.heap.size]?=some (.cells #[.int .i64 (tk.kind:Int),.string ⟨tk.text.toArray⟩,.int .i64 (tk.pos:Int)] 193 (0,0)):=heap_alloc_new _ _
     obtain ⟨w3,hw3⟩:∃ w3,w3=(w2.alloc (.cells #[.int .i64 (tk.kind:Int),.string ⟨tk.text.toArray⟩,.int .i64 (tk.pos:Int)] 193)).drew:=⟨_,rfl⟩
     rw [← hw3] at hB e0 eb
     rw [← hw3]
     clear hw3
     have HV3:=V ((U HV2).below hB)
     have HTB:Hid (∀ w',FrX p w3 w'→w'.cell? ⟨w2.heap.size,1,none⟩=some (.string ⟨tk.text.toArray⟩)):=fun w' hf=>by
      have h:=hf.keep eb (by omega)
      exact cellX h 1
     have HF3:=V (FrX.refl p w3)
     clear HV2 c0 c1 t0 t1 t2 hpl hbl hB eb HT
     go_wp2_with (first | (go_at_call 188;refine (number_any hT (U HV3).px most7 (by decide)).mono ?_;rw [← U HRN];rintro e w4 ⟨rfl,hp1,hf1⟩;have HV4:=V ((U HV3).move hp1 hf1 (U HNE).2.2);clear hp1 hf1 HV3) | (go_at_call 154;refine (next_any hT (U HV4).px).mono ?_;rintro e w5 ⟨rfl,hp1,hf1⟩;have HV5:=V ((U HV4).move hp1 hf1 (U HNE).2.2);clear hp1 hf1 HV4) | (go_at_call 227;refine (value_any 2 (wrap64 r.1) [] (fun b=>w.heap.size < b) _).mono ?_;rintro e w6 ⟨M,rfl,hx,hb⟩;have hl:=hx.len;have hv:=(U HV5).below hb;have hst:=hv.out.storeC hx.len hx.one;have HX:=V hx;have HV6:=V hv;clear hx hv hb HV5))
     obtain ⟨h1,h2⟩:=(U HV6).done (S0:=S) (U HX) (U HMF) (U HNE).1 (U HNE).2.1
     exact bodyPost_ret (h1.result rfl _ rfl) rfl (by rw [U HPP,U HEQ];exact h2)
  by_cases k4:(tkS T S).kind=4
  · by_cases k40:40 < (tkS T S).text.length
    · skip
      as_aux_lemma=>
       have hok:S.err=0:=Classical.not_not.mp he
       have HOKF:Hid ((S.err == 0)=true):=by rw [hok];rfl
       have HNB:=V hb
       have hlt:(S.i:Int) < (T.length:Int):=by have:=U HI;omega
       have hi0:(0:Int) ≤ (S.i:Int):=by omega
       have hTl:(T.length:Int) ≤ 3000:=by have:=hT.len;omega
       have HEQ:Hid (factorS T sub1 sub7 n S=(valE 3 0 (tkS T S).text,nextS T (failS T 2 S))):=by
        show factorS T sub1 sub7 n S=_
        unfold factorS
        rw [if_neg (by rw [hb];decide),if_neg he,if_neg k3,if_pos k4,if_pos k40]
       have HMF:Hid (muS T (nextS T (failS T 2 S)) ≤ muS T S):=by
        show _ ≤ _
        have h1:=muS_nle T (failS T 2 S)
        have h2:=muS_fail T 2 (by decide) S
        omega
       obtain ⟨tk,htk⟩:∃ tk,tk=tkS T S:=⟨_,rfl⟩
       have htl:(tk.text.length:Int) ≤ 3000:=by rw [htk];have:=hT.text _ (tkS_mem (U HI));omega
       have q3:((tk.kind:Int) == 3)=false:=by rw [beq_eq_false_iff_ne,htk];omega
       have q4:((tk.kind:Int) == 4)=true:=by rw [htk,k4];rfl
       have HT:Hid (∀ w',PX T w' p bt c S→w'.cell? ⟨p,0,none⟩=some (.slice (some ⟨bt,0,none⟩) T.length c)∧w'.cell? ⟨p,1,none⟩=some (.int .i64 (S.i:Int))∧w'.cell? ⟨bt,S.i * 3,none⟩=some (.int .i64 (tk.kind:Int))∧w'.cell? ⟨bt,S.i * 3+1,none⟩=some (.string ⟨tk.text.toArray⟩)∧w'.cell? ⟨bt,S.i * 3+2,none⟩=some (.int .i64 (tk.pos:Int))∧p < w'.heap.size∧bt < w'.heap.size):=fun w' h=>by
        have t:=h.tok h.lt
        rw [htk]
        exact ⟨h.cells.1,h.cells.2.1,t.1,t.2.1,t.2.2,h.lt_p,h.bt_lt⟩
       have q40:(40:Int) < (tk.text.length:Int):=by rw [htk];omega
       rw [← htk] at HEQ
       clear k40
       clear hb he k3 k4 hok htk
       go_enter Tryz.func225,Tryz.ntmps225
       go_upto_region 13 with (first | (go_at_call 153;refine (sign_any' (U HV0).px [45]).mono ?_;rw [U HNB];rintro e w1 ⟨rfl,hp1,hf1⟩;have HV1:=V ((U HV0).move hp1 hf1 (U HNE).2.2);clear hp1 hf1 HV0) | (go_at_call 96;refine (ok_any' (U HV1).px).mono ?_;rw [U HOKF];rintro e w2 ⟨rfl,hp1,hf1⟩;have HV2:=V ((U HV1).move hp1 hf1 (U HNE).2.2);clear hp1 hf1 HV1))
       obtain ⟨c0,c1,t0,t1,t2,hpl,hbl⟩:=U HT _ (U HV2).px
       go_region
       have hB:Below w2.heap.size w2 (w2.alloc (.cells #[.int .i64 (tk.kind:Int),.string ⟨tk.text.toArray⟩,.int .i64 (tk.pos:Int)] 193)).drew:=((Below.refl _ _).alloc (Nat.le_refl _) _).drew
       have e0:(w2.alloc (.cells #[.int .i64 (tk.kind:Int),.string ⟨tk.text.toArray⟩,.int .i64 (tk.pos:Int)] 193)).drew.cell? ⟨w2.heap.size,0,none⟩=some (.int .i64 (tk.kind:Int)):=by simp
       have eb:(w2.alloc (.cells #[.int .i64 (tk.kind:Int),.string ⟨tk.text.toArray⟩,.int .i64 (tk.pos:Int)] 193)).drew.heap[w2.heap.size]?=some (.cells #[.int .i64 (tk.kind:Int),.string ⟨tk.text.toArray⟩,.int .i64 (tk.pos:Int)] 193 (0,0)):=heap_alloc_new _ _
       obtain ⟨w3,hw3⟩:∃ w3,w3=(w2.alloc (.cells #[.int .i64 (tk.kind:Int),.string ⟨tk.text.toArray⟩,.int .i64 (tk.pos:Int)] 193)).drew:=⟨_,rfl⟩
       rw [← hw3] at hB e0 eb
       rw [← hw3]
       clear hw3
       have HV3:=V ((U HV2).below hB)
       have HTB:Hid (∀ w',FrX p w3 w'→w'.cell? ⟨w2.heap.size,1,none⟩=some (.string ⟨tk.text.toArray⟩)):=fun w' hf=>by
        have h:=hf.keep eb (by omega)
        exact cellX h 1
       have HF3:=V (FrX.refl p w3)
       clear HV2 c0 c1 t0 t1 t2 hpl hbl hB eb HT
       have ee3:=U HTB _ (U HF3)
       go_wp2_with (first | (go_at_call 97;refine (fail_any hT (U HV3).px 2 (by decide)).mono ?_;rintro e w4 ⟨rfl,hp1,hf1⟩;have HF4:=V ((U HF3).trans hf1);have ee4:=U HTB _ (U HF4);have HV4:=V ((U HV3).move hp1 hf1 (U HNE).2.2);clear hp1 hf1 HV3) | (go_at_call 154;refine (next_any hT (U HV4).px).mono ?_;rintro e w5 ⟨rfl,hp1,hf1⟩;have HF5:=V ((U HF4).trans hf1);have ee5:=U HTB _ (U HF5);have HV5:=V ((U HV4).move hp1 hf1 (U HNE).2.2);clear hp1 hf1 HV4) | (go_at_call 227;refine (value_any 3 0 tk.text (fun b=>w.heap.size < b) _).mono ?_;rintro e w6 ⟨M,rfl,hx,hb⟩;have hl:=hx.len;have hv:=(U HV5).below hb;have hst:=hv.out.storeC hx.len hx.one;have HX:=V hx;have HV6:=V hv;clear hx hv hb HV5))
       obtain ⟨h1,h2⟩:=(U HV6).done (S0:=S) (U HX) (U HMF) (U HNE).1 (U HNE).2.1
       exact bodyPost_ret (h1.result rfl _ rfl) rfl (by rw [U HPP,U HEQ];exact h2)
    · skip
      as_aux_lemma=>
       have hok:S.err=0:=Classical.not_not.mp he
       have HOKF:Hid ((S.err == 0)=true):=by rw [hok];rfl
       have HNB:=V hb
       have hlt:(S.i:Int) < (T.length:Int):=by have:=U HI;omega
       have hi0:(0:Int) ≤ (S.i:Int):=by omega
       have hTl:(T.length:Int) ≤ 3000:=by have:=hT.len;omega
       have HEQ:Hid (factorS T sub1 sub7 n S=(valE 3 0 (tkS T S).text,nextS T S)):=by
        show factorS T sub1 sub7 n S=_
        unfold factorS
        rw [if_neg (by rw [hb];decide),if_neg he,if_neg k3,if_pos k4,if_neg k40]
       have HMF:Hid (muS T (nextS T S) ≤ muS T S):=by
        show _ ≤ _
        exact muS_nle T S
       obtain ⟨tk,htk⟩:∃ tk,tk=tkS T S:=⟨_,rfl⟩
       have htl:(tk.text.length:Int) ≤ 3000:=by rw [htk];have:=hT.text _ (tkS_mem (U HI));omega
       have q3:((tk.kind:Int) == 3)=false:=by rw [beq_eq_false_iff_ne,htk];omega
       have q4:((tk.kind:Int) == 4)=true:=by rw [htk,k4];rfl
       have HT:Hid (∀ w',PX T w' p bt c S→w'.cell? ⟨p,0,none⟩=some (.slice (some ⟨bt,0,none⟩) T.length c)∧w'.cell? ⟨p,1,none⟩=some (.int .i64 (S.i:Int))∧w'.cell? ⟨bt,S.i * 3,none⟩=some (.int .i64 (tk.kind:Int))∧w'.cell? ⟨bt,S.i * 3+1,none⟩=some (.string ⟨tk.text.toArray⟩)∧w'.cell? ⟨bt,S.i * 3+2,none⟩=some (.int .i64 (tk.pos:Int))∧p < w'.heap.size∧bt < w'.heap.size):=fun w' h=>by
        have t:=h.tok h.lt
        rw [htk]
        exact ⟨h.cells.1,h.cells.2.1,t.1,t.2.1,t.2.2,h.lt_p,h.bt_lt⟩
       have q40:¬ (40:Int) < (tk.text.length:Int):=by rw [htk];omega
       rw [← htk] at HEQ
       clear k40
       clear hb he k3 k4 hok htk
       go_enter Tryz.func225,Tryz.ntmps225
       go_upto_region 13 with (first | (go_at_call 153;refine (sign_any' (U HV0).px [45]).mono ?_;rw [U HNB];rintro e w1 ⟨rfl,hp1,hf1⟩;have HV1:=V ((U HV0).move hp1 hf1 (U HNE).2.2);clear hp1 hf1 HV0) | (go_at_call 96;refine (ok_any' (U HV1).px).mono ?_;rw [U HOKF];rintro e w2 ⟨rfl,hp1,hf1⟩;have HV2:=V ((U HV1).move hp1 hf1 (U HNE).2.2);clear hp1 hf1 HV1))
       obtain ⟨c0,c1,t0,t1,t2,hpl,hbl⟩:=U HT _ (U HV2).px
       go_region
       have hB:Below w2.heap.size w2 (w2.alloc (.cells #[.int .i64 (tk.kind:Int),.string ⟨tk.text.toArray⟩,.int .i64 (tk.pos:Int)] 193)).drew:=((Below.refl _ _).alloc (Nat.le_refl _) _).drew
       have e0:(w2.alloc (.cells #[.int .i64 (tk.kind:Int),.string ⟨tk.text.toArray⟩,.int .i64 (tk.pos:Int)] 193)).drew.cell? ⟨w2.heap.size,0,none⟩=some (.int .i64 (tk.kind:Int)):=by simp
       have eb:(w2.alloc (.cells #[.int .i64 (tk.kind:Int),.string ⟨tk.text.toArray⟩,.int .i64 (tk.pos:Int)] 193)).drew.heap[w2.heap.size]?=some (.cells #[.int .i64 (tk.kind:Int),.string ⟨tk.text.toArray⟩,.int .i64 (tk.pos:Int)] 193 (0,0)):=heap_alloc_new _ _
       obtain ⟨w3,hw3⟩:∃ w3,w3=(w2.alloc (.cells #[.int .i64 (tk.kind:Int),.string ⟨tk.text.toArray⟩,.int .i64 (tk.pos:Int)] 193)).drew:=⟨_,rfl⟩
       rw [← hw3] at hB e0 eb
       rw [← hw3]
       clear hw3
       have HV3:=V ((U HV2).below hB)
       have HTB:Hid (∀ w',FrX p w3 w'→w'.cell? ⟨w2.heap.size,1,none⟩=some (.string ⟨tk.text.toArray⟩)):=fun w' hf=>by
        have h:=hf.keep eb (by omega)
        exact cellX h 1
       have HF3:=V (FrX.refl p w3)
       clear HV2 c0 c1 t0 t1 t2 hpl hbl hB eb HT
       have ee3:=U HTB _ (U HF3)
       go_wp2_with (first | (go_at_call 154;refine (next_any hT (U HV3).px).mono ?_;rintro e w4 ⟨rfl,hp1,hf1⟩;have HF4:=V ((U HF3).trans hf1);have ee4:=U HTB _ (U HF4);have HV4:=V ((U HV3).move hp1 hf1 (U HNE).2.2);clear hp1 hf1 HV3) | (go_at_call 227;refine (value_any 3 0 tk.text (fun b=>w.heap.size < b) _).mono ?_;rintro e w5 ⟨M,rfl,hx,hb⟩;have hl:=hx.len;have hv:=(U HV4).below hb;have hst:=hv.out.storeC hx.len hx.one;have HX:=V hx;have HV5:=V hv;clear hx hv hb HV4))
       obtain ⟨h1,h2⟩:=(U HV5).done (S0:=S) (U HX) (U HMF) (U HNE).1 (U HNE).2.1
       exact bodyPost_ret (h1.result rfl _ rfl) rfl (by rw [U HPP,U HEQ];exact h2)
  by_cases k1:(tkS T S).kind=1
  · cases hd:isS T 5 [46] (nameS T S).2
    · skip
      as_aux_lemma=>
       have hok:S.err=0:=Classical.not_not.mp he
       have HOKF:Hid ((S.err == 0)=true):=by rw [hok];rfl
       have HNB:=V hb
       have hlt:(S.i:Int) < (T.length:Int):=by have:=U HI;omega
       have hi0:(0:Int) ≤ (S.i:Int):=by omega
       have hTl:(T.length:Int) ≤ 3000:=by have:=hT.len;omega
       obtain ⟨r,hr⟩:∃ r,r=nameS T S:=⟨_,rfl⟩
       have HRN:=V hr
       rw [← hr] at hd
       have HDT:=V hd
       have HEQ:Hid (factorS T sub1 sub7 n S=(colE [] r.1,r.2)):=by
        show factorS T sub1 sub7 n S=_
        unfold factorS
        rw [if_neg (by rw [hb];decide),if_neg he,if_neg k3,if_neg k4,if_pos k1]
        dsimp only
        rw [← hr,if_neg (by rw [hd];decide)]
       have HMF:Hid (muS T r.2 ≤ muS T S):=by
        show _ ≤ _
        rw [hr];exact muS_name T S
       obtain ⟨tk,htk⟩:∃ tk,tk=tkS T S:=⟨_,rfl⟩
       have htl:(tk.text.length:Int) ≤ 3000:=by rw [htk];have:=hT.text _ (tkS_mem (U HI));omega
       have q3:((tk.kind:Int) == 3)=false:=by rw [beq_eq_false_iff_ne,htk];omega
       have q4:((tk.kind:Int) == 4)=false:=by rw [beq_eq_false_iff_ne,htk];omega
       have q1:((tk.kind:Int) == 1)=true:=by rw [htk,k1];rfl
       have HT:Hid (∀ w',PX T w' p bt c S→w'.cell? ⟨p,0,none⟩=some (.slice (some ⟨bt,0,none⟩) T.length c)∧w'.cell? ⟨p,1,none⟩=some (.int .i64 (S.i:Int))∧w'.cell? ⟨bt,S.i * 3,none⟩=some (.int .i64 (tk.kind:Int))∧w'.cell? ⟨bt,S.i * 3+1,none⟩=some (.string ⟨tk.text.toArray⟩)∧w'.cell? ⟨bt,S.i * 3+2,none⟩=some (.int .i64 (tk.pos:Int))∧p < w'.heap.size∧bt < w'.heap.size):=fun w' h=>by
        have t:=h.tok h.lt
        rw [htk]
        exact ⟨h.cells.1,h.cells.2.1,t.1,t.2.1,t.2.2,h.lt_p,h.bt_lt⟩
       have HMA:Hid (mayS T 5 [46] r.2=r.2):=by show mayS T 5 [46] r.2=_;unfold mayS;rw [hd];rfl
       clear hd hr
       clear hb he k3 k4 k1 hok htk
       go_enter Tryz.func225,Tryz.ntmps225
       go_upto_region 13 with (first | (go_at_call 153;refine (sign_any' (U HV0).px [45]).mono ?_;rw [U HNB];rintro e w1 ⟨rfl,hp1,hf1⟩;have HV1:=V ((U HV0).move hp1 hf1 (U HNE).2.2);clear hp1 hf1 HV0) | (go_at_call 96;refine (ok_any' (U HV1).px).mono ?_;rw [U HOKF];rintro e w2 ⟨rfl,hp1,hf1⟩;have HV2:=V ((U HV1).move hp1 hf1 (U HNE).2.2);clear hp1 hf1 HV1))
       obtain ⟨c0,c1,t0,t1,t2,hpl,hbl⟩:=U HT _ (U HV2).px
       go_region
       have hB:Below w2.heap.size w2 (w2.alloc (.cells #[.int .i64 (tk.kind:Int),.string ⟨tk.text.toArray⟩,.int .i64 (tk.pos:Int)] 193)).drew:=((Below.refl _ _).alloc (Nat.le_refl _) _).drew
       have e0:(w2.alloc (.cells #[.int .i64 (tk.kind:Int),.string ⟨tk.text.toArray⟩,.int .i64 (tk.pos:Int)] 193)).drew.cell? ⟨w2.heap.size,0,none⟩=some (.int .i64 (tk.kind:Int)):=by simp
       have eb:(w2.alloc (.cells #[.int .i64 (tk.kind:Int),.string ⟨tk.text.toArray⟩,.int .i64 (tk.pos:Int)] 193)).drew.heap[w2.heap.size]?=some (.cells #[.int .i64 (tk.kind:Int),.string ⟨tk.text.toArray⟩,.int .i64 (tk.pos:Int)] 193 (0,0)):=heap_alloc_new _ _
       obtain ⟨w3,hw3⟩:∃ w3,w3=(w2.alloc (.cells #[.int .i64 (tk.kind:Int),.string ⟨tk.text.toArray⟩,.int .i64 (tk.pos:Int)] 193)).drew:=⟨_,rfl⟩
       rw [← hw3] at hB e0 eb
       rw [← hw3]
       clear hw3
       have HV3:=V ((U HV2).below hB)
       have HTB:Hid (∀ w',FrX p w3 w'→w'.cell? ⟨w2.heap.size,1,none⟩=some (.string ⟨tk.text.toArray⟩)):=fun w' hf=>by
        have h:=hf.keep eb (by omega)
        exact cellX h 1
       have HF3:=V (FrX.refl p w3)
       clear HV2 c0 c1 t0 t1 t2 hpl hbl hB eb HT
       go_upto_region 26 with (go_at_call 145;refine (name_any hT (U HV3).px).mono ?_;rw [← U HRN];unfold sv;rintro e w4 ⟨rfl,hp1,hf1⟩;have HF4:=V hf1;have HV4:=V ((U HV3).move hp1 hf1 (U HNE).2.2);clear hp1 hf1 HV3)
       obtain ⟨M,hM⟩:∃ M:List Value,M=ndC ⟨2,0,0,0,[],[],r.1,0,0⟩ (.slice none 0 0):=⟨_,rfl⟩
       have eM:M.toArray=#[.int .i64 2,.int .i64 0,.int .i64 0,.int .i64 0,.string ⟨#[]⟩,.string ⟨#[]⟩,.string ⟨r.1.toArray⟩,.slice none 0 0,.int .i64 0,.int .i64 0]:=by rw [hM];rfl
       rw [← eM]
       have HM:=V hM
       have hlM:M.length=10:=by rw [hM];rfl
       have HVN:=V (VrX.new w4 hlM)
       have hlo4:=ltX (U HV4).out.1
       have hbt4:=(U HV4).px.bt_lt
       have HV5:=V ((U HV4).below (alX (Below.refl _ _) (.cells M.toArray 29)))
       obtain ⟨w5,hw5⟩:∃ w5,w5=w4.alloc (.cells M.toArray 29):=⟨_,rfl⟩
       rw [← hw5] at HVN HV5
       rw [← hw5]
       clear hw5 hM eM HV4
       go_upto_region 29 with (go_at_call 95;refine (maySign_any hT (U HV5).px [46]).mono ?_;rw [U HDT];rintro e w6 ⟨rfl,hp1,hf1⟩;rw [U HMA] at hp1;have HVM:=V ((U HVN).keep (hf1.blk _ (ltX (U HVN).1) (by have:=(U HNE).2.2;omega)));have HV6:=V ((U HV5).move hp1 hf1 (U HNE).2.2);clear hp1 hf1 HV5)
       have HX:Hid (ExM w6 (fun b=>w.heap.size < b) M (colE [] r.1)):=⟨.slice none 0 0,U HM,.inl ⟨rfl,0,rfl⟩⟩
       have hst:=(U HV6).out.storeC hlM (U HX).one
       refine wp_region_list ?_
       refine wpList_load_mid rfl 29 (.tmp 7) rfl w4.heap.size 0 rfl M _ (U HVM).range Tryz.underlying29 rfl (by rw [hlM];exact sizeEx) ?_
       go_wp2_with fail
       obtain ⟨h1,h2⟩:=(U HV6).done (S0:=S) (U HX) (U HMF) (U HNE).1 (U HNE).2.1
       exact bodyPost_ret (h1.result rfl _ rfl) rfl (by rw [U HPP,U HEQ];exact h2)
    · skip
      as_aux_lemma=>
       have hok:S.err=0:=Classical.not_not.mp he
       have HOKF:Hid ((S.err == 0)=true):=by rw [hok];rfl
       have HNB:=V hb
       have hlt:(S.i:Int) < (T.length:Int):=by have:=U HI;omega
       have hi0:(0:Int) ≤ (S.i:Int):=by omega
       have hTl:(T.length:Int) ≤ 3000:=by have:=hT.len;omega
       obtain ⟨r,hr⟩:∃ r,r=nameS T S:=⟨_,rfl⟩
       have HRN:=V hr
       rw [← hr] at hd
       have HDT:=V hd
       obtain ⟨q,hq⟩:∃ q,q=nameS T (nextS T r.2):=⟨_,rfl⟩
       have HRQ:=V hq
       have HEQ:Hid (factorS T sub1 sub7 n S=(colE r.1 q.1,q.2)):=by
        show factorS T sub1 sub7 n S=_
        unfold factorS
        rw [if_neg (by rw [hb];decide),if_neg he,if_neg k3,if_neg k4,if_pos k1]
        dsimp only
        rw [← hr,if_pos hd,← hq]
       have HMF:Hid (muS T q.2 ≤ muS T S):=by
        show _ ≤ _
        rw [hq]
        have a1:=muS_name T (nextS T r.2)
        have a2:=muS_nle T r.2
        have a3:muS T r.2 ≤ muS T S:=by rw [hr];exact muS_name T S
        omega
       obtain ⟨tk,htk⟩:∃ tk,tk=tkS T S:=⟨_,rfl⟩
       have htl:(tk.text.length:Int) ≤ 3000:=by rw [htk];have:=hT.text _ (tkS_mem (U HI));omega
       have q3:((tk.kind:Int) == 3)=false:=by rw [beq_eq_false_iff_ne,htk];omega
       have q4:((tk.kind:Int) == 4)=false:=by rw [beq_eq_false_iff_ne,htk];omega
       have q1:((tk.kind:Int) == 1)=true:=by rw [htk,k1];rfl
       have HT:Hid (∀ w',PX T w' p bt c S→w'.cell? ⟨p,0,none⟩=some (.slice (some ⟨bt,0,none⟩) T.length c)∧w'.cell? ⟨p,1,none⟩=some (.int .i64 (S.i:Int))∧w'.cell? ⟨bt,S.i * 3,none⟩=some (.int .i64 (tk.kind:Int))∧w'.cell? ⟨bt,S.i * 3+1,none⟩=some (.string ⟨tk.text.toArray⟩)∧w'.cell? ⟨bt,S.i * 3+2,none⟩=some (.int .i64 (tk.pos:Int))∧p < w'.heap.size∧bt < w'.heap.size):=fun w' h=>by
        have t:=h.tok h.lt
        rw [htk]
        exact ⟨h.cells.1,h.cells.2.1,t.1,t.2.1,t.2.2,h.lt_p,h.bt_lt⟩
       have HMA:Hid (mayS T 5 [46] r.2=nextS T r.2):=by show mayS T 5 [46] r.2=_;unfold mayS;rw [hd];rfl
       clear hd hr hq
       clear hb he k3 k4 k1 hok htk
       go_enter Tryz.func225,Tryz.ntmps225
       go_upto_region 13 with (first | (go_at_call 153;refine (sign_any' (U HV0).px [45]).mono ?_;rw [U HNB];rintro e w1 ⟨rfl,hp1,hf1⟩;have HV1:=V ((U HV0).move hp1 hf1 (U HNE).2.2);clear hp1 hf1 HV0) | (go_at_call 96;refine (ok_any' (U HV1).px).mono ?_;rw [U HOKF];rintro e w2 ⟨rfl,hp1,hf1⟩;have HV2:=V ((U HV1).move hp1 hf1 (U HNE).2.2);clear hp1 hf1 HV1))
       obtain ⟨c0,c1,t0,t1,t2,hpl,hbl⟩:=U HT _ (U HV2).px
       go_region
       have hB:Below w2.heap.size w2 (w2.alloc (.cells #[.int .i64 (tk.kind:Int),.string ⟨tk.text.toArray⟩,.int .i64 (tk.pos:Int)] 193)).drew:=((Below.refl _ _).alloc (Nat.le_refl _) _).drew
       have e0:(w2.alloc (.cells #[.int .i64 (tk.kind:Int),.string ⟨tk.text.toArray⟩,.int .i64 (tk.pos:Int)] 193)).drew.cell? ⟨w2.heap.size,0,none⟩=some (.int .i64 (tk.kind:Int)):=by simp
       have eb:(w2.alloc (.cells #[.int .i64 (tk.kind:Int),.string ⟨tk.text.toArray⟩,.int .i64 (tk.pos:Int)] 193)).drew.heap[w2.heap.size]?=some (.cells #[.int .i64 (tk.kind:Int),.string ⟨tk.text.toArray⟩,.int .i64 (tk.pos:Int)] 193 (0,0)):=heap_alloc_new _ _
       obtain ⟨w3,hw3⟩:∃ w3,w3=(w2.alloc (.cells #[.int .i64 (tk.kind:Int),.string ⟨tk.text.toArray⟩,.int .i64 (tk.pos:Int)] 193)).drew:=⟨_,rfl⟩
       rw [← hw3] at hB e0 eb
       rw [← hw3]
       clear hw3
       have HV3:=V ((U HV2).below hB)
       have HTB:Hid (∀ w',FrX p w3 w'→w'.cell? ⟨w2.heap.size,1,none⟩=some (.string ⟨tk.text.toArray⟩)):=fun w' hf=>by
        have h:=hf.keep eb (by omega)
        exact cellX h 1
       have HF3:=V (FrX.refl p w3)
       clear HV2 c0 c1 t0 t1 t2 hpl hbl hB eb HT
       go_upto_region 26 with (go_at_call 145;refine (name_any hT (U HV3).px).mono ?_;rw [← U HRN];unfold sv;rintro e w4 ⟨rfl,hp1,hf1⟩;have HF4:=V hf1;have HV4:=V ((U HV3).move hp1 hf1 (U HNE).2.2);clear hp1 hf1 HV3)
       obtain ⟨M,hM⟩:∃ M:List Value,M=ndC ⟨2,0,0,0,[],[],r.1,0,0⟩ (.slice none 0 0):=⟨_,rfl⟩
       have eM:M.toArray=#[.int .i64 2,.int .i64 0,.int .i64 0,.int .i64 0,.string ⟨#[]⟩,.string ⟨#[]⟩,.string ⟨r.1.toArray⟩,.slice none 0 0,.int .i64 0,.int .i64 0]:=by rw [hM];rfl
       rw [← eM]
       have HM:=V hM
       have hlM:M.length=10:=by rw [hM];rfl
       have HVN:=V (VrX.new w4 hlM)
       have hlo4:=ltX (U HV4).out.1
       have hbt4:=(U HV4).px.bt_lt
       have HV5:=V ((U HV4).below (alX (Below.refl _ _) (.cells M.toArray 29)))
       obtain ⟨w5,hw5⟩:∃ w5,w5=w4.alloc (.cells M.toArray 29):=⟨_,rfl⟩
       rw [← hw5] at HVN HV5
       rw [← hw5]
       clear hw5 hM eM HV4
       go_upto_region 27 with (go_at_call 95;refine (maySign_any hT (U HV5).px [46]).mono ?_;rw [U HDT];rintro e w6 ⟨rfl,hp1,hf1⟩;rw [U HMA] at hp1;have HVM:=V ((U HVN).keep (hf1.blk _ (ltX (U HVN).1) (by have:=(U HNE).2.2;omega)));have HV6:=V ((U HV5).move hp1 hf1 (U HNE).2.2);clear hp1 hf1 HV5)
       have eb6:=(U HVM).1
       have ee6:w6.cell? ⟨w4.heap.size,6,none⟩=some (.string ⟨r.1.toArray⟩):=by rw [cellX eb6,U HM];rfl
       have ee5:w6.cell? ⟨w4.heap.size,5,none⟩=some (.string ⟨#[]⟩):=by rw [cellX eb6,U HM];rfl
       have ff5:=frzX eb6 5
       have hne4:w4.heap.size ≠ p:=by have:=(U HNE).2.2;omega
       go_upto_region 28 with fail
       have eb7:=setX eb6 5 (.string ⟨r.1.toArray⟩)
       have HV7:=V ((U HV6).setO (b:=w4.heap.size) hlo4 hne4 (by omega) 5 (.string ⟨r.1.toArray⟩))
       obtain ⟨w7,hw7⟩:∃ w7,w7=w6.setCell ⟨w4.heap.size,5,none⟩ (.string ⟨r.1.toArray⟩):=⟨_,rfl⟩
       rw [← hw7] at HV7 eb7
       rw [← hw7]
       clear hw7 ee6 ee5 ff5
       have EB7:=V eb7
       clear eb7 eb6
       go_upto_region 29 with (go_at_call 145;refine (name_any hT (U HV7).px).mono ?_;rw [← U HRQ];unfold sv;rintro e w8 ⟨rfl,hp1,hf1⟩;have HF8:=V hf1;have eb8:=hf1.keep (U EB7) hne4;have ff8:=frzX eb8 6;have ee8:=cellX eb8 6;rw [U HM] at ee8;have EB8:=V eb8;clear eb8;have HV8:=V ((U HV7).move hp1 hf1 (U HNE).2.2);clear hp1 hf1 HV7)
       have eb9:=setX (U EB8) 6 (.string ⟨q.1.toArray⟩)
       have HV9:=V ((U HV8).setO (b:=w4.heap.size) hlo4 hne4 (by omega) 6 (.string ⟨q.1.toArray⟩))
       obtain ⟨w9,hw9⟩:∃ w9,w9=w8.setCell ⟨w4.heap.size,6,none⟩ (.string ⟨q.1.toArray⟩):=⟨_,rfl⟩
       rw [← hw9] at HV9 eb9
       rw [← hw9]
       obtain ⟨M',hM'⟩:∃ M':List Value,M'=ndC ⟨2,0,0,0,[],r.1,q.1,0,0⟩ (.slice none 0 0):=⟨_,rfl⟩
       have hlM':M'.length=10:=by rw [hM'];rfl
       have HVM':Hid (VrX w9 w4.heap.size M'):=⟨by rw [eb9,hM',U HM];rfl,hlM'⟩
       have HX:Hid (ExM w9 (fun b=>w.heap.size < b) M' (colE r.1 q.1)):=⟨.slice none 0 0,hM',.inl ⟨rfl,0,rfl⟩⟩
       clear hw9 hM' eb9 ee8 ff8
       have hst:=(U HV9).out.storeC hlM' (U HX).one
       refine wp_region_list ?_
       refine wpList_load_mid rfl 29 (.tmp 7) rfl w4.heap.size 0 rfl M' _ (U HVM').range Tryz.underlying29 rfl (by rw [hlM'];exact sizeEx) ?_
       go_wp2_with fail
       obtain ⟨h1,h2⟩:=(U HV9).done (S0:=S) (U HX) (U HMF) (U HNE).1 (U HNE).2.1
       exact bodyPost_ret (h1.result rfl _ rfl) rfl (by rw [U HPP,U HEQ];exact h2)
  cases hn:isS T 2 [78,85,76,76] S with
  | true=>
   skip
   as_aux_lemma=>
    have hok:S.err=0:=Classical.not_not.mp he
    have HOKF:Hid ((S.err == 0)=true):=by rw [hok];rfl
    have HNB:=V hb
    have hlt:(S.i:Int) < (T.length:Int):=by have:=U HI;omega
    have hi0:(0:Int) ≤ (S.i:Int):=by omega
    have hTl:(T.length:Int) ≤ 3000:=by have:=hT.len;omega
    have HW1:=V hn
    have MHW1:Hid (mayS T 2 [78,85,76,76] S=nextS T S):=by show mayS T 2 [78,85,76,76] S=_;unfold mayS;rw [hn];rfl
    have HEQ:Hid (factorS T sub1 sub7 n S=(valE 0 0 [],nextS T S)):=by
     show factorS T sub1 sub7 n S=_
     unfold factorS
     rw [if_neg (by rw [hb];decide),if_neg he,if_neg k3,if_neg k4,if_neg k1,if_pos hn]
    have HMF:Hid (muS T (nextS T S) ≤ muS T S):=by
     show _ ≤ _
     exact muS_nle T S
    obtain ⟨tk,htk⟩:∃ tk,tk=tkS T S:=⟨_,rfl⟩
    have htl:(tk.text.length:Int) ≤ 3000:=by rw [htk];have:=hT.text _ (tkS_mem (U HI));omega
    have q3:((tk.kind:Int) == 3)=false:=by rw [beq_eq_false_iff_ne,htk];omega
    have q4:((tk.kind:Int) == 4)=false:=by rw [beq_eq_false_iff_ne,htk];omega
    have q1:((tk.kind:Int) == 1)=false:=by rw [beq_eq_false_iff_ne,htk];omega
    have HT:Hid (∀ w',PX T w' p bt c S→w'.cell? ⟨p,0,none⟩=some (.slice (some ⟨bt,0,none⟩) T.length c)∧w'.cell? ⟨p,1,none⟩=some (.int .i64 (S.i:Int))∧w'.cell? ⟨bt,S.i * 3,none⟩=some (.int .i64 (tk.kind:Int))∧w'.cell? ⟨bt,S.i * 3+1,none⟩=some (.string ⟨tk.text.toArray⟩)∧w'.cell? ⟨bt,S.i * 3+2,none⟩=some (.int .i64 (tk.pos:Int))∧p < w'.heap.size∧bt < w'.heap.size):=fun w' h=>by
     have t:=h.tok h.lt
     rw [htk]
     exact ⟨h.cells.1,h.cells.2.1,t.1,t.2.1,t.2.2,h.lt_p,h.bt_lt⟩
    clear hn
    clear hb he k3 k4 k1 hok htk
    go_enter Tryz.func225,Tryz.ntmps225
    go_upto_region 13 with (first | (go_at_call 153;refine (sign_any' (U HV0).px [45]).mono ?_;rw [U HNB];rintro e w1 ⟨rfl,hp1,hf1⟩;have HV1:=V ((U HV0).move hp1 hf1 (U HNE).2.2);clear hp1 hf1 HV0) | (go_at_call 96;refine (ok_any' (U HV1).px).mono ?_;rw [U HOKF];rintro e w2 ⟨rfl,hp1,hf1⟩;have HV2:=V ((U HV1).move hp1 hf1 (U HNE).2.2);clear hp1 hf1 HV1))
    obtain ⟨c0,c1,t0,t1,t2,hpl,hbl⟩:=U HT _ (U HV2).px
    go_region
    have hB:Below w2.heap.size w2 (w2.alloc (.cells #[.int .i64 (tk.kind:Int),.string ⟨tk.text.toArray⟩,.int .i64 (tk.pos:Int)] 193)).drew:=((Below.refl _ _).alloc (Nat.le_refl _) _).drew
    have e0:(w2.alloc (.cells #[.int .i64 (tk.kind:Int),.string ⟨tk.text.toArray⟩,.int .i64 (tk.pos:Int)] 193)).drew.cell? ⟨w2.heap.size,0,none⟩=some (.int .i64 (tk.kind:Int)):=by simp
    have eb:(w2.alloc (.cells #[.int .i64 (tk.kind:Int),.string ⟨tk.text.toArray⟩,.int .i64 (tk.pos:Int)] 193)).drew.heap[w2.heap.size]?=some (.cells #[.int .i64 (tk.kind:Int),.string ⟨tk.text.toArray⟩,.int .i64 (tk.pos:Int)] 193 (0,0)):=heap_alloc_new _ _
    obtain ⟨w3,hw3⟩:∃ w3,w3=(w2.alloc (.cells #[.int .i64 (tk.kind:Int),.string ⟨tk.text.toArray⟩,.int .i64 (tk.pos:Int)] 193)).drew:=⟨_,rfl⟩
    rw [← hw3] at hB e0 eb
    rw [← hw3]
    clear hw3
    have HV3:=V ((U HV2).below hB)
    have HTB:Hid (∀ w',FrX p w3 w'→w'.cell? ⟨w2.heap.size,1,none⟩=some (.string ⟨tk.text.toArray⟩)):=fun w' hf=>by
     have h:=hf.keep eb (by omega)
     exact cellX h 1
    have HF3:=V (FrX.refl p w3)
    clear HV2 c0 c1 t0 t1 t2 hpl hbl hB eb HT
    go_wp2_with (first | (go_at_call 143;refine (may_any hT (U HV3).px [78,85,76,76]).mono ?_;rw [U HW1];rintro e w4 ⟨rfl,hp1,hf1⟩;rw [U MHW1] at hp1;have HF4:=V ((U HF3).trans hf1);have HV4:=V ((U HV3).move hp1 hf1 (U HNE).2.2);clear hp1 hf1 HV3) | (go_at_call 227;refine (value_any 0 0 [] (fun b=>w.heap.size < b) _).mono ?_;rintro e w5 ⟨M,rfl,hx,hb⟩;have hl:=hx.len;have hv:=(U HV4).below hb;have hst:=hv.out.storeC hx.len hx.one;have HX:=V hx;have HV5:=V hv;clear hx hv hb HV4))
    obtain ⟨h1,h2⟩:=(U HV5).done (S0:=S) (U HX) (U HMF) (U HNE).1 (U HNE).2.1
    exact bodyPost_ret (h1.result rfl _ rfl) rfl (by rw [U HPP,U HEQ];exact h2)
  | false=>
  cases ht:isS T 2 [84,82,85,69] S with
  | true=>
   skip
   as_aux_lemma=>
    have hok:S.err=0:=Classical.not_not.mp he
    have HOKF:Hid ((S.err == 0)=true):=by rw [hok];rfl
    have HNB:=V hb
    have hlt:(S.i:Int) < (T.length:Int):=by have:=U HI;omega
    have hi0:(0:Int) ≤ (S.i:Int):=by omega
    have hTl:(T.length:Int) ≤ 3000:=by have:=hT.len;omega
    have HW1:=V hn
    have MHW1:Hid (mayS T 2 [78,85,76,76] S=S):=by show mayS T 2 [78,85,76,76] S=_;unfold mayS;rw [hn];rfl
    have HW2:=V ht
    have MHW2:Hid (mayS T 2 [84,82,85,69] S=nextS T S):=by show mayS T 2 [84,82,85,69] S=_;unfold mayS;rw [ht];rfl
    have HEQ:Hid (factorS T sub1 sub7 n S=(valE 1 1 [],nextS T S)):=by
     show factorS T sub1 sub7 n S=_
     unfold factorS
     rw [if_neg (by rw [hb];decide),if_neg he,if_neg k3,if_neg k4,if_neg k1,if_neg (by rw [hn];decide),if_pos ht]
    have HMF:Hid (muS T (nextS T S) ≤ muS T S):=by
     show _ ≤ _
     exact muS_nle T S
    obtain ⟨tk,htk⟩:∃ tk,tk=tkS T S:=⟨_,rfl⟩
    have htl:(tk.text.length:Int) ≤ 3000:=by rw [htk];have:=hT.text _ (tkS_mem (U HI));omega
    have q3:((tk.kind:Int) == 3)=false:=by rw [beq_eq_false_iff_ne,htk];omega
    have q4:((tk.kind:Int) == 4)=false:=by rw [beq_eq_false_iff_ne,htk];omega
    have q1:((tk.kind:Int) == 1)=false:=by rw [beq_eq_false_iff_ne,htk];omega
    have HT:Hid (∀ w',PX T w' p bt c S→w'.cell? ⟨p,0,none⟩=some (.slice (some ⟨bt,0,none⟩) T.length c)∧w'.cell? ⟨p,1,none⟩=some (.int .i64 (S.i:Int))∧w'.cell? ⟨bt,S.i * 3,none⟩=some (.int .i64 (tk.kind:Int))∧w'.cell? ⟨bt,S.i * 3+1,none⟩=some (.string ⟨tk.text.toArray⟩)∧w'.cell? ⟨bt,S.i * 3+2,none⟩=some (.int .i64 (tk.pos:Int))∧p < w'.heap.size∧bt < w'.heap.size):=fun w' h=>by
     have t:=h.tok h.lt
     rw [htk]
     exact ⟨h.cells.1,h.cells.2.1,t.1,t.2.1,t.2.2,h.lt_p,h.bt_lt⟩
    clear hn ht
    clear hb he k3 k4 k1 hok htk
    go_enter Tryz.func225,Tryz.ntmps225
    go_upto_region 13 with (first | (go_at_call 153;refine (sign_any' (U HV0).px [45]).mono ?_;rw [U HNB];rintro e w1 ⟨rfl,hp1,hf1⟩;have HV1:=V ((U HV0).move hp1 hf1 (U HNE).2.2);clear hp1 hf1 HV0) | (go_at_call 96;refine (ok_any' (U HV1).px).mono ?_;rw [U HOKF];rintro e w2 ⟨rfl,hp1,hf1⟩;have HV2:=V ((U HV1).move hp1 hf1 (U HNE).2.2);clear hp1 hf1 HV1))
    obtain ⟨c0,c1,t0,t1,t2,hpl,hbl⟩:=U HT _ (U HV2).px
    go_region
    have hB:Below w2.heap.size w2 (w2.alloc (.cells #[.int .i64 (tk.kind:Int),.string ⟨tk.text.toArray⟩,.int .i64 (tk.pos:Int)] 193)).drew:=((Below.refl _ _).alloc (Nat.le_refl _) _).drew
    have e0:(w2.alloc (.cells #[.int .i64 (tk.kind:Int),.string ⟨tk.text.toArray⟩,.int .i64 (tk.pos:Int)] 193)).drew.cell? ⟨w2.heap.size,0,none⟩=some (.int .i64 (tk.kind:Int)):=by simp
    have eb:(w2.alloc (.cells #[.int .i64 (tk.kind:Int),.string ⟨tk.text.toArray⟩,.int .i64 (tk.pos:Int)] 193)).drew.heap[w2.heap.size]?=some (.cells #[.int .i64 (tk.kind:Int),.string ⟨tk.text.toArray⟩,.int .i64 (tk.pos:Int)] 193 (0,0)):=heap_alloc_new _ _
    obtain ⟨w3,hw3⟩:∃ w3,w3=(w2.alloc (.cells #[.int .i64 (tk.kind:Int),.string ⟨tk.text.toArray⟩,.int .i64 (tk.pos:Int)] 193)).drew:=⟨_,rfl⟩
    rw [← hw3] at hB e0 eb
    rw [← hw3]
    clear hw3
    have HV3:=V ((U HV2).below hB)
    have HTB:Hid (∀ w',FrX p w3 w'→w'.cell? ⟨w2.heap.size,1,none⟩=some (.string ⟨tk.text.toArray⟩)):=fun w' hf=>by
     have h:=hf.keep eb (by omega)
     exact cellX h 1
    have HF3:=V (FrX.refl p w3)
    clear HV2 c0 c1 t0 t1 t2 hpl hbl hB eb HT
    go_wp2_with (first | (go_at_call 143;refine (may_any hT (U HV3).px [78,85,76,76]).mono ?_;rw [U HW1];rintro e w4 ⟨rfl,hp1,hf1⟩;rw [U MHW1] at hp1;have HF4:=V ((U HF3).trans hf1);have HV4:=V ((U HV3).move hp1 hf1 (U HNE).2.2);clear hp1 hf1 HV3) | (go_at_call 143;refine (may_any hT (U HV4).px [84,82,85,69]).mono ?_;rw [U HW2];rintro e w5 ⟨rfl,hp1,hf1⟩;rw [U MHW2] at hp1;have HF5:=V ((U HF4).trans hf1);have HV5:=V ((U HV4).move hp1 hf1 (U HNE).2.2);clear hp1 hf1 HV4) | (go_at_call 227;refine (value_any 1 1 [] (fun b=>w.heap.size < b) _).mono ?_;rintro e w6 ⟨M,rfl,hx,hb⟩;have hl:=hx.len;have hv:=(U HV5).below hb;have hst:=hv.out.storeC hx.len hx.one;have HX:=V hx;have HV6:=V hv;clear hx hv hb HV5))
    obtain ⟨h1,h2⟩:=(U HV6).done (S0:=S) (U HX) (U HMF) (U HNE).1 (U HNE).2.1
    exact bodyPost_ret (h1.result rfl _ rfl) rfl (by rw [U HPP,U HEQ];exact h2)
  | false=>
  cases hf:isS T 2 [70,65,76,83,69] S with
  | true=>
   skip
   as_aux_lemma=>
    have hok:S.err=0:=Classical.not_not.mp he
    have HOKF:Hid ((S.err == 0)=true):=by rw [hok];rfl
    have HNB:=V hb
    have hlt:(S.i:Int) < (T.length:Int):=by have:=U HI;omega
    have hi0:(0:Int) ≤ (S.i:Int):=by omega
    have hTl:(T.length:Int) ≤ 3000:=by have:=hT.len;omega
    have HW1:=V hn
    have MHW1:Hid (mayS T 2 [78,85,76,76] S=S):=by show mayS T 2 [78,85,76,76] S=_;unfold mayS;rw [hn];rfl
    have HW2:=V ht
    have MHW2:Hid (mayS T 2 [84,82,85,69] S=S):=by show mayS T 2 [84,82,85,69] S=_;unfold mayS;rw [ht];rfl
    have HW3:=V hf
    have MHW3:Hid (mayS T 2 [70,65,76,83,69] S=nextS T S):=by show mayS T 2 [70,65,76,83,69] S=_;unfold mayS;rw [hf];rfl
    have HEQ:Hid (factorS T sub1 sub7 n S=(valE 1 0 [],nextS T S)):=by
     show factorS T sub1 sub7 n S=_
     unfold factorS
     rw [if_neg (by rw [hb];decide),if_neg he,if_neg k3,if_neg k4,if_neg k1,if_neg (by rw [hn];decide),if_neg (by rw [ht];decide),if_pos hf]
    have HMF:Hid (muS T (nextS T S) ≤ muS T S):=by
     show _ ≤ _
     exact muS_nle T S
    obtain ⟨tk,htk⟩:∃ tk,tk=tkS T S:=⟨_,rfl⟩
    have htl:(tk.text.length:Int) ≤ 3000:=by rw [htk];have:=hT.text _ (tkS_mem (U HI));omega
    have q3:((tk.kind:Int) == 3)=false:=by rw [beq_eq_false_iff_ne,htk];omega
    have q4:((tk.kind:Int) == 4)=false:=by rw [beq_eq_false_iff_ne,htk];omega
    have q1:((tk.kind:Int) == 1)=false:=by rw [beq_eq_false_iff_ne,htk];omega
    have HT:Hid (∀ w',PX T w' p bt c S→w'.cell? ⟨p,0,none⟩=some (.slice (some ⟨bt,0,none⟩) T.length c)∧w'.cell? ⟨p,1,none⟩=some (.int .i64 (S.i:Int))∧w'.cell? ⟨bt,S.i * 3,none⟩=some (.int .i64 (tk.kind:Int))∧w'.cell? ⟨bt,S.i * 3+1,none⟩=some (.string ⟨tk.text.toArray⟩)∧w'.cell? ⟨bt,S.i * 3+2,none⟩=some (.int .i64 (tk.pos:Int))∧p < w'.heap.size∧bt < w'.heap.size):=fun w' h=>by
     have t:=h.tok h.lt
     rw [htk]
     exact ⟨h.cells.1,h.cells.2.1,t.1,t.2.1,t.2.2,h.lt_p,h.bt_lt⟩
    clear hn ht hf
    clear hb he k3 k4 k1 hok htk
    go_enter Tryz.func225,Tryz.ntmps225
    go_upto_region 13 with (first | (go_at_call 153;refine (sign_any' (U HV0).px [45]).mono ?_;rw [U HNB];rintro e w1 ⟨rfl,hp1,hf1⟩;have HV1:=V ((U HV0).move hp1 hf1 (U HNE).2.2);clear hp1 hf1 HV0) | (go_at_call 96;refine (ok_any' (U HV1).px).mono ?_;rw [U HOKF];rintro e w2 ⟨rfl,hp1,hf1⟩;have HV2:=V ((U HV1).move hp1 hf1 (U HNE).2.2);clear hp1 hf1 HV1))
    obtain ⟨c0,c1,t0,t1,t2,hpl,hbl⟩:=U HT _ (U HV2).px
    go_region
    have hB:Below w2.heap.size w2 (w2.alloc (.cells #[.int .i64 (tk.kind:Int),.string ⟨tk.text.toArray⟩,.int .i64 (tk.pos:Int)] 193)).drew:=((Below.refl _ _).alloc (Nat.le_refl _) _).drew
    have e0:(w2.alloc (.cells #[.int .i64 (tk.kind:Int),.string ⟨tk.text.toArray⟩,.int .i64 (tk.pos:Int)] 193)).drew.cell? ⟨w2.heap.size,0,none⟩=some (.int .i64 (tk.kind:Int)):=by simp
    have eb:(w2.alloc (.cells #[.int .i64 (tk.kind:Int),.string ⟨tk.text.toArray⟩,.int .i64 (tk.pos:Int)] 193)).drew.heap[w2.heap.size]?=some (.cells #[.int .i64 (tk.kind:Int),.string ⟨tk.text.toArray⟩,.int .i64 (tk.pos:Int)] 193 (0,0)):=heap_alloc_new _ _
    obtain ⟨w3,hw3⟩:∃ w3,w3=(w2.alloc (.cells #[.int .i64 (tk.kind:Int),.string ⟨tk.text.toArray⟩,.int .i64 (tk.pos:Int)] 193)).drew:=⟨_,rfl⟩
    rw [← hw3] at hB e0 eb
    rw [← hw3]
    clear hw3
    have HV3:=V ((U HV2).below hB)
    have HTB:Hid (∀ w',FrX p w3 w'→w'.cell? ⟨w2.heap.size,1,none⟩=some (.string ⟨tk.text.toArray⟩)):=fun w' hf=>by
     have h:=hf.keep eb (by omega)
     exact cellX h 1
    have HF3:=V (FrX.refl p w3)
    clear HV2 c0 c1 t0 t1 t2 hpl hbl hB eb HT
    go_wp2_with (first | (go_at_call 143;refine (may_any hT (U HV3).px [78,85,76,76]).mono ?_;rw [U HW1];rintro e w4 ⟨rfl,hp1,hf1⟩;rw [U MHW1] at hp1;have HF4:=V ((U HF3).trans hf1);have HV4:=V ((U HV3).move hp1 hf1 (U HNE).2.2);clear hp1 hf1 HV3) | (go_at_call 143;refine (may_any hT (U HV4).px [84,82,85,69]).mono ?_;rw [U HW2];rintro e w5 ⟨rfl,hp1,hf1⟩;rw [U MHW2] at hp1;have HF5:=V ((U HF4).trans hf1);have HV5:=V ((U HV4).move hp1 hf1 (U HNE).2.2);clear hp1 hf1 HV4) | (go_at_call 143;refine (may_any hT (U HV5).px [70,65,76,83,69]).mono ?_;rw [U HW3];rintro e w6 ⟨rfl,hp1,hf1⟩;rw [U MHW3] at hp1;have HF6:=V ((U HF5).trans hf1);have HV6:=V ((U HV5).move hp1 hf1 (U HNE).2.2);clear hp1 hf1 HV5) | (go_at_call 227;refine (value_any 1 0 [] (fun b=>w.heap.size < b) _).mono ?_;rintro e w7 ⟨M,rfl,hx,hb⟩;have hl:=hx.len;have hv:=(U HV6).below hb;have hst:=hv.out.storeC hx.len hx.one;have HX:=V hx;have HV7:=V hv;clear hx hv hb HV6))
    obtain ⟨h1,h2⟩:=(U HV7).done (S0:=S) (U HX) (U HMF) (U HNE).1 (U HNE).2.1
    exact bodyPost_ret (h1.result rfl _ rfl) rfl (by rw [U HPP,U HEQ];exact h2)
  | false=>
  cases hp:isS T 5 [40] S with
  | true=>
   skip
   as_aux_lemma=>
    have hok:S.err=0:=Classical.not_not.mp he
    have HOKF:Hid ((S.err == 0)=true):=by rw [hok];rfl
    have HNB:=V hb
    have hlt:(S.i:Int) < (T.length:Int):=by have:=U HI;omega
    have hi0:(0:Int) ≤ (S.i:Int):=by omega
    have hTl:(T.length:Int) ≤ 3000:=by have:=hT.len;omega
    have HW1:=V hn
    have MHW1:Hid (mayS T 2 [78,85,76,76] S=S):=by show mayS T 2 [78,85,76,76] S=_;unfold mayS;rw [hn];rfl
    have HW2:=V ht
    have MHW2:Hid (mayS T 2 [84,82,85,69] S=S):=by show mayS T 2 [84,82,85,69] S=_;unfold mayS;rw [ht];rfl
    have HW3:=V hf
    have MHW3:Hid (mayS T 2 [70,65,76,83,69] S=S):=by show mayS T 2 [70,65,76,83,69] S=_;unfold mayS;rw [hf];rfl
    have HPA:=V hp
    have hmo:=muS_open_lt hT (x:=[40]) (U HI) hok
    have HMO:=V hmo
    have HEQ:Hid (factorS T sub1 sub7 n S=((sub7 (openS T [40] S)).1,closeS T [41] (sub7 (openS T [40] S)).2)):=by
     show factorS T sub1 sub7 n S=_
     unfold factorS
     rw [if_neg (by rw [hb];decide),if_neg he,if_neg k3,if_neg k4,if_neg k1,if_neg (by rw [hn];decide),if_neg (by rw [ht];decide),if_neg (by rw [hf];decide),if_pos hp]
    obtain ⟨tk,htk⟩:∃ tk,tk=tkS T S:=⟨_,rfl⟩
    have htl:(tk.text.length:Int) ≤ 3000:=by rw [htk];have:=hT.text _ (tkS_mem (U HI));omega
    have q3:((tk.kind:Int) == 3)=false:=by rw [beq_eq_false_iff_ne,htk];omega
    have q4:((tk.kind:Int) == 4)=false:=by rw [beq_eq_false_iff_ne,htk];omega
    have q1:((tk.kind:Int) == 1)=false:=by rw [beq_eq_false_iff_ne,htk];omega
    have HT:Hid (∀ w',PX T w' p bt c S→w'.cell? ⟨p,0,none⟩=some (.slice (some ⟨bt,0,none⟩) T.length c)∧w'.cell? ⟨p,1,none⟩=some (.int .i64 (S.i:Int))∧w'.cell? ⟨bt,S.i * 3,none⟩=some (.int .i64 (tk.kind:Int))∧w'.cell? ⟨bt,S.i * 3+1,none⟩=some (.string ⟨tk.text.toArray⟩)∧w'.cell? ⟨bt,S.i * 3+2,none⟩=some (.int .i64 (tk.pos:Int))∧p < w'.heap.size∧bt < w'.heap.size):=fun w' h=>by
     have t:=h.tok h.lt
     rw [htk]
     exact ⟨h.cells.1,h.cells.2.1,t.1,t.2.1,t.2.2,h.lt_p,h.bt_lt⟩
    clear hn ht hf hp hmo
    clear hb he k3 k4 k1 hok htk
    go_enter Tryz.func225,Tryz.ntmps225
    go_upto_region 13 with (first | (go_at_call 153;refine (sign_any' (U HV0).px [45]).mono ?_;rw [U HNB];rintro e w1 ⟨rfl,hp1,hf1⟩;have HV1:=V ((U HV0).move hp1 hf1 (U HNE).2.2);clear hp1 hf1 HV0) | (go_at_call 96;refine (ok_any' (U HV1).px).mono ?_;rw [U HOKF];rintro e w2 ⟨rfl,hp1,hf1⟩;have HV2:=V ((U HV1).move hp1 hf1 (U HNE).2.2);clear hp1 hf1 HV1))
    obtain ⟨c0,c1,t0,t1,t2,hpl,hbl⟩:=U HT _ (U HV2).px
    go_region
    have hB:Below w2.heap.size w2 (w2.alloc (.cells #[.int .i64 (tk.kind:Int),.string ⟨tk.text.toArray⟩,.int .i64 (tk.pos:Int)] 193)).drew:=((Below.refl _ _).alloc (Nat.le_refl _) _).drew
    have e0:(w2.alloc (.cells #[.int .i64 (tk.kind:Int),.string ⟨tk.text.toArray⟩,.int .i64 (tk.pos:Int)] 193)).drew.cell? ⟨w2.heap.size,0,none⟩=some (.int .i64 (tk.kind:Int)):=by simp
    have eb:(w2.alloc (.cells #[.int .i64 (tk.kind:Int),.string ⟨tk.text.toArray⟩,.int .i64 (tk.pos:Int)] 193)).drew.heap[w2.heap.size]?=some (.cells #[.int .i64 (tk.kind:Int),.string ⟨tk.text.toArray⟩,.int .i64 (tk.pos:Int)] 193 (0,0)):=heap_alloc_new _ _
    obtain ⟨w3,hw3⟩:∃ w3,w3=(w2.alloc (.cells #[.int .i64 (tk.kind:Int),.string ⟨tk.text.toArray⟩,.int .i64 (tk.pos:Int)] 193)).drew:=⟨_,rfl⟩
    rw [← hw3] at hB e0 eb
    rw [← hw3]
    clear hw3
    have HV3:=V ((U HV2).below hB)
    have HTB:Hid (∀ w',FrX p w3 w'→w'.cell? ⟨w2.heap.size,1,none⟩=some (.string ⟨tk.text.toArray⟩)):=fun w' hf=>by
     have h:=hf.keep eb (by omega)
     exact cellX h 1
    have HF3:=V (FrX.refl p w3)
    clear HV2 c0 c1 t0 t1 t2 hpl hbl hB eb HT
    go_upto_region 40 with (first | (go_at_call 143;refine (may_any hT (U HV3).px [78,85,76,76]).mono ?_;rw [U HW1];rintro e w4 ⟨rfl,hp1,hf1⟩;rw [U MHW1] at hp1;have HF4:=V ((U HF3).trans hf1);have HV4:=V ((U HV3).move hp1 hf1 (U HNE).2.2);clear hp1 hf1 HV3) | (go_at_call 143;refine (may_any hT (U HV4).px [84,82,85,69]).mono ?_;rw [U HW2];rintro e w5 ⟨rfl,hp1,hf1⟩;rw [U MHW2] at hp1;have HF5:=V ((U HF4).trans hf1);have HV5:=V ((U HV4).move hp1 hf1 (U HNE).2.2);clear hp1 hf1 HV4) | (go_at_call 143;refine (may_any hT (U HV5).px [70,65,76,83,69]).mono ?_;rw [U HW3];rintro e w6 ⟨rfl,hp1,hf1⟩;rw [U MHW3] at hp1;have HF6:=V ((U HF5).trans hf1);have HV6:=V ((U HV5).move hp1 hf1 (U HNE).2.2);clear hp1 hf1 HV5) | (go_at_call 153;refine (sign_any' (U HV6).px [40]).mono ?_;rw [U HPA];rintro e w7 ⟨rfl,hp1,hf1⟩;have HV7:=V ((U HV6).move hp1 hf1 (U HNE).2.2);clear hp1 hf1 HV6) | (go_at_call 178;refine (open_any hT (U HV7).px [40]).mono ?_;rintro e w8 ⟨rfl,hp1,hf1⟩;have HV8:=V ((U HV7).move hp1 hf1 (U HNE).2.2);clear hp1 hf1 HV7) | (go_at_call 150;refine ((U HV8).call (h7 (by have h1:=U HMO;have h2:=U HMU;omega)) (by have h1:=U HMO;have h2:=U HMU;omega) (U HNE).2.2).mono ?_;rintro e w9 ⟨M9,rfl,hx,hv,hf,hm⟩;have hl9:=hx.len;have HX9:=V hx;have HV9:=V hv;have HM9:=V hm;have hst9:=hv.out.storeC hx.len hx.one;have hsn9:=storeNew w9 hx.len hx.one;unfold zL at hsn9;clear hx hv hf hm) | (go_at_call 180;refine (close_any hT ((U HV9).below (alX (Below.refl _ _) (.cells M9.toArray 29))).px [41]).mono ?_;rintro e w10 ⟨rfl,hp4,hf4⟩;have HP10:=V hp4;have HF10:=V hf4;clear hp4 hf4))
    have hw3:Below w9.heap.size w9 (w9.alloc (.cells M9.toArray 29)):=alX (Below.refl _ _) _
    have hz3:(w9.alloc (.cells M9.toArray 29)).heap.size=w9.heap.size+1:=by simp
    have hlo:=ltX (U HV9).out.1
    have hv4:VrX w10 w9.heap.size M9:=(VrX.new w9 hl9).keep ((U HF10).blk _ (by omega) (by have:=(U HNE).2.2;omega))
    have HV10:=V (((U HV9).below hw3).move (U HP10) (U HF10) (U HNE).2.2)
    have HXV:Hid (ExM w10 (fun b=>w.heap.size < b) M9 (sub7 (openS T [40] S)).1):=by
     have h1:=ltX (U HV8).out.1
     have h2:=(U HX9).below hw3
     exact h2.keep (fun b hq hl=>(U HF10).blk b hl (by have:=(U HNE).2.2;omega)) (fun b _ q=>by omega)
    have HVV:=V hv4
    clear hst9 hsn9 hw3 hz3 hlo hv4
    have HMF:Hid (muS T (closeS T [41] (sub7 (openS T [40] S)).2) ≤ muS T S):=by
     have h1:=muS_close T [41] (sub7 (openS T [40] S)).2
     have h2:=U HM9
     have h3:=U HMO
     show _ ≤ _
     omega
    have hst:=(U HV10).out.storeC hl9 (U HXV).one
    refine wp_region_list ?_
    refine wpList_load_mid rfl 29 (.tmp 8) rfl w9.heap.size 0 rfl M9 _ (U HVV).range Tryz.underlying29 rfl (by rw [hl9];exact sizeEx) ?_
    go_wp2_with fail
    have HX:=HXV
    obtain ⟨h1,h2⟩:=(U HV10).done (S0:=S) (U HX) (U HMF) (U HNE).1 (U HNE).2.1
    exact bodyPost_ret (h1.result rfl _ rfl) rfl (by rw [U HPP,U HEQ];exact h2)
  | false=>
  cases hc0:isS T 2 [67,65,83,69] S with
  | true=>
   skip
   as_aux_lemma=>
    have hok:S.err=0:=Classical.not_not.mp he
    have HOKF:Hid ((S.err == 0)=true):=by rw [hok];rfl
    have HNB:=V hb
    have hlt:(S.i:Int) < (T.length:Int):=by have:=U HI;omega
    have hi0:(0:Int) ≤ (S.i:Int):=by omega
    have hTl:(T.length:Int) ≤ 3000:=by have:=hT.len;omega
    have HW1:=V hn
    have MHW1:Hid (mayS T 2 [78,85,76,76] S=S):=by show mayS T 2 [78,85,76,76] S=_;unfold mayS;rw [hn];rfl
    have HW2:=V ht
    have MHW2:Hid (mayS T 2 [84,82,85,69] S=S):=by show mayS T 2 [84,82,85,69] S=_;unfold mayS;rw [ht];rfl
    have HW3:=V hf
    have MHW3:Hid (mayS T 2 [70,65,76,83,69] S=S):=by show mayS T 2 [70,65,76,83,69] S=_;unfold mayS;rw [hf];rfl
    have HPA:=V hp
    have HCA:=V hc0
    have HEQ:Hid (factorS T sub1 sub7 n S=caseS T sub7 n S):=by
     show factorS T sub1 sub7 n S=_
     unfold factorS
     rw [if_neg (by rw [hb];decide),if_neg he,if_neg k3,if_neg k4,if_neg k1,if_neg (by rw [hn];decide),if_neg (by rw [ht];decide),if_neg (by rw [hf];decide),if_neg (by rw [hp];decide),if_pos hc0]
    obtain ⟨tk,htk⟩:∃ tk,tk=tkS T S:=⟨_,rfl⟩
    have htl:(tk.text.length:Int) ≤ 3000:=by rw [htk];have:=hT.text _ (tkS_mem (U HI));omega
    have q3:((tk.kind:Int) == 3)=false:=by rw [beq_eq_false_iff_ne,htk];omega
    have q4:((tk.kind:Int) == 4)=false:=by rw [beq_eq_false_iff_ne,htk];omega
    have q1:((tk.kind:Int) == 1)=false:=by rw [beq_eq_false_iff_ne,htk];omega
    have HT:Hid (∀ w',PX T w' p bt c S→w'.cell? ⟨p,0,none⟩=some (.slice (some ⟨bt,0,none⟩) T.length c)∧w'.cell? ⟨p,1,none⟩=some (.int .i64 (S.i:Int))∧w'.cell? ⟨bt,S.i * 3,none⟩=some (.int .i64 (tk.kind:Int))∧w'.cell? ⟨bt,S.i * 3+1,none⟩=some (.string ⟨tk.text.toArray⟩)∧w'.cell? ⟨bt,S.i * 3+2,none⟩=some (.int .i64 (tk.pos:Int))∧p < w'.heap.size∧bt < w'.heap.size):=fun w' h=>by
     have t:=h.tok h.lt
     rw [htk]
     exact ⟨h.cells.1,h.cells.2.1,t.1,t.2.1,t.2.2,h.lt_p,h.bt_lt⟩
    clear hn ht hf hp hc0
    clear hb he k3 k4 k1 hok htk
    go_enter Tryz.func225,Tryz.ntmps225
    go_upto_region 13 with (first | (go_at_call 153;refine (sign_any' (U HV0).px [45]).mono ?_;rw [U HNB];rintro e w1 ⟨rfl,hp1,hf1⟩;have HV1:=V ((U HV0).move hp1 hf1 (U HNE).2.2);clear hp1 hf1 HV0) | (go_at_call 96;refine (ok_any' (U HV1).px).mono ?_;rw [U HOKF];rintro e w2 ⟨rfl,hp1,hf1⟩;have HV2:=V ((U HV1).move hp1 hf1 (U HNE).2.2);clear hp1 hf1 HV1))
    obtain ⟨c0,c1,t0,t1,t2,hpl,hbl⟩:=U HT _ (U HV2).px
    go_region
    have hB:Below w2.heap.size w2 (w2.alloc (.cells #[.int .i64 (tk.kind:Int),.string ⟨tk.text.toArray⟩,.int .i64 (tk.pos:Int)] 193)).drew:=((Below.refl _ _).alloc (Nat.le_refl _) _).drew
    have e0:(w2.alloc (.cells #[.int .i64 (tk.kind:Int),.string ⟨tk.text.toArray⟩,.int .i64 (tk.pos:Int)] 193)).drew.cell? ⟨w2.heap.size,0,none⟩=some (.int .i64 (tk.kind:Int)):=by simp
    have eb:(w2.alloc (.cells #[.int .i64 (tk.kind:Int),.string ⟨tk.text.toArray⟩,.int .i64 (tk.pos:Int)] 193)).drew.heap[w2.heap.size]?=some (.cells #[.int .i64 (tk.kind:Int),.string ⟨tk.text.toArray⟩,.int .i64 (tk.pos:Int)] 193 (0,0)):=heap_alloc_new _ _
    obtain ⟨w3,hw3⟩:∃ w3,w3=(w2.alloc (.cells #[.int .i64 (tk.kind:Int),.string ⟨tk.text.toArray⟩,.int .i64 (tk.pos:Int)] 193)).drew:=⟨_,rfl⟩
    rw [← hw3] at hB e0 eb
    rw [← hw3]
    clear hw3
    have HV3:=V ((U HV2).below hB)
    have HTB:Hid (∀ w',FrX p w3 w'→w'.cell? ⟨w2.heap.size,1,none⟩=some (.string ⟨tk.text.toArray⟩)):=fun w' hf=>by
     have h:=hf.keep eb (by omega)
     exact cellX h 1
    have HF3:=V (FrX.refl p w3)
    clear HV2 c0 c1 t0 t1 t2 hpl hbl hB eb HT
    go_wp2_with (first | (go_at_call 143;refine (may_any hT (U HV3).px [78,85,76,76]).mono ?_;rw [U HW1];rintro e w4 ⟨rfl,hp1,hf1⟩;rw [U MHW1] at hp1;have HF4:=V ((U HF3).trans hf1);have HV4:=V ((U HV3).move hp1 hf1 (U HNE).2.2);clear hp1 hf1 HV3) | (go_at_call 143;refine (may_any hT (U HV4).px [84,82,85,69]).mono ?_;rw [U HW2];rintro e w5 ⟨rfl,hp1,hf1⟩;rw [U MHW2] at hp1;have HF5:=V ((U HF4).trans hf1);have HV5:=V ((U HV4).move hp1 hf1 (U HNE).2.2);clear hp1 hf1 HV4) | (go_at_call 143;refine (may_any hT (U HV5).px [70,65,76,83,69]).mono ?_;rw [U HW3];rintro e w6 ⟨rfl,hp1,hf1⟩;rw [U MHW3] at hp1;have HF6:=V ((U HF5).trans hf1);have HV6:=V ((U HV5).move hp1 hf1 (U HNE).2.2);clear hp1 hf1 HV5) | (go_at_call 153;refine (sign_any' (U HV6).px [40]).mono ?_;rw [U HPA];rintro e w7 ⟨rfl,hp1,hf1⟩;have HV7:=V ((U HV6).move hp1 hf1 (U HNE).2.2);clear hp1 hf1 HV6) | (go_at_call 177;refine (word_any (U HV7).px [67,65,83,69]).mono ?_;rw [U HCA];rintro e w8 ⟨rfl,hp1,hf1⟩;have HV8:=V ((U HV7).move hp1 hf1 (U HNE).2.2);clear hp1 hf1 HV7) | (go_at_call 228;refine ((U HV8).call hc (U HMU) (U HNE).2.2).mono ?_;rintro e w9 ⟨M,rfl,hx,hv,hf,hm⟩;have hl9:=hx.len;have HX9:=V hx;have HV9:=V hv;have HMF:=V hm;have hst9:=hv.out.storeC hx.len hx.one;clear hx hv hf hm))
    have HX:Hid (ExM w9 (fun b=>w.heap.size < b) M (caseS T sub7 n S).1):=(U HX9).keep (fun _ _ _=>rfl) (fun b _ q=>by have h1:=ltX (U HV8).out.1;omega)
    obtain ⟨h1,h2⟩:=(U HV9).done (S0:=S) (U HX) (U HMF) (U HNE).1 (U HNE).2.1
    exact bodyPost_ret (h1.result rfl _ rfl) rfl (by rw [U HPP,U HEQ];exact h2)
  | false=>
   skip
   have hok:S.err=0:=Classical.not_not.mp he
   have HOKF:Hid ((S.err == 0)=true):=by rw [hok];rfl
   have HNB:=V hb
   have hlt:(S.i:Int) < (T.length:Int):=by have:=U HI;omega
   have hi0:(0:Int) ≤ (S.i:Int):=by omega
   have hTl:(T.length:Int) ≤ 3000:=by have:=hT.len;omega
   have HW1:=V hn
   have MHW1:Hid (mayS T 2 [78,85,76,76] S=S):=by show mayS T 2 [78,85,76,76] S=_;unfold mayS;rw [hn];rfl
   have HW2:=V ht
   have MHW2:Hid (mayS T 2 [84,82,85,69] S=S):=by show mayS T 2 [84,82,85,69] S=_;unfold mayS;rw [ht];rfl
   have HW3:=V hf
   have MHW3:Hid (mayS T 2 [70,65,76,83,69] S=S):=by show mayS T 2 [70,65,76,83,69] S=_;unfold mayS;rw [hf];rfl
   have HPA:=V hp
   have HCA:=V hc0
   obtain ⟨A,hA⟩:∃ A,A=aggI T S 0 aggsL:=⟨_,rfl⟩
   have HA:=V hA.symm
   have HEQ:Hid (factorS T sub1 sub7 n S=aggR T sub7 S A):=by
    show factorS T sub1 sub7 n S=_
    unfold factorS
    rw [if_neg (by rw [hb];decide),if_neg he,if_neg k3,if_neg k4,if_neg k1,if_neg (by rw [hn];decide),if_neg (by rw [ht];decide),if_neg (by rw [hf];decide),if_neg (by rw [hp];decide),if_neg (by rw [hc0];decide),← hA]
    cases A <;> rfl
   obtain ⟨tk,htk⟩:∃ tk,tk=tkS T S:=⟨_,rfl⟩
   have htl:(tk.text.length:Int) ≤ 3000:=by rw [htk];have:=hT.text _ (tkS_mem (U HI));omega
   have q3:((tk.kind:Int) == 3)=false:=by rw [beq_eq_false_iff_ne,htk];omega
   have q4:((tk.kind:Int) == 4)=false:=by rw [beq_eq_false_iff_ne,htk];omega
   have q1:((tk.kind:Int) == 1)=false:=by rw [beq_eq_false_iff_ne,htk];omega
   have HT:Hid (∀ w',PX T w' p bt c S→w'.cell? ⟨p,0,none⟩=some (.slice (some ⟨bt,0,none⟩) T.length c)∧w'.cell? ⟨p,1,none⟩=some (.int .i64 (S.i:Int))∧w'.cell? ⟨bt,S.i * 3,none⟩=some (.int .i64 (tk.kind:Int))∧w'.cell? ⟨bt,S.i * 3+1,none⟩=some (.string ⟨tk.text.toArray⟩)∧w'.cell? ⟨bt,S.i * 3+2,none⟩=some (.int .i64 (tk.pos:Int))∧p < w'.heap.size∧bt < w'.heap.size):=fun w' h=>by
    have t:=h.tok h.lt
    rw [htk]
    exact ⟨h.cells.1,h.cells.2.1,t.1,t.2.1,t.2.2,h.lt_p,h.bt_lt⟩
   clear hn ht hf hp hc0 hA
   clear hb he k3 k4 k1 hok htk
   go_enter Tryz.func225,Tryz.ntmps225
   go_upto_region 13 with (first | (go_at_call 153;refine (sign_any' (U HV0).px [45]).mono ?_;rw [U HNB];rintro e w1 ⟨rfl,hp1,hf1⟩;have HV1:=V ((U HV0).move hp1 hf1 (U HNE).2.2);clear hp1 hf1 HV0) | (go_at_call 96;refine (ok_any' (U HV1).px).mono ?_;rw [U HOKF];rintro e w2 ⟨rfl,hp1,hf1⟩;have HV2:=V ((U HV1).move hp1 hf1 (U HNE).2.2);clear hp1 hf1 HV1))
   obtain ⟨c0,c1,t0,t1,t2,hpl,hbl⟩:=U HT _ (U HV2).px
   go_region
   have hB:Below w2.heap.size w2 (w2.alloc (.cells #[.int .i64 (tk.kind:Int),.string ⟨tk.text.toArray⟩,.int .i64 (tk.pos:Int)] 193)).drew:=((Below.refl _ _).alloc (Nat.le_refl _) _).drew
   have e0:(w2.alloc (.cells #[.int .i64 (tk.kind:Int),.string ⟨tk.text.toArray⟩,.int .i64 (tk.pos:Int)] 193)).drew.cell? ⟨w2.heap.size,0,none⟩=some (.int .i64 (tk.kind:Int)):=by simp
   have eb:(w2.alloc (.cells #[.int .i64 (tk.kind:Int),.string ⟨tk.text.toArray⟩,.int .i64 (tk.pos:Int)] 193)).drew.heap[w2.heap.size]?=some (.cells #[.int .i64 (tk.kind:Int),.string ⟨tk.text.toArray⟩,.int .i64 (tk.pos:Int)] 193 (0,0)):=heap_alloc_new _ _
   obtain ⟨w3,hw3⟩:∃ w3,w3=(w2.alloc (.cells #[.int .i64 (tk.kind:Int),.string ⟨tk.text.toArray⟩,.int .i64 (tk.pos:Int)] 193)).drew:=⟨_,rfl⟩
   rw [← hw3] at hB e0 eb
   rw [← hw3]
   clear hw3
   have HV3:=V ((U HV2).below hB)
   have HTB:Hid (∀ w',FrX p w3 w'→w'.cell? ⟨w2.heap.size,1,none⟩=some (.string ⟨tk.text.toArray⟩)):=fun w' hf=>by
    have h:=hf.keep eb (by omega)
    exact cellX h 1
   have HF3:=V (FrX.refl p w3)
   clear HV2 c0 c1 t0 t1 t2 hpl hbl hB eb HT
   go_wp2_with (first | (go_at_call 143;refine (may_any hT (U HV3).px [78,85,76,76]).mono ?_;rw [U HW1];rintro e w4 ⟨rfl,hp1,hf1⟩;rw [U MHW1] at hp1;have HF4:=V ((U HF3).trans hf1);have HV4:=V ((U HV3).move hp1 hf1 (U HNE).2.2);clear hp1 hf1 HV3) | (go_at_call 143;refine (may_any hT (U HV4).px [84,82,85,69]).mono ?_;rw [U HW2];rintro e w5 ⟨rfl,hp1,hf1⟩;rw [U MHW2] at hp1;have HF5:=V ((U HF4).trans hf1);have HV5:=V ((U HV4).move hp1 hf1 (U HNE).2.2);clear hp1 hf1 HV4) | (go_at_call 143;refine (may_any hT (U HV5).px [70,65,76,83,69]).mono ?_;rw [U HW3];rintro e w6 ⟨rfl,hp1,hf1⟩;rw [U MHW3] at hp1;have HF6:=V ((U HF5).trans hf1);have HV6:=V ((U HV5).move hp1 hf1 (U HNE).2.2);clear hp1 hf1 HV5) | (go_at_call 153;refine (sign_any' (U HV6).px [40]).mono ?_;rw [U HPA];rintro e w7 ⟨rfl,hp1,hf1⟩;have HV7:=V ((U HV6).move hp1 hf1 (U HNE).2.2);clear hp1 hf1 HV6) | (go_at_call 177;refine (word_any (U HV7).px [67,65,83,69]).mono ?_;rw [U HCA];rintro e w8 ⟨rfl,hp1,hf1⟩;have HV8:=V ((U HV7).move hp1 hf1 (U HNE).2.2);clear hp1 hf1 HV7))
   have eb9:=heap_alloc_new w8 (.cells #[.string ⟨#[67,79,85,78,84]⟩,.string ⟨#[83,85,77]⟩,.string ⟨#[77,73,78]⟩,.string ⟨#[77,65,88]⟩] 312)
   have HV9:=V ((U HV8).below (alX (Below.refl _ _) (.cells #[.string ⟨#[67,79,85,78,84]⟩,.string ⟨#[83,85,77]⟩,.string ⟨#[77,73,78]⟩,.string ⟨#[77,65,88]⟩] 312)))
   have hlo8:=ltX (U HV8).out.1
   obtain ⟨w9,hw9⟩:∃ w9,w9=w8.alloc (.cells #[.string ⟨#[67,79,85,78,84]⟩,.string ⟨#[83,85,77]⟩,.string ⟨#[77,73,78]⟩,.string ⟨#[77,65,88]⟩] 312):=⟨_,rfl⟩
   rw [← hw9] at eb9 HV9
   rw [← hw9]
   obtain ⟨b9,hb9⟩:∃ b9,b9=w8.heap.size:=⟨_,rfl⟩
   rw [← hb9] at eb9 hlo8
   rw [← hb9]
   have HAG:Hid (AGW T p bt c w.heap.size b9 w w9 S 0 A):=⟨U HV9,eb9,by have:=(U HNE).2.2;omega,hlo8,U HA⟩
   clear hw9 hb9 eb9 HV8 HV9 e0 HTB HF3 q3 q4 q1
   go_loopg [10] 4 (fun g s10 wr=>∃ k:Nat,g=4 - k∧s10=.int .i64 (k:Int)∧k ≤ 4∧Hid (AGW T p bt c w.heap.size b9 w wr S k A))
   case atStart=>exact ⟨0,rfl,rfl,by omega,HAG⟩
   case round=>
    obtain ⟨k,rfl,rfl,hk4,HG⟩:=hrel
    clear HAG hlo8
    have hk0:(0:Int) ≤ (k:Int):=by omega
    by_cases hk:k < 4
    · have hkI:(k:Int) < 4:=by omega
      have h4:k=0 ∨ k=1 ∨ k=2 ∨ k=3:=by omega
      obtain ⟨x,hx⟩:∃ x,x=aggsL.getD k []:=⟨_,rfl⟩
      have c9:wr.cell? ⟨b9,k,none⟩=some (.string ⟨x.toArray⟩):=by
       rw [cellX (U HG).arr,hx]
       rcases h4 with rfl | rfl | rfl | rfl <;> rfl
      have hA':A=if isS T 2 x S then some k else aggI T S (k+1) (aggsL.drop (k+1)):=by
       have h:=(U HG).eq
       rw [← h,hx]
       rcases h4 with rfl | rfl | rfl | rfl <;> rfl
      clear hx h4
      cases hw:isS T 2 x S with
      | false=>
       rw [if_neg (by rw [hw];decide)] at hA'
       have HW:=V hw
       have HMA:Hid (mayS T 2 x S=S):=by show mayS T 2 x S=S;unfold mayS;rw [hw];rfl
       have HA':=V hA'.symm
       clear hw hA'
       skip
       as_aux_lemma=>
        go_wp2_with (first | (go_at_call 143;refine (may_any hT (U HG).rv.px x).mono ?_;rw [U HW,U HMA];rintro e w5 ⟨rfl,hp1,hf1⟩;have HG5:=V ((U HG).move hp1 hf1 (U HNE).2.2);clear hp1 hf1))
        have HNX:Hid (AGW T p bt c w.heap.size b9 w w5 S (k+1) A):=⟨(U HG5).rv,(U HG5).arr,(U HG5).b9p,(U HG5).b9b,U HA'⟩
        go_roundg (4 - (k+1))
        case rel=>exact ⟨k+1,rfl,by rw [show ((k+1:Nat):Int)=(k:Int)+1 from rfl],by omega,HNX⟩
        case measure=>omega
      | true=>
       rw [if_pos hw] at hA'
       have HW:=V hw
       have HMA:Hid (mayS T 2 x S=nextS T S):=by show mayS T 2 x S=_;unfold mayS;rw [hw];rfl
       have HEA:Hid (factorS T sub1 sub7 n S=aggR T sub7 S (some k)):=by rw [← hA'];exact U HEQ
       have HMX:=V (muS_next hT hw (by decide) (U HI))
       clear hw hA' HEQ HA
       by_cases hs:k=0∧isS T 5 [42] (openS T [40] (nextS T S))=true
       · skip
         as_aux_lemma=>
          have HST:=V hs.2
          have HS0:=V hs.1
          have qk:¬ (0:Int) < (k:Int):=by have:=hs.1;omega
          have HEQ:Hid (factorS T sub1 sub7 n S=((⟨7,19,0,0,[],[],[],0,0⟩,.nil),closeS T [41] (nextS T (openS T [40] (nextS T S))))):=by
           show factorS T sub1 sub7 n S=_
           rw [U HEA]
           show (if k=0∧isS T 5 [42] (openS T [40] (nextS T S))=true then _ else _)=_
           rw [if_pos hs]
          have HMF:Hid (muS T (closeS T [41] (nextS T (openS T [40] (nextS T S)))) ≤ muS T S):=by
           have a1:=muS_close T [41] (nextS T (openS T [40] (nextS T S)))
           have a2:=muS_nle T (openS T [40] (nextS T S))
           have a3:=muS_open T [40] (nextS T S)
           have a4:=muS_nle T S
           show _ ≤ _
           omega
          have HMS:Hid (mayS T 5 [42] (openS T [40] (nextS T S))=nextS T (openS T [40] (nextS T S))):=by show mayS T 5 [42] (openS T [40] (nextS T S))=_;unfold mayS;rw [hs.2];rfl
          clear hs HEA HMX
          go_upto_region 49 with (first | (go_at_call 143;refine (may_any hT (U HG).rv.px x).mono ?_;rw [U HW,U HMA];rintro e w5 ⟨rfl,hp1,hf1⟩;have HV5:=V ((U HG).rv.move hp1 hf1 (U HNE).2.2);clear hp1 hf1) | (go_at_call 178;refine (open_any hT (U HV5).px [40]).mono ?_;rintro e w6 ⟨rfl,hp1,hf1⟩;have HV6:=V ((U HV5).move hp1 hf1 (U HNE).2.2);clear hp1 hf1 HV5))
          go_upto_region 50 with fail
          obtain ⟨M,hM⟩:∃ M:List Value,M=ndC ⟨7,19+(k:Int),0,0,[],[],[],0,0⟩ (.slice none 0 0):=⟨_,rfl⟩
          have eM:M.toArray=#[.int .i64 7,.int .i64 (19+(k:Int)),.int .i64 0,.int .i64 0,.string ⟨#[]⟩,.string ⟨#[]⟩,.string ⟨#[]⟩,.slice none 0 0,.int .i64 0,.int .i64 0]:=by rw [hM];rfl
          rw [← eM]
          have HM:=V hM
          have hlM:M.length=10:=by rw [hM];rfl
          have HVM7:=V (VrX.new w6 hlM)
          have hlo6:=ltX (U HV6).out.1
          have hbt6:=(U HV6).px.bt_lt
          have HV7:=V ((U HV6).below (alX (Below.refl _ _) (.cells M.toArray 29)))
          obtain ⟨w7,hw7⟩:∃ w7,w7=w6.alloc (.cells M.toArray 29):=⟨_,rfl⟩
          rw [← hw7] at HVM7 HV7
          rw [← hw7]
          clear hw7 hM eM HV6 c9 HW HMA
          go_upto_region 53 with (first | (go_at_call 95;refine (maySign_any hT (U HV7).px [42]).mono ?_;rw [U HST];rintro e w8 ⟨rfl,hp1,hf1⟩;rw [U HMS] at hp1;have HVM8:=V ((U HVM7).keep (hf1.blk _ (ltX (U HVM7).1) (by have:=(U HNE).2.2;omega)));have HV8:=V ((U HV7).move hp1 hf1 (U HNE).2.2);clear hp1 hf1 HV7) | (go_at_call 180;refine (close_any hT (U HV8).px [41]).mono ?_;rintro e w9 ⟨rfl,hp1,hf1⟩;have HVM9:=V ((U HVM8).keep (hf1.blk _ (ltX (U HVM8).1) (by have:=(U HNE).2.2;omega)));have HV9:=V ((U HV8).move hp1 hf1 (U HNE).2.2);clear hp1 hf1 HV8))
          have HX:Hid (ExM w9 (fun b=>w.heap.size < b) M (⟨7,19,0,0,[],[],[],0,0⟩,.nil)):=⟨.slice none 0 0,by rw [U HM,U HS0];rfl,.inl ⟨rfl,0,rfl⟩⟩
          have hst:=(U HV9).out.storeC hlM (U HX).one
          refine wp_region_list ?_
          refine wpList_load_mid rfl 29 (.tmp 11) rfl w6.heap.size 0 rfl M _ (U HVM9).range Tryz.underlying29 rfl (by rw [hlM];exact sizeEx) ?_
          go_wp2_with fail
          obtain ⟨h1,h2⟩:=(U HV9).done (S0:=S) (U HX) (U HMF) (U HNE).1 (U HNE).2.1
          exact bodyPost_ret (h1.result rfl _ rfl) rfl (by rw [U HPP,U HEQ];exact h2)
       · skip
         obtain ⟨S1,hS1⟩:∃ S1,S1=openS T [40] (nextS T S):=⟨_,rfl⟩
         have HS1:=V hS1.symm
         have HM1:Hid (muS T S1+1 ≤ muS T S):=by
          have a1:=U HMX
          have a2:=muS_open T [40] (nextS T S)
          rw [hS1]
          show _ ≤ _
          omega
         have HEQ:Hid (factorS T sub1 sub7 n S=((⟨7,19+(k:Int),0,0,[],[],[],0,0⟩,Fo.cons (sub7 S1).1.1 (sub7 S1).1.2 .nil),closeS T [41] (sub7 S1).2)):=by
          show factorS T sub1 sub7 n S=_
          rw [U HEA,hS1]
          show (if k=0∧isS T 5 [42] (openS T [40] (nextS T S))=true then _ else _)=_
          rw [if_neg hs]
         rw [← hS1] at hs
         clear hS1 HEA HMX
         by_cases qk:(0:Int) < (k:Int)
         · clear hs
           skip
           as_aux_lemma=>
            go_upto_region 49 with (first | (go_at_call 143;refine (may_any hT (U HG).rv.px x).mono ?_;rw [U HW,U HMA];rintro e w5 ⟨rfl,hp1,hf1⟩;have HV5:=V ((U HG).rv.move hp1 hf1 (U HNE).2.2);clear hp1 hf1) | (go_at_call 178;refine (open_any hT (U HV5).px [40]).mono ?_;rintro e w6 ⟨rfl,hp1,hf1⟩;rw [U HS1] at hp1;have HV6:=V ((U HV5).move hp1 hf1 (U HNE).2.2);clear hp1 hf1 HV5))
            go_upto_region 50 with fail
            obtain ⟨M,hM⟩:∃ M:List Value,M=ndC ⟨7,19+(k:Int),0,0,[],[],[],0,0⟩ (.slice none 0 0):=⟨_,rfl⟩
            have eM:M.toArray=#[.int .i64 7,.int .i64 (19+(k:Int)),.int .i64 0,.int .i64 0,.string ⟨#[]⟩,.string ⟨#[]⟩,.string ⟨#[]⟩,.slice none 0 0,.int .i64 0,.int .i64 0]:=by rw [hM];rfl
            rw [← eM]
            have HM:=V hM
            have hlM:M.length=10:=by rw [hM];rfl
            have HVM7:=V (VrX.new w6 hlM)
            have hlo6:=ltX (U HV6).out.1
            have hbt6:=(U HV6).px.bt_lt
            have HV7:=V ((U HV6).below (alX (Below.refl _ _) (.cells M.toArray 29)))
            obtain ⟨w7,hw7⟩:∃ w7,w7=w6.alloc (.cells M.toArray 29):=⟨_,rfl⟩
            rw [← hw7] at HVM7 HV7
            rw [← hw7]
            clear hw7 hM eM HV6 c9 HW HMA
            go_upto_region 52 with (first | fail | (go_at_call 150;refine ((U HV7).call (h7 (by have h1:=U HM1;have h2:=U HMU;omega)) (by have h1:=U HM1;have h2:=U HMU;omega) (U HNE).2.2).mono ?_;rintro e w8 ⟨N,rfl,hx,hv,hf1,hm⟩;have hlN:=hx.len;have hN1:=hx.one;have HVM8:=V ((U HVM7).keep (hf1.blk _ (ltX (U HVM7).1) (by have:=(U HNE).2.2;omega)));have ff7:=frzX (U HVM8).1 7;have cc7:w8.cell? ⟨w6.heap.size,7,none⟩=some (.slice none 0 0):=(by rw [cellX (U HVM8).1 7,U HM];rfl);have hlo9:=hf1.size;have hlt6:=ltX (U HVM8).1;have hnp:=(U HNE).2.2;have hn6:w8.heap.size ≠ w6.heap.size:=(by omega);have HX9:=V hx;have HV8:=V hv;have HM9:=V hm;clear hx hv hf1 hm))
            rw [fold10 hlN]
            have hb7:=ltX (U HVM7).1
            have hne6:w6.heap.size ≠ p:=by omega
            have ev:=setX (U HVM8).1 7 (.slice (some ⟨w8.heap.size,0,none⟩) 1 1)
            obtain ⟨M',hM'⟩:∃ M':List Value,M'=ndC ⟨7,19+(k:Int),0,0,[],[],[],0,0⟩ (.slice (some ⟨w8.heap.size,0,none⟩) 1 1):=⟨_,rfl⟩
            have hlM':M'.length=10:=by rw [hM'];rfl
            have hvs:VrX (w8.setCell ⟨w6.heap.size,7,none⟩ (.slice (some ⟨w8.heap.size,0,none⟩) 1 1)) w6.heap.size M':=⟨by rw [ev,hM',U HM];rfl,hlM'⟩
            have HVM20:=V (hvs.below (alX (Below.refl _ _) (.cells N.toArray 29)))
            have hrow:=VrX.new (w8.setCell ⟨w6.heap.size,7,none⟩ (.slice (some ⟨w8.heap.size,0,none⟩) 1 1)) hlN
            have hsz:(w8.setCell ⟨w6.heap.size,7,none⟩ (.slice (some ⟨w8.heap.size,0,none⟩) 1 1)).heap.size=w8.heap.size:=by simp
            rw [hsz] at hrow
            have HV20:=V (((U HV8).setO (b:=w6.heap.size) hlo6 hne6 (by omega) 7 (.slice (some ⟨w8.heap.size,0,none⟩) 1 1)).below (alX (Below.refl _ _) (.cells N.toArray 29)))
            have hxN:ExM ((w8.setCell ⟨w6.heap.size,7,none⟩ (.slice (some ⟨w8.heap.size,0,none⟩) 1 1)).alloc (.cells N.toArray 29)) (fun b=>w.heap.size < b) N (sub7 S1).1:=(U HX9).keep (fun b hq hl=>by
             rw [(alX (Below.refl _ _) (.cells N.toArray 29):Below (w8.setCell ⟨w6.heap.size,7,none⟩ (.slice (some ⟨w8.heap.size,0,none⟩) 1 1)).heap.size _ _).block b (by rw [hsz];exact hl)]
             exact Below.heap_setCell w8 ⟨w6.heap.size,7,none⟩ _ b (by show b ≠ w6.heap.size;omega)) (fun b _ q=>by omega)
            have HX20:Hid (ExM ((w8.setCell ⟨w6.heap.size,7,none⟩ (.slice (some ⟨w8.heap.size,0,none⟩) 1 1)).alloc (.cells N.toArray 29)) (fun b=>w.heap.size < b) M' (⟨7,19+(k:Int),0,0,[],[],[],0,0⟩,Fo.cons (sub7 S1).1.1 (sub7 S1).1.2 .nil)):=⟨_,hM',.inr ⟨w8.heap.size,0,1,rfl,Nat.le_refl 1,by unfold maxLen;omega,RowAt.one hxN hrow.range (by omega)⟩⟩
            have HMF:Hid (muS T (closeS T [41] (sub7 S1).2) ≤ muS T S):=by
             have a1:=muS_close T [41] (sub7 S1).2
             have a2:=U HM9
             have a3:=U HM1
             show _ ≤ _
             omega
            clear ev hvs hrow hxN hM' hsz ff7 cc7
            obtain ⟨w20,hw20⟩:∃ w20,w20=(w8.setCell ⟨w6.heap.size,7,none⟩ (.slice (some ⟨w8.heap.size,0,none⟩) 1 1)).alloc (.cells N.toArray 29):=⟨_,rfl⟩
            rw [← hw20] at HVM20 HV20 HX20
            rw [← hw20]
            clear hw20
            go_upto_region 53 with (go_at_call 180;refine (close_any hT (U HV20).px [41]).mono ?_;rintro e w21 ⟨rfl,hp1,hf1⟩;have HX:=V ((U HX20).keep (fun b hq hl=>hf1.blk b hl (by have:=(U HNE).2.2;omega)) (fun _ _ h=>h));have HVM21:=V ((U HVM20).keep (hf1.blk _ (ltX (U HVM20).1) (by have:=(U HNE).2.2;omega)));have HV21:=V ((U HV20).move hp1 hf1 (U HNE).2.2);clear hp1 hf1 HV20)
            have hst:=(U HV21).out.storeC hlM' (U HX).one
            refine wp_region_list ?_
            refine wpList_load_mid rfl 29 (.tmp 11) rfl w6.heap.size 0 rfl M' _ (U HVM21).range Tryz.underlying29 rfl (by rw [hlM'];exact sizeEx) ?_
            go_wp2_with fail
            obtain ⟨h1,h2⟩:=(U HV21).done (S0:=S) (U HX) (U HMF) (U HNE).1 (U HNE).2.1
            exact bodyPost_ret (h1.result rfl _ rfl) rfl (by rw [U HPP,U HEQ];exact h2)
         · have HST:Hid (isS T 5 [42] S1=false):=by
            cases h:isS T 5 [42] S1 with
            | false=>rfl
            | true=>exact absurd ⟨by omega,h⟩ hs
           have HMS:Hid (mayS T 5 [42] S1=S1):=by show mayS T 5 [42] S1=_;unfold mayS;rw [U HST];rfl
           clear hs
           skip
           as_aux_lemma=>
            go_upto_region 49 with (first | (go_at_call 143;refine (may_any hT (U HG).rv.px x).mono ?_;rw [U HW,U HMA];rintro e w5 ⟨rfl,hp1,hf1⟩;have HV5:=V ((U HG).rv.move hp1 hf1 (U HNE).2.2);clear hp1 hf1) | (go_at_call 178;refine (open_any hT (U HV5).px [40]).mono ?_;rintro e w6 ⟨rfl,hp1,hf1⟩;rw [U HS1] at hp1;have HV6:=V ((U HV5).move hp1 hf1 (U HNE).2.2);clear hp1 hf1 HV5))
            go_upto_region 50 with fail
            obtain ⟨M,hM⟩:∃ M:List Value,M=ndC ⟨7,19+(k:Int),0,0,[],[],[],0,0⟩ (.slice none 0 0):=⟨_,rfl⟩
            have eM:M.toArray=#[.int .i64 7,.int .i64 (19+(k:Int)),.int .i64 0,.int .i64 0,.string ⟨#[]⟩,.string ⟨#[]⟩,.string ⟨#[]⟩,.slice none 0 0,.int .i64 0,.int .i64 0]:=by rw [hM];rfl
            rw [← eM]
            have HM:=V hM
            have hlM:M.length=10:=by rw [hM];rfl
            have HVM7:=V (VrX.new w6 hlM)
            have hlo6:=ltX (U HV6).out.1
            have hbt6:=(U HV6).px.bt_lt
            have HV7:=V ((U HV6).below (alX (Below.refl _ _) (.cells M.toArray 29)))
            obtain ⟨w7,hw7⟩:∃ w7,w7=w6.alloc (.cells M.toArray 29):=⟨_,rfl⟩
            rw [← hw7] at HVM7 HV7
            rw [← hw7]
            clear hw7 hM eM HV6 c9 HW HMA
            go_upto_region 52 with (first | (go_at_call 95;refine (maySign_any hT (U HV7).px [42]).mono ?_;rw [U HST];rintro e w8 ⟨rfl,hp1,hf1⟩;rw [U HMS] at hp1;have HVM8:=V ((U HVM7).keep (hf1.blk _ (ltX (U HVM7).1) (by have:=(U HNE).2.2;omega)));have HV8:=V ((U HV7).move hp1 hf1 (U HNE).2.2);clear hp1 hf1 HV7) | (go_at_call 150;refine ((U HV8).call (h7 (by have h1:=U HM1;have h2:=U HMU;omega)) (by have h1:=U HM1;have h2:=U HMU;omega) (U HNE).2.2).mono ?_;rintro e w9 ⟨N,rfl,hx,hv,hf1,hm⟩;have hlN:=hx.len;have hN1:=hx.one;have HVM9:=V ((U HVM8).keep (hf1.blk _ (ltX (U HVM8).1) (by have:=(U HNE).2.2;omega)));have ff7:=frzX (U HVM9).1 7;have cc7:w9.cell? ⟨w6.heap.size,7,none⟩=some (.slice none 0 0):=(by rw [cellX (U HVM9).1 7,U HM];rfl);have hlo9:=hf1.size;have hlt6:=ltX (U HVM9).1;have hnp:=(U HNE).2.2;have hn6:w9.heap.size ≠ w6.heap.size:=(by omega);have HX9:=V hx;have HV9:=V hv;have HM9:=V hm;clear hx hv hf1 hm))
            rw [fold10 hlN]
            have hb7:=ltX (U HVM8).1
            have hne6:w6.heap.size ≠ p:=by omega
            have ev:=setX (U HVM9).1 7 (.slice (some ⟨w9.heap.size,0,none⟩) 1 1)
            obtain ⟨M',hM'⟩:∃ M':List Value,M'=ndC ⟨7,19+(k:Int),0,0,[],[],[],0,0⟩ (.slice (some ⟨w9.heap.size,0,none⟩) 1 1):=⟨_,rfl⟩
            have hlM':M'.length=10:=by rw [hM'];rfl
            have hvs:VrX (w9.setCell ⟨w6.heap.size,7,none⟩ (.slice (some ⟨w9.heap.size,0,none⟩) 1 1)) w6.heap.size M':=⟨by rw [ev,hM',U HM];rfl,hlM'⟩
            have HVM20:=V (hvs.below (alX (Below.refl _ _) (.cells N.toArray 29)))
            have hrow:=VrX.new (w9.setCell ⟨w6.heap.size,7,none⟩ (.slice (some ⟨w9.heap.size,0,none⟩) 1 1)) hlN
            have hsz:(w9.setCell ⟨w6.heap.size,7,none⟩ (.slice (some ⟨w9.heap.size,0,none⟩) 1 1)).heap.size=w9.heap.size:=by simp
            rw [hsz] at hrow
            have HV20:=V (((U HV9).setO (b:=w6.heap.size) hlo6 hne6 (by omega) 7 (.slice (some ⟨w9.heap.size,0,none⟩) 1 1)).below (alX (Below.refl _ _) (.cells N.toArray 29)))
            have hxN:ExM ((w9.setCell ⟨w6.heap.size,7,none⟩ (.slice (some ⟨w9.heap.size,0,none⟩) 1 1)).alloc (.cells N.toArray 29)) (fun b=>w.heap.size < b) N (sub7 S1).1:=(U HX9).keep (fun b hq hl=>by
             rw [(alX (Below.refl _ _) (.cells N.toArray 29):Below (w9.setCell ⟨w6.heap.size,7,none⟩ (.slice (some ⟨w9.heap.size,0,none⟩) 1 1)).heap.size _ _).block b (by rw [hsz];exact hl)]
             exact Below.heap_setCell w9 ⟨w6.heap.size,7,none⟩ _ b (by show b ≠ w6.heap.size;omega)) (fun b _ q=>by omega)
            have HX20:Hid (ExM ((w9.setCell ⟨w6.heap.size,7,none⟩ (.slice (some ⟨w9.heap.size,0,none⟩) 1 1)).alloc (.cells N.toArray 29)) (fun b=>w.heap.size < b) M' (⟨7,19+(k:Int),0,0,[],[],[],0,0⟩,Fo.cons (sub7 S1).1.1 (sub7 S1).1.2 .nil)):=⟨_,hM',.inr ⟨w9.heap.size,0,1,rfl,Nat.le_refl 1,by unfold maxLen;omega,RowAt.one hxN hrow.range (by omega)⟩⟩
            have HMF:Hid (muS T (closeS T [41] (sub7 S1).2) ≤ muS T S):=by
             have a1:=muS_close T [41] (sub7 S1).2
             have a2:=U HM9
             have a3:=U HM1
             show _ ≤ _
             omega
            clear ev hvs hrow hxN hM' hsz ff7 cc7
            obtain ⟨w20,hw20⟩:∃ w20,w20=(w9.setCell ⟨w6.heap.size,7,none⟩ (.slice (some ⟨w9.heap.size,0,none⟩) 1 1)).alloc (.cells N.toArray 29):=⟨_,rfl⟩
            rw [← hw20] at HVM20 HV20 HX20
            rw [← hw20]
            clear hw20
            go_upto_region 53 with (go_at_call 180;refine (close_any hT (U HV20).px [41]).mono ?_;rintro e w21 ⟨rfl,hp1,hf1⟩;have HX:=V ((U HX20).keep (fun b hq hl=>hf1.blk b hl (by have:=(U HNE).2.2;omega)) (fun _ _ h=>h));have HVM21:=V ((U HVM20).keep (hf1.blk _ (ltX (U HVM20).1) (by have:=(U HNE).2.2;omega)));have HV21:=V ((U HV20).move hp1 hf1 (U HNE).2.2);clear hp1 hf1 HV20)
            have hst:=(U HV21).out.storeC hlM' (U HX).one
            refine wp_region_list ?_
            refine wpList_load_mid rfl 29 (.tmp 11) rfl w6.heap.size 0 rfl M' _ (U HVM21).range Tryz.underlying29 rfl (by rw [hlM'];exact sizeEx) ?_
            go_wp2_with fail
            obtain ⟨h1,h2⟩:=(U HV21).done (S0:=S) (U HX) (U HMF) (U HNE).1 (U HNE).2.1
            exact bodyPost_ret (h1.result rfl _ rfl) rfl (by rw [U HPP,U HEQ];exact h2)
    · have hkI:¬ (k:Int) < 4:=by omega
      skip
      as_aux_lemma=>
       obtain rfl:k=4:=by omega
       have HAN:Hid (A=none):=by have h:=(U HG).eq;exact h.symm
       have HEN:Hid (factorS T sub1 sub7 n S=(exZ,failS T 1 S)):=by
        show factorS T sub1 sub7 n S=_
        rw [U HEQ,U HAN]
        rfl
       have HMF:Hid (muS T (failS T 1 S) ≤ muS T S):=by
        have h:=muS_fail T 1 (by decide) S
        show _ ≤ _
        omega
       clear HEQ HA HAN
       go_upto_region 55 with (go_at_call 97;refine (fail_any hT (U HG).rv.px 1 (by decide)).mono ?_;rintro e w5 ⟨rfl,hp1,hf1⟩;have HV5:=V ((U HG).rv.move hp1 hf1 (U HNE).2.2);clear hp1 hf1)
       refine wp_region_list ?_
       refine lt 162 (.agg zL.toArray) ?_
       refine wpList_store_mid rfl 29 (.tmp 2) (.tmp 162) rfl w.heap.size 0 zL.toArray rfl rfl (U HV5).out.there sizeEx (all_oneCell_toArray (by intro v hv;simp [zL] at hv;rcases hv with rfl | rfl | rfl | rfl | rfl | rfl | rfl | rfl | rfl | rfl <;> rfl)) ?_
       go_wp2_with fail
       have HX:Hid (ExM w5 (fun b=>w.heap.size < b) zL exZ):=⟨.slice none 0 0,rfl,.inl ⟨rfl,0,rfl⟩⟩
       obtain ⟨h1,h2⟩:=(U HV5).done (S0:=S) (U HX) (U HMF) (U HNE).1 (U HNE).2.1
       exact bodyPost_ret (h1.result rfl _ rfl) rfl (by rw [U HPP,U HEN];exact h2)
end Go.Proofs.YtpnonhjmpnbmcaaGreatDoor
