/- The document's parser: cases. -/
import Derived.Test.YtpnonhjmpnbmcaaGreatDoorJXPar9XPar10XPar11XApp2
namespace Go.Proofs.YtpnonhjmpnbmcaaGreatDoor
open Go.RowKit Go.Lib
open Act (put)
set_option linter.unusedSimpArgs false
set_option linter.unusedVariables false
set_option maxHeartbeats 25600000
set_option maxRecDepth 100000
/-- What cases tells of its row and where it stands then. -/
def tailS (T:List Tk) (sub7:PS→Ex × PS) (r:Fo × PS):Ex × PS:=
 let q:Fo × PS:=if isS T 2 [69,76,83,69] r.2 then
  let e:=sub7 (nextS T r.2)
  (Fo.app r.1 (Fo.cons e.1.1 e.1.2 .nil),e.2) else r
 ((⟨6,0,0,0,[],[],[],0,0⟩,q.1),closeS T [] (mustS T 2 [69,78,68] q.2))
/-- The variable at b3, its row of the call's own. -/
structure CSX (T:List Tk) (p bt c b2 b3:Nat) (w wr:World) (S:PS) (a:Option Addr) (m k:Nat) (Es:List (List Value × Ex)):Prop where
 rv:RVX T p bt c b2 w wr S
 va:VrX wr b3 (ndC ⟨6,0,0,0,[],[],[],0,0⟩ (.slice a m k))
 row:OE (b3+1) wr a m k Es
 b3b:b2 < b3
section
variable {T:List Tk} {p bt c b2 b3:Nat} {w wr w':World} {S S':PS} {a:Option Addr} {m k:Nat} {Es:List (List Value × Ex)}
theorem CSX.moveR (h:CSX T p bt c b2 b3 w wr S a m k Es) (hr:RVX T p bt c b2 w w' S') (hf:FrX p wr w') (hpl:p < b2):CSX T p bt c b2 b3 w w' S' a m k Es:=
 ⟨hr,h.va.keep (hf.blk b3 (ltX h.va.1) (by have:=h.b3b;omega)),h.row.keep (fun b h1 h2=>hf.blk b h2 (by have:=h.b3b;omega)),h.b3b⟩
theorem CSX.move (h:CSX T p bt c b2 b3 w wr S a m k Es) (hp:PX T w' p bt c S') (hf:FrX p wr w') (hpl:p < b2):CSX T p bt c b2 b3 w w' S' a m k Es:=h.moveR (h.rv.move hp hf hpl) hf hpl
theorem CSX.below (h:CSX T p bt c b2 b3 w wr S a m k Es) (hb:Below wr.heap.size wr w'):CSX T p bt c b2 b3 w w' S a m k Es:=
 ⟨h.rv.below hb,h.va.below hb,h.row.keep (fun b _ h2=>hb.block b h2),h.b3b⟩
theorem CSX.drew (h:CSX T p bt c b2 b3 w wr S a m k Es):CSX T p bt c b2 b3 w wr.drew S a m k Es:=h.below (Below.refl _ _).drew
theorem CSX.cell (h:CSX T p bt c b2 b3 w wr S a m k Es):wr.cell? ⟨b3,7,none⟩=some (.slice a m k):=cellX h.va.1 7
theorem CSX.cell_own (h:CSX T p bt c b2 b3 w wr S a m k Es) (hb:Below (b3+1) wr w'):w'.cell? ⟨b3,7,none⟩=some (.slice a m k):=cellX ((hb.block b3 (by omega)).trans h.va.1) 7
theorem CSX.frz_own (h:CSX T p bt c b2 b3 w wr S a m k Es) (hb:Below (b3+1) wr w'):w'.frozen? ⟨b3,7,none⟩=false:=frzX ((hb.block b3 (by omega)).trans h.va.1) 7
theorem CSX.own (h:CSX T p bt c b2 b3 w wr S a m k Es):∀ b,wr.heap.size ≤ b→b3+1 ≤ b∧(Value.slice a m k).ownBlock ≠ some b:=fun b hb=>⟨by have:=ltX h.va.1;omega,fun e=>by have:=(h.row.own b e).2;omega⟩
/-- What a call tells lies apart from the row. -/
theorem CSX.fresh {w1 w2:World} {Q:Nat→Prop} {M:List Value} {E:Ex} (_h:CSX T p bt c b2 b3 w wr S a m k Es) (hx:ExM w2 (fun b=>w1.heap.size ≤ b) M E) (hq:∀ b,w1.heap.size ≤ b→Q b):ExM w2 Q M E:=hx.keep (fun _ _ _=>rfl) (fun b _ q=>hq b q)
/-- The row grown, the variable not yet. -/
theorem CSX.grown {ad:Option Addr} {m' k':Nat} {Es':List (List Value × Ex)} (h:CSX T p bt c b2 b3 w wr S a m k Es) (hb:Below (b3+1) wr w') (ho:OE (b3+1) w' ad m' k' Es') (hp:p < b2) (ht:bt < b2) :
 CSX T p bt c b2 b3 w (w'.setCell ⟨b3,7,none⟩ (.slice ad m' k')) S ad m' k' Es':=by
 have hb3:=h.b3b
 have hv:w'.heap[b3]?=some (.cells (ndC ⟨6,0,0,0,[],[],[],0,0⟩ (.slice a m k)).toArray 29 (0,0)):=(hb.block b3 (by omega)).trans h.va.1
 have hk:∀ j,j ≠ b3→(w'.setCell ⟨b3,7,none⟩ (.slice ad m' k')).heap[j]?=w'.heap[j]?:=fun j hj=>Below.heap_setCell w' ⟨b3,7,none⟩ _ j hj
 have hz:(w'.setCell ⟨b3,7,none⟩ (.slice ad m' k')).heap.size=w'.heap.size:=by simp
 have hr:=h.rv
 refine ⟨⟨hr.out.keep ((hk b2 (by omega)).trans (hb.block b2 (by omega))),⟨((hk p (by omega)).trans (hb.block p (by omega))).trans hr.px.blk,hr.px.toks.keep (fun _=>(hk bt (by omega)).trans (hb.block bt (by omega))),hr.px.ne,hr.px.lt,hr.px.dlo,hr.px.dhi,hr.px.err⟩,⟨hb.os.trans hr.fr.os,hb.tape.trans hr.fr.tape,hb.output.trans hr.fr.output,by rw [hz];exact Nat.le_trans hr.fr.size hb.size,fun j hj hjp=>?_⟩,hr.b2p⟩,⟨by rw [setX hv 7];rfl,rfl⟩,ho.keep (fun b h1 _=>hk b (by omega)),hb3⟩
 have:=hr.b2p
 rw [hk j (by omega),hb.block j (by omega)]
 exact hr.fr.blk j hj hjp
end
theorem fold20 {M N:List Value} (hl:M.length=10) (hk:N.length=10):List.foldl (fun (cs:Array Value) (x:Value × Nat)=>cs.setIfInBounds (10+x.snd) x.fst) (List.foldl (fun (cs:Array Value) (x:Value × Nat)=>cs.setIfInBounds x.snd x.fst) #[.int .i64 0,.int .i64 0,.int .i64 0,.int .i64 0,.string ⟨#[]⟩,.string ⟨#[]⟩,.string ⟨#[]⟩,.slice none 0 0,.int .i64 0,.int .i64 0,.int .i64 0,.int .i64 0,.int .i64 0,.int .i64 0,.string ⟨#[]⟩,.string ⟨#[]⟩,.string ⟨#[]⟩,.slice none 0 0,.int .i64 0,.int .i64 0] M.zipIdx) N.zipIdx=(M ++ N).toArray:=by
 match M,hl,N,hk with
 | [_,_,_,_,_,_,_,_,_,_],_,[_,_,_,_,_,_,_,_,_,_],_=>simp [List.zipIdx]
theorem fold20s {M:List Value} (hl:M.length=10):(List.foldl (fun (cs:Array Value) (x:Value × Nat)=>cs.setIfInBounds x.snd x.fst) #[.int .i64 0,.int .i64 0,.int .i64 0,.int .i64 0,.string ⟨#[]⟩,.string ⟨#[]⟩,.string ⟨#[]⟩,.slice none 0 0,.int .i64 0,.int .i64 0,.int .i64 0,.int .i64 0,.int .i64 0,.int .i64 0,.string ⟨#[]⟩,.string ⟨#[]⟩,.string ⟨#[]⟩,.slice none 0 0,.int .i64 0,.int .i64 0] M.zipIdx).size=20:=by
 match M,hl with
 | [_,_,_,_,_,_,_,_,_,_],_=>simp [List.zipIdx]
theorem rangeNew (w:World) (cs:List Value):(w.alloc (.cells cs.toArray 29)).rangeAt w.heap.size 0 cs:=fun j v hv=>by
 rw [Nat.zero_add,cellX (heap_alloc_new w (.cells cs.toArray 29))]
 simpa using hv
theorem toFo_app (k:List (List Value × Ex)):∀ l:List (List Value × Ex),Fo.app (toFo l) (toFo k)=toFo (l ++ k)
 | []=>rfl
 | x :: l=>by show Go.Deep.BT.node 0 0 _ _ (Fo.app (toFo l) _)=_;rw [toFo_app k l];rfl
theorem muS_must_lt {T:List Tk} (hT:TG T) {k:Nat} {x:List UInt8} {S:PS} (hk:k ≠ 0) (hi:S.i < T.length) (he:S.err=0):muS T (mustS T k x S)+1 ≤ muS T S:=by
 unfold mustS
 split
 · rename_i h
   have:=muS_next hT h hk hi
   omega
 · rw [muS_fail T 1 (by decide)]
   unfold muS
   rw [if_pos he]
   omega
/-- The loop. -/
structure CSL (T:List Tk) (p bt c b2 b3 mu0:Nat) (w wr:World) (R:Fo × PS) (mir:Nat→Fo→PS→Fo × PS) (a:Option Addr) (m k:Nat) (Es:List (List Value × Ex)) (S:PS) (n:Nat):Prop where
 cs:CSX T p bt c b2 b3 w wr S a m k Es
 eq:mir n (toFo Es) S=R
 fuel:muS T S ≤ n
 mu:m+2 * muS T S ≤ 2 * mu0
theorem cases_lv {T:List Tk} {p bt c:Nat} (hT:TG T) {sub7:PS→Ex × PS} {B n:Nat} (hn:B ≤ n) (hB:B ≤ 3500) (h7:1 ≤ B→LvC T p bt c 150 sub7 (B - 1)) :
 LvC T p bt c 228 (caseS T sub7 n) B:=by
 intro w S hp hmu
 have hbtlt:=hp.bt_lt
 have hplt:=hp.lt_p
 have HV0:=V (RVX.new hp)
 have HNE:Hid (w.heap.size ≠ bt∧w.heap.size ≠ p∧p < w.heap.size):=⟨by omega,by omega,by omega⟩
 have HBT:=V hbtlt
 have HMU:=V hmu
 clear hp hbtlt hplt hmu
 obtain ⟨PP,hPP⟩:∃ PP,PP=LvP T p bt c w S (caseS T sub7 n S):=⟨_,rfl⟩
 have HPP:=V hPP
 rw [← hPP]
 clear hPP
 obtain ⟨S0,hS0⟩:∃ S0,S0=openS T [67,65,83,69] S:=⟨_,rfl⟩
 have HS0:=V hS0.symm
 have HM0:Hid (muS T S0 ≤ muS T S):=by rw [hS0];exact muS_open T [67,65,83,69] S
 obtain ⟨R,hR⟩:∃ R,R=casesS T sub7 n .nil S0:=⟨_,rfl⟩
 have HE0:Hid (caseS T sub7 n S=tailS T sub7 R):=by rw [hR,hS0];rfl
 have HR0:=V hR.symm
 clear hS0 hR
 go_enter Tryz.func228,Tryz.ntmps228
 go_upto_region 2 with (go_at_call 178;refine (open_any hT (U HV0).px [67,65,83,69]).mono ?_;rw [U HS0];rintro e w1 ⟨rfl,hp1,hf1⟩;have HV1:=V ((U HV0).move hp1 hf1 (U HNE).2.2);clear hp1 hf1)
 have hlo1:=ltX (U HV1).out.1
 go_upto_region 3 with fail
 obtain ⟨M,hM⟩:∃ M:List Value,M=ndC ⟨6,0,0,0,[],[],[],0,0⟩ (.slice none 0 0):=⟨_,rfl⟩
 have eM:M.toArray=#[.int .i64 6,.int .i64 0,.int .i64 0,.int .i64 0,.string ⟨#[]⟩,.string ⟨#[]⟩,.string ⟨#[]⟩,.slice none 0 0,.int .i64 0,.int .i64 0]:=by rw [hM];rfl
 rw [← eM]
 have HC2:Hid (CSX T p bt c w.heap.size w1.heap.size w (w1.alloc (.cells M.toArray 29)) S0 none 0 0 []):=by
  rw [hM]
  have hz:(w1.alloc (.cells (ndC ⟨6,0,0,0,[],[],[],0,0⟩ (.slice none 0 0)).toArray 29)).heap.size=w1.heap.size+1:=by simp
  exact ⟨(U HV1).below (alX (Below.refl _ _) _),VrX.new w1 rfl,by rw [← hz];exact OE.none _,hlo1⟩
 obtain ⟨w2,hw2⟩:∃ w2,w2=w1.alloc (.cells M.toArray 29):=⟨_,rfl⟩
 obtain ⟨b3,hb3⟩:∃ b3,b3=w1.heap.size:=⟨_,rfl⟩
 rw [← hw2,← hb3] at HC2
 rw [← hw2,← hb3]
 clear hw2 hb3 hM eM HV1 HV0 hlo1
 have HL:Hid (CSL T p bt c w.heap.size b3 (muS T S) w w2 R (casesS T sub7) none 0 0 [] S0 n):=⟨U HC2,U HR0,by have h1:=U HM0;have h2:=U HMU;omega,by have h1:=U HM0;omega⟩
 clear HC2 HR0
 go_loopg [4] (muS T S0) (fun g s4 wr=>∃ (a:Option Addr) (m k0:Nat) (Es:List (List Value × Ex)) (S1:PS) (n1:Nat),g=muS T S1∧Hid (CSL T p bt c w.heap.size b3 (muS T S) w wr R (casesS T sub7) a m k0 Es S1 n1))
 case atStart=>exact ⟨none,0,0,[],S0,n,rfl,HL⟩
 case round=>
  obtain ⟨a,m,k0,Es,S1,n1,rfl,HE⟩:=hrel
  clear HL
  have HMB:Hid (m ≤ 7000):=by have h1:=(U HE).mu;have h2:=U HMU;show m ≤ 7000;omega
  have HMS:Hid (muS T S1 ≤ muS T S):=by have h1:=(U HE).mu;show _ ≤ _;omega
  have HC3:=V (U HE).cs
  have cc3:=(U HC3).cell
  obtain ⟨w3,hw3⟩:∃ w3,w3=wr:=⟨_,rfl⟩
  rw [← hw3] at HC3 cc3
  rw [← hw3]
  clear hw3
  cases he0:(S1.err == 0) with
  | false=>
   have HE1:=V he0
   have HR:Hid (R=(toFo Es,S1)):=by
    have h:=(U HE).eq
    show R=_
    have he':¬ S1.err=0:=by simpa using he0
    rw [← h]
    cases n1 with
    | zero=>rfl
    | succ n1=>rw [casesS,if_neg (fun q=>he' q.1)]
   clear he0 HE
   go_upto_region 10 with (go_at_call 96;refine (ok_any' (U HC3).rv.px).mono ?_;rw [U HE1];rintro e w4 ⟨rfl,hp1,hf1⟩;have HC4:=V ((U HC3).move hp1 hf1 (U HNE).2.2);have cc4:=(U HC4).cell;clear hp1 hf1)
   cases he:isS T 2 [69,76,83,69] S1 with
   | false=>
    skip
    as_aux_lemma=>
     have HW:=V he
     have HMW:Hid (mayS T 2 [69,76,83,69] S1=S1):=by show mayS T 2 [69,76,83,69] S1=_;unfold mayS;rw [he];rfl
     have HEQ:Hid (caseS T sub7 n S=(⟨6,0,0,0,[],[],[],0,0⟩,toFo Es,closeS T [] (mustS T 2 [69,78,68] S1)).casesOn (fun a b=>((a,b.1),b.2))):=by
      show caseS T sub7 n S=_
      rw [U HE0,U HR]
      unfold tailS
      dsimp only
      rw [he]
      rfl
     have HMF:Hid (muS T (closeS T [] (mustS T 2 [69,78,68] S1)) ≤ muS T S):=by
      have h1:=muS_close T [] (mustS T 2 [69,78,68] S1)
      have h2:=muS_must T 2 [69,78,68] S1
      have h3:=U HMS
      show _ ≤ _
      omega
     clear he HE0 HR
     go_upto_region 12 with (go_at_call 143;refine (may_any hT (U HC4).rv.px [69,76,83,69]).mono ?_;rw [U HW];rintro e w5 ⟨rfl,hp1,hf1⟩;rw [U HMW] at hp1;have HC5:=V ((U HC4).move hp1 hf1 (U HNE).2.2);have cc5:=(U HC5).cell;clear hp1 hf1)
     go_upto_region 14 with (first | (go_at_call 146;refine (must_any hT (U HC5).rv.px [69,78,68]).mono ?_;rintro e w6 ⟨rfl,hp1,hf1⟩;have HC6:=V ((U HC5).move hp1 hf1 (U HNE).2.2);have cc6:=(U HC6).cell;clear hp1 hf1) | (go_at_call 180;refine (close_any hT (U HC6).rv.px []).mono ?_;rintro e w7 ⟨rfl,hp1,hf1⟩;have HC7:=V ((U HC6).move hp1 hf1 (U HNE).2.2);have cc7:=(U HC7).cell;clear hp1 hf1))
     have hst:=(U HC7).rv.out.storeC (M':=ndC ⟨6,0,0,0,[],[],[],0,0⟩ (.slice a m k0)) rfl (ndC_one rfl)
     have hlV:(ndC ⟨6,0,0,0,[],[],[],0,0⟩ (.slice a m k0)).length=10:=rfl
     refine wp_region_list ?_
     refine wpList_load_mid rfl 29 (.tmp 3) rfl b3 0 rfl (ndC ⟨6,0,0,0,[],[],[],0,0⟩ (.slice a m k0)) _ (U HC7).va.range Tryz.underlying29 rfl (by exact sizeEx) ?_
     go_wp2_with fail
     have HX:Hid (ExM w7 (fun b=>w.heap.size < b) (ndC ⟨6,0,0,0,[],[],[],0,0⟩ (.slice a m k0)) (⟨6,0,0,0,[],[],[],0,0⟩,toFo Es)):=⟨_,rfl,(U HC7).row.slice.keep (fun _ _ _=>rfl) (fun b _ q=>by have:=(U HC7).b3b;omega)⟩
     obtain ⟨h1,h2⟩:=(U HC7).rv.done (S0:=S) (U HX) (U HMF) (U HNE).1 (U HNE).2.1
     exact bodyPost_ret (h1.result rfl _ rfl) rfl (by rw [U HPP,U HEQ];exact h2)
   | true=>
    skip
    as_aux_lemma=>
     have HW:=V he
     have HMW:Hid (mayS T 2 [69,76,83,69] S1=nextS T S1):=by show mayS T 2 [69,76,83,69] S1=_;unfold mayS;rw [he];rfl
     have HMN:Hid (muS T (nextS T S1)+1 ≤ muS T S∧muS T S ≤ B):=⟨by
      have h1:=muS_next hT he (by decide) (U HC4).rv.px.lt
      have h3:=U HMS
      omega,U HMU⟩
     obtain ⟨S2,hS2⟩:∃ S2,S2=nextS T S1:=⟨_,rfl⟩
     obtain ⟨r,hr⟩:∃ r,r=sub7 S2:=⟨_,rfl⟩
     have HEQ:Hid (caseS T sub7 n S=((⟨6,0,0,0,[],[],[],0,0⟩,Fo.app (toFo Es) (Fo.cons r.1.1 r.1.2 .nil)),closeS T [] (mustS T 2 [69,78,68] r.2))):=by
      show caseS T sub7 n S=_
      rw [U HE0,U HR,hr,hS2]
      unfold tailS
      dsimp only
      rw [he]
      rfl
     rw [← hS2] at HMW HMN
     have HRR:=V hr.symm
     clear he HE0 HR hS2 hr
     go_upto_region 11 with (go_at_call 143;refine (may_any hT (U HC4).rv.px [69,76,83,69]).mono ?_;rw [U HW];rintro e w5 ⟨rfl,hp1,hf1⟩;rw [U HMW] at hp1;have HC5:=V ((U HC4).move hp1 hf1 (U HNE).2.2);have cc5:=(U HC5).cell;clear hp1 hf1)
     have HC6:=V ((U HC5).drew)
     have cc6:=(U HC6).cell
     have hlt3:=ltX (U HC6).va.1
     have hm9:m ≤ 8000:=by have:=(U HMB);omega
     refine wp_region_last 7 (fun w'=>w'.cell? ⟨b3,7,none⟩=some (.slice a m k0)) (by kernel_rfl) cc6 (fun hHeld=>?_)
     refine lu 0 42 (.pointer (some ⟨b3,7,none⟩)) rfl (Or.inl ⟨by rfl,?_⟩) hHeld ?_
     · (intro w' hSw;obtain hSw':=hSw;go_simp)
     simp only[put,sA,sB,sC]
     refine lu 1 43 (.slice a m k0) rfl (Or.inl ⟨by rfl,?_⟩) hHeld ?_
     · (intro w' hSw;obtain hSw':=hSw;go_simp)
     simp only[put,sA,sB,sC]
     refine lu 2 44 (.pointer (some ⟨p,0,none⟩)) rfl (Or.inl ⟨by rfl,?_⟩) hHeld ?_
     · (intro w' hSw;obtain hSw':=hSw;go_simp)
     simp only[put,sA,sB,sC]
     refine last_one (i:=3) (by kernel_rfl) rfl (fun K hK=>?_)
     go_simp
     (go_at_call 150;refine ((U HC6).rv.call (h7 (by have h1:=U HMN;omega)) (by have h1:=U HMN;omega) (U HNE).2.2).mono ?_;rintro e w7 ⟨N,rfl,hx,hv,hf1,hm⟩;have hlN:=hx.len;have HC7:=V ((U HC6).moveR hv hf1 (U HNE).2.2);have cc7:=(U HC7).cell;have HXN:=V hx;have HFN:=V hf1;have HMXN:=V hm;clear hx hv hf1 hm)
     go_wp2_with fail
     refine hK.out _ _ (fun _=>cc7) (fun hHeld2=>?_)
     clear hK K hHeld
     have hHeld:=hHeld2 (by decide)
     clear hHeld2
     try simp only[put,sA,sB,sC]
     refine last_one (i:=4) (by kernel_rfl) rfl (fun K hK=>?_)
     go_simp
     go_wp2_with fail
     rw [fold10 hlN]
     have HN:Hid (ExM w7 (fun b=>b3+1 ≤ b∧(Value.slice a m k0).ownBlock ≠ some b) N r.1):=by rw [← U HRR];exact (U HC7).fresh (U HXN) (U HC6).own
     have HC8:=V ((U HC7).below (alX (Below.refl _ _) (.cells N.toArray 29)))
     have hN4:=(U HN).below (alX (Below.refl _ _) (.cells N.toArray 29))
     have hrN:=(VrX.new w7 hlN).range
     have hbb4:b3+1 ≤ (w7.alloc (.cells N.toArray 29)).heap.size:=by have h:=ltX (U HC8).va.1;omega
     obtain ⟨w8,hw8⟩:∃ w8,w8=w7.alloc (.cells N.toArray 29):=⟨_,rfl⟩
     rw [← hw8] at HC8 hN4 hrN hbb4
     rw [← hw8]
     have cc8:=(U HC8).cell
     clear hw8
     refine hK.out _ _ (fun _=>cc8) (fun hHeld2=>?_)
     clear hK K hHeld
     have hHeld:=hHeld2 (by decide)
     clear hHeld2
     try simp only[put,sA,sB,sC]
     refine last_one (i:=5) (by kernel_rfl) rfl (fun K hK=>?_)
     refine append_op (.tmp 43) (.tmp 46) rfl (U HC8).row hbb4 rfl [(N,r.1)] (fun y hy=>by rw [List.mem_singleton.1 hy];exact hN4) w7.heap.size 0 1 rfl (by simpa using hrN) (by omega) (by simp) ?_
     intro ad5 k5 w9 ho5 hb5 hg5 hn5
     have HC9:=V ((U HC8).grown hb5 ho5 (U HNE).2.2 (U HBT))
     have cc9:=(U HC8).cell_own hb5
     have ff:=(U HC8).frz_own hb5
     clear ho5 hg5 hn5
     refine hK.out _ _ (fun _=>cc9) (fun hHeld2=>?_)
     clear hK K hHeld
     have hHeld:=hHeld2 (by decide)
     clear hHeld2
     try simp only[put,sA,sB,sC]
     refine lu 6 48 (.pointer (some ⟨b3,7,none⟩)) rfl (Or.inl ⟨by rfl,?_⟩) hHeld ?_
     · (intro w' hSw;obtain hSw':=hSw;go_simp)
     simp only[put,sA,sB,sC]
     refine last_one (i:=7) (by kernel_rfl) rfl (fun K hK=>?_)
     go_simp
     go_wp2_with fail
     clear ff
     refine hK.out _ _ (fun h=>absurd rfl h) (fun _=>?_)
     clear hK K hHeld
     try simp only[put,sA,sB,sC]
     refine last_done (by kernel_rfl) ?_ _
     have HMF:Hid (muS T (closeS T [] (mustS T 2 [69,78,68] r.2)) ≤ muS T S):=by
      have h1:=muS_close T [] (mustS T 2 [69,78,68] r.2)
      have h2:=muS_must T 2 [69,78,68] r.2
      have h3:=U HMN
      have h4:=U HMXN
      rw [U HRR] at h4
      show _ ≤ _
      omega
     rw [toFo_snoc N] at HEQ
     rw [U HRR] at HC9
     go_upto_region 14 with (first | (go_at_call 146;refine (must_any hT (U HC9).rv.px [69,78,68]).mono ?_;rintro e w10 ⟨rfl,hp1,hf1⟩;have HC10:=V ((U HC9).move hp1 hf1 (U HNE).2.2);have cc10:=(U HC10).cell;clear hp1 hf1) | (go_at_call 180;refine (close_any hT (U HC10).rv.px []).mono ?_;rintro e w11 ⟨rfl,hp1,hf1⟩;have HC11:=V ((U HC10).move hp1 hf1 (U HNE).2.2);have cc11:=(U HC11).cell;clear hp1 hf1))
     have hst:=(U HC11).rv.out.storeC (M':=ndC ⟨6,0,0,0,[],[],[],0,0⟩ (.slice ad5 (m+1) k5)) rfl (ndC_one rfl)
     have hlV:(ndC ⟨6,0,0,0,[],[],[],0,0⟩ (.slice ad5 (m+1) k5)).length=10:=rfl
     refine wp_region_list ?_
     refine wpList_load_mid rfl 29 (.tmp 3) rfl b3 0 rfl (ndC ⟨6,0,0,0,[],[],[],0,0⟩ (.slice ad5 (m+1) k5)) _ (U HC11).va.range Tryz.underlying29 rfl (by exact sizeEx) ?_
     go_wp2_with fail
     have HX:Hid (ExM w11 (fun b=>w.heap.size < b) (ndC ⟨6,0,0,0,[],[],[],0,0⟩ (.slice ad5 (m+1) k5)) (⟨6,0,0,0,[],[],[],0,0⟩,toFo (Es ++ [(N,r.1)]))):=⟨_,rfl,(U HC11).row.slice.keep (fun _ _ _=>rfl) (fun b _ q=>by have:=(U HC11).b3b;omega)⟩
     obtain ⟨h1,h2⟩:=(U HC11).rv.done (S0:=S) (U HX) (U HMF) (U HNE).1 (U HNE).2.1
     exact bodyPost_ret (h1.result rfl _ rfl) rfl (by rw [U HPP,U HEQ];exact h2)
  | true=>
   have HE1:=V he0
   have he':S1.err=0:=by simpa using he0
   clear he0
   by_cases hm0:m=0
   · have hmI:((m:Int) == 0)=true:=by rw [hm0];rfl
     have hm1:(m:Int)=0:=by rw [hm0];rfl
     have HGO:Hid (cnt (toFo Es)=0 ∨ isS T 2 [87,72,69,78] S1=true):=.inl (by rw [cnt_toFo,← (U HE).cs.row.len];exact hm0)
     have HME:=V hm0
     clear hm0
     go_upto_region 4 with (go_at_call 96;refine (ok_any' (U HC3).rv.px).mono ?_;rw [U HE1];rintro e w4 ⟨rfl,hp1,hf1⟩;have HC4:=V ((U HC3).move hp1 hf1 (U HNE).2.2);have cc4:=(U HC4).cell;clear hp1 hf1)
     skip
     as_aux_lemma=>
      have HM20:Hid (¬ m=20):=by have h:=U HME;show ¬ m=20;omega
      have HMUW:Hid (muS T (mustS T 2 [87,72,69,78] S1)+1 ≤ muS T S1):=by
       show _ ≤ _
       exact muS_must_lt hT (by decide) (U HC4).rv.px.lt he'
      have hn1:n1=(n1 - 1)+1:=by
       have h1:=(U HE).fuel
       have h3:1 ≤ muS T S1:=by unfold muS;rw [if_pos he'];omega
       omega
      obtain ⟨n2,hn2⟩:∃ n2,n2=n1 - 1:=⟨_,rfl⟩
      rw [← hn2] at hn1
      subst hn1
      clear hn2
      obtain ⟨S3,hS3⟩:∃ S3,S3=mustS T 2 [87,72,69,78] S1:=⟨_,rfl⟩
      obtain ⟨c1,hc1⟩:∃ c1,c1=sub7 S3:=⟨_,rfl⟩
      obtain ⟨S5,hS5⟩:∃ S5,S5=mustS T 2 [84,72,69,78] c1.2:=⟨_,rfl⟩
      obtain ⟨c2,hc2⟩:∃ c2,c2=sub7 S5:=⟨_,rfl⟩
      have HEQ:Hid (casesS T sub7 n2 (Fo.app (toFo Es) (Fo.cons c1.1.1 c1.1.2 (Fo.cons c2.1.1 c2.1.2 .nil))) c2.2=R):=by
       show casesS _ _ _ _ _=R
       have h:=(U HE).eq
       rw [casesS,if_pos ⟨he',U HGO⟩,cnt_toFo,← (U HE).cs.row.len] at h
       rw [if_neg (U HM20)] at h
       dsimp only at h
       rw [← h,hc2,hS5,hc1,hS3]
      have HFU:Hid (muS T S1 ≤ n2+1∧m+2 * muS T S1 ≤ 2 * muS T S∧muS T S ≤ B):=⟨(U HE).fuel,(U HE).mu,U HMU⟩
      rw [← hS3] at HMUW
      have HS3:=V hS3.symm
      have HS5:=V hS5.symm
      have HC1:=V hc1.symm
      have HC2:=V hc2.symm
      have HMN1:Hid (muS T S3+1 ≤ muS T S∧muS T S ≤ B):=⟨by have h1:=U HMUW;have h2:=U HMS;omega,U HMU⟩
      clear hS3 hS5 hc1 hc2 HE he' HGO
      go_upto_region 8 with (first | fail | (go_at_call 146;refine (must_any hT (U HC4).rv.px [87,72,69,78]).mono ?_;rintro e w5 ⟨rfl,hp1,hf1⟩;rw [U HS3] at hp1;have HC5:=V ((U HC4).move hp1 hf1 (U HNE).2.2);have cc5:=(U HC5).cell;clear hp1 hf1) | (go_at_call 150;refine ((U HC5).rv.call (h7 (by have h1:=U HMN1;omega)) (by have h1:=U HMN1;omega) (U HNE).2.2).mono ?_;rintro e w6 ⟨N1,rfl,hx,hv,hf1,hm⟩;have hlN1:=hx.len;have HC6:=V ((U HC5).moveR hv hf1 (U HNE).2.2);have cc6:=(U HC6).cell;have HXN1:=V hx;have HFN1:=V hf1;have HMXN1:=V hm;have hsn:=storeNew w6 hx.len hx.one;unfold zL at hsn;clear hx hv hf1 hm))
      have hm7:=U HMB
      have HQ1:Hid (ExM w6 (fun b=>b3+1 ≤ b∧(Value.slice a m k0).ownBlock ≠ some b) N1 c1.1):=by rw [← U HC1];exact (U HC6).fresh (U HXN1) (U HC5).own
      have HXO7:=V ((U HQ1).below (alX (Below.refl _ _) (.cells N1.toArray 29)))
      have HVN7:=V (VrX.new w6 hlN1)
      have HC7:=V ((U HC6).below (alX (Below.refl _ _) (.cells N1.toArray 29)))
      have cc7:=(U HC7).cell
      have hb4:b3 < w6.heap.size:=ltX (U HC6).va.1
      have HBO:Hid ((Value.slice a m k0).ownBlock ≠ some w6.heap.size):=((U HC6).own _ (Nat.le_refl _)).2
      rw [U HC1] at HC7 HMXN1
      obtain ⟨w7,hw7⟩:∃ w7,w7=w6.alloc (.cells N1.toArray 29):=⟨_,rfl⟩
      obtain ⟨b4,hb4e⟩:∃ b4,b4=w6.heap.size:=⟨_,rfl⟩
      rw [← hw7] at HC7 HVN7 HXO7 cc7
      rw [← hb4e] at HVN7 hb4 HBO
      rw [← hw7,← hb4e]
      clear hw7 hb4e hsn
      go_upto_region 9 with (go_at_call 146;refine (must_any hT (U HC7).rv.px [84,72,69,78]).mono ?_;rintro e w8 ⟨rfl,hp1,hf1⟩;rw [U HS5] at hp1;have HC8:=V ((U HC7).move hp1 hf1 (U HNE).2.2);have cc8:=(U HC8).cell;have HVN8:=V ((U HVN7).keep (hf1.blk _ (ltX (U HVN7).1) (by have h1:=(U HNE).2.2;have h2:=(U HC7).b3b;omega)));have HXO8:=V ((U HXO7).keep (fun b hq hl=>hf1.blk b hl (by have h1:=(U HNE).2.2;have h2:=(U HC7).b3b;have h3:=hq.1;omega)) (fun _ _ h=>h));clear hp1 hf1)
      have HC9:=V ((U HC8).drew)
      have cc9:=(U HC9).cell
      have HVN9:Hid (VrX w8.drew b4 N1):=(U HVN8).below (Below.refl _ _).drew
      have HXO9:=V ((U HXO8).below (Below.refl _ _).drew)
      have HMN2:Hid (muS T S5+1 ≤ muS T S∧muS T S ≤ B):=⟨by
       have h1:=muS_must T 2 [84,72,69,78] c1.2
       rw [U HS5] at h1
       have h2:=U HMXN1
       have h3:=U HMUW
       have h4:=U HMS
       omega,U HMU⟩
      refine wp_region_last 8 (fun w'=>w'.cell? ⟨b3,7,none⟩=some (.slice a m k0)∧VrX w' b4 N1) (by kernel_rfl) ⟨cc9,U HVN9⟩ (fun hHeld=>?_)
      refine lu 0 32 (.pointer (some ⟨b3,7,none⟩)) rfl (Or.inl ⟨by rfl,?_⟩) hHeld ?_
      · (intro w' hSw;obtain ⟨hSw',_⟩:=hSw;go_simp)
      simp only[put,sA,sB,sC]
      refine lu 1 33 (.slice a m k0) rfl (Or.inl ⟨by rfl,?_⟩) hHeld ?_
      · (intro w' hSw;obtain ⟨hSw',_⟩:=hSw;go_simp)
      simp only[put,sA,sB,sC]
      refine lu 2 34 (.agg N1.toArray) rfl (yieldsIf_load_mid (by rfl) 29 (.tmp 4) rfl b4 0 rfl N1 _ (fun w hw=>hw.2.range) Tryz.underlying29 rfl (by rw [hlN1];exact sizeEx)) hHeld ?_
      simp only[put,sA,sB,sC]
      refine lu 3 35 (.pointer (some ⟨p,0,none⟩)) rfl (Or.inl ⟨by rfl,?_⟩) hHeld ?_
      · (intro w' hSw;obtain ⟨hSw',_⟩:=hSw;go_simp)
      simp only[put,sA,sB,sC]
      refine last_one (i:=4) (by kernel_rfl) rfl (fun K hK=>?_)
      go_simp
      (go_at_call 150;refine ((U HC9).rv.call (h7 (by have h1:=U HMN2;omega)) (by have h1:=U HMN2;omega) (U HNE).2.2).mono ?_;rintro e w10 ⟨N2,rfl,hx,hv,hf1,hm⟩;have hlN2:=hx.len;have HC10:=V ((U HC9).moveR hv hf1 (U HNE).2.2);have cc10:=(U HC10).cell;have HXN2:=V hx;have HFN2:=V hf1;have HMXN2:=V hm;have HVN10:=V ((U HVN9).keep (hf1.blk _ (ltX (U HVN9).1) (by have h1:=(U HNE).2.2;have h2:=(U HC9).b3b;omega)));have HXO10:=V ((U HXO9).keep (fun b hq hl=>hf1.blk b hl (by have h1:=(U HNE).2.2;have h2:=(U HC9).b3b;have h3:=hq.1;omega)) (fun _ _ h=>h));clear hx hv hf1 hm)
      go_wp2_with fail
      refine hK.out _ _ (fun _=>⟨cc10,U HVN10⟩) (fun hHeld2=>?_)
      clear hK K hHeld
      have hHeld:=hHeld2 (by decide)
      clear hHeld2
      try simp only[put,sA,sB,sC]
      refine last_one (i:=5) (by kernel_rfl) rfl (fun K hK=>?_)
      have hz20:=fold20s hlN1
      go_simp
      go_wp2_with fail
      clear hz20
      rw [fold20 hlN1 hlN2]
      have HN2:Hid (ExM w10 (fun b=>b3+1 ≤ b∧(Value.slice a m k0).ownBlock ≠ some b) N2 c2.1):=by rw [← U HC2];exact (U HC10).fresh (U HXN2) (U HC9).own
      rw [U HC2] at HC10 HMXN2
      have HC11:=V ((U HC10).below (alX (Below.refl _ _) (.cells (N1 ++ N2).toArray 29)))
      have HVN11:=V ((U HVN10).below (alX (Below.refl _ _) (.cells (N1 ++ N2).toArray 29)))
      have hN1:=(U HXO10).below (alX (Below.refl _ _) (.cells (N1 ++ N2).toArray 29))
      have hN2:=(U HN2).below (alX (Below.refl _ _) (.cells (N1 ++ N2).toArray 29))
      have hrN:=rangeNew w10 (N1 ++ N2)
      have hbb4:b3+1 ≤ (w10.alloc (.cells (N1 ++ N2).toArray 29)).heap.size:=by have h:=ltX (U HC11).va.1;omega
      obtain ⟨w11,hw11⟩:∃ w11,w11=w10.alloc (.cells (N1 ++ N2).toArray 29):=⟨_,rfl⟩
      rw [← hw11] at HC11 HVN11 hN1 hN2 hrN hbb4
      rw [← hw11]
      have cc11:=(U HC11).cell
      clear hw11
      refine hK.out _ _ (fun _=>⟨cc11,U HVN11⟩) (fun hHeld2=>?_)
      clear hK K hHeld
      have hHeld:=hHeld2 (by decide)
      clear hHeld2
      try simp only[put,sA,sB,sC]
      refine last_one (i:=6) (by kernel_rfl) rfl (fun K hK=>?_)
      refine append_op (.tmp 33) (.tmp 37) rfl (U HC11).row hbb4 rfl [(N1,c1.1),(N2,c2.1)] (fun y hy=>by rcases List.mem_cons.1 hy with rfl | hy;(exact hN1);(rw [List.mem_singleton.1 hy];exact hN2)) w10.heap.size 0 2 rfl (by simpa using hrN) (by omega) (by simp) ?_
      intro ad5 k5 w12 ho5 hb5 hg5 hn5
      have HC12:=V ((U HC11).grown hb5 ho5 (U HNE).2.2 (U HBT))
      have cc12:=(U HC11).cell_own hb5
      have ff:=(U HC11).frz_own hb5
      have HVN12:=V ((U HVN11).keep (hg5 b4 (ltX (U HVN11).1) (U HBO)))
      clear ho5 hg5 hn5 hb5
      refine hK.out _ _ (fun _=>⟨cc12,U HVN12⟩) (fun hHeld2=>?_)
      clear hK K hHeld
      have hHeld:=hHeld2 (by decide)
      clear hHeld2
      try simp only[put,sA,sB,sC]
      refine lu 7 39 (.pointer (some ⟨b3,7,none⟩)) rfl (Or.inl ⟨by rfl,?_⟩) hHeld ?_
      · (intro w' hSw;obtain ⟨hSw',_⟩:=hSw;go_simp)
      simp only[put,sA,sB,sC]
      refine last_one (i:=8) (by kernel_rfl) rfl (fun K hK=>?_)
      go_simp
      go_wp2_with fail
      clear ff
      refine hK.out _ _ (fun h=>absurd rfl h) (fun _=>?_)
      clear hK K hHeld
      try simp only[put,sA,sB,sC]
      refine last_done (by kernel_rfl) ?_ _
      have HMZ:Hid (muS T c2.2+1 ≤ muS T S1):=by
       have h1:=U HMXN2
       have h2:=muS_must T 2 [84,72,69,78] c1.2
       rw [U HS5] at h2
       have h3:=U HMXN1
       have h4:=U HMUW
       show _ ≤ _
       omega
      have HNX:Hid (CSL T p bt c w.heap.size b3 (muS T S) w (w12.setCell ⟨b3,7,none⟩ (.slice ad5 (m+2) k5)) R (casesS T sub7) ad5 (m+2) k5 (Es ++ [(N1,c1.1),(N2,c2.1)]) c2.2 n2):=by
       have h1:=U HMZ
       have h2:=U HFU
       refine ⟨U HC12,?_,by omega,by omega⟩
       rw [← toFo_app]
       exact U HEQ
      go_wp2_with fail
      go_roundg (muS T c2.2)
      case rel=>exact ⟨_,_,_,_,_,_,rfl,HNX⟩
      case measure=>have h1:=U HMZ;omega
   · have hmI:((m:Int) == 0)=false:=by rw [beq_eq_false_iff_ne];omega
     have hm1:((m:Int)=0)=False:=eq_false (by omega)
     have HME:=V hm0
     clear hm0
     cases hw0:isS T 2 [87,72,69,78] S1 with
     | false=>
      have HW1:=V hw0
      have HR:Hid (R=(toFo Es,S1)):=by
       have h:=(U HE).eq
       show R=_
       rw [← h]
       cases n1 with
       | zero=>rfl
       | succ n1=>rw [casesS,if_neg (fun q=>by rcases q.2 with q | q;(exact absurd (by rw [cnt_toFo,← (U HE).cs.row.len] at q;exact q) (U HME));(rw [hw0] at q;cases q))]
      clear hw0 HE he'
      go_upto_region 10 with (first | (go_at_call 96;refine (ok_any' (U HC3).rv.px).mono ?_;rw [U HE1];rintro e w4 ⟨rfl,hp1,hf1⟩;have HC4:=V ((U HC3).move hp1 hf1 (U HNE).2.2);have cc4:=(U HC4).cell;clear hp1 hf1) | (go_at_call 177;refine (word_any (U HC4).rv.px [87,72,69,78]).mono ?_;rw [U HW1];rintro e w5 ⟨rfl,hp1,hf1⟩;have HC5:=V ((U HC4).move hp1 hf1 (U HNE).2.2);have cc5:=(U HC5).cell;clear hp1 hf1))
      skip
      cases he:isS T 2 [69,76,83,69] S1 with
      | false=>
       skip
       as_aux_lemma=>
        have HW:=V he
        have HMW:Hid (mayS T 2 [69,76,83,69] S1=S1):=by show mayS T 2 [69,76,83,69] S1=_;unfold mayS;rw [he];rfl
        have HEQ:Hid (caseS T sub7 n S=(⟨6,0,0,0,[],[],[],0,0⟩,toFo Es,closeS T [] (mustS T 2 [69,78,68] S1)).casesOn (fun a b=>((a,b.1),b.2))):=by
         show caseS T sub7 n S=_
         rw [U HE0,U HR]
         unfold tailS
         dsimp only
         rw [he]
         rfl
        have HMF:Hid (muS T (closeS T [] (mustS T 2 [69,78,68] S1)) ≤ muS T S):=by
         have h1:=muS_close T [] (mustS T 2 [69,78,68] S1)
         have h2:=muS_must T 2 [69,78,68] S1
         have h3:=U HMS
         show _ ≤ _
         omega
        clear he HE0 HR
        go_upto_region 12 with (go_at_call 143;refine (may_any hT (U HC5).rv.px [69,76,83,69]).mono ?_;rw [U HW];rintro e w6 ⟨rfl,hp1,hf1⟩;rw [U HMW] at hp1;have HC6:=V ((U HC5).move hp1 hf1 (U HNE).2.2);have cc6:=(U HC6).cell;clear hp1 hf1)
        go_upto_region 14 with (first | (go_at_call 146;refine (must_any hT (U HC6).rv.px [69,78,68]).mono ?_;rintro e w7 ⟨rfl,hp1,hf1⟩;have HC7:=V ((U HC6).move hp1 hf1 (U HNE).2.2);have cc7:=(U HC7).cell;clear hp1 hf1) | (go_at_call 180;refine (close_any hT (U HC7).rv.px []).mono ?_;rintro e w8 ⟨rfl,hp1,hf1⟩;have HC8:=V ((U HC7).move hp1 hf1 (U HNE).2.2);have cc8:=(U HC8).cell;clear hp1 hf1))
        have hst:=(U HC8).rv.out.storeC (M':=ndC ⟨6,0,0,0,[],[],[],0,0⟩ (.slice a m k0)) rfl (ndC_one rfl)
        have hlV:(ndC ⟨6,0,0,0,[],[],[],0,0⟩ (.slice a m k0)).length=10:=rfl
        refine wp_region_list ?_
        refine wpList_load_mid rfl 29 (.tmp 3) rfl b3 0 rfl (ndC ⟨6,0,0,0,[],[],[],0,0⟩ (.slice a m k0)) _ (U HC8).va.range Tryz.underlying29 rfl (by exact sizeEx) ?_
        go_wp2_with fail
        have HX:Hid (ExM w8 (fun b=>w.heap.size < b) (ndC ⟨6,0,0,0,[],[],[],0,0⟩ (.slice a m k0)) (⟨6,0,0,0,[],[],[],0,0⟩,toFo Es)):=⟨_,rfl,(U HC8).row.slice.keep (fun _ _ _=>rfl) (fun b _ q=>by have:=(U HC8).b3b;omega)⟩
        obtain ⟨h1,h2⟩:=(U HC8).rv.done (S0:=S) (U HX) (U HMF) (U HNE).1 (U HNE).2.1
        exact bodyPost_ret (h1.result rfl _ rfl) rfl (by rw [U HPP,U HEQ];exact h2)
      | true=>
       skip
       as_aux_lemma=>
        have HW:=V he
        have HMW:Hid (mayS T 2 [69,76,83,69] S1=nextS T S1):=by show mayS T 2 [69,76,83,69] S1=_;unfold mayS;rw [he];rfl
        have HMN:Hid (muS T (nextS T S1)+1 ≤ muS T S∧muS T S ≤ B):=⟨by
         have h1:=muS_next hT he (by decide) (U HC5).rv.px.lt
         have h3:=U HMS
         omega,U HMU⟩
        obtain ⟨S2,hS2⟩:∃ S2,S2=nextS T S1:=⟨_,rfl⟩
        obtain ⟨r,hr⟩:∃ r,r=sub7 S2:=⟨_,rfl⟩
        have HEQ:Hid (caseS T sub7 n S=((⟨6,0,0,0,[],[],[],0,0⟩,Fo.app (toFo Es) (Fo.cons r.1.1 r.1.2 .nil)),closeS T [] (mustS T 2 [69,78,68] r.2))):=by
         show caseS T sub7 n S=_
         rw [U HE0,U HR,hr,hS2]
         unfold tailS
         dsimp only
         rw [he]
         rfl
        rw [← hS2] at HMW HMN
        have HRR:=V hr.symm
        clear he HE0 HR hS2 hr
        go_upto_region 11 with (go_at_call 143;refine (may_any hT (U HC5).rv.px [69,76,83,69]).mono ?_;rw [U HW];rintro e w6 ⟨rfl,hp1,hf1⟩;rw [U HMW] at hp1;have HC6:=V ((U HC5).move hp1 hf1 (U HNE).2.2);have cc6:=(U HC6).cell;clear hp1 hf1)
        have HC7:=V ((U HC6).drew)
        have cc7:=(U HC7).cell
        have hlt3:=ltX (U HC7).va.1
        have hm9:m ≤ 8000:=by have:=(U HMB);omega
        refine wp_region_last 7 (fun w'=>w'.cell? ⟨b3,7,none⟩=some (.slice a m k0)) (by kernel_rfl) cc7 (fun hHeld=>?_)
        refine lu 0 42 (.pointer (some ⟨b3,7,none⟩)) rfl (Or.inl ⟨by rfl,?_⟩) hHeld ?_
        · (intro w' hSw;obtain hSw':=hSw;go_simp)
        simp only[put,sA,sB,sC]
        refine lu 1 43 (.slice a m k0) rfl (Or.inl ⟨by rfl,?_⟩) hHeld ?_
        · (intro w' hSw;obtain hSw':=hSw;go_simp)
        simp only[put,sA,sB,sC]
        refine lu 2 44 (.pointer (some ⟨p,0,none⟩)) rfl (Or.inl ⟨by rfl,?_⟩) hHeld ?_
        · (intro w' hSw;obtain hSw':=hSw;go_simp)
        simp only[put,sA,sB,sC]
        refine last_one (i:=3) (by kernel_rfl) rfl (fun K hK=>?_)
        go_simp
        (go_at_call 150;refine ((U HC7).rv.call (h7 (by have h1:=U HMN;omega)) (by have h1:=U HMN;omega) (U HNE).2.2).mono ?_;rintro e w8 ⟨N,rfl,hx,hv,hf1,hm⟩;have hlN:=hx.len;have HC8:=V ((U HC7).moveR hv hf1 (U HNE).2.2);have cc8:=(U HC8).cell;have HXN:=V hx;have HFN:=V hf1;have HMXN:=V hm;clear hx hv hf1 hm)
        go_wp2_with fail
        refine hK.out _ _ (fun _=>cc8) (fun hHeld2=>?_)
        clear hK K hHeld
        have hHeld:=hHeld2 (by decide)
        clear hHeld2
        try simp only[put,sA,sB,sC]
        refine last_one (i:=4) (by kernel_rfl) rfl (fun K hK=>?_)
        go_simp
        go_wp2_with fail
        rw [fold10 hlN]
        have HN:Hid (ExM w8 (fun b=>b3+1 ≤ b∧(Value.slice a m k0).ownBlock ≠ some b) N r.1):=by rw [← U HRR];exact (U HC8).fresh (U HXN) (U HC7).own
        have HC9:=V ((U HC8).below (alX (Below.refl _ _) (.cells N.toArray 29)))
        have hN4:=(U HN).below (alX (Below.refl _ _) (.cells N.toArray 29))
        have hrN:=(VrX.new w8 hlN).range
        have hbb4:b3+1 ≤ (w8.alloc (.cells N.toArray 29)).heap.size:=by have h:=ltX (U HC9).va.1;omega
        obtain ⟨w9,hw9⟩:∃ w9,w9=w8.alloc (.cells N.toArray 29):=⟨_,rfl⟩
        rw [← hw9] at HC9 hN4 hrN hbb4
        rw [← hw9]
        have cc9:=(U HC9).cell
        clear hw9
        refine hK.out _ _ (fun _=>cc9) (fun hHeld2=>?_)
        clear hK K hHeld
        have hHeld:=hHeld2 (by decide)
        clear hHeld2
        try simp only[put,sA,sB,sC]
        refine last_one (i:=5) (by kernel_rfl) rfl (fun K hK=>?_)
        refine append_op (.tmp 43) (.tmp 46) rfl (U HC9).row hbb4 rfl [(N,r.1)] (fun y hy=>by rw [List.mem_singleton.1 hy];exact hN4) w8.heap.size 0 1 rfl (by simpa using hrN) (by omega) (by simp) ?_
        intro ad5 k5 w10 ho5 hb5 hg5 hn5
        have HC10:=V ((U HC9).grown hb5 ho5 (U HNE).2.2 (U HBT))
        have cc10:=(U HC9).cell_own hb5
        have ff:=(U HC9).frz_own hb5
        clear ho5 hg5 hn5
        refine hK.out _ _ (fun _=>cc10) (fun hHeld2=>?_)
        clear hK K hHeld
        have hHeld:=hHeld2 (by decide)
        clear hHeld2
        try simp only[put,sA,sB,sC]
        refine lu 6 48 (.pointer (some ⟨b3,7,none⟩)) rfl (Or.inl ⟨by rfl,?_⟩) hHeld ?_
        · (intro w' hSw;obtain hSw':=hSw;go_simp)
        simp only[put,sA,sB,sC]
        refine last_one (i:=7) (by kernel_rfl) rfl (fun K hK=>?_)
        go_simp
        go_wp2_with fail
        clear ff
        refine hK.out _ _ (fun h=>absurd rfl h) (fun _=>?_)
        clear hK K hHeld
        try simp only[put,sA,sB,sC]
        refine last_done (by kernel_rfl) ?_ _
        have HMF:Hid (muS T (closeS T [] (mustS T 2 [69,78,68] r.2)) ≤ muS T S):=by
         have h1:=muS_close T [] (mustS T 2 [69,78,68] r.2)
         have h2:=muS_must T 2 [69,78,68] r.2
         have h3:=U HMN
         have h4:=U HMXN
         rw [U HRR] at h4
         show _ ≤ _
         omega
        rw [toFo_snoc N] at HEQ
        rw [U HRR] at HC10
        go_upto_region 14 with (first | (go_at_call 146;refine (must_any hT (U HC10).rv.px [69,78,68]).mono ?_;rintro e w11 ⟨rfl,hp1,hf1⟩;have HC11:=V ((U HC10).move hp1 hf1 (U HNE).2.2);have cc11:=(U HC11).cell;clear hp1 hf1) | (go_at_call 180;refine (close_any hT (U HC11).rv.px []).mono ?_;rintro e w12 ⟨rfl,hp1,hf1⟩;have HC12:=V ((U HC11).move hp1 hf1 (U HNE).2.2);have cc12:=(U HC12).cell;clear hp1 hf1))
        have hst:=(U HC12).rv.out.storeC (M':=ndC ⟨6,0,0,0,[],[],[],0,0⟩ (.slice ad5 (m+1) k5)) rfl (ndC_one rfl)
        have hlV:(ndC ⟨6,0,0,0,[],[],[],0,0⟩ (.slice ad5 (m+1) k5)).length=10:=rfl
        refine wp_region_list ?_
        refine wpList_load_mid rfl 29 (.tmp 3) rfl b3 0 rfl (ndC ⟨6,0,0,0,[],[],[],0,0⟩ (.slice ad5 (m+1) k5)) _ (U HC12).va.range Tryz.underlying29 rfl (by exact sizeEx) ?_
        go_wp2_with fail
        have HX:Hid (ExM w12 (fun b=>w.heap.size < b) (ndC ⟨6,0,0,0,[],[],[],0,0⟩ (.slice ad5 (m+1) k5)) (⟨6,0,0,0,[],[],[],0,0⟩,toFo (Es ++ [(N,r.1)]))):=⟨_,rfl,(U HC12).row.slice.keep (fun _ _ _=>rfl) (fun b _ q=>by have:=(U HC12).b3b;omega)⟩
        obtain ⟨h1,h2⟩:=(U HC12).rv.done (S0:=S) (U HX) (U HMF) (U HNE).1 (U HNE).2.1
        exact bodyPost_ret (h1.result rfl _ rfl) rfl (by rw [U HPP,U HEQ];exact h2)
     | true=>
      have HW1:=V hw0
      have HGO:Hid (cnt (toFo Es)=0 ∨ isS T 2 [87,72,69,78] S1=true):=.inr hw0
      clear hw0
      go_upto_region 4 with (first | (go_at_call 96;refine (ok_any' (U HC3).rv.px).mono ?_;rw [U HE1];rintro e w4 ⟨rfl,hp1,hf1⟩;have HC4:=V ((U HC3).move hp1 hf1 (U HNE).2.2);have cc4:=(U HC4).cell;clear hp1 hf1) | (go_at_call 177;refine (word_any (U HC4).rv.px [87,72,69,78]).mono ?_;rw [U HW1];rintro e w5 ⟨rfl,hp1,hf1⟩;have HC5:=V ((U HC4).move hp1 hf1 (U HNE).2.2);have cc5:=(U HC5).cell;clear hp1 hf1))
      skip
      by_cases hm20:m=20
      · have hm2I:(m:Int)=20:=by omega
        have HM20:=V hm20
        clear hm20
        as_aux_lemma=>
         have HMUW:Hid (muS T (mustS T 2 [87,72,69,78] (failS T 2 S1))+1 ≤ muS T S1):=by
          have h1:=muS_fail T 2 (by decide) S1
          have h2:=muS_must T 2 [87,72,69,78] (failS T 2 S1)
          have h3:1 ≤ muS T S1:=by unfold muS;rw [if_pos he'];omega
          show _ ≤ _
          omega
         have hn1:n1=(n1 - 1)+1:=by
          have h1:=(U HE).fuel
          have h3:1 ≤ muS T S1:=by unfold muS;rw [if_pos he'];omega
          omega
         obtain ⟨n2,hn2⟩:∃ n2,n2=n1 - 1:=⟨_,rfl⟩
         rw [← hn2] at hn1
         subst hn1
         clear hn2
         obtain ⟨S3,hS3⟩:∃ S3,S3=mustS T 2 [87,72,69,78] (failS T 2 S1):=⟨_,rfl⟩
         obtain ⟨c1,hc1⟩:∃ c1,c1=sub7 S3:=⟨_,rfl⟩
         obtain ⟨S5,hS5⟩:∃ S5,S5=mustS T 2 [84,72,69,78] c1.2:=⟨_,rfl⟩
         obtain ⟨c2,hc2⟩:∃ c2,c2=sub7 S5:=⟨_,rfl⟩
         have HEQ:Hid (casesS T sub7 n2 (Fo.app (toFo Es) (Fo.cons c1.1.1 c1.1.2 (Fo.cons c2.1.1 c2.1.2 .nil))) c2.2=R):=by
          show casesS _ _ _ _ _=R
          have h:=(U HE).eq
          rw [casesS,if_pos ⟨he',U HGO⟩,cnt_toFo,← (U HE).cs.row.len] at h
          rw [if_pos (U HM20)] at h
          dsimp only at h
          rw [← h,hc2,hS5,hc1,hS3]
         have HFU:Hid (muS T S1 ≤ n2+1∧m+2 * muS T S1 ≤ 2 * muS T S∧muS T S ≤ B):=⟨(U HE).fuel,(U HE).mu,U HMU⟩
         rw [← hS3] at HMUW
         have HS3:=V hS3.symm
         have HS5:=V hS5.symm
         have HC1:=V hc1.symm
         have HC2:=V hc2.symm
         have HMN1:Hid (muS T S3+1 ≤ muS T S∧muS T S ≤ B):=⟨by have h1:=U HMUW;have h2:=U HMS;omega,U HMU⟩
         clear hS3 hS5 hc1 hc2 HE he' HGO
         go_upto_region 8 with (first | (go_at_call 97;refine (fail_any hT (U HC5).rv.px 2 (by decide)).mono ?_;rintro e w6 ⟨rfl,hp1,hf1⟩;have HC6:=V ((U HC5).move hp1 hf1 (U HNE).2.2);have cc6:=(U HC6).cell;clear hp1 hf1) | (go_at_call 146;refine (must_any hT (U HC6).rv.px [87,72,69,78]).mono ?_;rintro e w7 ⟨rfl,hp1,hf1⟩;rw [U HS3] at hp1;have HC7:=V ((U HC6).move hp1 hf1 (U HNE).2.2);have cc7:=(U HC7).cell;clear hp1 hf1) | (go_at_call 150;refine ((U HC7).rv.call (h7 (by have h1:=U HMN1;omega)) (by have h1:=U HMN1;omega) (U HNE).2.2).mono ?_;rintro e w8 ⟨N1,rfl,hx,hv,hf1,hm⟩;have hlN1:=hx.len;have HC8:=V ((U HC7).moveR hv hf1 (U HNE).2.2);have cc8:=(U HC8).cell;have HXN1:=V hx;have HFN1:=V hf1;have HMXN1:=V hm;have hsn:=storeNew w8 hx.len hx.one;unfold zL at hsn;clear hx hv hf1 hm))
         have hm7:=U HMB
         have HQ1:Hid (ExM w8 (fun b=>b3+1 ≤ b∧(Value.slice a m k0).ownBlock ≠ some b) N1 c1.1):=by rw [← U HC1];exact (U HC8).fresh (U HXN1) (U HC7).own
         have HXO9:=V ((U HQ1).below (alX (Below.refl _ _) (.cells N1.toArray 29)))
         have HVN9:=V (VrX.new w8 hlN1)
         have HC9:=V ((U HC8).below (alX (Below.refl _ _) (.cells N1.toArray 29)))
         have cc9:=(U HC9).cell
         have hb4:b3 < w8.heap.size:=ltX (U HC8).va.1
         have HBO:Hid ((Value.slice a m k0).ownBlock ≠ some w8.heap.size):=((U HC8).own _ (Nat.le_refl _)).2
         rw [U HC1] at HC9 HMXN1
         obtain ⟨w9,hw9⟩:∃ w9,w9=w8.alloc (.cells N1.toArray 29):=⟨_,rfl⟩
         obtain ⟨b4,hb4e⟩:∃ b4,b4=w8.heap.size:=⟨_,rfl⟩
         rw [← hw9] at HC9 HVN9 HXO9 cc9
         rw [← hb4e] at HVN9 hb4 HBO
         rw [← hw9,← hb4e]
         clear hw9 hb4e hsn
         go_upto_region 9 with (go_at_call 146;refine (must_any hT (U HC9).rv.px [84,72,69,78]).mono ?_;rintro e w10 ⟨rfl,hp1,hf1⟩;rw [U HS5] at hp1;have HC10:=V ((U HC9).move hp1 hf1 (U HNE).2.2);have cc10:=(U HC10).cell;have HVN10:=V ((U HVN9).keep (hf1.blk _ (ltX (U HVN9).1) (by have h1:=(U HNE).2.2;have h2:=(U HC9).b3b;omega)));have HXO10:=V ((U HXO9).keep (fun b hq hl=>hf1.blk b hl (by have h1:=(U HNE).2.2;have h2:=(U HC9).b3b;have h3:=hq.1;omega)) (fun _ _ h=>h));clear hp1 hf1)
         have HC11:=V ((U HC10).drew)
         have cc11:=(U HC11).cell
         have HVN11:Hid (VrX w10.drew b4 N1):=(U HVN10).below (Below.refl _ _).drew
         have HXO11:=V ((U HXO10).below (Below.refl _ _).drew)
         have HMN2:Hid (muS T S5+1 ≤ muS T S∧muS T S ≤ B):=⟨by
          have h1:=muS_must T 2 [84,72,69,78] c1.2
          rw [U HS5] at h1
          have h2:=U HMXN1
          have h3:=U HMUW
          have h4:=U HMS
          omega,U HMU⟩
         refine wp_region_last 8 (fun w'=>w'.cell? ⟨b3,7,none⟩=some (.slice a m k0)∧VrX w' b4 N1) (by kernel_rfl) ⟨cc11,U HVN11⟩ (fun hHeld=>?_)
         refine lu 0 32 (.pointer (some ⟨b3,7,none⟩)) rfl (Or.inl ⟨by rfl,?_⟩) hHeld ?_
         · (intro w' hSw;obtain ⟨hSw',_⟩:=hSw;go_simp)
         simp only[put,sA,sB,sC]
         refine lu 1 33 (.slice a m k0) rfl (Or.inl ⟨by rfl,?_⟩) hHeld ?_
         · (intro w' hSw;obtain ⟨hSw',_⟩:=hSw;go_simp)
         simp only[put,sA,sB,sC]
         refine lu 2 34 (.agg N1.toArray) rfl (yieldsIf_load_mid (by rfl) 29 (.tmp 4) rfl b4 0 rfl N1 _ (fun w hw=>hw.2.range) Tryz.underlying29 rfl (by rw [hlN1];exact sizeEx)) hHeld ?_
         simp only[put,sA,sB,sC]
         refine lu 3 35 (.pointer (some ⟨p,0,none⟩)) rfl (Or.inl ⟨by rfl,?_⟩) hHeld ?_
         · (intro w' hSw;obtain ⟨hSw',_⟩:=hSw;go_simp)
         simp only[put,sA,sB,sC]
         refine last_one (i:=4) (by kernel_rfl) rfl (fun K hK=>?_)
         go_simp
         (go_at_call 150;refine ((U HC11).rv.call (h7 (by have h1:=U HMN2;omega)) (by have h1:=U HMN2;omega) (U HNE).2.2).mono ?_;rintro e w12 ⟨N2,rfl,hx,hv,hf1,hm⟩;have hlN2:=hx.len;have HC12:=V ((U HC11).moveR hv hf1 (U HNE).2.2);have cc12:=(U HC12).cell;have HXN2:=V hx;have HFN2:=V hf1;have HMXN2:=V hm;have HVN12:=V ((U HVN11).keep (hf1.blk _ (ltX (U HVN11).1) (by have h1:=(U HNE).2.2;have h2:=(U HC11).b3b;omega)));have HXO12:=V ((U HXO11).keep (fun b hq hl=>hf1.blk b hl (by have h1:=(U HNE).2.2;have h2:=(U HC11).b3b;have h3:=hq.1;omega)) (fun _ _ h=>h));clear hx hv hf1 hm)
         go_wp2_with fail
         refine hK.out _ _ (fun _=>⟨cc12,U HVN12⟩) (fun hHeld2=>?_)
         clear hK K hHeld
         have hHeld:=hHeld2 (by decide)
         clear hHeld2
         try simp only[put,sA,sB,sC]
         refine last_one (i:=5) (by kernel_rfl) rfl (fun K hK=>?_)
         have hz20:=fold20s hlN1
         go_simp
         go_wp2_with fail
         clear hz20
         rw [fold20 hlN1 hlN2]
         have HN2:Hid (ExM w12 (fun b=>b3+1 ≤ b∧(Value.slice a m k0).ownBlock ≠ some b) N2 c2.1):=by rw [← U HC2];exact (U HC12).fresh (U HXN2) (U HC11).own
         rw [U HC2] at HC12 HMXN2
         have HC13:=V ((U HC12).below (alX (Below.refl _ _) (.cells (N1 ++ N2).toArray 29)))
         have HVN13:=V ((U HVN12).below (alX (Below.refl _ _) (.cells (N1 ++ N2).toArray 29)))
         have hN1:=(U HXO12).below (alX (Below.refl _ _) (.cells (N1 ++ N2).toArray 29))
         have hN2:=(U HN2).below (alX (Below.refl _ _) (.cells (N1 ++ N2).toArray 29))
         have hrN:=rangeNew w12 (N1 ++ N2)
         have hbb4:b3+1 ≤ (w12.alloc (.cells (N1 ++ N2).toArray 29)).heap.size:=by have h:=ltX (U HC13).va.1;omega
         obtain ⟨w13,hw13⟩:∃ w13,w13=w12.alloc (.cells (N1 ++ N2).toArray 29):=⟨_,rfl⟩
         rw [← hw13] at HC13 HVN13 hN1 hN2 hrN hbb4
         rw [← hw13]
         have cc13:=(U HC13).cell
         clear hw13
         refine hK.out _ _ (fun _=>⟨cc13,U HVN13⟩) (fun hHeld2=>?_)
         clear hK K hHeld
         have hHeld:=hHeld2 (by decide)
         clear hHeld2
         try simp only[put,sA,sB,sC]
         refine last_one (i:=6) (by kernel_rfl) rfl (fun K hK=>?_)
         refine append_op (.tmp 33) (.tmp 37) rfl (U HC13).row hbb4 rfl [(N1,c1.1),(N2,c2.1)] (fun y hy=>by rcases List.mem_cons.1 hy with rfl | hy;(exact hN1);(rw [List.mem_singleton.1 hy];exact hN2)) w12.heap.size 0 2 rfl (by simpa using hrN) (by omega) (by simp) ?_
         intro ad5 k5 w14 ho5 hb5 hg5 hn5
         have HC14:=V ((U HC13).grown hb5 ho5 (U HNE).2.2 (U HBT))
         have cc14:=(U HC13).cell_own hb5
         have ff:=(U HC13).frz_own hb5
         have HVN14:=V ((U HVN13).keep (hg5 b4 (ltX (U HVN13).1) (U HBO)))
         clear ho5 hg5 hn5 hb5
         refine hK.out _ _ (fun _=>⟨cc14,U HVN14⟩) (fun hHeld2=>?_)
         clear hK K hHeld
         have hHeld:=hHeld2 (by decide)
         clear hHeld2
         try simp only[put,sA,sB,sC]
         refine lu 7 39 (.pointer (some ⟨b3,7,none⟩)) rfl (Or.inl ⟨by rfl,?_⟩) hHeld ?_
         · (intro w' hSw;obtain ⟨hSw',_⟩:=hSw;go_simp)
         simp only[put,sA,sB,sC]
         refine last_one (i:=8) (by kernel_rfl) rfl (fun K hK=>?_)
         go_simp
         go_wp2_with fail
         clear ff
         refine hK.out _ _ (fun h=>absurd rfl h) (fun _=>?_)
         clear hK K hHeld
         try simp only[put,sA,sB,sC]
         refine last_done (by kernel_rfl) ?_ _
         have HMZ:Hid (muS T c2.2+1 ≤ muS T S1):=by
          have h1:=U HMXN2
          have h2:=muS_must T 2 [84,72,69,78] c1.2
          rw [U HS5] at h2
          have h3:=U HMXN1
          have h4:=U HMUW
          show _ ≤ _
          omega
         have HNX:Hid (CSL T p bt c w.heap.size b3 (muS T S) w (w14.setCell ⟨b3,7,none⟩ (.slice ad5 (m+2) k5)) R (casesS T sub7) ad5 (m+2) k5 (Es ++ [(N1,c1.1),(N2,c2.1)]) c2.2 n2):=by
          have h1:=U HMZ
          have h2:=U HFU
          refine ⟨U HC14,?_,by omega,by omega⟩
          rw [← toFo_app]
          exact U HEQ
         go_wp2_with fail
         go_roundg (muS T c2.2)
         case rel=>exact ⟨_,_,_,_,_,_,rfl,HNX⟩
         case measure=>have h1:=U HMZ;omega
      · have hm2I:((m:Int)=20)=False:=eq_false (by omega)
        have hm2b:((m:Int) == 20)=false:=by rw [beq_eq_false_iff_ne];omega
        have HM20:=V hm20
        clear hm20
        as_aux_lemma=>
         have HMUW:Hid (muS T (mustS T 2 [87,72,69,78] S1)+1 ≤ muS T S1):=by
          show _ ≤ _
          exact muS_must_lt hT (by decide) (U HC5).rv.px.lt he'
         have hn1:n1=(n1 - 1)+1:=by
          have h1:=(U HE).fuel
          have h3:1 ≤ muS T S1:=by unfold muS;rw [if_pos he'];omega
          omega
         obtain ⟨n2,hn2⟩:∃ n2,n2=n1 - 1:=⟨_,rfl⟩
         rw [← hn2] at hn1
         subst hn1
         clear hn2
         obtain ⟨S3,hS3⟩:∃ S3,S3=mustS T 2 [87,72,69,78] S1:=⟨_,rfl⟩
         obtain ⟨c1,hc1⟩:∃ c1,c1=sub7 S3:=⟨_,rfl⟩
         obtain ⟨S5,hS5⟩:∃ S5,S5=mustS T 2 [84,72,69,78] c1.2:=⟨_,rfl⟩
         obtain ⟨c2,hc2⟩:∃ c2,c2=sub7 S5:=⟨_,rfl⟩
         have HEQ:Hid (casesS T sub7 n2 (Fo.app (toFo Es) (Fo.cons c1.1.1 c1.1.2 (Fo.cons c2.1.1 c2.1.2 .nil))) c2.2=R):=by
          show casesS _ _ _ _ _=R
          have h:=(U HE).eq
          rw [casesS,if_pos ⟨he',U HGO⟩,cnt_toFo,← (U HE).cs.row.len] at h
          rw [if_neg (U HM20)] at h
          dsimp only at h
          rw [← h,hc2,hS5,hc1,hS3]
         have HFU:Hid (muS T S1 ≤ n2+1∧m+2 * muS T S1 ≤ 2 * muS T S∧muS T S ≤ B):=⟨(U HE).fuel,(U HE).mu,U HMU⟩
         rw [← hS3] at HMUW
         have HS3:=V hS3.symm
         have HS5:=V hS5.symm
         have HC1:=V hc1.symm
         have HC2:=V hc2.symm
         have HMN1:Hid (muS T S3+1 ≤ muS T S∧muS T S ≤ B):=⟨by have h1:=U HMUW;have h2:=U HMS;omega,U HMU⟩
         clear hS3 hS5 hc1 hc2 HE he' HGO
         go_upto_region 8 with (first | fail | (go_at_call 146;refine (must_any hT (U HC5).rv.px [87,72,69,78]).mono ?_;rintro e w6 ⟨rfl,hp1,hf1⟩;rw [U HS3] at hp1;have HC6:=V ((U HC5).move hp1 hf1 (U HNE).2.2);have cc6:=(U HC6).cell;clear hp1 hf1) | (go_at_call 150;refine ((U HC6).rv.call (h7 (by have h1:=U HMN1;omega)) (by have h1:=U HMN1;omega) (U HNE).2.2).mono ?_;rintro e w7 ⟨N1,rfl,hx,hv,hf1,hm⟩;have hlN1:=hx.len;have HC7:=V ((U HC6).moveR hv hf1 (U HNE).2.2);have cc7:=(U HC7).cell;have HXN1:=V hx;have HFN1:=V hf1;have HMXN1:=V hm;have hsn:=storeNew w7 hx.len hx.one;unfold zL at hsn;clear hx hv hf1 hm))
         have hm7:=U HMB
         have HQ1:Hid (ExM w7 (fun b=>b3+1 ≤ b∧(Value.slice a m k0).ownBlock ≠ some b) N1 c1.1):=by rw [← U HC1];exact (U HC7).fresh (U HXN1) (U HC6).own
         have HXO8:=V ((U HQ1).below (alX (Below.refl _ _) (.cells N1.toArray 29)))
         have HVN8:=V (VrX.new w7 hlN1)
         have HC8:=V ((U HC7).below (alX (Below.refl _ _) (.cells N1.toArray 29)))
         have cc8:=(U HC8).cell
         have hb4:b3 < w7.heap.size:=ltX (U HC7).va.1
         have HBO:Hid ((Value.slice a m k0).ownBlock ≠ some w7.heap.size):=((U HC7).own _ (Nat.le_refl _)).2
         rw [U HC1] at HC8 HMXN1
         obtain ⟨w8,hw8⟩:∃ w8,w8=w7.alloc (.cells N1.toArray 29):=⟨_,rfl⟩
         obtain ⟨b4,hb4e⟩:∃ b4,b4=w7.heap.size:=⟨_,rfl⟩
         rw [← hw8] at HC8 HVN8 HXO8 cc8
         rw [← hb4e] at HVN8 hb4 HBO
         rw [← hw8,← hb4e]
         clear hw8 hb4e hsn
         go_upto_region 9 with (go_at_call 146;refine (must_any hT (U HC8).rv.px [84,72,69,78]).mono ?_;rintro e w9 ⟨rfl,hp1,hf1⟩;rw [U HS5] at hp1;have HC9:=V ((U HC8).move hp1 hf1 (U HNE).2.2);have cc9:=(U HC9).cell;have HVN9:=V ((U HVN8).keep (hf1.blk _ (ltX (U HVN8).1) (by have h1:=(U HNE).2.2;have h2:=(U HC8).b3b;omega)));have HXO9:=V ((U HXO8).keep (fun b hq hl=>hf1.blk b hl (by have h1:=(U HNE).2.2;have h2:=(U HC8).b3b;have h3:=hq.1;omega)) (fun _ _ h=>h));clear hp1 hf1)
         have HC10:=V ((U HC9).drew)
         have cc10:=(U HC10).cell
         have HVN10:Hid (VrX w9.drew b4 N1):=(U HVN9).below (Below.refl _ _).drew
         have HXO10:=V ((U HXO9).below (Below.refl _ _).drew)
         have HMN2:Hid (muS T S5+1 ≤ muS T S∧muS T S ≤ B):=⟨by
          have h1:=muS_must T 2 [84,72,69,78] c1.2
          rw [U HS5] at h1
          have h2:=U HMXN1
          have h3:=U HMUW
          have h4:=U HMS
          omega,U HMU⟩
         refine wp_region_last 8 (fun w'=>w'.cell? ⟨b3,7,none⟩=some (.slice a m k0)∧VrX w' b4 N1) (by kernel_rfl) ⟨cc10,U HVN10⟩ (fun hHeld=>?_)
         refine lu 0 32 (.pointer (some ⟨b3,7,none⟩)) rfl (Or.inl ⟨by rfl,?_⟩) hHeld ?_
         · (intro w' hSw;obtain ⟨hSw',_⟩:=hSw;go_simp)
         simp only[put,sA,sB,sC]
         refine lu 1 33 (.slice a m k0) rfl (Or.inl ⟨by rfl,?_⟩) hHeld ?_
         · (intro w' hSw;obtain ⟨hSw',_⟩:=hSw;go_simp)
         simp only[put,sA,sB,sC]
         refine lu 2 34 (.agg N1.toArray) rfl (yieldsIf_load_mid (by rfl) 29 (.tmp 4) rfl b4 0 rfl N1 _ (fun w hw=>hw.2.range) Tryz.underlying29 rfl (by rw [hlN1];exact sizeEx)) hHeld ?_
         simp only[put,sA,sB,sC]
         refine lu 3 35 (.pointer (some ⟨p,0,none⟩)) rfl (Or.inl ⟨by rfl,?_⟩) hHeld ?_
         · (intro w' hSw;obtain ⟨hSw',_⟩:=hSw;go_simp)
         simp only[put,sA,sB,sC]
         refine last_one (i:=4) (by kernel_rfl) rfl (fun K hK=>?_)
         go_simp
         (go_at_call 150;refine ((U HC10).rv.call (h7 (by have h1:=U HMN2;omega)) (by have h1:=U HMN2;omega) (U HNE).2.2).mono ?_;rintro e w11 ⟨N2,rfl,hx,hv,hf1,hm⟩;have hlN2:=hx.len;have HC11:=V ((U HC10).moveR hv hf1 (U HNE).2.2);have cc11:=(U HC11).cell;have HXN2:=V hx;have HFN2:=V hf1;have HMXN2:=V hm;have HVN11:=V ((U HVN10).keep (hf1.blk _ (ltX (U HVN10).1) (by have h1:=(U HNE).2.2;have h2:=(U HC10).b3b;omega)));have HXO11:=V ((U HXO10).keep (fun b hq hl=>hf1.blk b hl (by have h1:=(U HNE).2.2;have h2:=(U HC10).b3b;have h3:=hq.1;omega)) (fun _ _ h=>h));clear hx hv hf1 hm)
         go_wp2_with fail
         refine hK.out _ _ (fun _=>⟨cc11,U HVN11⟩) (fun hHeld2=>?_)
         clear hK K hHeld
         have hHeld:=hHeld2 (by decide)
         clear hHeld2
         try simp only[put,sA,sB,sC]
         refine last_one (i:=5) (by kernel_rfl) rfl (fun K hK=>?_)
         have hz20:=fold20s hlN1
         go_simp
         go_wp2_with fail
         clear hz20
         rw [fold20 hlN1 hlN2]
         have HN2:Hid (ExM w11 (fun b=>b3+1 ≤ b∧(Value.slice a m k0).ownBlock ≠ some b) N2 c2.1):=by rw [← U HC2];exact (U HC11).fresh (U HXN2) (U HC10).own
         rw [U HC2] at HC11 HMXN2
         have HC12:=V ((U HC11).below (alX (Below.refl _ _) (.cells (N1 ++ N2).toArray 29)))
         have HVN12:=V ((U HVN11).below (alX (Below.refl _ _) (.cells (N1 ++ N2).toArray 29)))
         have hN1:=(U HXO11).below (alX (Below.refl _ _) (.cells (N1 ++ N2).toArray 29))
         have hN2:=(U HN2).below (alX (Below.refl _ _) (.cells (N1 ++ N2).toArray 29))
         have hrN:=rangeNew w11 (N1 ++ N2)
         have hbb4:b3+1 ≤ (w11.alloc (.cells (N1 ++ N2).toArray 29)).heap.size:=by have h:=ltX (U HC12).va.1;omega
         obtain ⟨w12,hw12⟩:∃ w12,w12=w11.alloc (.cells (N1 ++ N2).toArray 29):=⟨_,rfl⟩
         rw [← hw12] at HC12 HVN12 hN1 hN2 hrN hbb4
         rw [← hw12]
         have cc12:=(U HC12).cell
         clear hw12
         refine hK.out _ _ (fun _=>⟨cc12,U HVN12⟩) (fun hHeld2=>?_)
         clear hK K hHeld
         have hHeld:=hHeld2 (by decide)
         clear hHeld2
         try simp only[put,sA,sB,sC]
         refine last_one (i:=6) (by kernel_rfl) rfl (fun K hK=>?_)
         refine append_op (.tmp 33) (.tmp 37) rfl (U HC12).row hbb4 rfl [(N1,c1.1),(N2,c2.1)] (fun y hy=>by rcases List.mem_cons.1 hy with rfl | hy;(exact hN1);(rw [List.mem_singleton.1 hy];exact hN2)) w11.heap.size 0 2 rfl (by simpa using hrN) (by omega) (by simp) ?_
         intro ad5 k5 w13 ho5 hb5 hg5 hn5
         have HC13:=V ((U HC12).grown hb5 ho5 (U HNE).2.2 (U HBT))
         have cc13:=(U HC12).cell_own hb5
         have ff:=(U HC12).frz_own hb5
         have HVN13:=V ((U HVN12).keep (hg5 b4 (ltX (U HVN12).1) (U HBO)))
         clear ho5 hg5 hn5 hb5
         refine hK.out _ _ (fun _=>⟨cc13,U HVN13⟩) (fun hHeld2=>?_)
         clear hK K hHeld
         have hHeld:=hHeld2 (by decide)
         clear hHeld2
         try simp only[put,sA,sB,sC]
         refine lu 7 39 (.pointer (some ⟨b3,7,none⟩)) rfl (Or.inl ⟨by rfl,?_⟩) hHeld ?_
         · (intro w' hSw;obtain ⟨hSw',_⟩:=hSw;go_simp)
         simp only[put,sA,sB,sC]
         refine last_one (i:=8) (by kernel_rfl) rfl (fun K hK=>?_)
         go_simp
         go_wp2_with fail
         clear ff
         refine hK.out _ _ (fun h=>absurd rfl h) (fun _=>?_)
         clear hK K hHeld
         try simp only[put,sA,sB,sC]
         refine last_done (by kernel_rfl) ?_ _
         have HMZ:Hid (muS T c2.2+1 ≤ muS T S1):=by
          have h1:=U HMXN2
          have h2:=muS_must T 2 [84,72,69,78] c1.2
          rw [U HS5] at h2
          have h3:=U HMXN1
          have h4:=U HMUW
          show _ ≤ _
          omega
         have HNX:Hid (CSL T p bt c w.heap.size b3 (muS T S) w (w13.setCell ⟨b3,7,none⟩ (.slice ad5 (m+2) k5)) R (casesS T sub7) ad5 (m+2) k5 (Es ++ [(N1,c1.1),(N2,c2.1)]) c2.2 n2):=by
          have h1:=U HMZ
          have h2:=U HFU
          refine ⟨U HC13,?_,by omega,by omega⟩
          rw [← toFo_app]
          exact U HEQ
         go_wp2_with fail
         go_roundg (muS T c2.2)
         case rel=>exact ⟨_,_,_,_,_,_,rfl,HNX⟩
         case measure=>have h1:=U HMZ;omega
end Go.Proofs.YtpnonhjmpnbmcaaGreatDoor
