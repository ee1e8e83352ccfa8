/- The document's parser: test. -/
import Derived.Test.YtpnonhjmpnbmcaaGreatDoorJXPar9XPar10XPar11XApp2
namespace Go.Proofs.YtpnonhjmpnbmcaaGreatDoor
open Go.RowKit Go.Lib
open Act (put)
set_option linter.unusedSimpArgs false
set_option linter.unusedVariables false
set_option maxHeartbeats 25600000
set_option maxRecDepth 100000
/-- Behind the first sum: its variable at b3 besides. -/
structure TS (T:List Tk) (p bt c b2 b3:Nat) (w wr:World) (S:PS) (M:List Value) (a:Ex):Prop where
 rv:RVX T p bt c b2 w wr S
 va:VrX wr b3 M
 ex:ExM wr (fun b=>b2 < b∧b ≠ b3) M a
 b3p:b3 ≠ p
 b3b:b2 < b3
theorem TS.moveR {T:List Tk} {p bt c b2 b3:Nat} {w wr w':World} {S S':PS} {M:List Value} {a:Ex} (h:TS T p bt c b2 b3 w wr S M a) (hr:RVX T p bt c b2 w w' S') (hf:FrX p wr w') (hpl:p < b2):TS T p bt c b2 b3 w w' S' M a:=
 ⟨hr,h.va.keep (hf.blk b3 (ltX h.va.1) h.b3p),h.ex.keep (fun b hq hl=>hf.blk b hl (by have:=hq.1;omega)) (fun _ _ q=>q),h.b3p,h.b3b⟩
/-- What test tells when no sign stands behind its first sum. -/
def testN (T:List Tk) (sub3 sub7:PS→Ex × PS) (n:Nat) (a:Ex) (S1:PS):Ex × PS:=
 if isS T 2 [73,83] S1 then
  let S2:=nextS T S1
  (unE (if isS T 2 [78,79,84] S2 then 4 else 3) a,mustS T 2 [78,85,76,76] (mayS T 2 [78,79,84] S2))
 else
  let nt:=isS T 2 [78,79,84] S1
  let S2:=mayS T 2 [78,79,84] S1
  let r:Ex × PS:=
   if isS T 2 [73,78] S2 then
    let l:=exprsS T sub7 n .nil (openS T [40] (nextS T S2))
    ((⟨5,0,0,0,[],[],[],0,0⟩,Fo.cons a.1 a.2 l.1),closeS T [41] l.2)
   else if isS T 2 [66,69,84,87,69,69,78] S2 then
    let lo:=sub3 (nextS T S2)
    let hi:=sub3 (mustS T 2 [65,78,68] lo.2)
    (binE 17 (binE 10 a lo.1) (binE 8 a hi.1),hi.2)
   else (a,if nt then failS T 1 S2 else S2)
  (if nt then unE 2 r.1 else r.1,r.2)
def testR (T:List Tk) (sub3 sub7:PS→Ex × PS) (n:Nat) (a:Ex) (S1:PS):Option Nat→Ex × PS
 | some i=>(binE (5+i) a (sub3 (nextS T S1)).1,(sub3 (nextS T S1)).2)
 | none=>testN T sub3 sub7 n a S1
theorem TS.move {T:List Tk} {p bt c b2 b3:Nat} {w wr w':World} {S S':PS} {M:List Value} {a:Ex} (h:TS T p bt c b2 b3 w wr S M a) (hp:PX T w' p bt c S') (hf:FrX p wr w') (hpl:p < b2):TS T p bt c b2 b3 w w' S' M a:=h.moveR (h.rv.move hp hf hpl) hf hpl
theorem TS.below {T:List Tk} {p bt c b2 b3:Nat} {w wr w':World} {S:PS} {M:List Value} {a:Ex} (h:TS T p bt c b2 b3 w wr S M a) (hb:Below wr.heap.size wr w'):TS T p bt c b2 b3 w w' S M a:=⟨h.rv.below hb,h.va.below hb,h.ex.below hb,h.b3p,h.b3b⟩
theorem TS.drew {T:List Tk} {p bt c b2 b3:Nat} {w wr:World} {S:PS} {M:List Value} {a:Ex} (h:TS T p bt c b2 b3 w wr S M a):TS T p bt c b2 b3 w wr.drew S M a:=h.below (Below.refl _ _).drew
theorem TS.set {T:List Tk} {p bt c b2 b3:Nat} {w wr:World} {S:PS} {M M':List Value} {a a':Ex} (h:TS T p bt c b2 b3 w wr S M a) (hx:ExM wr (fun b=>b2 < b∧b ≠ b3) M' a') (hbt:b3 ≠ bt):TS T p bt c b2 b3 w (wr.setCells b3 0 M') S M' a':=
 ⟨⟨h.rv.out.setCells (by have:=h.b3b;omega) M',h.rv.px.setCells M' h.b3p hbt,h.rv.fr.setCells (by have:=h.rv.b2p;have:=h.b3b;omega) M',h.rv.b2p⟩,h.va.set hx.len,hx.setCells (fun q=>q.2 rfl) M',h.b3p,h.b3b⟩
theorem ts_set {T:List Tk} {p bt c b2 b3:Nat} {w wr:World} {S:PS} {M M':List Value} {a':Ex} (hr:RVX T p bt c b2 w wr S) (hv:VrX wr b3 M) (hp:b3 ≠ p) (hb:b2 < b3) (hx:ExM wr (fun b=>b2 < b∧b ≠ b3) M' a') (hbt:b3 ≠ bt):TS T p bt c b2 b3 w (wr.setCells b3 0 M') S M' a':=
 ⟨⟨hr.out.setCells (by omega) M',hr.px.setCells M' hp hbt,hr.fr.setCells (by have:=hr.b2p;omega) M',hr.b2p⟩,hv.set hx.len,hx.setCells (fun q=>q.2 rfl) M',hp,hb⟩
/-- A row of the call's own grown. -/
theorem RVX.own {T:List Tk} {p bt c b2:Nat} {w wr w':World} {S:PS} (h:RVX T p bt c b2 w wr S) (hb:Below (b2+1) wr w') (hp:p < b2) (ht:bt < b2):RVX T p bt c b2 w w' S:=
 ⟨h.out.keep (hb.block b2 (by omega)),⟨(hb.block p (by omega)).trans h.px.blk,h.px.toks.keep (fun _=>hb.block bt (by omega)),h.px.ne,h.px.lt,h.px.dlo,h.px.dhi,h.px.err⟩,⟨hb.os.trans h.fr.os,hb.tape.trans h.fr.tape,hb.output.trans h.fr.output,Nat.le_trans h.fr.size hb.size,fun k hk hkp=>(hb.block k (by have:=h.b2p;omega)).trans (h.fr.blk k hk hkp)⟩,h.b2p⟩
/-- The loop over the signs. -/
structure TGW (T:List Tk) (p bt c b2 b3 b9:Nat) (w wr:World) (S:PS) (M:List Value) (a:Ex) (k:Nat) (A:Option Nat):Prop where
 ts:TS T p bt c b2 b3 w wr S M a
 arr:wr.heap[b9]?=some (.cells #[.string ⟨#[61]⟩,.string ⟨#[60,62]⟩,.string ⟨#[60]⟩,.string ⟨#[60,61]⟩,.string ⟨#[62]⟩,.string ⟨#[62,61]⟩] 304 (0,0))
 b9p:b9 ≠ p
 eq:signI T S k (signsL.drop k)=A
theorem TGW.move {T:List Tk} {p bt c b2 b3 b9:Nat} {w wr w':World} {S:PS} {M:List Value} {a:Ex} {k:Nat} {A:Option Nat} (h:TGW T p bt c b2 b3 b9 w wr S M a k A) (hp:PX T w' p bt c S) (hf:FrX p wr w') (hpl:p < b2):TGW T p bt c b2 b3 b9 w w' S M a k A:=
 ⟨h.ts.move hp hf hpl,hf.keep h.arr h.b9p,h.b9p,h.eq⟩
theorem test_lv {T:List Tk} {p bt c:Nat} (hT:TG T) {sub3 sub7:PS→Ex × PS} {B n:Nat} (hn:B ≤ n) (hB:B ≤ 3500) (h3:LvC T p bt c 219 sub3 B) (h7:1 ≤ B→LvC T p bt c 150 sub7 (B - 1)) :
 LvC T p bt c 209 (testS T sub3 sub7 n) B:=by
 intro w S hp hmu
 have hbtlt:=hp.bt_lt
 have hplt:=hp.lt_p
 have HV0:=V (RVX.new hp)
 have HNE:Hid (w.heap.size ≠ bt∧w.heap.size ≠ p∧p < w.heap.size):=⟨by omega,by omega,by omega⟩
 have HI:=V hp.lt
 have HBT:=V hbtlt
 have HMU:=V hmu
 clear hp hbtlt hplt hmu
 obtain ⟨PP,hPP⟩:∃ PP,PP=LvP T p bt c w S (testS T sub3 sub7 n S):=⟨_,rfl⟩
 have HPP:=V hPP
 rw [← hPP]
 clear hPP
 go_enter Tryz.func209,Tryz.ntmps209
 go_upto_region 2 with (go_at_call 219;refine ((U HV0).call h3 (U HMU) (U HNE).2.2).mono ?_;rintro e w1 ⟨M,rfl,hx,hv,hf,hm⟩;have hlM:=hx.len;have HX1:=V hx;have HV1:=V hv;have HM1:=V hm;have hst1:=hv.out.storeC hx.len hx.one;have hsn1:=storeNew w1 hx.len hx.one;unfold zL at hsn1;clear hx hv hf hm)
 have hlo1:=ltX (U HV1).out.1
 obtain ⟨a,ha⟩:∃ a,a=(sub3 S).1:=⟨_,rfl⟩
 obtain ⟨S1,hS1⟩:∃ S1,S1=(sub3 S).2:=⟨_,rfl⟩
 have HSA:=V (And.intro ha hS1)
 rw [← ha] at HX1
 rw [← hS1] at HV1 HM1
 clear ha hS1
 have HT2:Hid (TS T p bt c w.heap.size w1.heap.size w (w1.alloc (.cells M.toArray 29)) S1 M a):=⟨(U HV1).below (alX (Below.refl _ _) _),VrX.new w1 hlM,(U HX1).keep (fun b _ hl=>(alX (Below.refl _ _) (.cells M.toArray 29)).block b hl) (fun b hl q=>by
  have hz:(w.alloc (.cells zL.toArray 29)).heap.size=w.heap.size+1:=by simp
  exact ⟨by omega,by omega⟩),by have:=(U HNE).2.2;omega,hlo1⟩
 obtain ⟨w2,hw2⟩:∃ w2,w2=w1.alloc (.cells M.toArray 29):=⟨_,rfl⟩
 obtain ⟨b3,hb3⟩:∃ b3,b3=w1.heap.size:=⟨_,rfl⟩
 rw [← hw2,← hb3] at HT2
 rw [← hw2,← hb3]
 clear hw2 hb3 hst1 hsn1 hlo1 HV1 HX1 HV0
 go_wp2_with fail
 have eb9:=heap_alloc_new w2 (.cells #[.string ⟨#[61]⟩,.string ⟨#[60,62]⟩,.string ⟨#[60]⟩,.string ⟨#[60,61]⟩,.string ⟨#[62]⟩,.string ⟨#[62,61]⟩] 304)
 have HT3:=V ((U HT2).below (alX (Below.refl _ _) (.cells #[.string ⟨#[61]⟩,.string ⟨#[60,62]⟩,.string ⟨#[60]⟩,.string ⟨#[60,61]⟩,.string ⟨#[62]⟩,.string ⟨#[62,61]⟩] 304)))
 have hlo2:=ltX (U HT2).va.1
 have hlo8:=(U HT2).b3b
 obtain ⟨w3,hw3⟩:∃ w3,w3=w2.alloc (.cells #[.string ⟨#[61]⟩,.string ⟨#[60,62]⟩,.string ⟨#[60]⟩,.string ⟨#[60,61]⟩,.string ⟨#[62]⟩,.string ⟨#[62,61]⟩] 304):=⟨_,rfl⟩
 rw [← hw3] at eb9 HT3
 rw [← hw3]
 obtain ⟨b9,hb9⟩:∃ b9,b9=w2.heap.size:=⟨_,rfl⟩
 rw [← hb9] at eb9 hlo2
 rw [← hb9]
 obtain ⟨A,hA⟩:∃ A,A=signI T S1 0 signsL:=⟨_,rfl⟩
 have HEQ:Hid (testS T sub3 sub7 n S=testR T sub3 sub7 n a S1 A):=by
  show testS T sub3 sub7 n S=_
  rw [hA,(U HSA).1,(U HSA).2]
  unfold testS
  dsimp only
  generalize signI T (sub3 S).2 0 signsL=X
  cases X <;> rfl
 have HAG:Hid (TGW T p bt c w.heap.size b3 b9 w w3 S1 M a 0 A):=⟨U HT3,eb9,by have:=(U HNE).2.2;omega,hA.symm⟩
 clear hw3 hb9 eb9 HT2 HT3 hA HSA hlo2
 go_loopg [5] 6 (fun g s5 wr=>∃ k:Nat,g=6 - k∧s5=.int .i64 (k:Int)∧k ≤ 6∧Hid (TGW T p bt c w.heap.size b3 b9 w wr S1 M a k A))
 case atStart=>exact ⟨0,rfl,rfl,by omega,HAG⟩
 case round=>
  obtain ⟨k,rfl,rfl,hk4,HG⟩:=hrel
  clear HAG hlo8
  have hk0:(0:Int) ≤ (k:Int):=by omega
  by_cases hk:k < 6
  · have hkI:(k:Int) < 6:=by omega
    have h4:k=0 ∨ k=1 ∨ k=2 ∨ k=3 ∨ k=4 ∨ k=5:=by omega
    obtain ⟨x,hx⟩:∃ x,x=signsL.getD k []:=⟨_,rfl⟩
    have c9:wr.cell? ⟨b9,k,none⟩=some (.string ⟨x.toArray⟩):=by
     rw [cellX (U HG).arr,hx]
     rcases h4 with rfl | rfl | rfl | rfl | rfl | rfl <;> rfl
    have hA':A=if isS T 5 x S1 then some k else signI T S1 (k+1) (signsL.drop (k+1)):=by
     have h:=(U HG).eq
     rw [← h,hx]
     rcases h4 with rfl | rfl | rfl | rfl | rfl | rfl <;> rfl
    clear hx h4
    cases hw:isS T 5 x S1 with
    | false=>
     rw [if_neg (by rw [hw];decide)] at hA'
     have HW:=V hw
     have HMA:Hid (mayS T 5 x S1=S1):=by show mayS T 5 x S1=S1;unfold mayS;rw [hw];rfl
     have HA':=V hA'.symm
     clear hw hA'
     skip
     as_aux_lemma=>
      go_wp2_with (first | (go_at_call 95;refine (maySign_any hT (U HG).ts.rv.px x).mono ?_;rw [U HW,U HMA];rintro e w4 ⟨rfl,hp1,hf1⟩;have HG5:=V ((U HG).move hp1 hf1 (U HNE).2.2);clear hp1 hf1))
      have HNX:Hid (TGW T p bt c w.heap.size b3 b9 w w4 S1 M a (k+1) A):=⟨(U HG5).ts,(U HG5).arr,(U HG5).b9p,U HA'⟩
      go_roundg (6 - (k+1))
      case rel=>exact ⟨k+1,rfl,by rw [show ((k+1:Nat):Int)=(k:Int)+1 from rfl],by omega,HNX⟩
      case measure=>omega
    | true=>
     rw [if_pos hw] at hA'
     have HW:=V hw
     have HMA:Hid (mayS T 5 x S1=nextS T S1):=by show mayS T 5 x S1=_;unfold mayS;rw [hw];rfl
     have HEA:Hid (testS T sub3 sub7 n S=(binE (5+(k:Int)) a (sub3 (nextS T S1)).1,(sub3 (nextS T S1)).2)):=by
      show testS T sub3 sub7 n S=_
      rw [U HEQ,hA']
      rfl
     have HMX:=V (muS_next hT hw (by decide) (U HG).ts.rv.px.lt)
     clear hw hA' HEQ
     skip
     as_aux_lemma=>
      go_upto_region 7 with ((go_at_call 95;refine (maySign_any hT (U HG).ts.rv.px x).mono ?_;rw [U HW,U HMA];rintro e w4 ⟨rfl,hp1,hf1⟩;have HT4:=V ((U HG).ts.move hp1 hf1 (U HNE).2.2);clear hp1 hf1))
      clear HW HMA c9 HG
      have hl:=hlM
      have HT4D:=V ((U HT4).drew)
      have HVD:Hid (VrX w4.drew b3 M):=(U HT4).va
      refine wp_region_last 6 (fun w'=>VrX w' b3 M) (by kernel_rfl) HVD.out (fun hHeld=>?_)
      refine lu 0 22 (.int .i64 (k:Int)) rfl (Or.inl ⟨by rfl,?_⟩) hHeld ?_
      · (intro w' hSw;obtain hSw':=hSw;go_simp)
      simp only[put,sA,sB,sC]
      refine lu 1 23 (.int .i64 (5+(k:Int))) rfl (Or.inl ⟨by rfl,?_⟩) hHeld ?_
      · (intro w' hSw;obtain hSw':=hSw;go_simp;rw [IntKind.wrap_i64] <;> omega)
      simp only[put,sA,sB,sC]
      refine lu 2 24 (.agg M.toArray) rfl (yieldsIf_load_mid (by rfl) 29 (.tmp 3) rfl b3 0 rfl M _ (fun w hw=>hw.range) Tryz.underlying29 rfl (by rw [hl];exact sizeEx)) hHeld ?_
      simp only[put,sA,sB,sC]
      refine lu 3 25 (.pointer (some ⟨p,0,none⟩)) rfl (Or.inl ⟨by rfl,?_⟩) hHeld ?_
      · (intro w' hSw;obtain hSw':=hSw;go_simp)
      simp only[put,sA,sB,sC]
      refine last_one (i:=4) (by kernel_rfl) rfl (fun K hK=>?_)
      go_simp
      (go_at_call 219;refine ((U HT4D).rv.call h3 (by have h1:=U HMX;have h2:=U HMU;have h3:=U HM1;omega) (U HNE).2.2).mono ?_;rintro e w5 ⟨N,rfl,hx5,hv5,hf5,hm5⟩;have HT5:=V ((U HT4D).moveR hv5 hf5 (U HNE).2.2);have HXN:=V (hx5.keep (Q':=fun b=>w.heap.size < b∧b ≠ b3) (fun _ _ _=>rfl) (fun b _ q=>by have h1:=ltX (U HT4D).va.1;have h2:=(U HT4D).b3b;exact ⟨by omega,by omega⟩));have HM5:=V hm5;clear hx5 hv5 hf5 hm5)
      go_wp2_with fail
      refine hK.out _ _ (fun _=>(U HT5).va) (fun hHeld2=>?_)
      clear hK K hHeld
      have hHeld:=hHeld2 (by decide)
      clear hHeld2
      try simp only[put,sA,sB,sC]
      refine last_one (i:=5) (by kernel_rfl) rfl (fun K hK=>?_)
      go_simp
      (go_at_call 184;refine (binary_any (5+(k:Int)) M N a _ (fun b=>w.heap.size < b∧b ≠ b3) w5 (U HT5).ex (U HXN)).mono ?_;rintro e w6 ⟨M6,rfl,hx6,hb6⟩;have HV6:=V ((U HT5).rv.below hb6);have HX6:=V hx6;have HVA6:=V ((U HT5).va.below hb6);have hst6:=(U HV6).out.storeC hx6.len hx6.one;have hl6:=hx6.len;clear hx6 hb6)
      go_wp2_with fail
      refine hK.out _ _ (fun _=>U HVA6) (fun hHeld2=>?_)
      clear hK K hHeld
      have hHeld:=hHeld2 (by decide)
      clear hHeld2
      try simp only[put,sA,sB,sC]
      refine last_one (i:=6) (by kernel_rfl) rfl (fun K hK=>?_)
      have hz10:M6.toArray.size=10:=by simpa using (U HX6).len
      rw [if_pos (by rfl)]
      refine wp_store_mid 29 (.tmp 2) (.tmp 27) rfl w.heap.size 0 M6.toArray rfl rfl (by rw [hz10];exact (U HV6).out.there) (by rw [hz10];exact sizeEx) (all_oneCell_toArray (U HX6).one) ?_
      refine hK.out _ _ (fun h=>absurd rfl h) (fun _=>?_)
      clear hK K hHeld
      try simp only[put,sA,sB,sC]
      refine last_done (by kernel_rfl) ?_ _
      go_wp2_with fail
      have HX:Hid (ExM w6 (fun b=>w.heap.size < b) M6 (binE (5+(k:Int)) a (sub3 (nextS T S1)).1)):=(U HX6).keep (fun _ _ _=>rfl) (fun b _ q=>by
       have h1:=ltX (U HT5).rv.out.1
       rcases q with q | q
       · exact q.1
       · omega)
      have HMF:Hid (muS T (sub3 (nextS T S1)).2 ≤ muS T S):=by
       have h1:=U HM5
       have h2:=U HMX
       have h3:=U HM1
       show _ ≤ _
       omega
      obtain ⟨h1,h2⟩:=(U HV6).done (S0:=S) (U HX) (U HMF) (U HNE).1 (U HNE).2.1
      exact bodyPost_ret (h1.result rfl _ rfl) rfl (by rw [U HPP,U HEA];exact h2)
  · have hkI:¬ (k:Int) < 6:=by omega
    obtain rfl:k=6:=by omega
    have HEN:Hid (testS T sub3 sub7 n S=testN T sub3 sub7 n a S1):=by
     show testS T sub3 sub7 n S=_
     rw [U HEQ,← (U HG).eq]
     rfl
    have HTG:=V (U HG).ts
    clear HEQ HG
    skip
    cases hi:isS T 2 [73,83] S1 with
    | true=>
     cases hj:isS T 2 [78,79,84] (nextS T S1) with
     | true=>
      skip
      as_aux_lemma=>
       have HT3:=HTG
       have HW1:=V hi
       have MHW1:Hid (mayS T 2 [73,83] S1=nextS T S1):=by show mayS T 2 [73,83] S1=_;unfold mayS;rw [hi];rfl
       have HW2:=V hj
       have MHW2:Hid (mayS T 2 [78,79,84] (nextS T S1)=nextS T (nextS T S1)):=by show mayS T 2 [78,79,84] (nextS T S1)=_;unfold mayS;rw [hj];rfl
       have HEQ:Hid (testS T sub3 sub7 n S=(unE 4 a,mustS T 2 [78,85,76,76] (nextS T (nextS T S1)))):=by
        show testS T sub3 sub7 n S=_
        rw [U HEN]
        unfold testN
        rw [if_pos hi]
        dsimp only
        rw [U MHW2,hj]
        rfl
       have HMF:Hid (muS T (mustS T 2 [78,85,76,76] (nextS T (nextS T S1))) ≤ muS T S):=by
        have h1:=muS_must T 2 [78,85,76,76] (nextS T (nextS T S1))
        have h2:=muS_nle T S1
        have h3:=muS_nle T (nextS T S1)
        have h4:=U HM1
        show _ ≤ _
        omega
       clear hi hj HTG HEN
       go_upto_region 13 with (first | (go_at_call 143;refine (may_any hT (U HT3).rv.px [73,83]).mono ?_;rw [U HW1];rintro e w4 ⟨rfl,hp1,hf1⟩;rw [U MHW1] at hp1;have HT4:=V ((U HT3).move hp1 hf1 (U HNE).2.2);clear hp1 hf1 HT3) | (go_at_call 143;refine (may_any hT (U HT4).rv.px [78,79,84]).mono ?_;rw [U HW2];rintro e w5 ⟨rfl,hp1,hf1⟩;rw [U MHW2] at hp1;have HT5:=V ((U HT4).move hp1 hf1 (U HNE).2.2);clear hp1 hf1 HT4) | (go_at_call 146;refine (must_any hT (U HT5).rv.px [78,85,76,76]).mono ?_;rintro e w6 ⟨rfl,hp1,hf1⟩;have HT6:=V ((U HT5).move hp1 hf1 (U HNE).2.2);clear hp1 hf1 HT5))
       refine wp_region_list ?_
       refine lt 34 (.int .i64 4) ?_
       refine wpList_load_mid rfl 29 (.tmp 3) rfl b3 0 rfl M _ (U HT6).va.range Tryz.underlying29 rfl (by rw [hlM];exact sizeEx) ?_
       go_wp2_with (go_at_call 210;refine (unary_any 4 M a (fun b=>w.heap.size < b∧b ≠ b3) w6 (U HT6).ex).mono ?_;rintro e w7 ⟨M7,rfl,hx,hb⟩;have hl7:=hx.len;have hv7:=(U HT6).rv.below hb;have hst7:=hv7.out.storeC hx.len hx.one;have HX7:=V hx;have HV7:=V hv7;clear hx hb hv7)
       have HX:Hid (ExM w7 (fun b=>w.heap.size < b) M7 (unE 4 a)):=(U HX7).keep (fun _ _ _=>rfl) (fun b _ q=>by
        have h1:=ltX (U HT6).rv.out.1
        rcases q with q | q
        · exact q.1
        · omega)
       obtain ⟨h1,h2⟩:=(U HV7).done (S0:=S) (U HX) (U HMF) (U HNE).1 (U HNE).2.1
       exact bodyPost_ret (h1.result rfl _ rfl) rfl (by rw [U HPP,U HEQ];exact h2)
     | false=>
      skip
      as_aux_lemma=>
       have HT3:=HTG
       have HW1:=V hi
       have MHW1:Hid (mayS T 2 [73,83] S1=nextS T S1):=by show mayS T 2 [73,83] S1=_;unfold mayS;rw [hi];rfl
       have HW2:=V hj
       have MHW2:Hid (mayS T 2 [78,79,84] (nextS T S1)=(nextS T S1)):=by show mayS T 2 [78,79,84] (nextS T S1)=_;unfold mayS;rw [hj];rfl
       have HEQ:Hid (testS T sub3 sub7 n S=(unE 3 a,mustS T 2 [78,85,76,76] (nextS T S1))):=by
        show testS T sub3 sub7 n S=_
        rw [U HEN]
        unfold testN
        rw [if_pos hi]
        dsimp only
        rw [U MHW2,hj]
        rfl
       have HMF:Hid (muS T (mustS T 2 [78,85,76,76] (nextS T S1)) ≤ muS T S):=by
        have h1:=muS_must T 2 [78,85,76,76] (nextS T S1)
        have h2:=muS_nle T S1
        have h3:=muS_nle T (nextS T S1)
        have h4:=U HM1
        show _ ≤ _
        omega
       clear hi hj HTG HEN
       go_upto_region 13 with (first | (go_at_call 143;refine (may_any hT (U HT3).rv.px [73,83]).mono ?_;rw [U HW1];rintro e w4 ⟨rfl,hp1,hf1⟩;rw [U MHW1] at hp1;have HT4:=V ((U HT3).move hp1 hf1 (U HNE).2.2);clear hp1 hf1 HT3) | (go_at_call 143;refine (may_any hT (U HT4).rv.px [78,79,84]).mono ?_;rw [U HW2];rintro e w5 ⟨rfl,hp1,hf1⟩;rw [U MHW2] at hp1;have HT5:=V ((U HT4).move hp1 hf1 (U HNE).2.2);clear hp1 hf1 HT4) | (go_at_call 146;refine (must_any hT (U HT5).rv.px [78,85,76,76]).mono ?_;rintro e w6 ⟨rfl,hp1,hf1⟩;have HT6:=V ((U HT5).move hp1 hf1 (U HNE).2.2);clear hp1 hf1 HT5))
       refine wp_region_list ?_
       refine lt 34 (.int .i64 3) ?_
       refine wpList_load_mid rfl 29 (.tmp 3) rfl b3 0 rfl M _ (U HT6).va.range Tryz.underlying29 rfl (by rw [hlM];exact sizeEx) ?_
       go_wp2_with (go_at_call 210;refine (unary_any 3 M a (fun b=>w.heap.size < b∧b ≠ b3) w6 (U HT6).ex).mono ?_;rintro e w7 ⟨M7,rfl,hx,hb⟩;have hl7:=hx.len;have hv7:=(U HT6).rv.below hb;have hst7:=hv7.out.storeC hx.len hx.one;have HX7:=V hx;have HV7:=V hv7;clear hx hb hv7)
       have HX:Hid (ExM w7 (fun b=>w.heap.size < b) M7 (unE 3 a)):=(U HX7).keep (fun _ _ _=>rfl) (fun b _ q=>by
        have h1:=ltX (U HT6).rv.out.1
        rcases q with q | q
        · exact q.1
        · omega)
       obtain ⟨h1,h2⟩:=(U HV7).done (S0:=S) (U HX) (U HMF) (U HNE).1 (U HNE).2.1
       exact bodyPost_ret (h1.result rfl _ rfl) rfl (by rw [U HPP,U HEQ];exact h2)
    | false=>
     cases hj:isS T 2 [78,79,84] S1 with
     | true=>
      cases hk3:isS T 2 [73,78] (nextS T S1) with
      | true=>
       skip
       as_aux_lemma=>
        have HT3:=HTG
        have HW1:=V hi
        have MHW1:Hid (mayS T 2 [73,83] S1=S1):=by show mayS T 2 [73,83] S1=_;unfold mayS;rw [hi];rfl
        have HW2:=V hj
        have MHW2:Hid (mayS T 2 [78,79,84] S1=nextS T S1):=by show mayS T 2 [78,79,84] S1=_;unfold mayS;rw [hj];rfl
        have HW3:=V hk3
        have MHW3:Hid (mayS T 2 [73,78] (nextS T S1)=nextS T (nextS T S1)):=by show mayS T 2 [73,78] (nextS T S1)=_;unfold mayS;rw [hk3];rfl
        obtain ⟨S3,hS3⟩:∃ S3,S3=openS T [40] (nextS T (nextS T S1)):=⟨_,rfl⟩
        obtain ⟨r,hr⟩:∃ r,r=exprsS T sub7 n .nil S3:=⟨_,rfl⟩
        obtain ⟨KL,hKL⟩:=exprsS_foE T sub7 n [] S3
        have HKL:Hid (r.1=foE KL):=by rw [hr];exact hKL
        have hm3:muS T S3+1 ≤ muS T S:=by
         have h1:=muS_next hT hk3 (by decide) (by unfold nextS;split;(rename_i h;exact h.2);exact (U HTG).rv.px.lt)
         have h2:=muS_open T [40] (nextS T (nextS T S1))
         have h3:=muS_nle T S1
         have h4:=U HM1
         rw [hS3]
         omega
        have hB1:1 ≤ B:=by have:=U HMU;omega
        have HXP:Hid (∀ W,PX T W p bt c S3→Calls Tryz.prog 182 #[.pointer (some ⟨p,0,none⟩)] W (RsP T p bt c W S3 r)):=fun W h=>by rw [hr];exact exprs_lv hT (B:=B - 1) (by omega) (by omega) (h7 hB1) W S3 h (by have:=U HMU;omega)
        have HEQ:Hid (testS T sub3 sub7 n S=(unE 2 ((⟨5,0,0,0,[],[],[],0,0⟩,Fo.cons a.1 a.2 r.1):Ex),closeS T [41] r.2)):=by
         show testS T sub3 sub7 n S=_
         rw [U HEN,hr,hS3]
         unfold testN
         rw [if_neg (by rw [hi];decide)]
         dsimp only
         rw [U MHW2,hj,hk3]
         rfl
        have HS3:=V hS3.symm
        have HM3:=V hm3
        clear hi hj hk3 HTG HEN hKL hr hS3 hm3
        go_upto_region 17 with (first | (go_at_call 143;refine (may_any hT (U HT3).rv.px [73,83]).mono ?_;rw [U HW1];rintro e w4 ⟨rfl,hp1,hf1⟩;rw [U MHW1] at hp1;have HT4:=V ((U HT3).move hp1 hf1 (U HNE).2.2);clear hp1 hf1 HT3) | (go_at_call 143;refine (may_any hT (U HT4).rv.px [78,79,84]).mono ?_;rw [U HW2];rintro e w5 ⟨rfl,hp1,hf1⟩;rw [U MHW2] at hp1;have HT5:=V ((U HT4).move hp1 hf1 (U HNE).2.2);clear hp1 hf1 HT4) | (go_at_call 143;refine (may_any hT (U HT5).rv.px [73,78]).mono ?_;rw [U HW3];rintro e w6 ⟨rfl,hp1,hf1⟩;rw [U MHW3] at hp1;have HT6:=V ((U HT5).move hp1 hf1 (U HNE).2.2);clear hp1 hf1 HT5) | (go_at_call 178;refine (open_any hT (U HT6).rv.px [40]).mono ?_;rintro e w7 ⟨rfl,hp1,hf1⟩;rw [U HS3] at hp1;have HT7:=V ((U HT6).move hp1 hf1 (U HNE).2.2);clear hp1 hf1 HT6))
        have HT8:=V ((U HT7).drew)
        have hl:=hlM
        refine wp_region_last 6 (fun w'=>VrX w' b3 M) (by kernel_rfl) (U HT8).va (fun hHeld=>?_)
        obtain ⟨w8,hw8⟩:∃ w8,w8=w7.drew:=⟨_,rfl⟩
        rw [← hw8] at HT8 hHeld
        rw [← hw8]
        clear hw8
        refine lu 0 44 (.agg M.toArray) rfl (yieldsIf_load_mid (by rfl) 29 (.tmp 3) rfl b3 0 rfl M _ (fun w hw=>hw.range) Tryz.underlying29 rfl (by rw [hl];exact sizeEx)) hHeld ?_
        simp only[put,sA,sB,sC]
        refine lu 2 46 (.pointer (some ⟨p,0,none⟩)) rfl (Or.inl ⟨by rfl,?_⟩) hHeld ?_
        · (intro w' hSw;go_simp)
        simp only[put,sA,sB,sC]
        refine last_two (i:=1) (j:=3) (by kernel_rfl) rfl rfl (fun K hK=>?_) (fun K hK=>?_)
        · skip
          go_simp
          go_wp2_with fail
          rw [fold10 hlM]
          have hlt8:=ltX (U HT8).rv.out.1
          have HO8:=V (oe_one (base:=w.heap.size+1) (W:=w8) (M:=M) (E:=a) (by omega) ((U HT8).ex.keep (fun _ _ _=>rfl) (fun b _ q=>q.1)))
          have HA8:Hid (ExM (w8.alloc (.cells M.toArray 29)) (fun b=>w.heap.size < b∧b ≠ b3∧b ≠ w8.heap.size) M a):=((U HT8).ex.keep (fun _ _ _=>rfl) (fun b hl q=>⟨q.1,q.2,by omega⟩)).below (alX (Below.refl _ _) _)
          have HBO:Hid (w8.heap.size ≠ b3∧w.heap.size < w8.heap.size):=⟨by have:=ltX (U HT8).va.1;omega,hlt8⟩
          have hz8:(w8.alloc (.cells M.toArray 29)).heap.size=w8.heap.size+1:=by simp
          have HT9:=V ((U HT8).below (alX (Below.refl _ _) (.cells M.toArray 29)))
          obtain ⟨w9,hw9⟩:∃ w9,w9=w8.alloc (.cells M.toArray 29):=⟨_,rfl⟩
          rw [← hw9] at HO8 HA8 HT9 hz8
          rw [← hw9]
          obtain ⟨bO,hbO⟩:∃ bO,bO=w8.heap.size:=⟨_,rfl⟩
          rw [← hbO] at HO8 HA8 HBO hz8
          rw [← hbO]
          clear hw9 hbO
          refine hK.out _ _ (fun _=>(U HT9).va) (fun hHeld2=>?_)
          clear hK K hHeld
          have hHeld:=hHeld2 (by decide)
          clear hHeld2
          try simp only[put,sA,sB,sC]
          refine last_one (i:=3) (by kernel_rfl) rfl (fun K hK=>?_)
          go_simp
          (go_at_call 182;refine (U HXP _ (U HT9).rv.px).mono ?_;rintro e w10 ⟨ad,m,k,rfl,hm4,hmc,hsl,hnil,hpx,hfr,hmu'⟩;clear hmc)
          go_wp2_with fail
          have HTq:=V ((U HT9).move hpx hfr (U HNE).2.2)
          have hpn:=(U HNE).2.2
          have HOq:=V ((U HO8).keep (fun b h1 h2=>hfr.blk b h2 (by omega)))
          have HA:=V ((U HA8).keep (fun b q hl=>hfr.blk b hl (by have:=q.1;omega)) (fun _ _ h=>h))
          have HSQ:Hid (SlAt w10 (fun b=>w.heap.size < b∧b ≠ b3∧b ≠ bO) (.slice ad m k) r.1):=hsl.keep (fun _ _ _=>rfl) (fun b _ q=>⟨by have:=(U HBO).2;omega,by have:=ltX (U HT9).va.1;omega,by omega⟩)
          refine hK.out _ _ (fun _=>(U HTq).va) (fun hHeld2=>?_)
          clear hK K hHeld
          have hHeld:=hHeld2 (by decide)
          clear hHeld2
          try simp only[put,sA,sB,sC]
          have HMF:Hid (muS T (closeS T [41] r.2) ≤ muS T S):=by
           have h1:=muS_close T [41] r.2
           have h2:=U HM3
           show _ ≤ _
           omega
          clear hfr hpx hsl hlt8 hz8
          have HBP:=V (And.intro (U HTq).b3p (U HTq).b3b)
          have hqlt:=ltX (U HTq).rv.out.1
          refine last_one (i:=4) (by kernel_rfl) rfl (fun K hK=>?_)
          rw [if_pos (by rfl)]
          rcases U HSQ with ⟨hf,c0,hv⟩ | ⟨bx,ox,kx,hv,hc1,hc2,hrow⟩
          · injection hv with e1 e2 e3
            subst e1
            have e4:k=0:=hnil rfl
            subst e4
            subst e3
            subst e2
            refine append_op_none (.tmp 45) (.tmp 47) rfl (U HOq) rfl rfl ?_
            refine hK.out _ _ (fun _=>(U HTq).va) (fun hHeld2=>?_)
            clear hK K hHeld
            have hHeld:=hHeld2 (by decide)
            clear hHeld2
            try simp only[put,sA,sB,sC]
            have HSF:Hid (SlAt w10 (fun b=>w.heap.size < b∧b ≠ b3) (.slice (some ⟨bO,0,none⟩) 1 1) (Fo.cons a.1 a.2 r.1)):=by
             rw [hf]
             exact (U HOq).sliceQ (Q:=(fun b=>w.heap.size < b∧b ≠ b3)) (fun y hy=>by rw [List.mem_singleton.1 hy];exact (U HA).keep (fun _ _ _=>rfl) (fun b _ q=>⟨q.1,q.2.1⟩)) (fun g hg=>by simp only[Value.ownBlock,Option.some.injEq] at hg;subst hg;exact ⟨(U HBO).2,(U HBO).1⟩)
            obtain ⟨M5,hM5⟩:∃ M5:List Value,M5=ndC ⟨5,0,0,0,[],[],[],0,0⟩ (.slice (some ⟨bO,0,none⟩) 1 1):=⟨_,rfl⟩
            have eM5:M5.toArray=#[.int .i64 5,.int .i64 0,.int .i64 0,.int .i64 0,.string ⟨#[]⟩,.string ⟨#[]⟩,.string ⟨#[]⟩,.slice (some ⟨bO,0,none⟩) 1 1,.int .i64 0,.int .i64 0]:=by rw [hM5];rfl
            have hlM5:M5.length=10:=by rw [hM5];rfl
            refine lu 5 49 (.agg M5.toArray) rfl (Or.inl ⟨by rfl,?_⟩) hHeld ?_
            · (intro w' hSw;rw [eM5];go_simp)
            simp only[put,sA,sB,sC]
            have HX5:Hid (ExM w10 (fun b=>w.heap.size < b∧b ≠ b3) M5 ((⟨5,0,0,0,[],[],[],0,0⟩,Fo.cons a.1 a.2 r.1):Ex)):=⟨_,hM5,U HSF⟩
            have HRV5:=V (U HTq).rv
            have HVA5:=V (U HTq).va
            refine last_one (i:=6) (by kernel_rfl) rfl (fun K hK=>?_)
            have hz10:M5.toArray.size=10:=by simpa using (U HX5).len
            rw [if_pos (by rfl)]
            refine wp_store_mid 29 (.tmp 3) (.tmp 49) rfl b3 0 M5.toArray rfl rfl (by rw [hz10];exact (U HVA5).there) (by rw [hz10];exact sizeEx) (all_oneCell_toArray (U HX5).one) ?_
            refine hK.out _ _ (fun h=>absurd rfl h) (fun _=>?_)
            clear hK K hHeld
            try simp only[put,sA,sB,sC]
            refine last_done (by kernel_rfl) ?_ _
            have HT17:=V (ts_set (U HRV5) (U HVA5) (U HBP).1 (U HBP).2 (U HX5) (by have h1:=(U HBP).2;have h2:=U HBT;omega))
            clear hM5 eM5
            obtain ⟨w17,hw17⟩:∃ w17,w17=w10.setCells b3 0 M5:=⟨_,rfl⟩
            rw [← hw17] at HT17
            rw [← hw17]
            clear hw17
            go_upto_region 27 with (go_at_call 180;refine (close_any hT (U HT17).rv.px [41]).mono ?_;rintro e w18 ⟨rfl,hp1,hf1⟩;have HT18:=V ((U HT17).move hp1 hf1 (U HNE).2.2);clear hp1 hf1 HT17)
            refine wp_region_list ?_
            refine wpList_load_mid rfl 29 (.tmp 3) rfl b3 0 rfl M5 _ (U HT18).va.range Tryz.underlying29 rfl (by rw [hlM5];exact sizeEx) ?_
            go_wp2_with (go_at_call 210;refine (unary_any 2 M5 _ (fun b=>w.heap.size < b∧b ≠ b3) w18 (U HT18).ex).mono ?_;rintro e w19 ⟨M7,rfl,hx,hb⟩;have hl7:=hx.len;have hv7:=(U HT18).rv.below hb;have hst7:=hv7.out.storeC hx.len hx.one;have HX7:=V hx;have HV19:=V hv7;clear hx hb hv7)
            have HX:Hid (ExM w19 (fun b=>w.heap.size < b) M7 (unE 2 ((⟨5,0,0,0,[],[],[],0,0⟩,Fo.cons a.1 a.2 r.1):Ex))):=(U HX7).keep (fun _ _ _=>rfl) (fun b _ q=>by
             have h1:=ltX (U HT18).rv.out.1
             rcases q with q | q
             · exact q.1
             · omega)
            obtain ⟨h1,h2⟩:=(U HV19).done (S0:=S) (U HX) (U HMF) (U HNE).1 (U HNE).2.1
            exact bodyPost_ret (h1.result rfl _ rfl) rfl (by rw [U HPP,U HEQ];exact h2)
          · injection hv with e1 e2 e3
            subst e1
            subst e3
            obtain ⟨Xs,hXs,hxx,hxr⟩:=row_list KL (by rw [← U HKL];exact hrow)
            have hlen:cnt r.1=Xs.length:=by rw [U HKL,cnt_foE,← hXs,List.length_map]
            rw [hlen] at e2
            subst e2
            refine append_op (.tmp 45) (.tmp 47) rfl (U HOq) (by omega) rfl Xs (fun y hy=>(hxx y hy).keep (fun _ _ _=>rfl) (fun b _ q=>⟨by have:=q.1;omega,by intro e;simp only[Value.ownBlock,Option.some.injEq] at e;exact q.2.2 e.symm⟩)) bx ox _ rfl hxr (by decide) (by omega) ?_
            intro ad5 k5 w12 ho5 hb5 hg5 hn5
            refine hK.out _ _ (fun _=>(U HTq).va.keep (hg5 b3 (ltX (U HTq).va.1) (by intro e;simp only[Value.ownBlock,Option.some.injEq] at e;exact (U HBO).1 e))) (fun hHeld2=>?_)
            clear hK K hHeld
            have hHeld:=hHeld2 (by decide)
            clear hHeld2
            try simp only[put,sA,sB,sC]
            have hkk:∀ (N:List Value) (E:Ex),ExM w10 (fun b=>w.heap.size < b∧b ≠ b3∧b ≠ bO) N E→ExM w12 (fun b=>w.heap.size < b∧b ≠ b3) N E:=fun N E h=>h.keep (fun b q hl=>hg5 b hl (by intro e;simp only[Value.ownBlock,Option.some.injEq] at e;exact q.2.2 e.symm)) (fun b _ q=>⟨q.1,q.2.1⟩)
            have HSF:Hid (SlAt w12 (fun b=>w.heap.size < b∧b ≠ b3) (.slice ad5 (1+Xs.length) k5) (Fo.cons a.1 a.2 r.1)):=by
             have h:=ho5.sliceQ (Q:=(fun b=>w.heap.size < b∧b ≠ b3)) (fun y hy=>by
              rcases List.mem_append.1 hy with hy | hy
              · rw [List.mem_singleton.1 hy];exact hkk _ _ (U HA)
              · exact hkk _ _ (hxx y hy)) (fun g hg=>by
              rcases hn5 with e | e
              · rw [hg] at e;simp only[Value.ownBlock,Option.some.injEq] at e;subst e;exact ⟨(U HBO).2,(U HBO).1⟩
              · rw [hg] at e;simp only[Option.some.injEq] at e;subst e;exact ⟨by omega,by have:=ltX (U HTq).va.1;omega⟩)
             rw [U HKL,← hXs,← toFo_foE]
             exact h
            have hrv5:=(U HTq).rv.own hb5 (U HNE).2.2 (U HBT)
            have hva5:=(U HTq).va.keep (hg5 b3 (ltX (U HTq).va.1) (by intro e;simp only[Value.ownBlock,Option.some.injEq] at e;exact (U HBO).1 e))
            clear hkk hg5 hn5 ho5 hb5
            obtain ⟨M5,hM5⟩:∃ M5:List Value,M5=ndC ⟨5,0,0,0,[],[],[],0,0⟩ (.slice ad5 (1+Xs.length) k5):=⟨_,rfl⟩
            have eM5:M5.toArray=#[.int .i64 5,.int .i64 0,.int .i64 0,.int .i64 0,.string ⟨#[]⟩,.string ⟨#[]⟩,.string ⟨#[]⟩,.slice ad5 (1+Xs.length) k5,.int .i64 0,.int .i64 0]:=by rw [hM5];rfl
            have hlM5:M5.length=10:=by rw [hM5];rfl
            refine lu 5 49 (.agg M5.toArray) rfl (Or.inl ⟨by rfl,?_⟩) hHeld ?_
            · (intro w' hSw;rw [eM5];go_simp)
            simp only[put,sA,sB,sC]
            have HX5:Hid (ExM w12 (fun b=>w.heap.size < b∧b ≠ b3) M5 ((⟨5,0,0,0,[],[],[],0,0⟩,Fo.cons a.1 a.2 r.1):Ex)):=⟨_,hM5,U HSF⟩
            have HRV5:=V hrv5
            have HVA5:=V hva5
            refine last_one (i:=6) (by kernel_rfl) rfl (fun K hK=>?_)
            have hz10:M5.toArray.size=10:=by simpa using (U HX5).len
            rw [if_pos (by rfl)]
            refine wp_store_mid 29 (.tmp 3) (.tmp 49) rfl b3 0 M5.toArray rfl rfl (by rw [hz10];exact (U HVA5).there) (by rw [hz10];exact sizeEx) (all_oneCell_toArray (U HX5).one) ?_
            refine hK.out _ _ (fun h=>absurd rfl h) (fun _=>?_)
            clear hK K hHeld
            try simp only[put,sA,sB,sC]
            refine last_done (by kernel_rfl) ?_ _
            have HT17:=V (ts_set (U HRV5) (U HVA5) (U HBP).1 (U HBP).2 (U HX5) (by have h1:=(U HBP).2;have h2:=U HBT;omega))
            clear hM5 eM5
            obtain ⟨w17,hw17⟩:∃ w17,w17=w12.setCells b3 0 M5:=⟨_,rfl⟩
            rw [← hw17] at HT17
            rw [← hw17]
            clear hw17
            go_upto_region 27 with (go_at_call 180;refine (close_any hT (U HT17).rv.px [41]).mono ?_;rintro e w18 ⟨rfl,hp1,hf1⟩;have HT18:=V ((U HT17).move hp1 hf1 (U HNE).2.2);clear hp1 hf1 HT17)
            refine wp_region_list ?_
            refine wpList_load_mid rfl 29 (.tmp 3) rfl b3 0 rfl M5 _ (U HT18).va.range Tryz.underlying29 rfl (by rw [hlM5];exact sizeEx) ?_
            go_wp2_with (go_at_call 210;refine (unary_any 2 M5 _ (fun b=>w.heap.size < b∧b ≠ b3) w18 (U HT18).ex).mono ?_;rintro e w19 ⟨M7,rfl,hx,hb⟩;have hl7:=hx.len;have hv7:=(U HT18).rv.below hb;have hst7:=hv7.out.storeC hx.len hx.one;have HX7:=V hx;have HV19:=V hv7;clear hx hb hv7)
            have HX:Hid (ExM w19 (fun b=>w.heap.size < b) M7 (unE 2 ((⟨5,0,0,0,[],[],[],0,0⟩,Fo.cons a.1 a.2 r.1):Ex))):=(U HX7).keep (fun _ _ _=>rfl) (fun b _ q=>by
             have h1:=ltX (U HT18).rv.out.1
             rcases q with q | q
             · exact q.1
             · omega)
            obtain ⟨h1,h2⟩:=(U HV19).done (S0:=S) (U HX) (U HMF) (U HNE).1 (U HNE).2.1
            exact bodyPost_ret (h1.result rfl _ rfl) rfl (by rw [U HPP,U HEQ];exact h2)
        · skip
          go_simp
          (go_at_call 182;refine (U HXP _ (U HT8).rv.px).mono ?_;rintro e w9 ⟨ad,m,k,rfl,hm4,hmc,hsl,hnil,hpx,hfr,hmu'⟩;clear hmc)
          go_wp2_with fail
          have HT9:=V ((U HT8).move hpx hfr (U HNE).2.2)
          have HS9:Hid (SlAt w9 (fun b=>w.heap.size < b∧b ≠ b3) (.slice ad m k) r.1):=hsl.keep (fun _ _ _=>rfl) (fun b _ q=>⟨by have:=ltX (U HT8).rv.out.1;omega,by have:=ltX (U HT8).va.1;omega⟩)
          refine hK.out _ _ (fun _=>(U HT9).va) (fun hHeld2=>?_)
          clear hK K hHeld
          have hHeld:=hHeld2 (by decide)
          clear hHeld2
          try simp only[put,sA,sB,sC]
          have HMF:Hid (muS T (closeS T [41] r.2) ≤ muS T S):=by
           have h1:=muS_close T [41] r.2
           have h2:=U HM3
           show _ ≤ _
           omega
          clear hfr hpx hsl
          refine last_one (i:=1) (by kernel_rfl) rfl (fun K hK=>?_)
          go_simp
          go_wp2_with fail
          rw [fold10 hlM]
          have hlt9:=ltX (U HT9).rv.out.1
          have HOq:=V (oe_one (base:=w.heap.size+1) (W:=w9) (M:=M) (E:=a) (by omega) ((U HT9).ex.keep (fun _ _ _=>rfl) (fun b _ q=>q.1)))
          have HA:Hid (ExM (w9.alloc (.cells M.toArray 29)) (fun b=>w.heap.size < b∧b ≠ b3∧b ≠ w9.heap.size) M a):=((U HT9).ex.keep (fun _ _ _=>rfl) (fun b hl q=>⟨q.1,q.2,by omega⟩)).below (alX (Below.refl _ _) _)
          have HSQ:Hid (SlAt (w9.alloc (.cells M.toArray 29)) (fun b=>w.heap.size < b∧b ≠ b3∧b ≠ w9.heap.size) (.slice ad m k) r.1):=(U HS9).keep (fun b _ hl=>(alX (Below.refl _ _) (.cells M.toArray 29)).block b hl) (fun b hl q=>⟨q.1,q.2,by omega⟩)
          have HBO:Hid (w9.heap.size ≠ b3∧w.heap.size < w9.heap.size):=⟨by have:=ltX (U HT9).va.1;omega,hlt9⟩
          have HTq:=V ((U HT9).below (alX (Below.refl _ _) (.cells M.toArray 29)))
          obtain ⟨w10,hw10⟩:∃ w10,w10=w9.alloc (.cells M.toArray 29):=⟨_,rfl⟩
          rw [← hw10] at HOq HA HSQ HTq
          rw [← hw10]
          obtain ⟨bO,hbO⟩:∃ bO,bO=w9.heap.size:=⟨_,rfl⟩
          rw [← hbO] at HOq HA HSQ HBO
          rw [← hbO]
          clear hw10 hbO hlt9
          refine hK.out _ _ (fun _=>(U HTq).va) (fun hHeld2=>?_)
          clear hK K hHeld
          have hHeld:=hHeld2 (by decide)
          clear hHeld2
          try simp only[put,sA,sB,sC]
          have HBP:=V (And.intro (U HTq).b3p (U HTq).b3b)
          have hqlt:=ltX (U HTq).rv.out.1
          refine last_one (i:=4) (by kernel_rfl) rfl (fun K hK=>?_)
          rw [if_pos (by rfl)]
          rcases U HSQ with ⟨hf,c0,hv⟩ | ⟨bx,ox,kx,hv,hc1,hc2,hrow⟩
          · injection hv with e1 e2 e3
            subst e1
            have e4:k=0:=hnil rfl
            subst e4
            subst e3
            subst e2
            refine append_op_none (.tmp 45) (.tmp 47) rfl (U HOq) rfl rfl ?_
            refine hK.out _ _ (fun _=>(U HTq).va) (fun hHeld2=>?_)
            clear hK K hHeld
            have hHeld:=hHeld2 (by decide)
            clear hHeld2
            try simp only[put,sA,sB,sC]
            have HSF:Hid (SlAt w10 (fun b=>w.heap.size < b∧b ≠ b3) (.slice (some ⟨bO,0,none⟩) 1 1) (Fo.cons a.1 a.2 r.1)):=by
             rw [hf]
             exact (U HOq).sliceQ (Q:=(fun b=>w.heap.size < b∧b ≠ b3)) (fun y hy=>by rw [List.mem_singleton.1 hy];exact (U HA).keep (fun _ _ _=>rfl) (fun b _ q=>⟨q.1,q.2.1⟩)) (fun g hg=>by simp only[Value.ownBlock,Option.some.injEq] at hg;subst hg;exact ⟨(U HBO).2,(U HBO).1⟩)
            obtain ⟨M5,hM5⟩:∃ M5:List Value,M5=ndC ⟨5,0,0,0,[],[],[],0,0⟩ (.slice (some ⟨bO,0,none⟩) 1 1):=⟨_,rfl⟩
            have eM5:M5.toArray=#[.int .i64 5,.int .i64 0,.int .i64 0,.int .i64 0,.string ⟨#[]⟩,.string ⟨#[]⟩,.string ⟨#[]⟩,.slice (some ⟨bO,0,none⟩) 1 1,.int .i64 0,.int .i64 0]:=by rw [hM5];rfl
            have hlM5:M5.length=10:=by rw [hM5];rfl
            refine lu 5 49 (.agg M5.toArray) rfl (Or.inl ⟨by rfl,?_⟩) hHeld ?_
            · (intro w' hSw;rw [eM5];go_simp)
            simp only[put,sA,sB,sC]
            have HX5:Hid (ExM w10 (fun b=>w.heap.size < b∧b ≠ b3) M5 ((⟨5,0,0,0,[],[],[],0,0⟩,Fo.cons a.1 a.2 r.1):Ex)):=⟨_,hM5,U HSF⟩
            have HRV5:=V (U HTq).rv
            have HVA5:=V (U HTq).va
            refine last_one (i:=6) (by kernel_rfl) rfl (fun K hK=>?_)
            have hz10:M5.toArray.size=10:=by simpa using (U HX5).len
            rw [if_pos (by rfl)]
            refine wp_store_mid 29 (.tmp 3) (.tmp 49) rfl b3 0 M5.toArray rfl rfl (by rw [hz10];exact (U HVA5).there) (by rw [hz10];exact sizeEx) (all_oneCell_toArray (U HX5).one) ?_
            refine hK.out _ _ (fun h=>absurd rfl h) (fun _=>?_)
            clear hK K hHeld
            try simp only[put,sA,sB,sC]
            refine last_done (by kernel_rfl) ?_ _
            have HT17:=V (ts_set (U HRV5) (U HVA5) (U HBP).1 (U HBP).2 (U HX5) (by have h1:=(U HBP).2;have h2:=U HBT;omega))
            clear hM5 eM5
            obtain ⟨w17,hw17⟩:∃ w17,w17=w10.setCells b3 0 M5:=⟨_,rfl⟩
            rw [← hw17] at HT17
            rw [← hw17]
            clear hw17
            go_upto_region 27 with (go_at_call 180;refine (close_any hT (U HT17).rv.px [41]).mono ?_;rintro e w18 ⟨rfl,hp1,hf1⟩;have HT18:=V ((U HT17).move hp1 hf1 (U HNE).2.2);clear hp1 hf1 HT17)
            refine wp_region_list ?_
            refine wpList_load_mid rfl 29 (.tmp 3) rfl b3 0 rfl M5 _ (U HT18).va.range Tryz.underlying29 rfl (by rw [hlM5];exact sizeEx) ?_
            go_wp2_with (go_at_call 210;refine (unary_any 2 M5 _ (fun b=>w.heap.size < b∧b ≠ b3) w18 (U HT18).ex).mono ?_;rintro e w19 ⟨M7,rfl,hx,hb⟩;have hl7:=hx.len;have hv7:=(U HT18).rv.below hb;have hst7:=hv7.out.storeC hx.len hx.one;have HX7:=V hx;have HV19:=V hv7;clear hx hb hv7)
            have HX:Hid (ExM w19 (fun b=>w.heap.size < b) M7 (unE 2 ((⟨5,0,0,0,[],[],[],0,0⟩,Fo.cons a.1 a.2 r.1):Ex))):=(U HX7).keep (fun _ _ _=>rfl) (fun b _ q=>by
             have h1:=ltX (U HT18).rv.out.1
             rcases q with q | q
             · exact q.1
             · omega)
            obtain ⟨h1,h2⟩:=(U HV19).done (S0:=S) (U HX) (U HMF) (U HNE).1 (U HNE).2.1
            exact bodyPost_ret (h1.result rfl _ rfl) rfl (by rw [U HPP,U HEQ];exact h2)
          · injection hv with e1 e2 e3
            subst e1
            subst e3
            obtain ⟨Xs,hXs,hxx,hxr⟩:=row_list KL (by rw [← U HKL];exact hrow)
            have hlen:cnt r.1=Xs.length:=by rw [U HKL,cnt_foE,← hXs,List.length_map]
            rw [hlen] at e2
            subst e2
            refine append_op (.tmp 45) (.tmp 47) rfl (U HOq) (by omega) rfl Xs (fun y hy=>(hxx y hy).keep (fun _ _ _=>rfl) (fun b _ q=>⟨by have:=q.1;omega,by intro e;simp only[Value.ownBlock,Option.some.injEq] at e;exact q.2.2 e.symm⟩)) bx ox _ rfl hxr (by decide) (by omega) ?_
            intro ad5 k5 w12 ho5 hb5 hg5 hn5
            refine hK.out _ _ (fun _=>(U HTq).va.keep (hg5 b3 (ltX (U HTq).va.1) (by intro e;simp only[Value.ownBlock,Option.some.injEq] at e;exact (U HBO).1 e))) (fun hHeld2=>?_)
            clear hK K hHeld
            have hHeld:=hHeld2 (by decide)
            clear hHeld2
            try simp only[put,sA,sB,sC]
            have hkk:∀ (N:List Value) (E:Ex),ExM w10 (fun b=>w.heap.size < b∧b ≠ b3∧b ≠ bO) N E→ExM w12 (fun b=>w.heap.size < b∧b ≠ b3) N E:=fun N E h=>h.keep (fun b q hl=>hg5 b hl (by intro e;simp only[Value.ownBlock,Option.some.injEq] at e;exact q.2.2 e.symm)) (fun b _ q=>⟨q.1,q.2.1⟩)
            have HSF:Hid (SlAt w12 (fun b=>w.heap.size < b∧b ≠ b3) (.slice ad5 (1+Xs.length) k5) (Fo.cons a.1 a.2 r.1)):=by
             have h:=ho5.sliceQ (Q:=(fun b=>w.heap.size < b∧b ≠ b3)) (fun y hy=>by
              rcases List.mem_append.1 hy with hy | hy
              · rw [List.mem_singleton.1 hy];exact hkk _ _ (U HA)
              · exact hkk _ _ (hxx y hy)) (fun g hg=>by
              rcases hn5 with e | e
              · rw [hg] at e;simp only[Value.ownBlock,Option.some.injEq] at e;subst e;exact ⟨(U HBO).2,(U HBO).1⟩
              · rw [hg] at e;simp only[Option.some.injEq] at e;subst e;exact ⟨by omega,by have:=ltX (U HTq).va.1;omega⟩)
             rw [U HKL,← hXs,← toFo_foE]
             exact h
            have hrv5:=(U HTq).rv.own hb5 (U HNE).2.2 (U HBT)
            have hva5:=(U HTq).va.keep (hg5 b3 (ltX (U HTq).va.1) (by intro e;simp only[Value.ownBlock,Option.some.injEq] at e;exact (U HBO).1 e))
            clear hkk hg5 hn5 ho5 hb5
            obtain ⟨M5,hM5⟩:∃ M5:List Value,M5=ndC ⟨5,0,0,0,[],[],[],0,0⟩ (.slice ad5 (1+Xs.length) k5):=⟨_,rfl⟩
            have eM5:M5.toArray=#[.int .i64 5,.int .i64 0,.int .i64 0,.int .i64 0,.string ⟨#[]⟩,.string ⟨#[]⟩,.string ⟨#[]⟩,.slice ad5 (1+Xs.length) k5,.int .i64 0,.int .i64 0]:=by rw [hM5];rfl
            have hlM5:M5.length=10:=by rw [hM5];rfl
            refine lu 5 49 (.agg M5.toArray) rfl (Or.inl ⟨by rfl,?_⟩) hHeld ?_
            · (intro w' hSw;rw [eM5];go_simp)
            simp only[put,sA,sB,sC]
            have HX5:Hid (ExM w12 (fun b=>w.heap.size < b∧b ≠ b3) M5 ((⟨5,0,0,0,[],[],[],0,0⟩,Fo.cons a.1 a.2 r.1):Ex)):=⟨_,hM5,U HSF⟩
            have HRV5:=V hrv5
            have HVA5:=V hva5
            refine last_one (i:=6) (by kernel_rfl) rfl (fun K hK=>?_)
            have hz10:M5.toArray.size=10:=by simpa using (U HX5).len
            rw [if_pos (by rfl)]
            refine wp_store_mid 29 (.tmp 3) (.tmp 49) rfl b3 0 M5.toArray rfl rfl (by rw [hz10];exact (U HVA5).there) (by rw [hz10];exact sizeEx) (all_oneCell_toArray (U HX5).one) ?_
            refine hK.out _ _ (fun h=>absurd rfl h) (fun _=>?_)
            clear hK K hHeld
            try simp only[put,sA,sB,sC]
            refine last_done (by kernel_rfl) ?_ _
            have HT17:=V (ts_set (U HRV5) (U HVA5) (U HBP).1 (U HBP).2 (U HX5) (by have h1:=(U HBP).2;have h2:=U HBT;omega))
            clear hM5 eM5
            obtain ⟨w17,hw17⟩:∃ w17,w17=w12.setCells b3 0 M5:=⟨_,rfl⟩
            rw [← hw17] at HT17
            rw [← hw17]
            clear hw17
            go_upto_region 27 with (go_at_call 180;refine (close_any hT (U HT17).rv.px [41]).mono ?_;rintro e w18 ⟨rfl,hp1,hf1⟩;have HT18:=V ((U HT17).move hp1 hf1 (U HNE).2.2);clear hp1 hf1 HT17)
            refine wp_region_list ?_
            refine wpList_load_mid rfl 29 (.tmp 3) rfl b3 0 rfl M5 _ (U HT18).va.range Tryz.underlying29 rfl (by rw [hlM5];exact sizeEx) ?_
            go_wp2_with (go_at_call 210;refine (unary_any 2 M5 _ (fun b=>w.heap.size < b∧b ≠ b3) w18 (U HT18).ex).mono ?_;rintro e w19 ⟨M7,rfl,hx,hb⟩;have hl7:=hx.len;have hv7:=(U HT18).rv.below hb;have hst7:=hv7.out.storeC hx.len hx.one;have HX7:=V hx;have HV19:=V hv7;clear hx hb hv7)
            have HX:Hid (ExM w19 (fun b=>w.heap.size < b) M7 (unE 2 ((⟨5,0,0,0,[],[],[],0,0⟩,Fo.cons a.1 a.2 r.1):Ex))):=(U HX7).keep (fun _ _ _=>rfl) (fun b _ q=>by
             have h1:=ltX (U HT18).rv.out.1
             rcases q with q | q
             · exact q.1
             · omega)
            obtain ⟨h1,h2⟩:=(U HV19).done (S0:=S) (U HX) (U HMF) (U HNE).1 (U HNE).2.1
            exact bodyPost_ret (h1.result rfl _ rfl) rfl (by rw [U HPP,U HEQ];exact h2)
      | false=>
       cases hk5:isS T 2 [66,69,84,87,69,69,78] (nextS T S1) with
       | true=>
        skip
        as_aux_lemma=>
         have HT3:=HTG
         have HW1:=V hi
         have MHW1:Hid (mayS T 2 [73,83] S1=S1):=by show mayS T 2 [73,83] S1=_;unfold mayS;rw [hi];rfl
         have HW2:=V hj
         have MHW2:Hid (mayS T 2 [78,79,84] S1=nextS T S1):=by show mayS T 2 [78,79,84] S1=_;unfold mayS;rw [hj];rfl
         have HW3:=V hk3
         have MHW3:Hid (mayS T 2 [73,78] (nextS T S1)=(nextS T S1)):=by show mayS T 2 [73,78] (nextS T S1)=_;unfold mayS;rw [hk3];rfl
         have HW4:=V hk5
         have MHW4:Hid (mayS T 2 [66,69,84,87,69,69,78] (nextS T S1)=nextS T (nextS T S1)):=by show mayS T 2 [66,69,84,87,69,69,78] (nextS T S1)=_;unfold mayS;rw [hk5];rfl
         have HEQ:Hid (testS T sub3 sub7 n S=(unE 2 (binE 17 (binE 10 a (sub3 (nextS T (nextS T S1))).1) (binE 8 a (sub3 (mustS T 2 [65,78,68] (sub3 (nextS T (nextS T S1))).2)).1)),(sub3 (mustS T 2 [65,78,68] (sub3 (nextS T (nextS T S1))).2)).2)):=by
          show testS T sub3 sub7 n S=_
          rw [U HEN]
          unfold testN
          rw [if_neg (by rw [hi];decide)]
          dsimp only
          rw [U MHW2,hj,hk3,hk5]
          rfl
         have HB7:Hid (muS T (nextS T (nextS T S1)) ≤ B):=by
          have h1:=muS_nle T (nextS T S1)
          have h2:=muS_nle T S1
          have h3:=U HM1
          have h4:=U HMU
          show _ ≤ _
          omega
         clear hi hj hk3 hk5 HTG HEN
         go_upto_region 21 with (first | (go_at_call 143;refine (may_any hT (U HT3).rv.px [73,83]).mono ?_;rw [U HW1];rintro e w4 ⟨rfl,hp1,hf1⟩;rw [U MHW1] at hp1;have HT4:=V ((U HT3).move hp1 hf1 (U HNE).2.2);clear hp1 hf1 HT3) | (go_at_call 143;refine (may_any hT (U HT4).rv.px [78,79,84]).mono ?_;rw [U HW2];rintro e w5 ⟨rfl,hp1,hf1⟩;rw [U MHW2] at hp1;have HT5:=V ((U HT4).move hp1 hf1 (U HNE).2.2);clear hp1 hf1 HT4) | (go_at_call 143;refine (may_any hT (U HT5).rv.px [73,78]).mono ?_;rw [U HW3];rintro e w6 ⟨rfl,hp1,hf1⟩;rw [U MHW3] at hp1;have HT6:=V ((U HT5).move hp1 hf1 (U HNE).2.2);clear hp1 hf1 HT5) | (go_at_call 143;refine (may_any hT (U HT6).rv.px [66,69,84,87,69,69,78]).mono ?_;rw [U HW4];rintro e w7 ⟨rfl,hp1,hf1⟩;rw [U MHW4] at hp1;have HT7:=V ((U HT6).move hp1 hf1 (U HNE).2.2);clear hp1 hf1 HT6) | (go_at_call 219;refine ((U HT7).rv.call h3 (U HB7) (U HNE).2.2).mono ?_;rintro e w8 ⟨L,rfl,hx,hv,hf,hm⟩;have hlL:=hx.len;have HXL:=V (hx.keep (Q':=fun b=>w.heap.size < b∧b ≠ b3) (fun _ _ _=>rfl) (fun b _ q=>by have h1:=ltX (U HT7).va.1;have h2:=(U HT7).b3b;exact ⟨by omega,by omega⟩));have HT8:=V ((U HT7).moveR hv hf (U HNE).2.2);have HML:=V hm;have HFL:=V hf;have hstL:=hv.out.storeC hx.len hx.one;have hsnL:=storeNew w8 hx.len hx.one;unfold zL at hsnL;clear hx hv hf hm))
         have HT9:=V ((U HT8).below (alX (Below.refl _ _) (.cells L.toArray 29)))
         have HVL:=V (VrX.new w8 hlL)
         have HXLn:=V ((U HXL).below (alX (Below.refl _ _) (.cells L.toArray 29)))
         have HFAL:=V (FrX.of_below (p:=p) (alX (Below.refl _ _) (.cells L.toArray 29):Below w8.heap.size w8 _))
         have hloL:=Nat.lt_trans (U HT8).b3b (ltX (U HT8).va.1)
         have hneL:=Nat.ne_of_gt (ltX (U HT8).va.1)
         obtain ⟨w9,hw9⟩:∃ w9,w9=w8.alloc (.cells L.toArray 29):=⟨_,rfl⟩
         obtain ⟨bL,hbL⟩:∃ bL,bL=w8.heap.size:=⟨_,rfl⟩
         rw [← hw9] at HT9 HXLn HFAL
         rw [← hw9,← hbL] at HVL
         rw [← hbL] at hloL hneL
         rw [← hw9,← hbL]
         clear hstL hsnL hw9 hbL
         have HB10:Hid (muS T (mustS T 2 [65,78,68] (sub3 (nextS T (nextS T S1))).2) ≤ B):=by
          have h1:=muS_must T 2 [65,78,68] (sub3 (nextS T (nextS T S1))).2
          have h2:=U HML
          have h3:=U HB7
          show _ ≤ _
          omega
         go_upto_region 23 with (first | (go_at_call 146;refine (must_any hT (U HT9).rv.px [65,78,68]).mono ?_;rintro e w10 ⟨rfl,hp1,hf1⟩;have HVL10:=V ((U HVL).keep (hf1.blk bL (ltX (U HVL).1) (by have:=(U HNE).2.2;omega)));have HXL10:=V ((U HXLn).keep (fun b hq hl=>hf1.blk b hl (by have:=(U HNE).2.2;have:=hq.1;omega)) (fun _ _ h=>h));have HT10:=V ((U HT9).move hp1 hf1 (U HNE).2.2);clear hp1 hf1 HT9) | (go_at_call 219;refine ((U HT10).rv.call h3 (U HB10) (U HNE).2.2).mono ?_;rintro e w11 ⟨H,rfl,hx,hv,hf,hm⟩;have hlH:=hx.len;have HXH:=V (hx.keep (Q':=fun b=>w.heap.size < b∧b ≠ b3) (fun _ _ _=>rfl) (fun b _ q=>by have h1:=ltX (U HT10).va.1;have h2:=(U HT10).b3b;exact ⟨by omega,by omega⟩));have HT11:=V ((U HT10).moveR hv hf (U HNE).2.2);have HMH:=V hm;have HFH:=V hf;have hstH:=hv.out.storeC hx.len hx.one;have hsnH:=storeNew w11 hx.len hx.one;unfold zL at hsnH;clear hx hv hf hm))
         have HT12:=V ((U HT11).below (alX (Below.refl _ _) (.cells H.toArray 29)))
         have HVH:=V (VrX.new w11 hlH)
         have HXHn:=V ((U HXH).below (alX (Below.refl _ _) (.cells H.toArray 29)))
         have HFAH:=V (FrX.of_below (p:=p) (alX (Below.refl _ _) (.cells H.toArray 29):Below w11.heap.size w11 _))
         have hloH:=Nat.lt_trans (U HT11).b3b (ltX (U HT11).va.1)
         have hneH:=Nat.ne_of_gt (ltX (U HT11).va.1)
         obtain ⟨w12,hw12⟩:∃ w12,w12=w11.alloc (.cells H.toArray 29):=⟨_,rfl⟩
         obtain ⟨bH,hbH⟩:∃ bH,bH=w11.heap.size:=⟨_,rfl⟩
         rw [← hw12] at HT12 HXHn HFAH
         rw [← hw12,← hbH] at HVH
         rw [← hbH] at hloH hneH
         rw [← hw12,← hbH]
         clear hstH hsnH hw12 hbH
         have HF12:=V (((U HFH).trans (U HFAH)).drew)
         have HVL12:Hid (VrX w12.drew bL L):=(U HVL10).keep ((U HF12).blk bL (ltX (U HVL10).1) (by have:=(U HNE).2.2;omega))
         have HXL12:Hid (ExM w12.drew (fun b=>w.heap.size < b∧b ≠ b3) L (sub3 (nextS T (nextS T S1))).1):=(U HXL10).keep (fun b hq hl=>(U HF12).blk b hl (by have:=(U HNE).2.2;have:=hq.1;omega)) (fun _ _ h=>h)
         have HVH12:Hid (VrX w12.drew bH H):=U HVH
         have HXH12:Hid (ExM w12.drew (fun b=>w.heap.size < b∧b ≠ b3) H (sub3 (mustS T 2 [65,78,68] (sub3 (nextS T (nextS T S1))).2)).1):=(U HXHn).below (Below.refl _ _).drew
         have HT13:Hid (TS T p bt c w.heap.size b3 w w12.drew (sub3 (mustS T 2 [65,78,68] (sub3 (nextS T (nextS T S1))).2)).2 M a):=(U HT12).drew
         refine wp_region_last 7 (fun w'=>VrX w' b3 M∧VrX w' bL L∧VrX w' bH H) (by kernel_rfl) ⟨(U HT13).va,U HVL12,U HVH12⟩ (fun hHeld=>?_)
         refine lu 0 61 (.agg M.toArray) rfl (yieldsIf_load_mid (by rfl) 29 (.tmp 3) rfl b3 0 rfl M _ (fun w hw=>hw.1.range) Tryz.underlying29 rfl (by rw [hlM];exact sizeEx)) hHeld ?_
         simp only[put,sA,sB,sC]
         refine lu 1 62 (.agg L.toArray) rfl (yieldsIf_load_mid (by rfl) 29 (.tmp 8) rfl bL 0 rfl L _ (fun w hw=>hw.2.1.range) Tryz.underlying29 rfl (by rw [hlL];exact sizeEx)) hHeld ?_
         simp only[put,sA,sB,sC]
         refine lu 3 64 (.agg M.toArray) rfl (yieldsIf_load_mid (by rfl) 29 (.tmp 3) rfl b3 0 rfl M _ (fun w hw=>hw.1.range) Tryz.underlying29 rfl (by rw [hlM];exact sizeEx)) hHeld ?_
         simp only[put,sA,sB,sC]
         refine lu 4 65 (.agg H.toArray) rfl (yieldsIf_load_mid (by rfl) 29 (.tmp 9) rfl bH 0 rfl H _ (fun w hw=>hw.2.2.range) Tryz.underlying29 rfl (by rw [hlH];exact sizeEx)) hHeld ?_
         simp only[put,sA,sB,sC]
         refine last_one (i:=2) (by kernel_rfl) rfl (fun K hK=>?_)
         go_simp
         (go_at_call 184;refine (binary_any 10 M L a _ (fun b=>w.heap.size < b∧b ≠ b3) _ ((U HT13).ex) (U HXL12)).mono ?_;rintro e w14 ⟨R1,rfl,hx6,hb6⟩;have HR1:=V (hx6.keep (Q':=(fun b=>w.heap.size < b∧b ≠ b3)) (fun _ _ _=>rfl) (fun b _ q=>by rcases q with q | q;(exact q);(have h1:=ltX (U HT13).va.1;have h2:=(U HT13).b3b;exact ⟨by omega,by omega⟩)));have HT14:=V ((U HT13).below hb6);have hlR1:=hx6.len;have HVL14:=V ((U HVL12).below hb6);have HVH14:=V ((U HVH12).below hb6);have HXH14:=V ((U HXH12).below hb6);clear hx6 hb6)
         go_wp2_with fail
         refine hK.out _ _ (fun _=>⟨(U HT14).va,U HVL14,U HVH14⟩) (fun hHeld2=>?_)
         clear hK K hHeld
         have hHeld:=hHeld2 (by decide)
         clear hHeld2
         try simp only[put,sA,sB,sC]
         refine last_one (i:=5) (by kernel_rfl) rfl (fun K hK=>?_)
         go_simp
         (go_at_call 184;refine (binary_any 8 M H a _ (fun b=>w.heap.size < b∧b ≠ b3) _ ((U HT14).ex) (U HXH14)).mono ?_;rintro e w15 ⟨R2,rfl,hx6,hb6⟩;have HR2:=V (hx6.keep (Q':=(fun b=>w.heap.size < b∧b ≠ b3)) (fun _ _ _=>rfl) (fun b _ q=>by rcases q with q | q;(exact q);(have h1:=ltX (U HT14).va.1;have h2:=(U HT14).b3b;exact ⟨by omega,by omega⟩)));have HT15:=V ((U HT14).below hb6);have hlR2:=hx6.len;have HVL15:=V ((U HVL14).below hb6);have HVH15:=V ((U HVH14).below hb6);have HR1n:=V ((U HR1).below hb6);clear hx6 hb6)
         go_wp2_with fail
         refine hK.out _ _ (fun _=>⟨(U HT15).va,U HVL15,U HVH15⟩) (fun hHeld2=>?_)
         clear hK K hHeld
         have hHeld:=hHeld2 (by decide)
         clear hHeld2
         try simp only[put,sA,sB,sC]
         refine last_one (i:=6) (by kernel_rfl) rfl (fun K hK=>?_)
         go_simp
         (go_at_call 184;refine (binary_any 17 R1 R2 _ _ (fun b=>w.heap.size < b∧b ≠ b3) _ ((U HR1n)) (U HR2)).mono ?_;rintro e w16 ⟨R3,rfl,hx6,hb6⟩;have HR3:=V (hx6.keep (Q':=(fun b=>w.heap.size < b∧b ≠ b3)) (fun _ _ _=>rfl) (fun b _ q=>by rcases q with q | q;(exact q);(have h1:=ltX (U HT15).va.1;have h2:=(U HT15).b3b;exact ⟨by omega,by omega⟩)));have HT16:=V ((U HT15).below hb6);have hlR3:=hx6.len;have HVL16:=V ((U HVL15).below hb6);have HVH16:=V ((U HVH15).below hb6);clear hx6 hb6)
         go_wp2_with fail
         refine hK.out _ _ (fun _=>⟨(U HT16).va,U HVL16,U HVH16⟩) (fun hHeld2=>?_)
         clear hK K hHeld
         have hHeld:=hHeld2 (by decide)
         clear hHeld2
         try simp only[put,sA,sB,sC]
         refine last_one (i:=7) (by kernel_rfl) rfl (fun K hK=>?_)
         have hz10:R3.toArray.size=10:=by simpa using (U HR3).len
         rw [if_pos (by rfl)]
         refine wp_store_mid 29 (.tmp 3) (.tmp 67) rfl b3 0 R3.toArray rfl rfl (by rw [hz10];exact (U HT16).va.there) (by rw [hz10];exact sizeEx) (all_oneCell_toArray (U HR3).one) ?_
         refine hK.out _ _ (fun h=>absurd rfl h) (fun _=>?_)
         clear hK K hHeld
         try simp only[put,sA,sB,sC]
         refine last_done (by kernel_rfl) ?_ _
         have HT17:=V ((U HT16).set (U HR3) (by have h1:=(U HT16).b3b;have h2:=U HBT;omega))
         have HMF:Hid (muS T (sub3 (mustS T 2 [65,78,68] (sub3 (nextS T (nextS T S1))).2)).2 ≤ muS T S):=by
          have h1:=U HMH
          have h2:=muS_must T 2 [65,78,68] (sub3 (nextS T (nextS T S1))).2
          have h3:=U HML
          have h4:=muS_nle T (nextS T S1)
          have h5:=muS_nle T S1
          have h6:=U HM1
          show _ ≤ _
          omega
         obtain ⟨w17,hw17⟩:∃ w17,w17=w16.setCells b3 0 R3:=⟨_,rfl⟩
         rw [← hw17] at HT17
         rw [← hw17]
         clear hw17
         go_upto_region 27 with fail
         refine wp_region_list ?_
         refine wpList_load_mid rfl 29 (.tmp 3) rfl b3 0 rfl R3 _ (U HT17).va.range Tryz.underlying29 rfl (by rw [hlR3];exact sizeEx) ?_
         go_wp2_with (go_at_call 210;refine (unary_any 2 R3 _ (fun b=>w.heap.size < b∧b ≠ b3) w17 (U HT17).ex).mono ?_;rintro e w18 ⟨M7,rfl,hx,hb⟩;have hl7:=hx.len;have hv7:=(U HT17).rv.below hb;have hst7:=hv7.out.storeC hx.len hx.one;have HX7:=V hx;have HV18:=V hv7;clear hx hb hv7)
         have HX:Hid (ExM w18 (fun b=>w.heap.size < b) M7 (unE 2 (binE 17 (binE 10 a (sub3 (nextS T (nextS T S1))).1) (binE 8 a (sub3 (mustS T 2 [65,78,68] (sub3 (nextS T (nextS T S1))).2)).1)))):=(U HX7).keep (fun _ _ _=>rfl) (fun b _ q=>by
          have h1:=ltX (U HT17).rv.out.1
          rcases q with q | q
          · exact q.1
          · omega)
         obtain ⟨h1,h2⟩:=(U HV18).done (S0:=S) (U HX) (U HMF) (U HNE).1 (U HNE).2.1
         exact bodyPost_ret (h1.result rfl _ rfl) rfl (by rw [U HPP,U HEQ];exact h2)
       | false=>
        skip
        as_aux_lemma=>
         have HT3:=HTG
         have HW1:=V hi
         have MHW1:Hid (mayS T 2 [73,83] S1=S1):=by show mayS T 2 [73,83] S1=_;unfold mayS;rw [hi];rfl
         have HW2:=V hj
         have MHW2:Hid (mayS T 2 [78,79,84] S1=nextS T S1):=by show mayS T 2 [78,79,84] S1=_;unfold mayS;rw [hj];rfl
         have HW3:=V hk3
         have MHW3:Hid (mayS T 2 [73,78] (nextS T S1)=(nextS T S1)):=by show mayS T 2 [73,78] (nextS T S1)=_;unfold mayS;rw [hk3];rfl
         have HW4:=V hk5
         have MHW4:Hid (mayS T 2 [66,69,84,87,69,69,78] (nextS T S1)=(nextS T S1)):=by show mayS T 2 [66,69,84,87,69,69,78] (nextS T S1)=_;unfold mayS;rw [hk5];rfl
         have HEQ:Hid (testS T sub3 sub7 n S=(unE 2 a,failS T 1 (nextS T S1))):=by
          show testS T sub3 sub7 n S=_
          rw [U HEN]
          unfold testN
          rw [if_neg (by rw [hi];decide)]
          dsimp only
          rw [U MHW2,hj,hk3,hk5]
          rfl
         have HMF:Hid (muS T (failS T 1 (nextS T S1)) ≤ muS T S):=by
          have h1:=muS_fail T 1 (by decide) (nextS T S1)
          show _ ≤ _
          omega
         clear hi hj hk3 hk5 HTG HEN
         go_upto_region 27 with (first | (go_at_call 143;refine (may_any hT (U HT3).rv.px [73,83]).mono ?_;rw [U HW1];rintro e w4 ⟨rfl,hp1,hf1⟩;rw [U MHW1] at hp1;have HT4:=V ((U HT3).move hp1 hf1 (U HNE).2.2);clear hp1 hf1 HT3) | (go_at_call 143;refine (may_any hT (U HT4).rv.px [78,79,84]).mono ?_;rw [U HW2];rintro e w5 ⟨rfl,hp1,hf1⟩;rw [U MHW2] at hp1;have HT5:=V ((U HT4).move hp1 hf1 (U HNE).2.2);clear hp1 hf1 HT4) | (go_at_call 143;refine (may_any hT (U HT5).rv.px [73,78]).mono ?_;rw [U HW3];rintro e w6 ⟨rfl,hp1,hf1⟩;rw [U MHW3] at hp1;have HT6:=V ((U HT5).move hp1 hf1 (U HNE).2.2);clear hp1 hf1 HT5) | (go_at_call 143;refine (may_any hT (U HT6).rv.px [66,69,84,87,69,69,78]).mono ?_;rw [U HW4];rintro e w7 ⟨rfl,hp1,hf1⟩;rw [U MHW4] at hp1;have HT7:=V ((U HT6).move hp1 hf1 (U HNE).2.2);clear hp1 hf1 HT6) | (go_at_call 97;refine (fail_any hT (U HT7).rv.px 1 (by decide)).mono ?_;rintro e w8 ⟨rfl,hp1,hf1⟩;have HT8:=V ((U HT7).move hp1 hf1 (U HNE).2.2);clear hp1 hf1 HT7))
         refine wp_region_list ?_
         refine wpList_load_mid rfl 29 (.tmp 3) rfl b3 0 rfl M _ (U HT8).va.range Tryz.underlying29 rfl (by rw [hlM];exact sizeEx) ?_
         go_wp2_with (go_at_call 210;refine (unary_any 2 M a (fun b=>w.heap.size < b∧b ≠ b3) w8 (U HT8).ex).mono ?_;rintro e w9 ⟨M7,rfl,hx,hb⟩;have hl7:=hx.len;have hv7:=(U HT8).rv.below hb;have hst7:=hv7.out.storeC hx.len hx.one;have HX7:=V hx;have HV9:=V hv7;clear hx hb hv7)
         have HX:Hid (ExM w9 (fun b=>w.heap.size < b) M7 (unE 2 a)):=(U HX7).keep (fun _ _ _=>rfl) (fun b _ q=>by
          have h1:=ltX (U HT8).rv.out.1
          rcases q with q | q
          · exact q.1
          · omega)
         obtain ⟨h1,h2⟩:=(U HV9).done (S0:=S) (U HX) (U HMF) (U HNE).1 (U HNE).2.1
         exact bodyPost_ret (h1.result rfl _ rfl) rfl (by rw [U HPP,U HEQ];exact h2)
     | false=>
      cases hk3:isS T 2 [73,78] S1 with
      | true=>
       skip
       as_aux_lemma=>
        have HT3:=HTG
        have HW1:=V hi
        have MHW1:Hid (mayS T 2 [73,83] S1=S1):=by show mayS T 2 [73,83] S1=_;unfold mayS;rw [hi];rfl
        have HW2:=V hj
        have MHW2:Hid (mayS T 2 [78,79,84] S1=S1):=by show mayS T 2 [78,79,84] S1=_;unfold mayS;rw [hj];rfl
        have HW3:=V hk3
        have MHW3:Hid (mayS T 2 [73,78] S1=nextS T S1):=by show mayS T 2 [73,78] S1=_;unfold mayS;rw [hk3];rfl
        obtain ⟨S3,hS3⟩:∃ S3,S3=openS T [40] (nextS T S1):=⟨_,rfl⟩
        obtain ⟨r,hr⟩:∃ r,r=exprsS T sub7 n .nil S3:=⟨_,rfl⟩
        obtain ⟨KL,hKL⟩:=exprsS_foE T sub7 n [] S3
        have HKL:Hid (r.1=foE KL):=by rw [hr];exact hKL
        have hm3:muS T S3+1 ≤ muS T S:=by
         have h1:=muS_next hT hk3 (by decide) (U HTG).rv.px.lt
         have h2:=muS_open T [40] (nextS T S1)
         have h3:=muS_nle T S1
         have h4:=U HM1
         rw [hS3]
         omega
        have hB1:1 ≤ B:=by have:=U HMU;omega
        have HXP:Hid (∀ W,PX T W p bt c S3→Calls Tryz.prog 182 #[.pointer (some ⟨p,0,none⟩)] W (RsP T p bt c W S3 r)):=fun W h=>by rw [hr];exact exprs_lv hT (B:=B - 1) (by omega) (by omega) (h7 hB1) W S3 h (by have:=U HMU;omega)
        have HEQ:Hid (testS T sub3 sub7 n S=(((⟨5,0,0,0,[],[],[],0,0⟩,Fo.cons a.1 a.2 r.1):Ex),closeS T [41] r.2)):=by
         show testS T sub3 sub7 n S=_
         rw [U HEN,hr,hS3]
         unfold testN
         rw [if_neg (by rw [hi];decide)]
         dsimp only
         rw [U MHW2,hj,hk3]
         rfl
        have HS3:=V hS3.symm
        have HM3:=V hm3
        clear hi hj hk3 HTG HEN hKL hr hS3 hm3
        go_upto_region 17 with (first | (go_at_call 143;refine (may_any hT (U HT3).rv.px [73,83]).mono ?_;rw [U HW1];rintro e w4 ⟨rfl,hp1,hf1⟩;rw [U MHW1] at hp1;have HT4:=V ((U HT3).move hp1 hf1 (U HNE).2.2);clear hp1 hf1 HT3) | (go_at_call 143;refine (may_any hT (U HT4).rv.px [78,79,84]).mono ?_;rw [U HW2];rintro e w5 ⟨rfl,hp1,hf1⟩;rw [U MHW2] at hp1;have HT5:=V ((U HT4).move hp1 hf1 (U HNE).2.2);clear hp1 hf1 HT4) | (go_at_call 143;refine (may_any hT (U HT5).rv.px [73,78]).mono ?_;rw [U HW3];rintro e w6 ⟨rfl,hp1,hf1⟩;rw [U MHW3] at hp1;have HT6:=V ((U HT5).move hp1 hf1 (U HNE).2.2);clear hp1 hf1 HT5) | (go_at_call 178;refine (open_any hT (U HT6).rv.px [40]).mono ?_;rintro e w7 ⟨rfl,hp1,hf1⟩;rw [U HS3] at hp1;have HT7:=V ((U HT6).move hp1 hf1 (U HNE).2.2);clear hp1 hf1 HT6))
        have HT8:=V ((U HT7).drew)
        have hl:=hlM
        refine wp_region_last 6 (fun w'=>VrX w' b3 M) (by kernel_rfl) (U HT8).va (fun hHeld=>?_)
        obtain ⟨w8,hw8⟩:∃ w8,w8=w7.drew:=⟨_,rfl⟩
        rw [← hw8] at HT8 hHeld
        rw [← hw8]
        clear hw8
        refine lu 0 44 (.agg M.toArray) rfl (yieldsIf_load_mid (by rfl) 29 (.tmp 3) rfl b3 0 rfl M _ (fun w hw=>hw.range) Tryz.underlying29 rfl (by rw [hl];exact sizeEx)) hHeld ?_
        simp only[put,sA,sB,sC]
        refine lu 2 46 (.pointer (some ⟨p,0,none⟩)) rfl (Or.inl ⟨by rfl,?_⟩) hHeld ?_
        · (intro w' hSw;go_simp)
        simp only[put,sA,sB,sC]
        refine last_two (i:=1) (j:=3) (by kernel_rfl) rfl rfl (fun K hK=>?_) (fun K hK=>?_)
        · skip
          go_simp
          go_wp2_with fail
          rw [fold10 hlM]
          have hlt8:=ltX (U HT8).rv.out.1
          have HO8:=V (oe_one (base:=w.heap.size+1) (W:=w8) (M:=M) (E:=a) (by omega) ((U HT8).ex.keep (fun _ _ _=>rfl) (fun b _ q=>q.1)))
          have HA8:Hid (ExM (w8.alloc (.cells M.toArray 29)) (fun b=>w.heap.size < b∧b ≠ b3∧b ≠ w8.heap.size) M a):=((U HT8).ex.keep (fun _ _ _=>rfl) (fun b hl q=>⟨q.1,q.2,by omega⟩)).below (alX (Below.refl _ _) _)
          have HBO:Hid (w8.heap.size ≠ b3∧w.heap.size < w8.heap.size):=⟨by have:=ltX (U HT8).va.1;omega,hlt8⟩
          have hz8:(w8.alloc (.cells M.toArray 29)).heap.size=w8.heap.size+1:=by simp
          have HT9:=V ((U HT8).below (alX (Below.refl _ _) (.cells M.toArray 29)))
          obtain ⟨w9,hw9⟩:∃ w9,w9=w8.alloc (.cells M.toArray 29):=⟨_,rfl⟩
          rw [← hw9] at HO8 HA8 HT9 hz8
          rw [← hw9]
          obtain ⟨bO,hbO⟩:∃ bO,bO=w8.heap.size:=⟨_,rfl⟩
          rw [← hbO] at HO8 HA8 HBO hz8
          rw [← hbO]
          clear hw9 hbO
          refine hK.out _ _ (fun _=>(U HT9).va) (fun hHeld2=>?_)
          clear hK K hHeld
          have hHeld:=hHeld2 (by decide)
          clear hHeld2
          try simp only[put,sA,sB,sC]
          refine last_one (i:=3) (by kernel_rfl) rfl (fun K hK=>?_)
          go_simp
          (go_at_call 182;refine (U HXP _ (U HT9).rv.px).mono ?_;rintro e w10 ⟨ad,m,k,rfl,hm4,hmc,hsl,hnil,hpx,hfr,hmu'⟩;clear hmc)
          go_wp2_with fail
          have HTq:=V ((U HT9).move hpx hfr (U HNE).2.2)
          have hpn:=(U HNE).2.2
          have HOq:=V ((U HO8).keep (fun b h1 h2=>hfr.blk b h2 (by omega)))
          have HA:=V ((U HA8).keep (fun b q hl=>hfr.blk b hl (by have:=q.1;omega)) (fun _ _ h=>h))
          have HSQ:Hid (SlAt w10 (fun b=>w.heap.size < b∧b ≠ b3∧b ≠ bO) (.slice ad m k) r.1):=hsl.keep (fun _ _ _=>rfl) (fun b _ q=>⟨by have:=(U HBO).2;omega,by have:=ltX (U HT9).va.1;omega,by omega⟩)
          refine hK.out _ _ (fun _=>(U HTq).va) (fun hHeld2=>?_)
          clear hK K hHeld
          have hHeld:=hHeld2 (by decide)
          clear hHeld2
          try simp only[put,sA,sB,sC]
          have HMF:Hid (muS T (closeS T [41] r.2) ≤ muS T S):=by
           have h1:=muS_close T [41] r.2
           have h2:=U HM3
           show _ ≤ _
           omega
          clear hfr hpx hsl hlt8 hz8
          have HBP:=V (And.intro (U HTq).b3p (U HTq).b3b)
          have hqlt:=ltX (U HTq).rv.out.1
          refine last_one (i:=4) (by kernel_rfl) rfl (fun K hK=>?_)
          rw [if_pos (by rfl)]
          rcases U HSQ with ⟨hf,c0,hv⟩ | ⟨bx,ox,kx,hv,hc1,hc2,hrow⟩
          · injection hv with e1 e2 e3
            subst e1
            have e4:k=0:=hnil rfl
            subst e4
            subst e3
            subst e2
            refine append_op_none (.tmp 45) (.tmp 47) rfl (U HOq) rfl rfl ?_
            refine hK.out _ _ (fun _=>(U HTq).va) (fun hHeld2=>?_)
            clear hK K hHeld
            have hHeld:=hHeld2 (by decide)
            clear hHeld2
            try simp only[put,sA,sB,sC]
            have HSF:Hid (SlAt w10 (fun b=>w.heap.size < b∧b ≠ b3) (.slice (some ⟨bO,0,none⟩) 1 1) (Fo.cons a.1 a.2 r.1)):=by
             rw [hf]
             exact (U HOq).sliceQ (Q:=(fun b=>w.heap.size < b∧b ≠ b3)) (fun y hy=>by rw [List.mem_singleton.1 hy];exact (U HA).keep (fun _ _ _=>rfl) (fun b _ q=>⟨q.1,q.2.1⟩)) (fun g hg=>by simp only[Value.ownBlock,Option.some.injEq] at hg;subst hg;exact ⟨(U HBO).2,(U HBO).1⟩)
            obtain ⟨M5,hM5⟩:∃ M5:List Value,M5=ndC ⟨5,0,0,0,[],[],[],0,0⟩ (.slice (some ⟨bO,0,none⟩) 1 1):=⟨_,rfl⟩
            have eM5:M5.toArray=#[.int .i64 5,.int .i64 0,.int .i64 0,.int .i64 0,.string ⟨#[]⟩,.string ⟨#[]⟩,.string ⟨#[]⟩,.slice (some ⟨bO,0,none⟩) 1 1,.int .i64 0,.int .i64 0]:=by rw [hM5];rfl
            have hlM5:M5.length=10:=by rw [hM5];rfl
            refine lu 5 49 (.agg M5.toArray) rfl (Or.inl ⟨by rfl,?_⟩) hHeld ?_
            · (intro w' hSw;rw [eM5];go_simp)
            simp only[put,sA,sB,sC]
            have HX5:Hid (ExM w10 (fun b=>w.heap.size < b∧b ≠ b3) M5 ((⟨5,0,0,0,[],[],[],0,0⟩,Fo.cons a.1 a.2 r.1):Ex)):=⟨_,hM5,U HSF⟩
            have HRV5:=V (U HTq).rv
            have HVA5:=V (U HTq).va
            refine last_one (i:=6) (by kernel_rfl) rfl (fun K hK=>?_)
            have hz10:M5.toArray.size=10:=by simpa using (U HX5).len
            rw [if_pos (by rfl)]
            refine wp_store_mid 29 (.tmp 3) (.tmp 49) rfl b3 0 M5.toArray rfl rfl (by rw [hz10];exact (U HVA5).there) (by rw [hz10];exact sizeEx) (all_oneCell_toArray (U HX5).one) ?_
            refine hK.out _ _ (fun h=>absurd rfl h) (fun _=>?_)
            clear hK K hHeld
            try simp only[put,sA,sB,sC]
            refine last_done (by kernel_rfl) ?_ _
            have HT17:=V (ts_set (U HRV5) (U HVA5) (U HBP).1 (U HBP).2 (U HX5) (by have h1:=(U HBP).2;have h2:=U HBT;omega))
            clear hM5 eM5
            obtain ⟨w17,hw17⟩:∃ w17,w17=w10.setCells b3 0 M5:=⟨_,rfl⟩
            rw [← hw17] at HT17
            rw [← hw17]
            clear hw17
            go_upto_region 28 with (go_at_call 180;refine (close_any hT (U HT17).rv.px [41]).mono ?_;rintro e w18 ⟨rfl,hp1,hf1⟩;have HT18:=V ((U HT17).move hp1 hf1 (U HNE).2.2);clear hp1 hf1 HT17)
            have hst:=(U HT18).rv.out.storeC hlM5 (U HT18).ex.one
            refine wp_region_list ?_
            refine wpList_load_mid rfl 29 (.tmp 3) rfl b3 0 rfl M5 _ (U HT18).va.range Tryz.underlying29 rfl (by rw [hlM5];exact sizeEx) ?_
            go_wp2_with fail
            have HX:Hid (ExM w18 (fun b=>w.heap.size < b) M5 ((⟨5,0,0,0,[],[],[],0,0⟩,Fo.cons a.1 a.2 r.1):Ex)):=(U HT18).ex.keep (fun _ _ _=>rfl) (fun b _ q=>q.1)
            have HV18:=V (U HT18).rv
            obtain ⟨h1,h2⟩:=(U HV18).done (S0:=S) (U HX) (U HMF) (U HNE).1 (U HNE).2.1
            exact bodyPost_ret (h1.result rfl _ rfl) rfl (by rw [U HPP,U HEQ];exact h2)
          · injection hv with e1 e2 e3
            subst e1
            subst e3
            obtain ⟨Xs,hXs,hxx,hxr⟩:=row_list KL (by rw [← U HKL];exact hrow)
            have hlen:cnt r.1=Xs.length:=by rw [U HKL,cnt_foE,← hXs,List.length_map]
            rw [hlen] at e2
            subst e2
            refine append_op (.tmp 45) (.tmp 47) rfl (U HOq) (by omega) rfl Xs (fun y hy=>(hxx y hy).keep (fun _ _ _=>rfl) (fun b _ q=>⟨by have:=q.1;omega,by intro e;simp only[Value.ownBlock,Option.some.injEq] at e;exact q.2.2 e.symm⟩)) bx ox _ rfl hxr (by decide) (by omega) ?_
            intro ad5 k5 w12 ho5 hb5 hg5 hn5
            refine hK.out _ _ (fun _=>(U HTq).va.keep (hg5 b3 (ltX (U HTq).va.1) (by intro e;simp only[Value.ownBlock,Option.some.injEq] at e;exact (U HBO).1 e))) (fun hHeld2=>?_)
            clear hK K hHeld
            have hHeld:=hHeld2 (by decide)
            clear hHeld2
            try simp only[put,sA,sB,sC]
            have hkk:∀ (N:List Value) (E:Ex),ExM w10 (fun b=>w.heap.size < b∧b ≠ b3∧b ≠ bO) N E→ExM w12 (fun b=>w.heap.size < b∧b ≠ b3) N E:=fun N E h=>h.keep (fun b q hl=>hg5 b hl (by intro e;simp only[Value.ownBlock,Option.some.injEq] at e;exact q.2.2 e.symm)) (fun b _ q=>⟨q.1,q.2.1⟩)
            have HSF:Hid (SlAt w12 (fun b=>w.heap.size < b∧b ≠ b3) (.slice ad5 (1+Xs.length) k5) (Fo.cons a.1 a.2 r.1)):=by
             have h:=ho5.sliceQ (Q:=(fun b=>w.heap.size < b∧b ≠ b3)) (fun y hy=>by
              rcases List.mem_append.1 hy with hy | hy
              · rw [List.mem_singleton.1 hy];exact hkk _ _ (U HA)
              · exact hkk _ _ (hxx y hy)) (fun g hg=>by
              rcases hn5 with e | e
              · rw [hg] at e;simp only[Value.ownBlock,Option.some.injEq] at e;subst e;exact ⟨(U HBO).2,(U HBO).1⟩
              · rw [hg] at e;simp only[Option.some.injEq] at e;subst e;exact ⟨by omega,by have:=ltX (U HTq).va.1;omega⟩)
             rw [U HKL,← hXs,← toFo_foE]
             exact h
            have hrv5:=(U HTq).rv.own hb5 (U HNE).2.2 (U HBT)
            have hva5:=(U HTq).va.keep (hg5 b3 (ltX (U HTq).va.1) (by intro e;simp only[Value.ownBlock,Option.some.injEq] at e;exact (U HBO).1 e))
            clear hkk hg5 hn5 ho5 hb5
            obtain ⟨M5,hM5⟩:∃ M5:List Value,M5=ndC ⟨5,0,0,0,[],[],[],0,0⟩ (.slice ad5 (1+Xs.length) k5):=⟨_,rfl⟩
            have eM5:M5.toArray=#[.int .i64 5,.int .i64 0,.int .i64 0,.int .i64 0,.string ⟨#[]⟩,.string ⟨#[]⟩,.string ⟨#[]⟩,.slice ad5 (1+Xs.length) k5,.int .i64 0,.int .i64 0]:=by rw [hM5];rfl
            have hlM5:M5.length=10:=by rw [hM5];rfl
            refine lu 5 49 (.agg M5.toArray) rfl (Or.inl ⟨by rfl,?_⟩) hHeld ?_
            · (intro w' hSw;rw [eM5];go_simp)
            simp only[put,sA,sB,sC]
            have HX5:Hid (ExM w12 (fun b=>w.heap.size < b∧b ≠ b3) M5 ((⟨5,0,0,0,[],[],[],0,0⟩,Fo.cons a.1 a.2 r.1):Ex)):=⟨_,hM5,U HSF⟩
            have HRV5:=V hrv5
            have HVA5:=V hva5
            refine last_one (i:=6) (by kernel_rfl) rfl (fun K hK=>?_)
            have hz10:M5.toArray.size=10:=by simpa using (U HX5).len
            rw [if_pos (by rfl)]
            refine wp_store_mid 29 (.tmp 3) (.tmp 49) rfl b3 0 M5.toArray rfl rfl (by rw [hz10];exact (U HVA5).there) (by rw [hz10];exact sizeEx) (all_oneCell_toArray (U HX5).one) ?_
            refine hK.out _ _ (fun h=>absurd rfl h) (fun _=>?_)
            clear hK K hHeld
            try simp only[put,sA,sB,sC]
            refine last_done (by kernel_rfl) ?_ _
            have HT17:=V (ts_set (U HRV5) (U HVA5) (U HBP).1 (U HBP).2 (U HX5) (by have h1:=(U HBP).2;have h2:=U HBT;omega))
            clear hM5 eM5
            obtain ⟨w17,hw17⟩:∃ w17,w17=w12.setCells b3 0 M5:=⟨_,rfl⟩
            rw [← hw17] at HT17
            rw [← hw17]
            clear hw17
            go_upto_region 28 with (go_at_call 180;refine (close_any hT (U HT17).rv.px [41]).mono ?_;rintro e w18 ⟨rfl,hp1,hf1⟩;have HT18:=V ((U HT17).move hp1 hf1 (U HNE).2.2);clear hp1 hf1 HT17)
            have hst:=(U HT18).rv.out.storeC hlM5 (U HT18).ex.one
            refine wp_region_list ?_
            refine wpList_load_mid rfl 29 (.tmp 3) rfl b3 0 rfl M5 _ (U HT18).va.range Tryz.underlying29 rfl (by rw [hlM5];exact sizeEx) ?_
            go_wp2_with fail
            have HX:Hid (ExM w18 (fun b=>w.heap.size < b) M5 ((⟨5,0,0,0,[],[],[],0,0⟩,Fo.cons a.1 a.2 r.1):Ex)):=(U HT18).ex.keep (fun _ _ _=>rfl) (fun b _ q=>q.1)
            have HV18:=V (U HT18).rv
            obtain ⟨h1,h2⟩:=(U HV18).done (S0:=S) (U HX) (U HMF) (U HNE).1 (U HNE).2.1
            exact bodyPost_ret (h1.result rfl _ rfl) rfl (by rw [U HPP,U HEQ];exact h2)
        · skip
          go_simp
          (go_at_call 182;refine (U HXP _ (U HT8).rv.px).mono ?_;rintro e w9 ⟨ad,m,k,rfl,hm4,hmc,hsl,hnil,hpx,hfr,hmu'⟩;clear hmc)
          go_wp2_with fail
          have HT9:=V ((U HT8).move hpx hfr (U HNE).2.2)
          have HS9:Hid (SlAt w9 (fun b=>w.heap.size < b∧b ≠ b3) (.slice ad m k) r.1):=hsl.keep (fun _ _ _=>rfl) (fun b _ q=>⟨by have:=ltX (U HT8).rv.out.1;omega,by have:=ltX (U HT8).va.1;omega⟩)
          refine hK.out _ _ (fun _=>(U HT9).va) (fun hHeld2=>?_)
          clear hK K hHeld
          have hHeld:=hHeld2 (by decide)
          clear hHeld2
          try simp only[put,sA,sB,sC]
          have HMF:Hid (muS T (closeS T [41] r.2) ≤ muS T S):=by
           have h1:=muS_close T [41] r.2
           have h2:=U HM3
           show _ ≤ _
           omega
          clear hfr hpx hsl
          refine last_one (i:=1) (by kernel_rfl) rfl (fun K hK=>?_)
          go_simp
          go_wp2_with fail
          rw [fold10 hlM]
          have hlt9:=ltX (U HT9).rv.out.1
          have HOq:=V (oe_one (base:=w.heap.size+1) (W:=w9) (M:=M) (E:=a) (by omega) ((U HT9).ex.keep (fun _ _ _=>rfl) (fun b _ q=>q.1)))
          have HA:Hid (ExM (w9.alloc (.cells M.toArray 29)) (fun b=>w.heap.size < b∧b ≠ b3∧b ≠ w9.heap.size) M a):=((U HT9).ex.keep (fun _ _ _=>rfl) (fun b hl q=>⟨q.1,q.2,by omega⟩)).below (alX (Below.refl _ _) _)
          have HSQ:Hid (SlAt (w9.alloc (.cells M.toArray 29)) (fun b=>w.heap.size < b∧b ≠ b3∧b ≠ w9.heap.size) (.slice ad m k) r.1):=(U HS9).keep (fun b _ hl=>(alX (Below.refl _ _) (.cells M.toArray 29)).block b hl) (fun b hl q=>⟨q.1,q.2,by omega⟩)
          have HBO:Hid (w9.heap.size ≠ b3∧w.heap.size < w9.heap.size):=⟨by have:=ltX (U HT9).va.1;omega,hlt9⟩
          have HTq:=V ((U HT9).below (alX (Below.refl _ _) (.cells M.toArray 29)))
          obtain ⟨w10,hw10⟩:∃ w10,w10=w9.alloc (.cells M.toArray 29):=⟨_,rfl⟩
          rw [← hw10] at HOq HA HSQ HTq
          rw [← hw10]
          obtain ⟨bO,hbO⟩:∃ bO,bO=w9.heap.size:=⟨_,rfl⟩
          rw [← hbO] at HOq HA HSQ HBO
          rw [← hbO]
          clear hw10 hbO hlt9
          refine hK.out _ _ (fun _=>(U HTq).va) (fun hHeld2=>?_)
          clear hK K hHeld
          have hHeld:=hHeld2 (by decide)
          clear hHeld2
          try simp only[put,sA,sB,sC]
          have HBP:=V (And.intro (U HTq).b3p (U HTq).b3b)
          have hqlt:=ltX (U HTq).rv.out.1
          refine last_one (i:=4) (by kernel_rfl) rfl (fun K hK=>?_)
          rw [if_pos (by rfl)]
          rcases U HSQ with ⟨hf,c0,hv⟩ | ⟨bx,ox,kx,hv,hc1,hc2,hrow⟩
          · injection hv with e1 e2 e3
            subst e1
            have e4:k=0:=hnil rfl
            subst e4
            subst e3
            subst e2
            refine append_op_none (.tmp 45) (.tmp 47) rfl (U HOq) rfl rfl ?_
            refine hK.out _ _ (fun _=>(U HTq).va) (fun hHeld2=>?_)
            clear hK K hHeld
            have hHeld:=hHeld2 (by decide)
            clear hHeld2
            try simp only[put,sA,sB,sC]
            have HSF:Hid (SlAt w10 (fun b=>w.heap.size < b∧b ≠ b3) (.slice (some ⟨bO,0,none⟩) 1 1) (Fo.cons a.1 a.2 r.1)):=by
             rw [hf]
             exact (U HOq).sliceQ (Q:=(fun b=>w.heap.size < b∧b ≠ b3)) (fun y hy=>by rw [List.mem_singleton.1 hy];exact (U HA).keep (fun _ _ _=>rfl) (fun b _ q=>⟨q.1,q.2.1⟩)) (fun g hg=>by simp only[Value.ownBlock,Option.some.injEq] at hg;subst hg;exact ⟨(U HBO).2,(U HBO).1⟩)
            obtain ⟨M5,hM5⟩:∃ M5:List Value,M5=ndC ⟨5,0,0,0,[],[],[],0,0⟩ (.slice (some ⟨bO,0,none⟩) 1 1):=⟨_,rfl⟩
            have eM5:M5.toArray=#[.int .i64 5,.int .i64 0,.int .i64 0,.int .i64 0,.string ⟨#[]⟩,.string ⟨#[]⟩,.string ⟨#[]⟩,.slice (some ⟨bO,0,none⟩) 1 1,.int .i64 0,.int .i64 0]:=by rw [hM5];rfl
            have hlM5:M5.length=10:=by rw [hM5];rfl
            refine lu 5 49 (.agg M5.toArray) rfl (Or.inl ⟨by rfl,?_⟩) hHeld ?_
            · (intro w' hSw;rw [eM5];go_simp)
            simp only[put,sA,sB,sC]
            have HX5:Hid (ExM w10 (fun b=>w.heap.size < b∧b ≠ b3) M5 ((⟨5,0,0,0,[],[],[],0,0⟩,Fo.cons a.1 a.2 r.1):Ex)):=⟨_,hM5,U HSF⟩
            have HRV5:=V (U HTq).rv
            have HVA5:=V (U HTq).va
            refine last_one (i:=6) (by kernel_rfl) rfl (fun K hK=>?_)
            have hz10:M5.toArray.size=10:=by simpa using (U HX5).len
            rw [if_pos (by rfl)]
            refine wp_store_mid 29 (.tmp 3) (.tmp 49) rfl b3 0 M5.toArray rfl rfl (by rw [hz10];exact (U HVA5).there) (by rw [hz10];exact sizeEx) (all_oneCell_toArray (U HX5).one) ?_
            refine hK.out _ _ (fun h=>absurd rfl h) (fun _=>?_)
            clear hK K hHeld
            try simp only[put,sA,sB,sC]
            refine last_done (by kernel_rfl) ?_ _
            have HT17:=V (ts_set (U HRV5) (U HVA5) (U HBP).1 (U HBP).2 (U HX5) (by have h1:=(U HBP).2;have h2:=U HBT;omega))
            clear hM5 eM5
            obtain ⟨w17,hw17⟩:∃ w17,w17=w10.setCells b3 0 M5:=⟨_,rfl⟩
            rw [← hw17] at HT17
            rw [← hw17]
            clear hw17
            go_upto_region 28 with (go_at_call 180;refine (close_any hT (U HT17).rv.px [41]).mono ?_;rintro e w18 ⟨rfl,hp1,hf1⟩;have HT18:=V ((U HT17).move hp1 hf1 (U HNE).2.2);clear hp1 hf1 HT17)
            have hst:=(U HT18).rv.out.storeC hlM5 (U HT18).ex.one
            refine wp_region_list ?_
            refine wpList_load_mid rfl 29 (.tmp 3) rfl b3 0 rfl M5 _ (U HT18).va.range Tryz.underlying29 rfl (by rw [hlM5];exact sizeEx) ?_
            go_wp2_with fail
            have HX:Hid (ExM w18 (fun b=>w.heap.size < b) M5 ((⟨5,0,0,0,[],[],[],0,0⟩,Fo.cons a.1 a.2 r.1):Ex)):=(U HT18).ex.keep (fun _ _ _=>rfl) (fun b _ q=>q.1)
            have HV18:=V (U HT18).rv
            obtain ⟨h1,h2⟩:=(U HV18).done (S0:=S) (U HX) (U HMF) (U HNE).1 (U HNE).2.1
            exact bodyPost_ret (h1.result rfl _ rfl) rfl (by rw [U HPP,U HEQ];exact h2)
          · injection hv with e1 e2 e3
            subst e1
            subst e3
            obtain ⟨Xs,hXs,hxx,hxr⟩:=row_list KL (by rw [← U HKL];exact hrow)
            have hlen:cnt r.1=Xs.length:=by rw [U HKL,cnt_foE,← hXs,List.length_map]
            rw [hlen] at e2
            subst e2
            refine append_op (.tmp 45) (.tmp 47) rfl (U HOq) (by omega) rfl Xs (fun y hy=>(hxx y hy).keep (fun _ _ _=>rfl) (fun b _ q=>⟨by have:=q.1;omega,by intro e;simp only[Value.ownBlock,Option.some.injEq] at e;exact q.2.2 e.symm⟩)) bx ox _ rfl hxr (by decide) (by omega) ?_
            intro ad5 k5 w12 ho5 hb5 hg5 hn5
            refine hK.out _ _ (fun _=>(U HTq).va.keep (hg5 b3 (ltX (U HTq).va.1) (by intro e;simp only[Value.ownBlock,Option.some.injEq] at e;exact (U HBO).1 e))) (fun hHeld2=>?_)
            clear hK K hHeld
            have hHeld:=hHeld2 (by decide)
            clear hHeld2
            try simp only[put,sA,sB,sC]
            have hkk:∀ (N:List Value) (E:Ex),ExM w10 (fun b=>w.heap.size < b∧b ≠ b3∧b ≠ bO) N E→ExM w12 (fun b=>w.heap.size < b∧b ≠ b3) N E:=fun N E h=>h.keep (fun b q hl=>hg5 b hl (by intro e;simp only[Value.ownBlock,Option.some.injEq] at e;exact q.2.2 e.symm)) (fun b _ q=>⟨q.1,q.2.1⟩)
            have HSF:Hid (SlAt w12 (fun b=>w.heap.size < b∧b ≠ b3) (.slice ad5 (1+Xs.length) k5) (Fo.cons a.1 a.2 r.1)):=by
             have h:=ho5.sliceQ (Q:=(fun b=>w.heap.size < b∧b ≠ b3)) (fun y hy=>by
              rcases List.mem_append.1 hy with hy | hy
              · rw [List.mem_singleton.1 hy];exact hkk _ _ (U HA)
              · exact hkk _ _ (hxx y hy)) (fun g hg=>by
              rcases hn5 with e | e
              · rw [hg] at e;simp only[Value.ownBlock,Option.some.injEq] at e;subst e;exact ⟨(U HBO).2,(U HBO).1⟩
              · rw [hg] at e;simp only[Option.some.injEq] at e;subst e;exact ⟨by omega,by have:=ltX (U HTq).va.1;omega⟩)
             rw [U HKL,← hXs,← toFo_foE]
             exact h
            have hrv5:=(U HTq).rv.own hb5 (U HNE).2.2 (U HBT)
            have hva5:=(U HTq).va.keep (hg5 b3 (ltX (U HTq).va.1) (by intro e;simp only[Value.ownBlock,Option.some.injEq] at e;exact (U HBO).1 e))
            clear hkk hg5 hn5 ho5 hb5
            obtain ⟨M5,hM5⟩:∃ M5:List Value,M5=ndC ⟨5,0,0,0,[],[],[],0,0⟩ (.slice ad5 (1+Xs.length) k5):=⟨_,rfl⟩
            have eM5:M5.toArray=#[.int .i64 5,.int .i64 0,.int .i64 0,.int .i64 0,.string ⟨#[]⟩,.string ⟨#[]⟩,.string ⟨#[]⟩,.slice ad5 (1+Xs.length) k5,.int .i64 0,.int .i64 0]:=by rw [hM5];rfl
            have hlM5:M5.length=10:=by rw [hM5];rfl
            refine lu 5 49 (.agg M5.toArray) rfl (Or.inl ⟨by rfl,?_⟩) hHeld ?_
            · (intro w' hSw;rw [eM5];go_simp)
            simp only[put,sA,sB,sC]
            have HX5:Hid (ExM w12 (fun b=>w.heap.size < b∧b ≠ b3) M5 ((⟨5,0,0,0,[],[],[],0,0⟩,Fo.cons a.1 a.2 r.1):Ex)):=⟨_,hM5,U HSF⟩
            have HRV5:=V hrv5
            have HVA5:=V hva5
            refine last_one (i:=6) (by kernel_rfl) rfl (fun K hK=>?_)
            have hz10:M5.toArray.size=10:=by simpa using (U HX5).len
            rw [if_pos (by rfl)]
            refine wp_store_mid 29 (.tmp 3) (.tmp 49) rfl b3 0 M5.toArray rfl rfl (by rw [hz10];exact (U HVA5).there) (by rw [hz10];exact sizeEx) (all_oneCell_toArray (U HX5).one) ?_
            refine hK.out _ _ (fun h=>absurd rfl h) (fun _=>?_)
            clear hK K hHeld
            try simp only[put,sA,sB,sC]
            refine last_done (by kernel_rfl) ?_ _
            have HT17:=V (ts_set (U HRV5) (U HVA5) (U HBP).1 (U HBP).2 (U HX5) (by have h1:=(U HBP).2;have h2:=U HBT;omega))
            clear hM5 eM5
            obtain ⟨w17,hw17⟩:∃ w17,w17=w12.setCells b3 0 M5:=⟨_,rfl⟩
            rw [← hw17] at HT17
            rw [← hw17]
            clear hw17
            go_upto_region 28 with (go_at_call 180;refine (close_any hT (U HT17).rv.px [41]).mono ?_;rintro e w18 ⟨rfl,hp1,hf1⟩;have HT18:=V ((U HT17).move hp1 hf1 (U HNE).2.2);clear hp1 hf1 HT17)
            have hst:=(U HT18).rv.out.storeC hlM5 (U HT18).ex.one
            refine wp_region_list ?_
            refine wpList_load_mid rfl 29 (.tmp 3) rfl b3 0 rfl M5 _ (U HT18).va.range Tryz.underlying29 rfl (by rw [hlM5];exact sizeEx) ?_
            go_wp2_with fail
            have HX:Hid (ExM w18 (fun b=>w.heap.size < b) M5 ((⟨5,0,0,0,[],[],[],0,0⟩,Fo.cons a.1 a.2 r.1):Ex)):=(U HT18).ex.keep (fun _ _ _=>rfl) (fun b _ q=>q.1)
            have HV18:=V (U HT18).rv
            obtain ⟨h1,h2⟩:=(U HV18).done (S0:=S) (U HX) (U HMF) (U HNE).1 (U HNE).2.1
            exact bodyPost_ret (h1.result rfl _ rfl) rfl (by rw [U HPP,U HEQ];exact h2)
      | false=>
       cases hk5:isS T 2 [66,69,84,87,69,69,78] S1 with
       | true=>
        skip
        as_aux_lemma=>
         have HT3:=HTG
         have HW1:=V hi
         have MHW1:Hid (mayS T 2 [73,83] S1=S1):=by show mayS T 2 [73,83] S1=_;unfold mayS;rw [hi];rfl
         have HW2:=V hj
         have MHW2:Hid (mayS T 2 [78,79,84] S1=S1):=by show mayS T 2 [78,79,84] S1=_;unfold mayS;rw [hj];rfl
         have HW3:=V hk3
         have MHW3:Hid (mayS T 2 [73,78] S1=S1):=by show mayS T 2 [73,78] S1=_;unfold mayS;rw [hk3];rfl
         have HW4:=V hk5
         have MHW4:Hid (mayS T 2 [66,69,84,87,69,69,78] S1=nextS T S1):=by show mayS T 2 [66,69,84,87,69,69,78] S1=_;unfold mayS;rw [hk5];rfl
         have HEQ:Hid (testS T sub3 sub7 n S=((binE 17 (binE 10 a (sub3 (nextS T S1)).1) (binE 8 a (sub3 (mustS T 2 [65,78,68] (sub3 (nextS T S1)).2)).1)),(sub3 (mustS T 2 [65,78,68] (sub3 (nextS T S1)).2)).2)):=by
          show testS T sub3 sub7 n S=_
          rw [U HEN]
          unfold testN
          rw [if_neg (by rw [hi];decide)]
          dsimp only
          rw [U MHW2,hj,hk3,hk5]
          rfl
         have HB7:Hid (muS T (nextS T S1) ≤ B):=by
          have h1:=muS_nle T S1
          have h2:=muS_nle T S1
          have h3:=U HM1
          have h4:=U HMU
          show _ ≤ _
          omega
         clear hi hj hk3 hk5 HTG HEN
         go_upto_region 21 with (first | (go_at_call 143;refine (may_any hT (U HT3).rv.px [73,83]).mono ?_;rw [U HW1];rintro e w4 ⟨rfl,hp1,hf1⟩;rw [U MHW1] at hp1;have HT4:=V ((U HT3).move hp1 hf1 (U HNE).2.2);clear hp1 hf1 HT3) | (go_at_call 143;refine (may_any hT (U HT4).rv.px [78,79,84]).mono ?_;rw [U HW2];rintro e w5 ⟨rfl,hp1,hf1⟩;rw [U MHW2] at hp1;have HT5:=V ((U HT4).move hp1 hf1 (U HNE).2.2);clear hp1 hf1 HT4) | (go_at_call 143;refine (may_any hT (U HT5).rv.px [73,78]).mono ?_;rw [U HW3];rintro e w6 ⟨rfl,hp1,hf1⟩;rw [U MHW3] at hp1;have HT6:=V ((U HT5).move hp1 hf1 (U HNE).2.2);clear hp1 hf1 HT5) | (go_at_call 143;refine (may_any hT (U HT6).rv.px [66,69,84,87,69,69,78]).mono ?_;rw [U HW4];rintro e w7 ⟨rfl,hp1,hf1⟩;rw [U MHW4] at hp1;have HT7:=V ((U HT6).move hp1 hf1 (U HNE).2.2);clear hp1 hf1 HT6) | (go_at_call 219;refine ((U HT7).rv.call h3 (U HB7) (U HNE).2.2).mono ?_;rintro e w8 ⟨L,rfl,hx,hv,hf,hm⟩;have hlL:=hx.len;have HXL:=V (hx.keep (Q':=fun b=>w.heap.size < b∧b ≠ b3) (fun _ _ _=>rfl) (fun b _ q=>by have h1:=ltX (U HT7).va.1;have h2:=(U HT7).b3b;exact ⟨by omega,by omega⟩));have HT8:=V ((U HT7).moveR hv hf (U HNE).2.2);have HML:=V hm;have HFL:=V hf;have hstL:=hv.out.storeC hx.len hx.one;have hsnL:=storeNew w8 hx.len hx.one;unfold zL at hsnL;clear hx hv hf hm))
         have HT9:=V ((U HT8).below (alX (Below.refl _ _) (.cells L.toArray 29)))
         have HVL:=V (VrX.new w8 hlL)
         have HXLn:=V ((U HXL).below (alX (Below.refl _ _) (.cells L.toArray 29)))
         have HFAL:=V (FrX.of_below (p:=p) (alX (Below.refl _ _) (.cells L.toArray 29):Below w8.heap.size w8 _))
         have hloL:=Nat.lt_trans (U HT8).b3b (ltX (U HT8).va.1)
         have hneL:=Nat.ne_of_gt (ltX (U HT8).va.1)
         obtain ⟨w9,hw9⟩:∃ w9,w9=w8.alloc (.cells L.toArray 29):=⟨_,rfl⟩
         obtain ⟨bL,hbL⟩:∃ bL,bL=w8.heap.size:=⟨_,rfl⟩
         rw [← hw9] at HT9 HXLn HFAL
         rw [← hw9,← hbL] at HVL
         rw [← hbL] at hloL hneL
         rw [← hw9,← hbL]
         clear hstL hsnL hw9 hbL
         have HB10:Hid (muS T (mustS T 2 [65,78,68] (sub3 (nextS T S1)).2) ≤ B):=by
          have h1:=muS_must T 2 [65,78,68] (sub3 (nextS T S1)).2
          have h2:=U HML
          have h3:=U HB7
          show _ ≤ _
          omega
         go_upto_region 23 with (first | (go_at_call 146;refine (must_any hT (U HT9).rv.px [65,78,68]).mono ?_;rintro e w10 ⟨rfl,hp1,hf1⟩;have HVL10:=V ((U HVL).keep (hf1.blk bL (ltX (U HVL).1) (by have:=(U HNE).2.2;omega)));have HXL10:=V ((U HXLn).keep (fun b hq hl=>hf1.blk b hl (by have:=(U HNE).2.2;have:=hq.1;omega)) (fun _ _ h=>h));have HT10:=V ((U HT9).move hp1 hf1 (U HNE).2.2);clear hp1 hf1 HT9) | (go_at_call 219;refine ((U HT10).rv.call h3 (U HB10) (U HNE).2.2).mono ?_;rintro e w11 ⟨H,rfl,hx,hv,hf,hm⟩;have hlH:=hx.len;have HXH:=V (hx.keep (Q':=fun b=>w.heap.size < b∧b ≠ b3) (fun _ _ _=>rfl) (fun b _ q=>by have h1:=ltX (U HT10).va.1;have h2:=(U HT10).b3b;exact ⟨by omega,by omega⟩));have HT11:=V ((U HT10).moveR hv hf (U HNE).2.2);have HMH:=V hm;have HFH:=V hf;have hstH:=hv.out.storeC hx.len hx.one;have hsnH:=storeNew w11 hx.len hx.one;unfold zL at hsnH;clear hx hv hf hm))
         have HT12:=V ((U HT11).below (alX (Below.refl _ _) (.cells H.toArray 29)))
         have HVH:=V (VrX.new w11 hlH)
         have HXHn:=V ((U HXH).below (alX (Below.refl _ _) (.cells H.toArray 29)))
         have HFAH:=V (FrX.of_below (p:=p) (alX (Below.refl _ _) (.cells H.toArray 29):Below w11.heap.size w11 _))
         have hloH:=Nat.lt_trans (U HT11).b3b (ltX (U HT11).va.1)
         have hneH:=Nat.ne_of_gt (ltX (U HT11).va.1)
         obtain ⟨w12,hw12⟩:∃ w12,w12=w11.alloc (.cells H.toArray 29):=⟨_,rfl⟩
         obtain ⟨bH,hbH⟩:∃ bH,bH=w11.heap.size:=⟨_,rfl⟩
         rw [← hw12] at HT12 HXHn HFAH
         rw [← hw12,← hbH] at HVH
         rw [← hbH] at hloH hneH
         rw [← hw12,← hbH]
         clear hstH hsnH hw12 hbH
         have HF12:=V (((U HFH).trans (U HFAH)).drew)
         have HVL12:Hid (VrX w12.drew bL L):=(U HVL10).keep ((U HF12).blk bL (ltX (U HVL10).1) (by have:=(U HNE).2.2;omega))
         have HXL12:Hid (ExM w12.drew (fun b=>w.heap.size < b∧b ≠ b3) L (sub3 (nextS T S1)).1):=(U HXL10).keep (fun b hq hl=>(U HF12).blk b hl (by have:=(U HNE).2.2;have:=hq.1;omega)) (fun _ _ h=>h)
         have HVH12:Hid (VrX w12.drew bH H):=U HVH
         have HXH12:Hid (ExM w12.drew (fun b=>w.heap.size < b∧b ≠ b3) H (sub3 (mustS T 2 [65,78,68] (sub3 (nextS T S1)).2)).1):=(U HXHn).below (Below.refl _ _).drew
         have HT13:Hid (TS T p bt c w.heap.size b3 w w12.drew (sub3 (mustS T 2 [65,78,68] (sub3 (nextS T S1)).2)).2 M a):=(U HT12).drew
         refine wp_region_last 7 (fun w'=>VrX w' b3 M∧VrX w' bL L∧VrX w' bH H) (by kernel_rfl) ⟨(U HT13).va,U HVL12,U HVH12⟩ (fun hHeld=>?_)
         refine lu 0 61 (.agg M.toArray) rfl (yieldsIf_load_mid (by rfl) 29 (.tmp 3) rfl b3 0 rfl M _ (fun w hw=>hw.1.range) Tryz.underlying29 rfl (by rw [hlM];exact sizeEx)) hHeld ?_
         simp only[put,sA,sB,sC]
         refine lu 1 62 (.agg L.toArray) rfl (yieldsIf_load_mid (by rfl) 29 (.tmp 8) rfl bL 0 rfl L _ (fun w hw=>hw.2.1.range) Tryz.underlying29 rfl (by rw [hlL];exact sizeEx)) hHeld ?_
         simp only[put,sA,sB,sC]
         refine lu 3 64 (.agg M.toArray) rfl (yieldsIf_load_mid (by rfl) 29 (.tmp 3) rfl b3 0 rfl M _ (fun w hw=>hw.1.range) Tryz.underlying29 rfl (by rw [hlM];exact sizeEx)) hHeld ?_
         simp only[put,sA,sB,sC]
         refine lu 4 65 (.agg H.toArray) rfl (yieldsIf_load_mid (by rfl) 29 (.tmp 9) rfl bH 0 rfl H _ (fun w hw=>hw.2.2.range) Tryz.underlying29 rfl (by rw [hlH];exact sizeEx)) hHeld ?_
         simp only[put,sA,sB,sC]
         refine last_one (i:=2) (by kernel_rfl) rfl (fun K hK=>?_)
         go_simp
         (go_at_call 184;refine (binary_any 10 M L a _ (fun b=>w.heap.size < b∧b ≠ b3) _ ((U HT13).ex) (U HXL12)).mono ?_;rintro e w14 ⟨R1,rfl,hx6,hb6⟩;have HR1:=V (hx6.keep (Q':=(fun b=>w.heap.size < b∧b ≠ b3)) (fun _ _ _=>rfl) (fun b _ q=>by rcases q with q | q;(exact q);(have h1:=ltX (U HT13).va.1;have h2:=(U HT13).b3b;exact ⟨by omega,by omega⟩)));have HT14:=V ((U HT13).below hb6);have hlR1:=hx6.len;have HVL14:=V ((U HVL12).below hb6);have HVH14:=V ((U HVH12).below hb6);have HXH14:=V ((U HXH12).below hb6);clear hx6 hb6)
         go_wp2_with fail
         refine hK.out _ _ (fun _=>⟨(U HT14).va,U HVL14,U HVH14⟩) (fun hHeld2=>?_)
         clear hK K hHeld
         have hHeld:=hHeld2 (by decide)
         clear hHeld2
         try simp only[put,sA,sB,sC]
         refine last_one (i:=5) (by kernel_rfl) rfl (fun K hK=>?_)
         go_simp
         (go_at_call 184;refine (binary_any 8 M H a _ (fun b=>w.heap.size < b∧b ≠ b3) _ ((U HT14).ex) (U HXH14)).mono ?_;rintro e w15 ⟨R2,rfl,hx6,hb6⟩;have HR2:=V (hx6.keep (Q':=(fun b=>w.heap.size < b∧b ≠ b3)) (fun _ _ _=>rfl) (fun b _ q=>by rcases q with q | q;(exact q);(have h1:=ltX (U HT14).va.1;have h2:=(U HT14).b3b;exact ⟨by omega,by omega⟩)));have HT15:=V ((U HT14).below hb6);have hlR2:=hx6.len;have HVL15:=V ((U HVL14).below hb6);have HVH15:=V ((U HVH14).below hb6);have HR1n:=V ((U HR1).below hb6);clear hx6 hb6)
         go_wp2_with fail
         refine hK.out _ _ (fun _=>⟨(U HT15).va,U HVL15,U HVH15⟩) (fun hHeld2=>?_)
         clear hK K hHeld
         have hHeld:=hHeld2 (by decide)
         clear hHeld2
         try simp only[put,sA,sB,sC]
         refine last_one (i:=6) (by kernel_rfl) rfl (fun K hK=>?_)
         go_simp
         (go_at_call 184;refine (binary_any 17 R1 R2 _ _ (fun b=>w.heap.size < b∧b ≠ b3) _ ((U HR1n)) (U HR2)).mono ?_;rintro e w16 ⟨R3,rfl,hx6,hb6⟩;have HR3:=V (hx6.keep (Q':=(fun b=>w.heap.size < b∧b ≠ b3)) (fun _ _ _=>rfl) (fun b _ q=>by rcases q with q | q;(exact q);(have h1:=ltX (U HT15).va.1;have h2:=(U HT15).b3b;exact ⟨by omega,by omega⟩)));have HT16:=V ((U HT15).below hb6);have hlR3:=hx6.len;have HVL16:=V ((U HVL15).below hb6);have HVH16:=V ((U HVH15).below hb6);clear hx6 hb6)
         go_wp2_with fail
         refine hK.out _ _ (fun _=>⟨(U HT16).va,U HVL16,U HVH16⟩) (fun hHeld2=>?_)
         clear hK K hHeld
         have hHeld:=hHeld2 (by decide)
         clear hHeld2
         try simp only[put,sA,sB,sC]
         refine last_one (i:=7) (by kernel_rfl) rfl (fun K hK=>?_)
         have hz10:R3.toArray.size=10:=by simpa using (U HR3).len
         rw [if_pos (by rfl)]
         refine wp_store_mid 29 (.tmp 3) (.tmp 67) rfl b3 0 R3.toArray rfl rfl (by rw [hz10];exact (U HT16).va.there) (by rw [hz10];exact sizeEx) (all_oneCell_toArray (U HR3).one) ?_
         refine hK.out _ _ (fun h=>absurd rfl h) (fun _=>?_)
         clear hK K hHeld
         try simp only[put,sA,sB,sC]
         refine last_done (by kernel_rfl) ?_ _
         have HT17:=V ((U HT16).set (U HR3) (by have h1:=(U HT16).b3b;have h2:=U HBT;omega))
         have HMF:Hid (muS T (sub3 (mustS T 2 [65,78,68] (sub3 (nextS T S1)).2)).2 ≤ muS T S):=by
          have h1:=U HMH
          have h2:=muS_must T 2 [65,78,68] (sub3 (nextS T S1)).2
          have h3:=U HML
          have h4:=muS_nle T S1
          have h5:=muS_nle T S1
          have h6:=U HM1
          show _ ≤ _
          omega
         obtain ⟨w17,hw17⟩:∃ w17,w17=w16.setCells b3 0 R3:=⟨_,rfl⟩
         rw [← hw17] at HT17
         rw [← hw17]
         clear hw17
         go_upto_region 28 with fail
         have hst:=(U HT17).rv.out.storeC hlR3 (U HT17).ex.one
         refine wp_region_list ?_
         refine wpList_load_mid rfl 29 (.tmp 3) rfl b3 0 rfl R3 _ (U HT17).va.range Tryz.underlying29 rfl (by rw [hlR3];exact sizeEx) ?_
         go_wp2_with fail
         have HX:Hid (ExM w17 (fun b=>w.heap.size < b) R3 (binE 17 (binE 10 a (sub3 (nextS T S1)).1) (binE 8 a (sub3 (mustS T 2 [65,78,68] (sub3 (nextS T S1)).2)).1))):=(U HT17).ex.keep (fun _ _ _=>rfl) (fun b _ q=>q.1)
         have HV17:=V (U HT17).rv
         obtain ⟨h1,h2⟩:=(U HV17).done (S0:=S) (U HX) (U HMF) (U HNE).1 (U HNE).2.1
         exact bodyPost_ret (h1.result rfl _ rfl) rfl (by rw [U HPP,U HEQ];exact h2)
       | false=>
        skip
        as_aux_lemma=>
         have HT3:=HTG
         have HW1:=V hi
         have MHW1:Hid (mayS T 2 [73,83] S1=S1):=by show mayS T 2 [73,83] S1=_;unfold mayS;rw [hi];rfl
         have HW2:=V hj
         have MHW2:Hid (mayS T 2 [78,79,84] S1=S1):=by show mayS T 2 [78,79,84] S1=_;unfold mayS;rw [hj];rfl
         have HW3:=V hk3
         have MHW3:Hid (mayS T 2 [73,78] S1=S1):=by show mayS T 2 [73,78] S1=_;unfold mayS;rw [hk3];rfl
         have HW4:=V hk5
         have MHW4:Hid (mayS T 2 [66,69,84,87,69,69,78] S1=S1):=by show mayS T 2 [66,69,84,87,69,69,78] S1=_;unfold mayS;rw [hk5];rfl
         have HEQ:Hid (testS T sub3 sub7 n S=(a,S1)):=by
          show testS T sub3 sub7 n S=_
          rw [U HEN]
          unfold testN
          rw [if_neg (by rw [hi];decide)]
          dsimp only
          rw [U MHW2,hj,hk3,hk5]
          rfl
         have HMF:Hid (muS T S1 ≤ muS T S):=HM1
         clear hi hj hk3 hk5 HTG HEN
         go_upto_region 28 with (first | (go_at_call 143;refine (may_any hT (U HT3).rv.px [73,83]).mono ?_;rw [U HW1];rintro e w4 ⟨rfl,hp1,hf1⟩;rw [U MHW1] at hp1;have HT4:=V ((U HT3).move hp1 hf1 (U HNE).2.2);clear hp1 hf1 HT3) | (go_at_call 143;refine (may_any hT (U HT4).rv.px [78,79,84]).mono ?_;rw [U HW2];rintro e w5 ⟨rfl,hp1,hf1⟩;rw [U MHW2] at hp1;have HT5:=V ((U HT4).move hp1 hf1 (U HNE).2.2);clear hp1 hf1 HT4) | (go_at_call 143;refine (may_any hT (U HT5).rv.px [73,78]).mono ?_;rw [U HW3];rintro e w6 ⟨rfl,hp1,hf1⟩;rw [U MHW3] at hp1;have HT6:=V ((U HT5).move hp1 hf1 (U HNE).2.2);clear hp1 hf1 HT5) | (go_at_call 143;refine (may_any hT (U HT6).rv.px [66,69,84,87,69,69,78]).mono ?_;rw [U HW4];rintro e w7 ⟨rfl,hp1,hf1⟩;rw [U MHW4] at hp1;have HT7:=V ((U HT6).move hp1 hf1 (U HNE).2.2);clear hp1 hf1 HT6))
         have hst:=(U HT7).rv.out.storeC hlM (U HT7).ex.one
         refine wp_region_list ?_
         refine wpList_load_mid rfl 29 (.tmp 3) rfl b3 0 rfl M _ (U HT7).va.range Tryz.underlying29 rfl (by rw [hlM];exact sizeEx) ?_
         go_wp2_with fail
         have HX:Hid (ExM w7 (fun b=>w.heap.size < b) M a):=(U HT7).ex.keep (fun _ _ _=>rfl) (fun b _ q=>q.1)
         have HV7:=V (U HT7).rv
         obtain ⟨h1,h2⟩:=(U HV7).done (S0:=S) (U HX) (U HMF) (U HNE).1 (U HNE).2.1
         exact bodyPost_ret (h1.result rfl _ rfl) rfl (by rw [U HPP,U HEQ];exact h2)
end Go.Proofs.YtpnonhjmpnbmcaaGreatDoor
