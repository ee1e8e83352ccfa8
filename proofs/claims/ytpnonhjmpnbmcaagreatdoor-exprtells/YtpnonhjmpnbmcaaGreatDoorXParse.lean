/- The document's Parse of a statement that begins with DELETE. -/
import Derived.Test.YtpnonhjmpnbmcaaGreatDoorJXPar15XPar16XStm
namespace Go.Proofs.YtpnonhjmpnbmcaaGreatDoor
open Go.RowKit Go.Lib
open Act (put)
set_option linter.unusedSimpArgs false
set_option linter.unusedVariables false
set_option maxHeartbeats 12800000
set_option maxRecDepth 100000
def doneP (T:List Tk) (S:PS):PS:=let S1:=mayS T 5 [59] S;if S1.err=0∧(tkS T S1).kind ≠ 0 then failS T 1 S1 else S1
/-- The condition of a DELETE; nothing, if it can't be read. -/
def parseW (T:List Tk):Ex:=let r:=deleteP T ⟨0,0,0,0⟩;if (doneP T r.2.2).err=0 then r.2.1 else exZ
def whereL (l:List UInt8):Ex:=match lexL l 0 with
 | .error _=>exZ
 | .ok ts=>parseW (ts ++ [⟨0,[],l.length⟩])
theorem res3X {fn:Func} {p u x:Tmp} {ty:TypeId} (h:fn.results=#[.cell p ty,.tmp u,.tmp x]) (tmps:Array Value) (P:Program) (w:World) :
 (results fn tmps).run P w=((asAddr (tmps.getD p undef)).run P w).andThen fun a w₁=>((loadVar ty a).run P w₁).andThen fun v w₂=>.ok (.tuple #[v,tmps.getD u undef,tmps.getD x undef]) w₂:=by
 simp only[results,h]
 simp [Sem.run_bind,Result.andThen]
theorem VrS.result3 {fn:Func} {p u x:Tmp} {w:World} {b:Nat} {D:List Value} (h:VrS w b D) (hf:fn.results=#[.cell p 72,.tmp u,.tmp x]) (tmps:Array Value) (ht:tmps.getD p undef=.pointer (some ⟨b,0,none⟩)):(results fn tmps).run Tryz.prog w=.ok (.tuple #[.agg D.toArray,tmps.getD u undef,tmps.getD x undef]) w:=by
 rw [res3X hf,ht]
 simp only[asAddr,Sem.run_pure,Result.andThen_ok]
 rw [run_loadVar_mid w b 0 72 D _ h.range Tryz.underlying72 rfl (by rw [h.len];exact sizeSt)]
 simp only[Result.andThen_ok]
theorem setCells_low {w w':World} (h:Below w.heap.size w w') (vs:List Value):Below w.heap.size w (w'.setCells w.heap.size 0 vs):=by
 obtain ⟨e1,e2,e3,e4⟩:=setCells_env w.heap.size vs 0 w'
 exact ⟨e1.trans h.os,e2.trans h.tape,e3.trans h.output,by rw [e4];exact h.size,fun b hb=>(setCells_heap w.heap.size vs 0 w' b (by omega)).trans (h.block b hb)⟩
theorem tkAt_lt {w:World} {b:Nat} {T:List Tk} (h:TkAt w b T) (hT:T ≠ []):b < w.heap.size:=by
 cases T with
 | nil=>exact absurd rfl hT
 | cons t T=>exact World.block_lt_of_cell? w _ (h 0 t rfl 0 _ rfl)
/-- What Parse has between its calls. -/
structure PA (T:List Tk) (p bt c b2 b9:Nat) (w wr:World) (S:PS) (nm:List UInt8) (M:List Value) (E:Ex):Prop where
 out:VrS wr b2 (stC 0 [] zL)
 var:VrS wr b9 (stC 7 nm M)
 ex:ExM wr (fun b=>b2 < b∧b ≠ b9∧b ≠ p) M E
 px:PX T wr p bt c S
 low:Below b2 w wr
 b2p:b2=w.heap.size
 hp:b2 < p
 hb9:p < b9
 ht:b2 < bt
theorem PA.move {T:List Tk} {p bt c b2 b9:Nat} {w wr w':World} {S S':PS} {nm:List UInt8} {M:List Value} {E:Ex} (h:PA T p bt c b2 b9 w wr S nm M E) (hp:PX T w' p bt c S') (hf:FrX p wr w'):PA T p bt c b2 b9 w w' S' nm M E:=by
 have h1:=h.hp
 have h2:=h.hb9
 have h3:=h.b2p
 subst h3
 exact ⟨h.out.keep (hf.blk _ (ltX h.out.blk) (by omega)),h.var.keep (hf.blk b9 (ltX h.var.blk) (by omega)),h.ex.keep (fun b q hl=>hf.blk b hl q.2.2) (fun _ _ q=>q),hp,hf.below h.low (by omega),rfl,h1,h2,h.ht⟩
theorem PA.drewN {T:List Tk} {p bt c b2 b9:Nat} {w wr:World} {S:PS} {nm:List UInt8} {M:List Value} {E:Ex} (h:PA T p bt c b2 b9 w wr S nm M E) (m:Nat):PA T p bt c b2 b9 w (wr.drewN m) S nm M E:=
 h.move (h.px.drewN m) ((FrX.refl p wr).drewN m)
theorem PA.drew {T:List Tk} {p bt c b2 b9:Nat} {w wr:World} {S:PS} {nm:List UInt8} {M:List Value} {E:Ex} (h:PA T p bt c b2 b9 w wr S nm M E):PA T p bt c b2 b9 w wr.drew S nm M E:=
 h.move h.px.drew (FrX.refl p wr).drew
def PaP (l:List UInt8) (w:World) (e:Ending) (w':World):Prop:=
 ∃ (k:Int) (nm:List UInt8) (M:List Value) (a b:Int),e=.returned (.tuple #[.agg (stC k nm M).toArray,.int .i64 a,.int .i64 b])∧ExM w' (fun b=>w.heap.size ≤ b) M (whereL l)∧Below w.heap.size w w'
theorem parse_any (l:List UInt8) (w:World) (hl:l.length ≤ 2000) (hD:∀ ts,lexL l 0=.ok ts→isS (ts ++ [(⟨0,[],l.length⟩:Tk)]) 2 [68,69,76,69,84,69] ⟨0,0,0,0⟩=true) :
 Calls Tryz.prog 43 #[sv l] w (PaP l w):=by
 have hbig:¬ 2000 < l.length:=by omega
 obtain ⟨PP,hPP⟩:∃ PP,PP=PaP l w:=⟨_,rfl⟩
 have HPP:=V hPP
 rw [← hPP]
 clear hPP
 cases hR:lexL l 0 with
 | error pl=>
  have HW:Hid (whereL l=exZ):=by show whereL l=_;unfold whereL;rw [hR]
  clear hD
  go_enter Tryz.func43,Tryz.ntmps43
  go_upto_region 1 with fail
  as_aux_lemma=>
   refine wp_region_list ?_
   refine lt 11 (sv l) ?_
   refine list_call rfl (some 12) rfl 93 #[sv l] (by kernel_rfl) (tokens_any l (w.alloc (.cells (stC 0 [] zL).toArray 72))) ?_
   rintro e w1 h
   unfold TokP at h
   rw [if_neg hbig,hR] at h
   obtain ⟨rfl,hb1⟩:=h
   refine ⟨_,rfl,?_⟩
   simp only[put,sA,sB,sC]
   have HB:=V (trX (alX (Below.refl _ _) (.cells (stC 0 [] zL).toArray 72)) hb1)
   have HO:=V ((VrS.new w (D:=(stC 0 [] zL)) rfl).below hb1)
   clear hb1 hR
   refine lt 10 (.tuple #[.slice none 0 0,.int .i64 (pl:Int),.int .i64 1]) ?_
   refine lt 13 (.slice none 0 0) ?_
   refine lt 14 (.int .i64 (pl:Int)) ?_
   refine lt 15 (.int .i64 1) ?_
   refine lt 5 (.slice none 0 0) ?_
   refine lt 6 (.int .i64 (pl:Int)) ?_
   refine lt 7 (.int .i64 1) ?_
   simp only[put,sA,sB,sC]
   go_upto_region 3 with fail
   refine wp_region_list ?_
   refine lt 18 (.agg (stC 0 [] zL).toArray) ?_
   refine lt 19 (.int .i64 (pl:Int)) ?_
   refine lt 20 (.int .i64 1) ?_
   simp only[put,sA,sB,sC]
   refine wpList_store_mid rfl 72 (.tmp 2) (.tmp 18) rfl w.heap.size 0 (stC 0 [] zL).toArray rfl rfl ((U HO).there 0 37 (by decide)) sizeSt (all_oneCell_toArray (stC_one (by decide))) ?_
   show wpList _ _ _ _ _ (w1.setCells w.heap.size 0 (stC 0 [] zL))
   refine lt 3 (.int .i64 (pl:Int)) ?_
   refine lt 4 (.int .i64 1) ?_
   simp only[put,sA,sB,sC]
   go_wp2_with fail
   have hs:=(U HO).set (D':=(stC 0 [] zL)) rfl
   have hb:=setCells_low (U HB) (stC 0 [] zL)
   refine bodyPost_ret (hs.result3 rfl _ rfl) rfl ?_
   rw [U HPP]
   refine ⟨0,[],zL,(pl:Int),1,rfl,?_,hb⟩
   rw [U HW]
   exact ⟨.slice none 0 0,rfl,.inl ⟨rfl,0,rfl⟩⟩
 | ok ts=>
  go_enter Tryz.func43,Tryz.ntmps43
  go_upto_region 1 with fail
  refine wp_region_list ?_
  refine lt 11 (sv l) ?_
  refine list_call rfl (some 12) rfl 93 #[sv l] (by kernel_rfl) (tokens_any l (w.alloc (.cells (stC 0 [] zL).toArray 72))) ?_
  rintro e w1 h
  unfold TokP at h
  rw [if_neg hbig,hR] at h
  obtain ⟨a,c,rfl,how⟩:=h
  obtain ⟨bt,rfl,htk,hbt,hlen⟩:=tkAt_of how (by simp)
  obtain ⟨T,hTe⟩:∃ T,T=ts ++ [(⟨0,[],l.length⟩:Tk)]:=⟨_,rfl⟩
  have hT:TG T:=by rw [hTe];exact tg_of hR (by omega)
  have HD:Hid (isS T 2 [68,69,76,69,84,69] ⟨0,0,0,0⟩=true):=by rw [hTe];exact hD ts hR
  rw [← hTe] at htk hlen
  rw [hlen]
  have hz0:(w.alloc (.cells (stC 0 [] zL).toArray 72)).heap.size=w.heap.size+1:=by simp
  have HB:=V (trX (alX (Below.refl _ _) (.cells (stC 0 [] zL).toArray 72)) how.low)
  have HO:=V ((VrS.new w (D:=(stC 0 [] zL)) rfl).below how.low)
  have HTK:=V htk
  have HBT:Hid (w.heap.size < bt∧bt < w1.heap.size):=⟨by omega,tkAt_lt htk (by rw [hTe];simp)⟩
  have HW2:Hid (whereL l=parseW T):=by
   show whereL l=_
   unfold whereL
   rw [hR,hTe]
  refine ⟨_,rfl,?_⟩
  simp only[put,sA,sB,sC]
  clear hR hTe how htk hbt hlen hz0
  refine lt 10 (.tuple #[.slice (some ⟨bt,0,none⟩) T.length c,.int .i64 0,.int .i64 0]) ?_
  refine lt 13 (.slice (some ⟨bt,0,none⟩) T.length c) ?_
  refine lt 14 (.int .i64 0) ?_
  refine lt 15 (.int .i64 0) ?_
  refine lt 5 (.slice (some ⟨bt,0,none⟩) T.length c) ?_
  refine lt 6 (.int .i64 0) ?_
  refine lt 7 (.int .i64 0) ?_
  simp only[put,sA,sB,sC]
  go_upto_region 5 with fail
  have HA0:Hid (PX T (w1.alloc (.cells #[.slice (some ⟨bt,0,none⟩) T.length c,.int .i64 0,.int .i64 0,.int .i64 0,.int .i64 0] 190)) w1.heap.size bt c ⟨0,0,0,0⟩):=
   ⟨heap_alloc_new _ _,(U HTK).keep (fun hl=>(alX (Below.refl _ _) (.cells #[.slice (some ⟨bt,0,none⟩) T.length c,.int .i64 0,.int .i64 0,.int .i64 0,.int .i64 0] 190)).block bt hl),by have:=(U HBT).2;omega,hT.pos,by decide,by decide,Nat.zero_le _⟩
  have HB2:=V (alX (U HB) (.cells #[.slice (some ⟨bt,0,none⟩) T.length c,.int .i64 0,.int .i64 0,.int .i64 0,.int .i64 0] 190))
  have HO2:=V ((U HO).below (alX (Below.refl _ _) (.cells #[.slice (some ⟨bt,0,none⟩) T.length c,.int .i64 0,.int .i64 0,.int .i64 0,.int .i64 0] 190)))
  have HP:Hid (w.heap.size < w1.heap.size):=ltX (U HO).blk
  have HZ:Hid (w1.heap.size < (w1.alloc (.cells #[.slice (some ⟨bt,0,none⟩) T.length c,.int .i64 0,.int .i64 0,.int .i64 0,.int .i64 0] 190)).heap.size):=by simp [Hid]
  obtain ⟨w2,hw2⟩:∃ w2,w2=w1.alloc (.cells #[.slice (some ⟨bt,0,none⟩) T.length c,.int .i64 0,.int .i64 0,.int .i64 0,.int .i64 0] 190):=⟨_,rfl⟩
  obtain ⟨p,hp⟩:∃ p,p=w1.heap.size:=⟨_,rfl⟩
  rw [← hw2] at HA0 HB2 HO2 HZ
  rw [← hw2]
  rw [← hp] at HA0 HBT HP HZ
  rw [← hp]
  clear hw2 hp HB HO HTK
  obtain ⟨r,hr⟩:∃ r,r=deleteP T ⟨0,0,0,0⟩:=⟨_,rfl⟩
  have HRR:=V hr.symm
  refine wp_region_list ?_
  refine lt 24 (.pointer (some ⟨p,0,none⟩)) ?_
  refine list_call rfl (some 25) rfl 94 #[.pointer (some ⟨p,0,none⟩)] (by kernel_rfl) (delete_any hT w2 ⟨0,0,0,0⟩ (U HA0) (U HD)) ?_
  rw [U HRR]
  rintro e w3 ⟨M,rfl,hx,hp3,hf3⟩
  refine ⟨_,rfl,?_⟩
  simp only[put,sA,sB,sC]
  refine list_new rfl 72 rfl (stC 0 [] zL).toArray (zero_of_info zeroSt).1 ?_
  simp only[put,sA,sB,sC]
  have hlM:=hx.len
  have hz37:(stC 7 r.1 M).toArray.size=37:=by simpa using stC_len hlM
  have hvn:=VrS.new w3 (D:=(stC 0 [] zL)) rfl
  have HA4:Hid (PA T p bt c w.heap.size w3.heap.size w ((w3.alloc (.cells (stC 0 [] zL).toArray 72)).setCells w3.heap.size 0 (stC 7 r.1 M)) r.2.2 r.1 M r.2.1):=by
   have h1:=U HP
   have h2:=U HZ
   have h3:=U HBT
   have h4:=hf3.size
   have h5:Below w3.heap.size w3 (w3.alloc (.cells (stC 0 [] zL).toArray 72)):=alX (Below.refl _ _) _
   obtain ⟨e1,e2,e3,e4⟩:=setCells_env w3.heap.size (stC 7 r.1 M) 0 (w3.alloc (.cells (stC 0 [] zL).toArray 72))
   have hk:∀ j,j < w3.heap.size→((w3.alloc (.cells (stC 0 [] zL).toArray 72)).setCells w3.heap.size 0 (stC 7 r.1 M)).heap[j]?=w3.heap[j]?:=fun j hj=>(setCells_heap w3.heap.size (stC 7 r.1 M) 0 _ j (by omega)).trans (h5.block j hj)
   have h6:=hf3.below (U HB2) (by omega)
   refine ⟨((U HO2).keep (hf3.blk _ (ltX (U HO2).blk) (by omega))).keep (hk _ (by omega)),hvn.set (stC_len hlM),?_,⟨(hk p (by omega)).trans hp3.blk,hp3.toks.keep (fun _=>hk bt (by omega)),hp3.ne,hp3.lt,hp3.dlo,hp3.dhi,hp3.err⟩,⟨e1.trans (h5.os.trans h6.os),e2.trans (h5.tape.trans h6.tape),e3.trans (h5.output.trans h6.output),by rw [e4];exact Nat.le_trans h6.size h5.size,fun j hj=>(hk j (by have:=h6.size;omega)).trans (h6.block j hj)⟩,rfl,h1,by omega,h3.1⟩
   exact hx.keep (fun b q hl=>hk b hl) (fun b hl q=>by omega)
  refine wpList_store_mid rfl 72 (.tmp 9) (.tmp 25) rfl w3.heap.size 0 (stC 7 r.1 M).toArray rfl rfl (by rw [hz37];exact hvn.there 0 37 (by decide)) (by rw [hz37];exact sizeSt) (all_oneCell_toArray (stC_one hx.one)) ?_
  show wpList _ _ _ _ _ ((w3.alloc (.cells (stC 0 [] zL).toArray 72)).setCells w3.heap.size 0 (stC 7 r.1 M))
  obtain ⟨b9,hb9⟩:∃ b9,b9=w3.heap.size:=⟨_,rfl⟩
  obtain ⟨w4,hw4⟩:∃ w4,w4=(w3.alloc (.cells (stC 0 [] zL).toArray 72)).setCells w3.heap.size 0 (stC 7 r.1 M):=⟨_,rfl⟩
  rw [← hw4] at HA4
  rw [← hw4]
  rw [← hb9] at HA4
  rw [← hb9]
  clear hw4 hb9 hvn hz37 hx hp3 hf3 HB2 HO2 HA0 hr
  simp only[put,sA,sB,sC]
  obtain ⟨S4,hS4⟩:∃ S4,S4=mayS T 5 [59] r.2.2:=⟨_,rfl⟩
  have HS4:=V hS4.symm
  have HW5:Hid (parseW T=if (doneP T r.2.2).err=0 then r.2.1 else exZ):=by show parseW T=_;unfold parseW;rw [U HRR]
  have HDO:Hid (doneP T r.2.2=if S4.err=0∧(tkS T S4).kind ≠ 0 then failS T 1 S4 else S4):=by show doneP T r.2.2=_;rw [hS4];rfl
  clear hS4
  go_upto_region 7 with (go_at_call 95;refine (maySign_any hT (U HA4).px [59]).mono ?_;rw [U HS4];rintro e w5 ⟨rfl,hp1,hf1⟩;have HA5:=V ((U HA4).move hp1 hf1);clear hp1 hf1)
  have HU:=V (fun m=>ok_any ((U HA5).px.drewN m))
  obtain ⟨c0,c1,c2,c3,c4⟩:=(U HA5).px.cells
  obtain ⟨t0,t1,t2⟩:=(U HA5).px.tok (U HA5).px.lt
  have hlt:(S4.i:Int) < (T.length:Int):=by have:=(U HA5).px.lt;omega
  have hTl:(T.length:Int) ≤ 3000:=by have:=hT.len;omega
  have hi0:(0:Int) ≤ (S4.i:Int):=by omega
  obtain ⟨tk,htk⟩:∃ tk,tk=T.getD S4.i ⟨0,[],0⟩:=⟨_,rfl⟩
  rw [← htk] at t0 t1 t2
  have HTKS:Hid (tkS T S4=tk):=htk.symm
  clear htk c2 c3 c4 t1 t2
  have HCL:=V (U HA5)
  cases he:(S4.err == 0) with
  | false=>
   have hne:¬ S4.err=0:=by simpa using he
   rw [he] at HU
   have HE5:=V he
   have HW:Hid (whereL l=exZ):=by
    show whereL l=_
    have hd:doneP T r.2.2=S4:=by rw [U HDO,if_neg (fun h=>hne h.1)]
    rw [U HW2,U HW5,hd,if_neg hne]
   obtain ⟨S5,hS5⟩:∃ S5,S5=S4:=⟨_,rfl⟩
   clear hne he
   go_quiet ((go_at_call 96;refine Calls.quiet_of_same (U HU _)))
   have HA6:=V ((U HA5).drewN nq)
   rw [← hS5] at HA6 HE5
   clear c0 c1 t0 hS5
   as_aux_lemma=>
    go_upto_region 10 with (go_at_call 96;refine (ok_any' (U HA6).px).mono ?_;rw [U HE5];rintro e w7 ⟨rfl,hp1,hf1⟩;have HA7:=V ((U HA6).move hp1 hf1);clear hp1 hf1)
    obtain ⟨c0,c1,c2,c3,c4⟩:=(U HA7).px.cells
    clear c0 c1 c2
    have HAD:=V (U HA7).drew
    refine wp_region_held_drew (S:=fun w'=>w'.cell? ⟨p,3,none⟩=some (.int .i64 (S5.at':Int))∧w'.cell? ⟨p,4,none⟩=some (.int .i64 (S5.err:Int))) (by kernel_rfl) ⟨c3,c4⟩ (fun hHeld=>?_)
    refine hand_to (i:=0) (d:=49) (v:=(.agg (stC 0 [] zL).toArray)) rfl rfl (by kernel_rfl) (by kernel_rfl) (by kernel_rfl) (fun _ _ _ h=>h) (Or.inl ⟨by rfl,?_⟩) hHeld ?_
    · (intro w' hSw;obtain ⟨hS3,hS4⟩:=hSw;kernel_rfl)
    simp only[put,sA,sB,sC]
    refine hand_to (i:=1) (d:=50) (v:=(.pointer (some ⟨p,0,none⟩))) rfl rfl (by kernel_rfl) (by kernel_rfl) (by kernel_rfl) (fun _ _ _ h=>h) (Or.inl ⟨by rfl,?_⟩) hHeld ?_
    · (intro w' hSw;obtain ⟨hS3,hS4⟩:=hSw;go_simp)
    simp only[put,sA,sB,sC]
    refine hand_to (i:=2) (d:=51) (v:=(.pointer (some ⟨p,0,none⟩))) rfl rfl (by kernel_rfl) (by kernel_rfl) (by kernel_rfl) (fun _ _ _ h=>h) (Or.inl ⟨by rfl,?_⟩) hHeld ?_
    · (intro w' hSw;obtain ⟨hS3,hS4⟩:=hSw;go_simp)
    simp only[put,sA,sB,sC]
    refine hand_to (i:=3) (d:=52) (v:=(.pointer (some ⟨p,3,none⟩))) rfl rfl (by kernel_rfl) (by kernel_rfl) (by kernel_rfl) (fun _ _ _ h=>h) (Or.inl ⟨by rfl,?_⟩) hHeld ?_
    · (intro w' hSw;obtain ⟨hS3,hS4⟩:=hSw;go_simp)
    simp only[put,sA,sB,sC]
    refine hand_to (i:=4) (d:=53) (v:=(.int .i64 (S5.at':Int))) rfl rfl (by kernel_rfl) (by kernel_rfl) (by kernel_rfl) (fun _ _ _ h=>h) (Or.inl ⟨by rfl,?_⟩) hHeld ?_
    · (intro w' hSw;obtain ⟨hS3,hS4⟩:=hSw;go_simp)
    simp only[put,sA,sB,sC]
    refine hand_to (i:=5) (d:=54) (v:=(.pointer (some ⟨p,0,none⟩))) rfl rfl (by kernel_rfl) (by kernel_rfl) (by kernel_rfl) (fun _ _ _ h=>h) (Or.inl ⟨by rfl,?_⟩) hHeld ?_
    · (intro w' hSw;obtain ⟨hS3,hS4⟩:=hSw;go_simp)
    simp only[put,sA,sB,sC]
    refine hand_to (i:=6) (d:=55) (v:=(.pointer (some ⟨p,0,none⟩))) rfl rfl (by kernel_rfl) (by kernel_rfl) (by kernel_rfl) (fun _ _ _ h=>h) (Or.inl ⟨by rfl,?_⟩) hHeld ?_
    · (intro w' hSw;obtain ⟨hS3,hS4⟩:=hSw;go_simp)
    simp only[put,sA,sB,sC]
    refine hand_to (i:=7) (d:=56) (v:=(.pointer (some ⟨p,4,none⟩))) rfl rfl (by kernel_rfl) (by kernel_rfl) (by kernel_rfl) (fun _ _ _ h=>h) (Or.inl ⟨by rfl,?_⟩) hHeld ?_
    · (intro w' hSw;obtain ⟨hS3,hS4⟩:=hSw;go_simp)
    simp only[put,sA,sB,sC]
    refine hand_to (i:=8) (d:=57) (v:=(.int .i64 (S5.err:Int))) rfl rfl (by kernel_rfl) (by kernel_rfl) (by kernel_rfl) (fun _ _ _ h=>h) (Or.inl ⟨by rfl,?_⟩) hHeld ?_
    · (intro w' hSw;obtain ⟨hS3,hS4⟩:=hSw;go_simp)
    simp only[put,sA,sB,sC]
    refine wpAnyH_ready (rs:=[9]) (by kernel_rfl) (by simp) ?_
    refine AllReadyH.cons rfl (fun K hK=>?_) AllReadyH.nil
    rw [if_pos (by rfl)]
    refine wp_store_mid 72 (.tmp 2) (.tmp 49) rfl w.heap.size 0 (stC 0 [] zL).toArray rfl rfl ((U HAD).out.there 0 37 (by decide)) sizeSt (all_oneCell_toArray (stC_one (by decide))) ?_
    show K _ (w7.drew.setCells w.heap.size 0 (stC 0 [] zL))
    have hkP:∀ j,(w7.drew.setCells w.heap.size 0 (stC 0 [] zL)).cell? ⟨p,j,none⟩=w7.drew.cell? ⟨p,j,none⟩:=fun j=>World.cell?_of_block (a:=⟨p,j,none⟩) (setCells_heap w.heap.size (stC 0 [] zL) 0 w7.drew p (by have:=(U HAD).hp;omega))
    refine hK.out _ _ ⟨(hkP 3).trans c3,(hkP 4).trans c4⟩ (fun hHeld2=>?_)
    clear hK K hHeld
    have hHeld:=hHeld2
    clear hHeld2
    try simp only[put,sA,sB,sC]
    refine ht 10 3 (.int .i64 (S5.at':Int)) hHeld ?_
    refine ht 11 4 (.int .i64 (S5.err:Int)) hHeld ?_
    simp only[put,sA,sB,sC]
    refine wpAnyH_done (by kernel_rfl) ?_ _
    go_wp2_with fail
    have hs:=(U HAD).out.set (D':=(stC 0 [] zL)) rfl
    have hb:=setCells_low (U HAD).low (stC 0 [] zL)
    refine bodyPost_ret (hs.result3 rfl _ rfl) rfl ?_
    rw [U HPP]
    refine ⟨0,[],zL,(S5.at':Int),(S5.err:Int),rfl,?_,hb⟩
    rw [U HW]
    exact ⟨.slice none 0 0,rfl,.inl ⟨rfl,0,rfl⟩⟩
  | true=>
   have h0:S4.err=0:=by simpa using he
   rw [he] at HU
   have HE4:=V he
   clear he
   by_cases hk:tk.kind=0
   · have hkI:((tk.kind:Int) == 0)=true:=by rw [hk];rfl
     have hkN:((tk.kind:Int) != 0)=false:=by rw [hk];rfl
     have hkE:(tk.kind:Int)=0:=by rw [hk];rfl
     have HWG:Hid (parseW T=r.2.1):=by
      show parseW T=_
      have hd:doneP T r.2.2=S4:=by rw [U HDO,if_neg (fun h=>h.2 (by rw [U HTKS];exact hk))]
      rw [U HW5,hd,if_pos h0]
     have HW:=HW2
     have HE5:=HE4
     clear hk h0
     go_quiet ((go_at_call 96;refine Calls.quiet_of_same (U HU _)))
     have HA6:=V ((U HA5).drewN nq)
     clear c0 c1 t0
     as_aux_lemma=>
      go_upto_region 11 with (go_at_call 96;refine (ok_any' (U HA6).px).mono ?_;rw [U HE5];rintro e w7 ⟨rfl,hp1,hf1⟩;have HA7:=V ((U HA6).move hp1 hf1);clear hp1 hf1)
      have HX:=V (U HA7)
      refine wp_region_list ?_
      have hz37:(stC 7 r.1 M).toArray.size=37:=by simpa using stC_len (U HX).ex.len
      refine wpList_load_mid rfl 72 (.tmp 9) rfl b9 0 rfl (stC 7 r.1 M) _ (U HX).var.range Tryz.underlying72 rfl (by rw [(U HX).var.len];exact sizeSt) ?_
      simp only[put,sA,sB,sC]
      refine wpList_store_mid rfl 72 (.tmp 2) (.tmp 58) rfl w.heap.size 0 (stC 7 r.1 M).toArray rfl rfl (by rw [hz37];exact (U HX).out.there 0 37 (by decide)) (by rw [hz37];exact sizeSt) (all_oneCell_toArray (stC_one (U HX).ex.one)) ?_
      show wpList _ _ _ _ _ (w7.setCells w.heap.size 0 (stC 7 r.1 M))
      refine lt 3 (.int .i64 0) ?_
      refine lt 4 (.int .i64 0) ?_
      simp only[put,sA,sB,sC]
      go_wp2_with fail
      have hs:=(U HX).out.set (D':=stC 7 r.1 M) (stC_len (U HX).ex.len)
      have hb:=setCells_low (U HX).low (stC 7 r.1 M)
      have hx:=((U HX).ex.setCells' (b:=w.heap.size) (fun h=>Nat.lt_irrefl _ h.1) 0 (stC 7 r.1 M)).keep (Q':=fun b=>w.heap.size ≤ b) (fun _ _ _=>rfl) (fun b _ h=>Nat.le_of_lt h.1)
      refine bodyPost_ret (hs.result3 rfl _ rfl) rfl ?_
      rw [U HPP]
      refine ⟨7,r.1,M,0,0,rfl,?_,hb⟩
      rw [U HW,U HWG]
      exact hx
   · have hkI:((tk.kind:Int) == 0)=false:=by rw [beq_eq_false_iff_ne];omega
     have hkN:((tk.kind:Int) != 0)=true:=by rw [bne,hkI];rfl
     have hkE:((tk.kind:Int)=0)=False:=eq_false (by omega)
     have hf4:(failS T 1 S4).err=1:=by unfold failS;rw [if_pos h0]
     have HW:Hid (whereL l=exZ):=by
      show whereL l=_
      have hd:doneP T r.2.2=failS T 1 S4:=by rw [U HDO,if_pos ⟨h0,by rw [U HTKS];exact hk⟩]
      rw [U HW2,U HW5,hd,if_neg (by rw [hf4];decide)]
     have HE5:Hid (((failS T 1 S4).err == 0)=false):=by rw [hf4];rfl
     obtain ⟨S5,hS5⟩:∃ S5,S5=failS T 1 S4:=⟨_,rfl⟩
     have HS5:=V hS5.symm
     rw [← hS5] at HE5
     clear hk h0 hf4 hS5
     go_quiet ((go_at_call 96;refine Calls.quiet_of_same (U HU _)))
     have HA5n:=V ((U HA5).drewN nq)
     clear c0 c1 t0
     go_upto_region 9 with (go_at_call 97;refine (fail_any hT (U HA5n).px 1 (by decide)).mono ?_;rw [U HS5];rintro e w6 ⟨rfl,hp1,hf1⟩;have HA6:=V ((U HA5n).move hp1 hf1);clear hp1 hf1)
     as_aux_lemma=>
      go_upto_region 10 with (go_at_call 96;refine (ok_any' (U HA6).px).mono ?_;rw [U HE5];rintro e w7 ⟨rfl,hp1,hf1⟩;have HA7:=V ((U HA6).move hp1 hf1);clear hp1 hf1)
      obtain ⟨c0,c1,c2,c3,c4⟩:=(U HA7).px.cells
      clear c0 c1 c2
      have HAD:=V (U HA7).drew
      refine wp_region_held_drew (S:=fun w'=>w'.cell? ⟨p,3,none⟩=some (.int .i64 (S5.at':Int))∧w'.cell? ⟨p,4,none⟩=some (.int .i64 (S5.err:Int))) (by kernel_rfl) ⟨c3,c4⟩ (fun hHeld=>?_)
      refine hand_to (i:=0) (d:=49) (v:=(.agg (stC 0 [] zL).toArray)) rfl rfl (by kernel_rfl) (by kernel_rfl) (by kernel_rfl) (fun _ _ _ h=>h) (Or.inl ⟨by rfl,?_⟩) hHeld ?_
      · (intro w' hSw;obtain ⟨hS3,hS4⟩:=hSw;kernel_rfl)
      simp only[put,sA,sB,sC]
      refine hand_to (i:=1) (d:=50) (v:=(.pointer (some ⟨p,0,none⟩))) rfl rfl (by kernel_rfl) (by kernel_rfl) (by kernel_rfl) (fun _ _ _ h=>h) (Or.inl ⟨by rfl,?_⟩) hHeld ?_
      · (intro w' hSw;obtain ⟨hS3,hS4⟩:=hSw;go_simp)
      simp only[put,sA,sB,sC]
      refine hand_to (i:=2) (d:=51) (v:=(.pointer (some ⟨p,0,none⟩))) rfl rfl (by kernel_rfl) (by kernel_rfl) (by kernel_rfl) (fun _ _ _ h=>h) (Or.inl ⟨by rfl,?_⟩) hHeld ?_
      · (intro w' hSw;obtain ⟨hS3,hS4⟩:=hSw;go_simp)
      simp only[put,sA,sB,sC]
      refine hand_to (i:=3) (d:=52) (v:=(.pointer (some ⟨p,3,none⟩))) rfl rfl (by kernel_rfl) (by kernel_rfl) (by kernel_rfl) (fun _ _ _ h=>h) (Or.inl ⟨by rfl,?_⟩) hHeld ?_
      · (intro w' hSw;obtain ⟨hS3,hS4⟩:=hSw;go_simp)
      simp only[put,sA,sB,sC]
      refine hand_to (i:=4) (d:=53) (v:=(.int .i64 (S5.at':Int))) rfl rfl (by kernel_rfl) (by kernel_rfl) (by kernel_rfl) (fun _ _ _ h=>h) (Or.inl ⟨by rfl,?_⟩) hHeld ?_
      · (intro w' hSw;obtain ⟨hS3,hS4⟩:=hSw;go_simp)
      simp only[put,sA,sB,sC]
      refine hand_to (i:=5) (d:=54) (v:=(.pointer (some ⟨p,0,none⟩))) rfl rfl (by kernel_rfl) (by kernel_rfl) (by kernel_rfl) (fun _ _ _ h=>h) (Or.inl ⟨by rfl,?_⟩) hHeld ?_
      · (intro w' hSw;obtain ⟨hS3,hS4⟩:=hSw;go_simp)
      simp only[put,sA,sB,sC]
      refine hand_to (i:=6) (d:=55) (v:=(.pointer (some ⟨p,0,none⟩))) rfl rfl (by kernel_rfl) (by kernel_rfl) (by kernel_rfl) (fun _ _ _ h=>h) (Or.inl ⟨by rfl,?_⟩) hHeld ?_
      · (intro w' hSw;obtain ⟨hS3,hS4⟩:=hSw;go_simp)
      simp only[put,sA,sB,sC]
      refine hand_to (i:=7) (d:=56) (v:=(.pointer (some ⟨p,4,none⟩))) rfl rfl (by kernel_rfl) (by kernel_rfl) (by kernel_rfl) (fun _ _ _ h=>h) (Or.inl ⟨by rfl,?_⟩) hHeld ?_
      · (intro w' hSw;obtain ⟨hS3,hS4⟩:=hSw;go_simp)
      simp only[put,sA,sB,sC]
      refine hand_to (i:=8) (d:=57) (v:=(.int .i64 (S5.err:Int))) rfl rfl (by kernel_rfl) (by kernel_rfl) (by kernel_rfl) (fun _ _ _ h=>h) (Or.inl ⟨by rfl,?_⟩) hHeld ?_
      · (intro w' hSw;obtain ⟨hS3,hS4⟩:=hSw;go_simp)
      simp only[put,sA,sB,sC]
      refine wpAnyH_ready (rs:=[9]) (by kernel_rfl) (by simp) ?_
      refine AllReadyH.cons rfl (fun K hK=>?_) AllReadyH.nil
      rw [if_pos (by rfl)]
      refine wp_store_mid 72 (.tmp 2) (.tmp 49) rfl w.heap.size 0 (stC 0 [] zL).toArray rfl rfl ((U HAD).out.there 0 37 (by decide)) sizeSt (all_oneCell_toArray (stC_one (by decide))) ?_
      show K _ (w7.drew.setCells w.heap.size 0 (stC 0 [] zL))
      have hkP:∀ j,(w7.drew.setCells w.heap.size 0 (stC 0 [] zL)).cell? ⟨p,j,none⟩=w7.drew.cell? ⟨p,j,none⟩:=fun j=>World.cell?_of_block (a:=⟨p,j,none⟩) (setCells_heap w.heap.size (stC 0 [] zL) 0 w7.drew p (by have:=(U HAD).hp;omega))
      refine hK.out _ _ ⟨(hkP 3).trans c3,(hkP 4).trans c4⟩ (fun hHeld2=>?_)
      clear hK K hHeld
      have hHeld:=hHeld2
      clear hHeld2
      try simp only[put,sA,sB,sC]
      refine ht 10 3 (.int .i64 (S5.at':Int)) hHeld ?_
      refine ht 11 4 (.int .i64 (S5.err:Int)) hHeld ?_
      simp only[put,sA,sB,sC]
      refine wpAnyH_done (by kernel_rfl) ?_ _
      go_wp2_with fail
      have hs:=(U HAD).out.set (D':=(stC 0 [] zL)) rfl
      have hb:=setCells_low (U HAD).low (stC 0 [] zL)
      refine bodyPost_ret (hs.result3 rfl _ rfl) rfl ?_
      rw [U HPP]
      refine ⟨0,[],zL,(S5.at':Int),(S5.err:Int),rfl,?_,hb⟩
      rw [U HW]
      exact ⟨.slice none 0 0,rfl,.inl ⟨rfl,0,rfl⟩⟩
end Go.Proofs.YtpnonhjmpnbmcaaGreatDoor
