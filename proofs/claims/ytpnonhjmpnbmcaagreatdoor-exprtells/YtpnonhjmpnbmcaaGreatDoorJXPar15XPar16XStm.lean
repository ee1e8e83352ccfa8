/- The document's parser: all levels at once, by what is left. -/
import Derived.Test.YtpnonhjmpnbmcaaGreatDoorXPar8
import Derived.Test.YtpnonhjmpnbmcaaGreatDoorXPar14
import Derived.Test.YtpnonhjmpnbmcaaGreatDoorXPar12
import Derived.Test.YtpnonhjmpnbmcaaGreatDoorXPar13
import Derived.Test.YtpnonhjmpnbmcaaGreatDoorJXPar1XLexG
import Derived.Test.YtpnonhjmpnbmcaaGreatDoorJPlainLMathLMath2LMath3XLex1XLex2NBigListOpsListOp2ListOp3
namespace Go.Proofs.YtpnonhjmpnbmcaaGreatDoor
open Go.RowKit Go.Lib
open Act (put)
set_option linter.unusedSimpArgs false
set_option maxHeartbeats 12800000
set_option maxRecDepth 100000
set_option linter.unusedVariables false
/-- The levels' functions. -/
def levF:Nat→FuncId
 | 7=>150
 | 6=>183
 | 5=>201
 | 4=>209
 | 3=>219
 | 2=>223
 | _=>225
theorem lev7 (T:List Tk) (n:Nat):lev T (n+1) 7=fun S=>loopW T (lev T n 6) [79,82] 18 n (lev T n 6 S).1 (lev T n 6 S).2:=by funext S;simp [lev]
theorem lev6 (T:List Tk) (n:Nat):lev T (n+1) 6=fun S=>loopW T (lev T n 5) [65,78,68] 17 n (lev T n 5 S).1 (lev T n 5 S).2:=by funext S;simp [lev]
theorem lev5 (T:List Tk) (n:Nat):lev T (n+1) 5=fun S=>if isS T 2 [78,79,84] S then (unE 2 (lev T n 5 (openS T [78,79,84] S)).1,closeS T [] (lev T n 5 (openS T [78,79,84] S)).2) else lev T n 4 S:=by funext S;simp [lev]
theorem lev4 (T:List Tk) (n:Nat):lev T (n+1) 4=testS T (lev T n 3) (lev T n 7) n:=by funext S;simp [lev]
theorem lev3 (T:List Tk) (n:Nat):lev T (n+1) 3=fun S=>loopG T (lev T n 2) [43] [45] [124,124] 11 12 16 n (lev T n 2 S).1 (lev T n 2 S).2:=by funext S;simp [lev]
theorem lev2 (T:List Tk) (n:Nat):lev T (n+1) 2=fun S=>loopG T (lev T n 1) [42] [47] [37] 13 14 15 n (lev T n 1 S).1 (lev T n 1 S).2:=by funext S;simp [lev]
theorem lev1 (T:List Tk) (n:Nat):lev T (n+1) 1=factorS T (lev T n 1) (lev T n 7) n:=by funext S;simp [lev]
theorem lev_of {T:List Tk} {p bt c:Nat} (hT:TG T)
 (htest:∀ (sub3 sub7:PS→Ex × PS) (B n:Nat),B ≤ n→B ≤ 3500→LvC T p bt c 219 sub3 B→(1 ≤ B→LvC T p bt c 150 sub7 (B - 1))→LvC T p bt c 209 (testS T sub3 sub7 n) B)
 (hcase:∀ (sub7:PS→Ex × PS) (B n:Nat),B ≤ n→B ≤ 3500→(1 ≤ B→LvC T p bt c 150 sub7 (B - 1))→LvC T p bt c 228 (caseS T sub7 n) B) :
 ∀ n k B,1 ≤ k→k ≤ 7→10 * B+k ≤ n→B ≤ 3500→LvC T p bt c (levF k) (lev T n k) B:=by
 intro n
 induction n with
 | zero=>intro k B h1 _ h _;omega
 | succ n ih=>
  intro k B h1 h7 h hB
  have hk:k=1 ∨ k=2 ∨ k=3 ∨ k=4 ∨ k=5 ∨ k=6 ∨ k=7:=by omega
  have hn:B ≤ n:=by omega
  rcases hk with rfl | rfl | rfl | rfl | rfl | rfl | rfl
  · rw [lev1]
    exact factor_lv hT (fun _=>ih 1 (B - 1) (by omega) (by omega) (by omega) (by omega)) (fun _=>ih 7 (B - 1) (by omega) (by omega) (by omega) (by omega)) (hcase _ B n hn hB (fun _=>ih 7 (B - 1) (by omega) (by omega) (by omega) (by omega)))
  · rw [lev2]
    exact product_lv hT hn (ih 1 B (by omega) (by omega) (by omega) hB)
  · rw [lev3]
    exact sum_lv hT hn (ih 2 B (by omega) (by omega) (by omega) hB)
  · rw [lev4]
    exact htest _ _ B n hn hB (ih 3 B (by omega) (by omega) (by omega) hB) (fun _=>ih 7 (B - 1) (by omega) (by omega) (by omega) (by omega))
  · rw [lev5]
    exact not_lv hT (ih 4 B (by omega) (by omega) (by omega) hB) (fun _=>ih 5 (B - 1) (by omega) (by omega) (by omega) (by omega))
  · rw [lev6]
    exact and_lv hT hn (ih 5 B (by omega) (by omega) (by omega) hB)
  · rw [lev7]
    exact expr_lv hT hn (ih 6 B (by omega) (by omega) (by omega) hB)
theorem lev_all {T:List Tk} {p bt c:Nat} (hT:TG T):∀ n k B,1 ≤ k→k ≤ 7→10 * B+k ≤ n→B ≤ 3500→LvC T p bt c (levF k) (lev T n k) B:=
 lev_of hT (fun _ _ _ _ hn hB h3 h7=>test_lv hT hn hB h3 h7) (fun _ _ _ hn hB h7=>cases_lv hT hn hB h7)
/-- An expression, as the parser reads it: n rounds are enough for every row of tokens that may be. -/
def exprP (T:List Tk):PS→Ex × PS:=lev T 40000 7
theorem mu_le (T:List Tk) (hT:TG T) (S:PS):muS T S ≤ 3500:=by
 unfold muS
 have:=hT.len
 split <;> omega
theorem expr_any {T:List Tk} {p bt c:Nat} (hT:TG T):LvC T p bt c 150 (exprP T) 3500:=lev_all hT 40000 7 3500 (by omega) (by omega) (by omega) (by omega)
def clauseP (T:List Tk) (x:List UInt8) (S:PS):Ex × PS:=if isS T 2 x S then exprP T (nextS T S) else (exZ,S)
theorem clause_any {T:List Tk} {p bt c:Nat} (hT:TG T) (x:List UInt8) (w:World) (S:PS) (hp:PX T w p bt c S) :
 Calls Tryz.prog 151 #[.pointer (some ⟨p,0,none⟩),sv x] w (LvP T p bt c w S (clauseP T x S)):=by
 have hbtlt:=hp.bt_lt
 have hplt:=hp.lt_p
 have HV:=V (RVX.new hp)
 have HNE:Hid (w.heap.size ≠ bt∧w.heap.size ≠ p∧p < w.heap.size):=⟨by omega,by omega,by omega⟩
 clear hp hbtlt hplt
 obtain ⟨PP,hPP⟩:∃ PP,PP=LvP T p bt c w S (clauseP T x S):=⟨_,rfl⟩
 have HPP:=V hPP
 rw [← hPP]
 clear hPP
 unfold sv
 cases hb:isS T 2 x S with
 | false=>
  have HNB:=V hb
  have HMW:Hid (mayS T 2 x S=S):=by show mayS T 2 x S=_;unfold mayS;rw [hb];rfl
  have HEQ:Hid (clauseP T x S=(exZ,S)):=by show clauseP T x S=_;unfold clauseP;rw [hb];rfl
  clear hb
  go_enter Tryz.func151,Tryz.ntmps151
  go_upto_region 3 with (go_at_call 143;refine (may_any hT (U HV).px x).mono ?_;rw [U HNB,U HMW];rintro e w1 ⟨rfl,hp1,hf1⟩;have HV1:=V ((U HV).move hp1 hf1 (U HNE).2.2);clear hp1 hf1)
  refine wp_region_list ?_
  refine lt 10 (.agg zL.toArray) ?_
  refine wpList_store_mid rfl 29 (.tmp 4) (.tmp 10) rfl w.heap.size 0 zL.toArray rfl rfl (U HV1).out.there sizeEx (all_oneCell_toArray (by intro v hv;simp [zL] at hv;rcases hv with rfl | rfl | rfl | rfl | rfl | rfl | rfl | rfl | rfl | rfl <;> rfl)) ?_
  go_wp2_with fail
  have HX:Hid (ExM w1 (fun b=>w.heap.size < b) zL exZ):=⟨.slice none 0 0,rfl,.inl ⟨rfl,0,rfl⟩⟩
  obtain ⟨h1,h2⟩:=(U HV1).done (S0:=S) (U HX) (Nat.le_refl _) (U HNE).1 (U HNE).2.1
  exact bodyPost_ret (h1.result rfl _ rfl) rfl (by rw [U HPP,U HEQ];exact h2)
 | true=>
  have HNB:=V hb
  have HMW:Hid (mayS T 2 x S=nextS T S):=by show mayS T 2 x S=_;unfold mayS;rw [hb];rfl
  have HEQ:Hid (clauseP T x S=exprP T (nextS T S)):=by show clauseP T x S=_;unfold clauseP;rw [hb];rfl
  have HMU:=V (mu_le T hT (nextS T S))
  clear hb
  go_enter Tryz.func151,Tryz.ntmps151
  go_wp2_with (first | (go_at_call 143;refine (may_any hT (U HV).px x).mono ?_;rw [U HNB,U HMW];rintro e w1 ⟨rfl,hp1,hf1⟩;have HV1:=V ((U HV).move hp1 hf1 (U HNE).2.2);clear hp1 hf1) | (go_at_call 150;refine ((U HV1).call (expr_any hT) (U HMU) (U HNE).2.2).mono ?_;rintro e w2 ⟨M2,rfl,hx,hv,hf,hm⟩;have hl2:=hx.len;have HX2:=V hx;have HV2:=V hv;have HM2:=V hm;have HF2:=V hf;have hst2:=hv.out.storeC hx.len hx.one;have hsn2:=storeNew w2 hx.len hx.one;unfold zL at hsn2;clear hx hv hf hm))
  have hxx:ExM w2 (fun b=>w.heap.size < b) M2 (exprP T (nextS T S)).1:=(U HX2).keep (fun _ _ _=>rfl) (fun b _ q=>by have h1:=(U HV1).out.1;have:=ltX h1;omega)
  have hmm:muS T (exprP T (nextS T S)).2 ≤ muS T S:=Nat.le_trans (U HM2) (muS_nle T S)
  obtain ⟨h1,h2⟩:=(U HV2).done (S0:=S) hxx hmm (U HNE).1 (U HNE).2.1
  exact bodyPost_ret (h1.result rfl _ rfl) rfl (by rw [U HPP,U HEQ];exact h2)
def stPre (k:Int) (nm:List UInt8):List Value:=[.int .i64 k,.string ⟨#[]⟩,.slice none 0 0,.slice none 0 0,.slice none 0 0,sv nm,.string ⟨#[]⟩,.bool false,.slice none 0 0,.slice none 0 0,.slice none 0 0]
def stPost:List Value:=[.bool false,.slice none 0 0,.slice none 0 0,.slice none 0 0,.int .i64 0,.int .i64 0,.int .i64 0,.int .i64 0,.string ⟨#[]⟩,.string ⟨#[]⟩,.string ⟨#[]⟩,.slice none 0 0,.int .i64 0,.int .i64 0,.slice none 0 0,.int .i64 0]
/-- A statement of kind k with a name and a Where of the cells M, nothing else. -/
def stC (k:Int) (nm:List UInt8) (M:List Value):List Value:=stPre k nm ++ (M ++ stPost)
theorem stC_len {k:Int} {nm:List UInt8} {M:List Value} (h:M.length=10):(stC k nm M).length=37:=by
 unfold stC
 rw [List.length_append,List.length_append,h]
 rfl
theorem stC_one {k:Int} {nm:List UInt8} {M:List Value} (h:∀ u ∈ M,u.oneCell'=true):∀ u ∈ stC k nm M,u.oneCell'=true:=by
 intro u hu
 rcases List.mem_append.1 hu with hu | hu
 · simp only[stPre,List.mem_cons,List.not_mem_nil,or_false] at hu
   rcases hu with rfl | rfl | rfl | rfl | rfl | rfl | rfl | rfl | rfl | rfl | rfl <;> rfl
 · rcases List.mem_append.1 hu with hu | hu
   · exact h u hu
   · simp only[stPost,List.mem_cons,List.not_mem_nil,or_false] at hu
     rcases hu with rfl | rfl | rfl | rfl | rfl | rfl | rfl | rfl | rfl | rfl | rfl | rfl | rfl | rfl | rfl | rfl <;> rfl
/-- A variable of a statement's type. -/
structure VrS (w:World) (b:Nat) (D:List Value):Prop where
 blk:w.heap[b]?=some (.cells D.toArray 72 (0,0))
 len:D.length=37
theorem zeroSt:(Tryz.prog.info? 72).map (fun i=>(i.zero,i.size))=some (some (.agg (stC 0 [] zL).toArray),37):=by kernel_rfl
theorem sizeSt:(Tryz.prog.info? 72).map (·.size)=some 37:=by
 have h:=zeroSt
 cases hi:Tryz.prog.info? 72 with
 | none=>rw [hi] at h;cases h
 | some i=>rw [hi] at h;simp at h ⊢;exact h.2
theorem VrS.range {w:World} {b:Nat} {D:List Value} (h:VrS w b D):w.rangeAt b 0 D:=fun j v hv=>by
 rw [Nat.zero_add,cellX h.blk];simpa using hv
theorem VrS.there {w:World} {b:Nat} {D:List Value} (h:VrS w b D) (o n:Nat) (hn:o+n ≤ 37):w.there b o n:=fun j hj=>by
 rw [cellX h.blk,frzX h.blk]
 exact ⟨by simp [h.len];omega,rfl⟩
theorem VrS.storeC {w:World} {b:Nat} {D M:List Value} (h:VrS w b D) (o:Nat) (hn:o+M.length ≤ 37) (h1:∀ u ∈ M,u.oneCell'=true):(storeCells ⟨b,o,none⟩ M).run Tryz.prog w=.ok () (w.setCells b o M):=by
 have ht:=h.there o M.length hn
 have:=run_storeCells_cells (P:=Tryz.prog) b o M 0 w (fun j hj=>by simpa using (ht j hj).1) (fun j hj=>by simpa using (ht j hj).2) h1
 simpa using this
theorem setCells_mid (b:Nat) {T:TypeId}:∀ (vs:List Value) (o:Nat) (w:World) (pre mid post:List Value),pre.length=o→vs.length=mid.length→w.heap[b]?=some (.cells (pre ++ (mid ++ post)).toArray T (0,0))→(w.setCells b o vs).heap[b]?=some (.cells (pre ++ (vs ++ post)).toArray T (0,0))
 | [],o,w,pre,mid,post,_,hl,h=>by
  have:mid=[]:=List.eq_nil_of_length_eq_zero (by simpa using hl.symm)
  subst this
  exact h
 | v :: r,o,w,pre,mid,post,hp,hl,h=>by
  cases mid with
  | nil=>simp at hl
  | cons u mid=>
   rw [World.setCells]
   have h1:=setX h o v
   have e:(pre ++ (u :: mid ++ post)).toArray.setIfInBounds o v=((pre ++ [v]) ++ (mid ++ post)).toArray:=by
    rw [← hp];simp
   rw [e] at h1
   have h2:=setCells_mid b r (o+1) _ (pre ++ [v]) mid post (by simp [hp]) (by simpa using hl) h1
   simpa using h2
theorem VrS.where' {w:World} {b:Nat} {k:Int} {nm:List UInt8} {M M':List Value} (h:VrS w b (stC k nm M)) (hl:M.length=10) (hl':M'.length=10):VrS (w.setCells b 11 M') b (stC k nm M'):=
 ⟨setCells_mid b M' 11 w (stPre k nm) M stPost rfl (by rw [hl,hl']) h.blk,stC_len hl'⟩
theorem VrS.set {w:World} {b:Nat} {D D':List Value} (h:VrS w b D) (hl:D'.length=37):VrS (w.setCells b 0 D') b D':=by
 refine ⟨?_,hl⟩
 have:=setCells_at b D' 0 w [] D rfl (by rw [hl,h.len]) h.blk
 simpa using this
theorem VrS.keep {w w':World} {b:Nat} {D:List Value} (h:VrS w b D) (hb:w'.heap[b]?=w.heap[b]?):VrS w' b D:=⟨hb.trans h.blk,h.len⟩
theorem VrS.below {w w':World} {b:Nat} {D:List Value} (h:VrS w b D) (hb:Below w.heap.size w w'):VrS w' b D:=⟨blkX h.blk hb,h.len⟩
theorem VrS.new (w:World) {D:List Value} (hl:D.length=37):VrS (w.alloc (.cells D.toArray 72)) w.heap.size D:=⟨heap_alloc_new _ _,hl⟩
theorem VrS.result {fn:Func} {p:Tmp} {w:World} {b:Nat} {D:List Value} (h:VrS w b D) (hf:fn.results=#[.cell p 72]) (tmps:Array Value) (ht:tmps.getD p undef=.pointer (some ⟨b,0,none⟩)):(results fn tmps).run Tryz.prog w=.ok (.agg D.toArray) w:=by
 rw [res1X hf,ht]
 simp only[asAddr,Sem.run_pure,Result.andThen_ok]
 exact run_loadVar_mid w b 0 72 D _ h.range Tryz.underlying72 rfl (by rw [h.len];exact sizeSt)
theorem isS_other {T:List Tk} {S:PS} {k:Nat} {x y:List UInt8} (h:isS T k x S=true) (hne:x ≠ y):isS T k y S=false:=by
 obtain ⟨_,_,h3⟩:=isS_err h
 unfold isS
 rw [h3]
 have:(x == y)=false:=by simpa using hne
 rw [this]
 simp
/-- What a function that tells a statement has between its calls: its result's variable at b2. -/
structure RVS (T:List Tk) (p bt c b2:Nat) (w wr:World) (S:PS):Prop where
 out:VrS wr b2 (stC 0 [] zL)
 px:PX T wr p bt c S
 fr:FrX p w wr
 b2p:b2=w.heap.size
theorem RVS.move {T:List Tk} {p bt c b2:Nat} {w wr w':World} {S S':PS} (h:RVS T p bt c b2 w wr S) (hp:PX T w' p bt c S') (hf:FrX p wr w') (hpl:p < b2):RVS T p bt c b2 w w' S':=
 ⟨h.out.keep (hf.blk b2 (ltX h.out.blk) (by omega)),hp,h.fr.trans hf,h.b2p⟩
theorem RVS.below {T:List Tk} {p bt c b2:Nat} {w wr w':World} {S:PS} (h:RVS T p bt c b2 w wr S) (hb:Below wr.heap.size wr w'):RVS T p bt c b2 w w' S:=
 ⟨h.out.below hb,h.px.below hb,h.fr.trans (FrX.of_below hb),h.b2p⟩
theorem RVS.new {T:List Tk} {p bt c:Nat} {w:World} {S:PS} (h:PX T w p bt c S):RVS T p bt c w.heap.size w (w.alloc (.cells (stC 0 [] zL).toArray 72)) S:=
 ⟨VrS.new w rfl,h.below ((Below.refl _ _).alloc (Nat.le_refl _) _),(FrX.refl p w).alloc _,rfl⟩
/-- A block of the call's own written. -/
theorem RVS.setO {T:List Tk} {p bt c b2 b:Nat} {w wr:World} {S:PS} (h:RVS T p bt c b2 w wr S) (hb:b2 < b) (hp:p < b2) (ht:bt < b2) (o:Nat) (vs:List Value):RVS T p bt c b2 w (wr.setCells b o vs) S:=by
 obtain ⟨e1,e2,e3,e4⟩:=setCells_env b vs o wr
 have hk:∀ j,j ≠ b→(wr.setCells b o vs).heap[j]?=wr.heap[j]?:=fun j hj=>setCells_heap b vs o wr j hj
 have hbp:=h.b2p
 exact ⟨h.out.keep (hk b2 (by omega)),⟨(hk p (by omega)).trans h.px.blk,h.px.toks.keep (fun _=>hk bt (by omega)),h.px.ne,h.px.lt,h.px.dlo,h.px.dhi,h.px.err⟩,⟨e1.trans h.fr.os,e2.trans h.fr.tape,e3.trans h.fr.output,by rw [e4];exact h.fr.size,fun j h1 h2=>(hk j (by omega)).trans (h.fr.blk j h1 h2)⟩,hbp⟩
theorem ExM.setCells' {w:World} {Q:Nat→Prop} {M:List Value} {E:Ex} {b:Nat} (h:ExM w Q M E) (hb:¬ Q b) (o:Nat) (vs:List Value):ExM (w.setCells b o vs) Q M E:=
 h.keep (fun k hq _=>setCells_heap b vs o w k (fun e=>hb (e ▸ hq))) (fun _ _ h=>h)
/-- DELETE. -/
def deleteP (T:List Tk) (S:PS):List UInt8 × Ex × PS:=
 let r:=nameS T (mustS T 2 [70,82,79,77] (nextS T S))
 (r.1,clauseP T [87,72,69,82,69] r.2)
def StP (T:List Tk) (p bt c:Nat) (w:World) (r:List UInt8 × Ex × PS) (e:Ending) (w':World):Prop:=
 ∃ M,e=.returned (.agg (stC 7 r.1 M).toArray)∧ExM w' (fun b=>w.heap.size ≤ b) M r.2.1∧PX T w' p bt c r.2.2∧FrX p w w'
theorem delete_any {T:List Tk} {p bt c:Nat} (hT:TG T) (w:World) (S:PS) (hp:PX T w p bt c S) (hD:isS T 2 [68,69,76,69,84,69] S=true) :
 Calls Tryz.prog 94 #[.pointer (some ⟨p,0,none⟩)] w (StP T p bt c w (deleteP T S)):=by
 have hbtlt:=hp.bt_lt
 have hplt:=hp.lt_p
 have HV0:=V (RVS.new hp)
 have HNE:Hid (bt < w.heap.size∧w.heap.size ≠ p∧p < w.heap.size):=⟨by omega,by omega,by omega⟩
 obtain ⟨r,hr⟩:∃ r,r=nameS T (mustS T 2 [70,82,79,77] (nextS T S)):=⟨_,rfl⟩
 obtain ⟨q,hq⟩:∃ q,q=clauseP T [87,72,69,82,69] r.2:=⟨_,rfl⟩
 have HR:=V hr.symm
 have HQ:=V hq.symm
 have HEQ:Hid (deleteP T S=(r.1,q)):=by rw [hq,hr];rfl
 obtain ⟨nm,hnm⟩:∃ nm,nm=r.1:=⟨_,rfl⟩
 have HNM:=V hnm
 obtain ⟨PP,hPP⟩:∃ PP,PP=StP T p bt c w (deleteP T S):=⟨_,rfl⟩
 have HPP:=V hPP
 rw [← hPP]
 have HICREATE:Hid (isS T 2 [67,82,69,65,84,69] S=false):=isS_other hD (by decide)
 have HMCREATE:Hid (mayS T 2 [67,82,69,65,84,69] S=S):=by show mayS T 2 [67,82,69,65,84,69] S=S;unfold mayS;rw [U HICREATE];rfl
 have HIDROP:Hid (isS T 2 [68,82,79,80] S=false):=isS_other hD (by decide)
 have HMDROP:Hid (mayS T 2 [68,82,79,80] S=S):=by show mayS T 2 [68,82,79,80] S=S;unfold mayS;rw [U HIDROP];rfl
 have HIINSERT:Hid (isS T 2 [73,78,83,69,82,84] S=false):=isS_other hD (by decide)
 have HMINSERT:Hid (mayS T 2 [73,78,83,69,82,84] S=S):=by show mayS T 2 [73,78,83,69,82,84] S=S;unfold mayS;rw [U HIINSERT];rfl
 have HIUPDATE:Hid (isS T 2 [85,80,68,65,84,69] S=false):=isS_other hD (by decide)
 have HMUPDATE:Hid (mayS T 2 [85,80,68,65,84,69] S=S):=by show mayS T 2 [85,80,68,65,84,69] S=S;unfold mayS;rw [U HIUPDATE];rfl
 have HIDELETE:=V hD
 have HMDELETE:Hid (mayS T 2 [68,69,76,69,84,69] S=nextS T S):=by show mayS T 2 [68,69,76,69,84,69] S=_;unfold mayS;rw [hD];rfl
 clear hPP hp hbtlt hplt hD hr hq hnm
 go_enter Tryz.func94,Tryz.ntmps94
 go_upto_region 24 with (first | (go_at_call 143;refine (may_any hT (U HV0).px [67,82,69,65,84,69]).mono ?_;rw [U HICREATE,U HMCREATE];rintro e w1 ⟨rfl,hp1,hf1⟩;have HV1:=V ((U HV0).move hp1 hf1 (U HNE).2.2);clear hp1 hf1 HV0) | (go_at_call 143;refine (may_any hT (U HV1).px [68,82,79,80]).mono ?_;rw [U HIDROP,U HMDROP];rintro e w2 ⟨rfl,hp1,hf1⟩;have HV2:=V ((U HV1).move hp1 hf1 (U HNE).2.2);clear hp1 hf1 HV1) | (go_at_call 143;refine (may_any hT (U HV2).px [73,78,83,69,82,84]).mono ?_;rw [U HIINSERT,U HMINSERT];rintro e w3 ⟨rfl,hp1,hf1⟩;have HV3:=V ((U HV2).move hp1 hf1 (U HNE).2.2);clear hp1 hf1 HV2) | (go_at_call 143;refine (may_any hT (U HV3).px [85,80,68,65,84,69]).mono ?_;rw [U HIUPDATE,U HMUPDATE];rintro e w4 ⟨rfl,hp1,hf1⟩;have HV4:=V ((U HV3).move hp1 hf1 (U HNE).2.2);clear hp1 hf1 HV3) | (go_at_call 143;refine (may_any hT (U HV4).px [68,69,76,69,84,69]).mono ?_;rw [U HIDELETE,U HMDELETE];rintro e w5 ⟨rfl,hp1,hf1⟩;have HV5:=V ((U HV4).move hp1 hf1 (U HNE).2.2);clear hp1 hf1 HV4) | (go_at_call 146;refine (must_any hT (U HV5).px [70,82,79,77]).mono ?_;rintro e w6 ⟨rfl,hp1,hf1⟩;have HV6:=V ((U HV5).move hp1 hf1 (U HNE).2.2);clear hp1 hf1 HV5))
 refine wp_region_list ?_
 refine lt 74 (.pointer (some ⟨p,0,none⟩)) ?_
 refine list_call rfl (some 75) rfl 145 #[.pointer (some ⟨p,0,none⟩)] (by kernel_rfl) (name_any hT (U HV6).px) ?_
 rw [U HR]
 rintro e w7 ⟨rfl,hp1,hf1⟩
 refine ⟨_,rfl,?_⟩
 have HV7:=V ((U HV6).move hp1 hf1 (U HNE).2.2)
 clear hp1 hf1 HV6
 rw [← U HNM]
 refine lt 76 (.agg (stC 7 nm zL).toArray) ?_
 simp only[put,sA,sB,sC]
 refine list_new rfl 72 rfl (stC 0 [] zL).toArray (zero_of_info zeroSt).1 ?_
 simp only[put,sA,sB,sC]
 have hvn:=VrS.new w7 (D:=stC 0 [] zL) rfl
 have HV8:Hid (RVS T p bt c w.heap.size w ((w7.alloc (.cells (stC 0 [] zL).toArray 72)).setCells w7.heap.size 0 (stC 7 nm zL)) r.2):=(((U HV7).below (alX (Below.refl _ _) _)).setO (ltX (U HV7).out.blk) (U HNE).2.2 (U HNE).1 0 _)
 have HB8:Hid (VrS ((w7.alloc (.cells (stC 0 [] zL).toArray 72)).setCells w7.heap.size 0 (stC 7 nm zL)) w7.heap.size (stC 7 nm zL)):=hvn.set rfl
 have HLT:Hid (w.heap.size < w7.heap.size):=ltX (U HV7).out.blk
 refine wpList_store_mid rfl 72 (.tmp 5) (.tmp 76) rfl w7.heap.size 0 (stC 7 nm zL).toArray rfl rfl (hvn.there 0 37 (by decide)) sizeSt (all_oneCell_toArray (stC_one (by decide))) ?_
 clear hvn
 obtain ⟨b5,hb5⟩:∃ b5,b5=w7.heap.size:=⟨_,rfl⟩
 obtain ⟨w8,hw8⟩:∃ w8,w8=(w7.alloc (.cells (stC 0 [] zL).toArray 72)).setCells w7.heap.size 0 (stC 7 nm zL):=⟨_,rfl⟩
 show wpList _ _ _ _ _ ((w7.alloc (.cells (stC 0 [] zL).toArray 72)).setCells w7.heap.size 0 (stC 7 nm zL))
 rw [← hw8] at HV8 HB8
 rw [← hw8]
 rw [← hb5] at HB8 HLT
 rw [← hb5]
 clear hw8 hb5 HV7
 simp only[put,sA,sB,sC]
 go_upto_region 25 with fail
 refine wp_region_list ?_
 refine lt 77 (.pointer (some ⟨p,0,none⟩)) ?_
 refine list_call rfl (some 78) rfl 151 #[.pointer (some ⟨p,0,none⟩),sv [87,72,69,82,69]] (by kernel_rfl) (clause_any hT [87,72,69,82,69] w8 r.2 (U HV8).px) ?_
 rw [U HQ]
 rintro e w9 ⟨M,rfl,hx,hp1,hf1,_⟩
 refine ⟨_,rfl,?_⟩
 have HV9:=V ((U HV8).move hp1 hf1 (U HNE).2.2)
 have HB9:=V ((U HB8).keep (hf1.blk b5 (ltX (U HB8).blk) (by have h1:=U HNE;have h2:=U HLT;omega)))
 have hlM:=hx.len
 have HX9:Hid (ExM w9 (fun b=>w.heap.size < b∧b ≠ b5) M q.1):=hx.keep (fun _ _ _=>rfl) (fun b _ h=>by have h1:=ltX (U HB8).blk;have h2:=U HLT;omega)
 clear hp1 hf1 hx HV8 HB8
 refine lt 79 (.pointer (some ⟨b5,11,none⟩)) ?_
 simp only[put,sA,sB,sC]
 have hz10:M.toArray.size=10:=by simpa using hlM
 refine wpList_store_mid rfl 29 (.tmp 79) (.tmp 78) rfl b5 11 M.toArray rfl rfl (by rw [hz10];exact (U HB9).there 11 10 (by decide)) (by rw [hz10];exact sizeEx) (all_oneCell_toArray (U HX9).one) ?_
 show wpList _ _ _ _ _ (w9.setCells b5 11 M)
 have HV10:=V ((U HV9).setO (U HLT) (U HNE).2.2 (U HNE).1 11 M)
 have HB10:=V ((U HB9).where' rfl hlM)
 have HX10:=V ((U HX9).setCells' (b:=b5) (fun h=>h.2 rfl) 11 M)
 obtain ⟨w10,hw10⟩:∃ w10,w10=w9.setCells b5 11 M:=⟨_,rfl⟩
 rw [← hw10] at HV10 HB10 HX10
 rw [← hw10]
 clear hw10 HV9 HB9 HX9 hz10
 simp only[put,sA,sB,sC]
 go_upto_region 26 with fail
 refine wp_region_list ?_
 refine wpList_load_mid rfl 72 (.tmp 5) rfl b5 0 rfl (stC 7 nm M) _ (U HB10).range Tryz.underlying72 rfl (by rw [(U HB10).len];exact sizeSt) ?_
 simp only[put,sA,sB,sC]
 have hz37:(stC 7 nm M).toArray.size=37:=by simpa using stC_len hlM
 refine wpList_store_mid rfl 72 (.tmp 2) (.tmp 80) rfl w.heap.size 0 (stC 7 nm M).toArray rfl rfl (by rw [hz37];exact (U HV10).out.there 0 37 (by decide)) (by rw [hz37];exact sizeSt) (all_oneCell_toArray (stC_one (U HX10).one)) ?_
 show wpList _ _ _ _ _ (w10.setCells w.heap.size 0 (stC 7 nm M))
 simp only[put,sA,sB,sC]
 go_wp2_with fail
 have hP:=(U HV10).px
 have hF:=(U HV10).fr
 obtain ⟨e1,e2,e3,e4⟩:=setCells_env w.heap.size (stC 7 nm M) 0 w10
 have hk:∀ j,j ≠ w.heap.size→(w10.setCells w.heap.size 0 (stC 7 nm M)).heap[j]?=w10.heap[j]?:=fun j hj=>setCells_heap w.heap.size (stC 7 nm M) 0 w10 j hj
 have hN:=U HNE
 have h2:StP T p bt c w (deleteP T S) (.returned (.agg (stC 7 nm M).toArray)) (w10.setCells w.heap.size 0 (stC 7 nm M)):=by
  rw [U HEQ,← U HNM]
  refine ⟨M,rfl,?_,⟨(hk p (by omega)).trans hP.blk,hP.toks.keep (fun _=>hk bt (by omega)),hP.ne,hP.lt,hP.dlo,hP.dhi,hP.err⟩,⟨e1.trans hF.os,e2.trans hF.tape,e3.trans hF.output,by rw [e4];exact hF.size,fun j h1 h2=>(hk j (by omega)).trans (hF.blk j h1 h2)⟩⟩
  exact ((U HX10).setCells' (b:=w.heap.size) (fun h=>Nat.lt_irrefl _ h.1) 0 _).keep (fun _ _ _=>rfl) (fun b _ h=>Nat.le_of_lt h.1)
 exact bodyPost_ret (((U HV10).out.set (stC_len hlM)).result rfl _ rfl) rfl (by rw [U HPP];exact h2)
end Go.Proofs.YtpnonhjmpnbmcaaGreatDoor
