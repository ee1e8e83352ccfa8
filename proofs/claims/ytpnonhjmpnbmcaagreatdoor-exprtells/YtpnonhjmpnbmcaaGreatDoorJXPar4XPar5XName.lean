/- The document's parser: nodes made of expressions. -/
import Derived.Test.YtpnonhjmpnbmcaaGreatDoorJXPar2XPar3
import Derived.Test.YtpnonhjmpnbmcaaGreatDoorJHandXBaseXLex3HandL
import Derived.Deep.LoopGhost
import Derived.Test.YtpnonhjmpnbmcaaGreatDoorXLex7
namespace Go.Proofs.YtpnonhjmpnbmcaaGreatDoor
open Go.RowKit Go.Lib
open Act (put)
set_option maxHeartbeats 3200000
set_option maxRecDepth 10000
theorem list10 {M:List Value} (hl:M.length=10):#[M[0],M[1],M[2],M[3],M[4],M[5],M[6],M[7],M[8],M[9]]=M.toArray:=by
 match M,hl with
 | [_,_,_,_,_,_,_,_,_,_],_=>rfl
theorem VrX.result {fn:Func} {p:Tmp} {w:World} {b:Nat} {M:List Value} (h:VrX w b M) (hf:fn.results=#[.cell p 29]) (tmps:Array Value) (ht:tmps.getD p undef=.pointer (some ⟨b,0,none⟩)):(results fn tmps).run Tryz.prog w=.ok (.agg M.toArray) w:=by
 rw [res1X hf,ht]
 simp only[asAddr,Sem.run_pure,Result.andThen_ok]
 exact run_loadVar_mid w b 0 29 M _ h.range Tryz.underlying29 rfl (by rw [h.2];exact sizeEx)
theorem VrX.new (w:World) {M:List Value} (hl:M.length=10):VrX (w.alloc (.cells M.toArray 29)) w.heap.size M:=⟨heap_alloc_new _ _,hl⟩
theorem VrX.below {w w':World} {b:Nat} {M:List Value} (h:VrX w b M) (hb:Below w.heap.size w w'):VrX w' b M:=⟨blkX h.1 hb,h.2⟩
theorem unary_any (op:Int) (M:List Value) (A:Ex) (Q:Nat→Prop) (w:World) (h:ExM w Q M A):Calls Tryz.prog 210 #[.int .i64 op,.agg M.toArray] w fun e w'=>∃ M',e=.returned (.agg M'.toArray)∧ExM w' (fun b=>Q b ∨ w.heap.size ≤ b) M' (unE op A)∧Below w.heap.size w w':=by
 have hl:=h.len
 have h1:=h.one
 have HX:=V h
 clear h
 go_enter Tryz.func210,Tryz.ntmps210
 go_wp2_with fail
 rw [list10 hl]
 obtain ⟨M',hM'⟩:∃ M':List Value,M'=ndC ⟨3,op,0,0,[],[],[],0,0⟩ (.slice (some ⟨w.heap.size+1+1,0,none⟩) 1 1):=⟨_,rfl⟩
 have hv:VrX (((w.alloc (.cells M.toArray 29)).alloc (.cells M'.toArray 29)).alloc (.cells M.toArray 29)) (w.heap.size+1) M':=by
  have h:=(VrX.new (w.alloc (.cells M.toArray 29)) (M:=M') (by rw [hM'];rfl)).below (alX (Below.refl _ _) (.cells M.toArray 29))
  simpa using h
 have hs:VrX (((w.alloc (.cells M.toArray 29)).alloc (.cells M'.toArray 29)).alloc (.cells M.toArray 29)) (w.heap.size+1+1) M:=by
  have h:=VrX.new ((w.alloc (.cells M.toArray 29)).alloc (.cells M'.toArray 29)) hl
  simpa using h
 have hb:Below w.heap.size w (((w.alloc (.cells M.toArray 29)).alloc (.cells M'.toArray 29)).alloc (.cells M.toArray 29)):=alX (alX (alX (Below.refl _ _) _) _) _
 have hx:=(U HX).keep (Q':=fun b=>Q b ∨ w.heap.size ≤ b) (fun b _ hl=>hb.block b hl) (fun b _ h=>.inl h)
 have e:M'.toArray=#[.int .i64 3,.int .i64 op,.int .i64 0,.int .i64 0,.string ⟨#[]⟩,.string ⟨#[]⟩,.string ⟨#[]⟩,.slice (some ⟨w.heap.size+1+1,0,none⟩) 1 1,.int .i64 0,.int .i64 0]:=by rw [hM'];rfl
 rw [← e]
 refine bodyPost_ret (hv.result rfl _ rfl) rfl ⟨M',rfl,?_,hb⟩
 refine ⟨_,hM',.inr ⟨w.heap.size+1+1,0,1,rfl,Nat.le_refl 1,by unfold maxLen;omega,?_⟩⟩
 exact RowAt.one hx hs.range (.inr (by omega))
theorem list20 {M N:List Value} (hl:M.length=10) (hn:N.length=10):#[M[0],M[1],M[2],M[3],M[4],M[5],M[6],M[7],M[8],M[9],N[0],N[1],N[2],N[3],N[4],N[5],N[6],N[7],N[8],N[9]]=(M ++ N).toArray:=by
 match M,hl,N,hn with
 | [_,_,_,_,_,_,_,_,_,_],_,[_,_,_,_,_,_,_,_,_,_],_=>rfl
theorem range_two {w:World} {b:Nat} {M N:List Value} {T:TypeId} (h:w.heap[b]?=some (.cells (M ++ N).toArray T (0,0))) (hl:M.length=10):w.rangeAt b 0 M∧w.rangeAt b 10 N:=by
 refine ⟨fun j v hv=>?_,fun j v hv=>?_⟩
 · rw [Nat.zero_add,cellX h]
   have:=(List.getElem?_eq_some_iff.1 hv).1
   rw [List.getElem?_toArray,List.getElem?_append_left this];exact hv
 · rw [cellX h,List.getElem?_toArray,List.getElem?_append_right (by omega),hl,show 10+j - 10=j by omega];exact hv
theorem binary_any (op:Int) (M N:List Value) (A B:Ex) (Q:Nat→Prop) (w:World) (h:ExM w Q M A) (h':ExM w Q N B):Calls Tryz.prog 184 #[.int .i64 op,.agg M.toArray,.agg N.toArray] w fun e w'=>∃ M',e=.returned (.agg M'.toArray)∧ExM w' (fun b=>Q b ∨ w.heap.size ≤ b) M' (binE op A B)∧Below w.heap.size w w':=by
 have hl:=h.len
 have h1:=h.one
 have hn:=h'.len
 have h2:=h'.one
 have HX:=V h
 have HY:=V h'
 clear h h'
 go_enter Tryz.func184,Tryz.ntmps184
 go_wp2_with fail
 rw [list20 hl hn]
 obtain ⟨M',hM'⟩:∃ M':List Value,M'=ndC ⟨4,op,0,0,[],[],[],0,0⟩ (.slice (some ⟨w.heap.size+1+1+1,0,none⟩) 2 2):=⟨_,rfl⟩
 obtain ⟨W,hW⟩:∃ W,W=(((w.alloc (.cells M.toArray 29)).alloc (.cells N.toArray 29)).alloc (.cells M'.toArray 29)).alloc (.cells (M ++ N).toArray 29):=⟨_,rfl⟩
 have hv:VrX W (w.heap.size+1+1) M':=by
  have h:=(VrX.new ((w.alloc (.cells M.toArray 29)).alloc (.cells N.toArray 29)) (M:=M') (by rw [hM'];rfl)).below (alX (Below.refl _ _) (.cells (M ++ N).toArray 29))
  rw [hW];simpa using h
 have hs:W.heap[w.heap.size+1+1+1]?=some (.cells (M ++ N).toArray 29 (0,0)):=by
  have h:=heap_alloc_new (((w.alloc (.cells M.toArray 29)).alloc (.cells N.toArray 29)).alloc (.cells M'.toArray 29)) (.cells (M ++ N).toArray 29)
  rw [hW];simpa using h
 have hb:Below w.heap.size w W:=by rw [hW];exact alX (alX (alX (alX (Below.refl _ _) _) _) _) _
 have hx:=(U HX).keep (Q':=fun b=>Q b ∨ w.heap.size ≤ b) (fun b _ hl=>hb.block b hl) (fun b _ h=>.inl h)
 have hy:=(U HY).keep (Q':=fun b=>Q b ∨ w.heap.size ≤ b) (fun b _ hl=>hb.block b hl) (fun b _ h=>.inl h)
 have e:M'.toArray=#[.int .i64 4,.int .i64 op,.int .i64 0,.int .i64 0,.string ⟨#[]⟩,.string ⟨#[]⟩,.string ⟨#[]⟩,.slice (some ⟨w.heap.size+1+1+1,0,none⟩) 2 2,.int .i64 0,.int .i64 0]:=by rw [hM'];rfl
 rw [← e,← hW]
 obtain ⟨r1,r2⟩:=range_two hs hl
 refine bodyPost_ret (hv.result rfl _ rfl) rfl ⟨M',rfl,?_,hb⟩
 refine ⟨_,hM',.inr ⟨w.heap.size+1+1+1,0,2,rfl,Nat.le_refl 2,by unfold maxLen;omega,?_⟩⟩
 exact RowAt.append (F:=Fo.cons A.1 A.2 .nil) (G:=Fo.cons B.1 B.2 .nil) (RowAt.one hx r1 (.inr (by omega))) (RowAt.one hy r2 (.inr (by omega)))
theorem value_any (k n:Int) (t:List UInt8) (Q:Nat→Prop) (w:World):Calls Tryz.prog 227 #[.agg #[.int .i64 k,.int .i64 n,sv t]] w fun e w'=>∃ M',e=.returned (.agg M'.toArray)∧ExM w' Q M' (valE k n t)∧Below w.heap.size w w':=by
 unfold sv
 go_enter Tryz.func227,Tryz.ntmps227
 go_wp2_with fail
 obtain ⟨M',hM'⟩:∃ M':List Value,M'=ndC ⟨1,0,k,n,t,[],[],0,0⟩ (.slice none 0 0):=⟨_,rfl⟩
 have e:M'.toArray=#[.int .i64 1,.int .i64 0,.int .i64 k,.int .i64 n,.string ⟨t.toArray⟩,.string ⟨#[]⟩,.string ⟨#[]⟩,.slice none 0 0,.int .i64 0,.int .i64 0]:=by rw [hM'];rfl
 rw [← e]
 have hv:=VrX.new (w.alloc (.cells #[.int .i64 k,.int .i64 n,.string ⟨t.toArray⟩] 26)) (M:=M') (by rw [hM'];rfl)
 have hb:Below w.heap.size w ((w.alloc (.cells #[.int .i64 k,.int .i64 n,.string ⟨t.toArray⟩] 26)).alloc (.cells M'.toArray 29)):=alX (alX (Below.refl _ _) _) _
 refine bodyPost_ret (hv.result rfl _ (by simp)) rfl ⟨M',rfl,⟨_,hM',.inl ⟨rfl,0,rfl⟩⟩,hb⟩
theorem isS_err {T:List Tk} {k:Nat} {x:List UInt8} {S:PS} (h:isS T k x S=true):S.err=0∧(tkS T S).kind=k∧(tkS T S).text=x:=by
 unfold isS at h
 simp only[Bool.and_eq_true,beq_iff_eq] at h
 exact ⟨h.1,h.2.1,h.2.2⟩
theorem TG.more {T:List Tk} (hT:TG T) {S:PS} (hi:S.i < T.length) (hk:(tkS T S).kind ≠ 0):S.i+1 < T.length:=by
 rcases Nat.lt_or_ge (S.i+1) T.length with h | h
 · exact h
 · exfalso
   have e:S.i=T.length - 1:=by omega
   have:=hT.last
   unfold tkS at hk
   rw [e] at hk
   exact hk this
theorem muS_next {T:List Tk} (hT:TG T) {k:Nat} {x:List UInt8} {S:PS} (h:isS T k x S=true) (hk:k ≠ 0) (hi:S.i < T.length):muS T (nextS T S)+1=muS T S:=by
 obtain ⟨h1,h2,_⟩:=isS_err h
 have hm:=hT.more hi (by omega)
 unfold nextS
 rw [if_pos ⟨h1,hm⟩]
 unfold muS
 simp only[if_pos h1]
 omega
theorem muS_fail (T:List Tk) (e:Nat) (he:e ≠ 0) (S:PS):muS T (failS T e S)=0:=by
 unfold failS muS
 by_cases h:S.err=0
 · simp [h,he]
 · simp [h]
theorem muS_nle (T:List Tk) (S:PS):muS T (nextS T S) ≤ muS T S:=by
 unfold nextS
 split
 · rename_i h
   unfold muS
   simp only[if_pos h.1]
   omega
 · exact Nat.le_refl _
theorem muS_must (T:List Tk) (k:Nat) (x:List UInt8) (S:PS):muS T (mustS T k x S) ≤ muS T S:=by
 unfold mustS
 split
 · exact muS_nle T S
 · rw [muS_fail T 1 (by decide)];exact Nat.zero_le _
theorem muS_close (T:List Tk) (x:List UInt8) (S:PS):muS T (closeS T x S) ≤ muS T S:=by
 unfold closeS
 split
 · exact Nat.le_refl _
 · exact muS_must T 5 x _
theorem muS_open (T:List Tk) (x:List UInt8) (S:PS):muS T (openS T x S) ≤ muS T S:=by
 unfold openS
 split
 · split
   · rw [muS_fail T 2 (by decide)];exact Nat.zero_le _
   · exact muS_nle T _
 · rw [muS_fail T 1 (by decide)];exact Nat.zero_le _
/-- What opens takes a token, or there is nothing more to be done. -/
theorem muS_open_lt {T:List Tk} (hT:TG T) {x:List UInt8} {S:PS} (hi:S.i < T.length) (he:S.err=0):muS T (openS T x S)+1 ≤ muS T S:=by
 have h1:1 ≤ muS T S:=by unfold muS;rw [if_pos he];omega
 unfold openS
 split
 · rename_i h
   split
   · rw [muS_fail T 2 (by decide)];omega
   · have hk:(tkS T S).kind ≠ 0:=by
      rcases Bool.or_eq_true _ _ ▸ h with h | h
      · have:=(isS_err h).2.1;omega
      · have:=(isS_err h).2.1;omega
     have hm:=hT.more hi hk
     have:muS T (nextS T { S with deep:=wrap64 (S.deep+1) })+1=muS T S:=by
      unfold nextS
      rw [if_pos ⟨he,hm⟩]
      unfold muS
      simp only[if_pos he]
      omega
     omega
 · rw [muS_fail T 1 (by decide)];omega
theorem muS_name (T:List Tk) (S:PS):muS T (nameS T S).2 ≤ muS T S:=by
 unfold nameS
 split
 · split
   · dsimp only;rw [muS_fail T 2 (by decide)];exact Nat.zero_le _
   · exact muS_nle T S
 · dsimp only;rw [muS_fail T 1 (by decide)];exact Nat.zero_le _
theorem muS_element (T:List Tk) (n:Nat) (S:PS):muS T (elementS T n S) ≤ muS T S:=by
 unfold elementS
 split
 · rw [muS_fail T 2 (by decide)];exact Nat.zero_le _
 · exact Nat.le_refl _
theorem muS_number (T:List Tk) (m:List UInt8) (S:PS):muS T (numberS T m S).2 ≤ muS T S:=by
 unfold numberS
 dsimp only
 split
 · dsimp only;rw [muS_fail T 2 (by decide)];exact Nat.zero_le _
 · exact Nat.le_refl _
def zL:List Value:=[.int .i64 0,.int .i64 0,.int .i64 0,.int .i64 0,.string ⟨#[]⟩,.string ⟨#[]⟩,.string ⟨#[]⟩,.slice none 0 0,.int .i64 0,.int .i64 0]
/-- What a level tells. -/
def LvP (T:List Tk) (p bt c:Nat) (w:World) (S:PS) (r:Ex × PS) (e:Ending) (w':World):Prop:=
 ∃ M,e=.returned (.agg M.toArray)∧ExM w' (fun b=>w.heap.size ≤ b) M r.1∧PX T w' p bt c r.2∧FrX p w w'∧muS T r.2 ≤ muS T S
def LvC (T:List Tk) (p bt c:Nat) (f:FuncId) (G:PS→Ex × PS) (B:Nat):Prop:=
 ∀ (w:World) (S:PS),PX T w p bt c S→muS T S ≤ B→Calls Tryz.prog f #[.pointer (some ⟨p,0,none⟩)] w (LvP T p bt c w S (G S))
/-- A loop's state: its variable a at block b3, what will be told at block b2. -/
structure LW (T:List Tk) (p bt c b2 b3 mu0:Nat) (w wr:World) (R:Ex × PS) (mir:Nat→Ex→PS→Ex × PS) (M:List Value) (a:Ex) (S:PS) (m:Nat):Prop where
 var:VrX wr b3 M
 ex:ExM wr (fun b=>b2 < b∧b ≠ b3) M a
 px:PX T wr p bt c S
 fr:FrX p w wr
 out:VrX wr b2 zL
 eq:mir m a S=R
 fuel:muS T S ≤ m
 mu:muS T S ≤ mu0
 b2p:b2=w.heap.size
 b3p:b2 < b3
theorem PX.lt_p {T:List Tk} {w:World} {p bt c:Nat} {S:PS} (h:PX T w p bt c S):p < w.heap.size:=ltX h.blk
theorem FrX.setCells {p b:Nat} {a w:World} (h:FrX p a w) (hb:a.heap.size ≤ b) (vs:List Value):FrX p a (w.setCells b 0 vs):=by
 obtain ⟨e1,e2,e3,e4⟩:=setCells_env b vs 0 w
 exact ⟨e1.trans h.os,e2.trans h.tape,e3.trans h.output,by rw [e4];exact h.size,fun k hk hp=>(setCells_heap b vs 0 w k (by omega)).trans (h.blk k hk hp)⟩
theorem PX.setCells {T:List Tk} {w:World} {p bt c b:Nat} {S:PS} (h:PX T w p bt c S) (vs:List Value) (hp:b ≠ p) (hb:b ≠ bt):PX T (w.setCells b 0 vs) p bt c S:=
 ⟨(setCells_heap b vs 0 w p (Ne.symm hp)).trans h.blk,h.toks.keep (fun _=>setCells_heap b vs 0 w bt (Ne.symm hb)),h.ne,h.lt,h.dlo,h.dhi,h.err⟩
theorem ExM.setCells {w:World} {Q:Nat→Prop} {M:List Value} {E:Ex} {b:Nat} (h:ExM w Q M E) (hb:¬ Q b) (vs:List Value):ExM (w.setCells b 0 vs) Q M E:=
 h.keep (fun k hq _=>setCells_heap b vs 0 w k (fun e=>hb (e ▸ hq))) (fun _ _ h=>h)
theorem VrX.setCells {w:World} {b b':Nat} {M:List Value} (h:VrX w b M) (hb:b ≠ b') (vs:List Value):VrX (w.setCells b' 0 vs) b M:=h.keep (setCells_heap b' vs 0 w b hb)
/-- The variable written: a loop's next state. -/
theorem LW.next {T:List Tk} {p bt c b2 b3 mu0:Nat} {w wr w5:World} {R:Ex × PS} {mir:Nat→Ex→PS→Ex × PS} {M M':List Value} {a a':Ex} {S S':PS} {m m':Nat} (h:LW T p bt c b2 b3 mu0 w wr R mir M a S m)
 (hx:ExM w5 (fun b=>b2 < b∧b ≠ b3) M' a') (hp:PX T w5 p bt c S') (hf:FrX p wr w5) (he:mir m' a' S'=R) (hm:muS T S' ≤ m') (hmu:muS T S' ≤ mu0) (hbt:b3 ≠ bt) (hb3:b3 ≠ p) (hb2:b2 ≠ p):LW T p bt c b2 b3 mu0 w (w5.setCells b3 0 M') R mir M' a' S' m':=by
 have hv:VrX w5 b3 M:=h.var.keep (hf.blk b3 (ltX h.var.1) hb3)
 have hb2p:=h.b2p
 have hb3p:=h.b3p
 refine ⟨hv.set hx.len,hx.setCells (fun q=>q.2 rfl) _,hp.setCells _ hb3 hbt,(h.fr.trans hf).setCells (by omega) _,?_,he,hm,hmu,hb2p,hb3p⟩
 exact (h.out.keep (hf.blk b2 (ltX h.out.1) hb2)).setCells (by omega) _
/-- The loop's end. -/
theorem LW.done {T:List Tk} {p bt c b2 b3 mu0:Nat} {w wr:World} {R:Ex × PS} {mir:Nat→Ex→PS→Ex × PS} {M:List Value} {a:Ex} {S S0:PS} {m:Nat} (h:LW T p bt c b2 b3 mu0 w wr R mir M a S m) (hR:R=(a,S)) (h0:mu0 ≤ muS T S0) (hbt:b2 ≠ bt) (hb2:b2 ≠ p) :
 VrX (wr.setCells b2 0 M) b2 M∧LvP T p bt c w S0 R (.returned (.agg M.toArray)) (wr.setCells b2 0 M):=by
 have hb2p:=h.b2p
 refine ⟨h.out.set h.ex.len,M,rfl,?_,?_,h.fr.setCells (by omega) _,?_⟩
 · rw [hR]
   exact (h.ex.setCells (fun q=>by omega) M).keep (fun _ _ _=>rfl) (fun b _ q=>by omega)
 · rw [hR];exact h.px.setCells _ hb2 hbt
 · rw [hR];exact Nat.le_trans h.mu h0
def okB (c:UInt8):Bool:=(97 ≤ c.toNat && c.toNat ≤ 122) || kd c == 3 || c.toNat == 95
def nameOk (l:List UInt8):Bool:=match l with
 | []=>false
 | c :: r=>decide (r.length < 20) && !(kd c == 3) && !(wordsL.contains (upL (c :: r))) && (c :: r).all okB
theorem name8_any (l:List UInt8) (w:World):Calls Tryz.prog 74 #[sv l] w fun e w'=>e=.returned (.bool (nameOk l))∧Below w.heap.size w w':=by
 obtain ⟨R,hR⟩:∃ R,R=nameOk l:=⟨_,rfl⟩
 have HR:=V hR
 rw [← hR]
 clear hR
 by_cases h0:l.length < 1
 · have h0I:(l.length:Int) < 1:=by omega
   have HF:Hid (R=false):=by
    have:l=[]:=List.eq_nil_of_length_eq_zero (by omega)
    show R=false
    rw [U HR,this];rfl
   unfold sv
   go_enter Tryz.func74,Tryz.ntmps74
   go_wp2_with fail
   go_ret
   exact ⟨by rw [U HF];rfl,Below.refl _ _⟩
 have h0I:¬ (l.length:Int) < 1:=by omega
 by_cases h20:20 < l.length
 · have hI:(20:Int) < (l.length:Int):=by omega
   have HF:Hid (R=false):=by
    show R=false
    rw [U HR]
    cases l with
    | nil=>rfl
    | cons c r=>
     have:decide (r.length < 20)=false:=decide_eq_false (by simp only[List.length_cons] at h20;omega)
     simp [nameOk,this]
   unfold sv
   go_enter Tryz.func74,Tryz.ntmps74
   go_wp2_with fail
   go_ret
   exact ⟨by rw [U HF];rfl,Below.refl _ _⟩
 have hI:¬ (20:Int) < (l.length:Int):=by omega
 obtain ⟨c,r,rfl⟩:∃ c r,l=c :: r:=by
  cases l with
  | nil=>exact absurd (by simp) h0
  | cons c r=>exact ⟨c,r,rfl⟩
 have hd20:decide (r.length < 20)=true:=decide_eq_true (by simp only[List.length_cons] at h20;omega)
 have HR2:Hid (R=(!(kd c == 3) && !(wordsL.contains (upL (c :: r))) && (c :: r).all okB)):=by
  show R=_
  rw [U HR]
  simp only[nameOk,hd20,Bool.true_and]
 clear HR hd20
 have hi:=idx_run (c :: r) 0 0 c w rfl rfl
 have HDI:=V (digit_any c)
 obtain ⟨l,hl⟩:∃ l,l=c :: r:=⟨_,rfl⟩
 have hc0:l[0]?=some c:=by rw [hl];rfl
 rw [← hl] at hi h0 h20 h0I hI HR2 ⊢
 clear hl
 have hpos:(0:Int) < (l.length:Int):=by omega
 have hl30:(l.length:Int) ≤ 30:=by omega
 unfold sv
 cases hk:(kd c == 3) with
 | true=>
  rw [hk] at HDI HR2
  clear hk
  go_enter Tryz.func74,Tryz.ntmps74
  go_wp2_with (go_at_call 132;refine (U HDI _).mono ?_;rintro e w1 ⟨rfl,hw1⟩;rw [hw1];clear hw1)
  go_ret
  exact ⟨by rw [U HR2];rfl,Below.refl _ _⟩
 | false=>
  rw [hk] at HDI HR2
  clear hk
  have HCA:Hid (Calls Tryz.prog 134 #[.string ⟨l.toArray⟩,.bool true] w fun e w'=>e=.returned (sv (upL l))∧Below w.heap.size w w'):=cased_any true l w (by omega)
  have HIW:=V (isWord_any (upL l))
  cases hw:wordsL.contains (upL l) with
  | true=>
   rw [hw] at HR2 HIW
   clear hw
   go_enter Tryz.func74,Tryz.ntmps74
   go_wp2_with (first | (go_at_call 132;refine (U HDI _).mono ?_;rintro e w1 ⟨rfl,hw1⟩;rw [hw1];clear hw1) | (go_at_call 134;refine (U HCA).mono ?_;rintro e w2 ⟨rfl,hb2⟩;have HB2:=V hb2;clear hb2) | (go_at_call 133;refine (U HIW _).mono ?_;rintro e w3 ⟨rfl,hb3⟩;have HB3:=V hb3;clear hb3))
   go_ret
   exact ⟨by rw [U HR2];rfl,trX (U HB2) (U HB3)⟩
  | false=>
   rw [hw] at HR2 HIW
   clear hw
   have HA:Hid (R=(l.drop 0).all okB):=by show R=_;rw [U HR2];rfl
   clear HR2
   go_enter Tryz.func74,Tryz.ntmps74
   go_wp2_with (first | (go_at_call 132;refine (U HDI _).mono ?_;rintro e w1 ⟨rfl,hw1⟩;rw [hw1];clear hw1) | (go_at_call 134;refine (U HCA).mono ?_;rintro e w2 ⟨rfl,hb2⟩;have HB2:=V hb2;clear hb2) | (go_at_call 133;refine (U HIW _).mono ?_;rintro e w3 ⟨rfl,hb3⟩;have HB3:=V hb3;clear hb3))
   have HB:=V (trX (U HB2) (U HB3))
   clear hi HDI HCA HIW HB2 HB3 hc0
   go_loopg [3] l.length (fun g s3 wr=>∃ k:Nat,g=l.length - k∧s3=.int .i64 (k:Int)∧k ≤ l.length∧Hid (Below w.heap.size w wr∧R=(l.drop k).all okB))
   case atStart=>exact ⟨0,rfl,rfl,Nat.zero_le _,U HB,U HA⟩
   case round=>
    obtain ⟨k,rfl,rfl,hk,HG⟩:=hrel
    clear HA HB
    by_cases hlt:k < l.length
    · have hki:(k:Int) < (l.length:Int):=by omega
      have hk0:(0:Int) ≤ (k:Int):=by omega
      obtain ⟨d,hd⟩:∃ d,l[k]?=some d:=⟨l[k],List.getElem?_eq_getElem hlt⟩
      have hdr:l.drop k=d :: l.drop (k+1):=by
       rw [List.drop_eq_getElem_cons hlt]
       rw [List.getElem?_eq_getElem hlt] at hd
       injection hd with hd;rw [hd]
      have hi:=idx_run l k _ d wr rfl hd
      have HGR:Hid (R=(okB d && (l.drop (k+1)).all okB)):=by
       show R=_
       rw [(U HG).2,hdr];rfl
      have HBW:=V (U HG).1
      have HDI:=V (digit_any d)
      clear hd hdr HG
      have HNX:Hid (okB d=true→Below w.heap.size w wr∧R=(l.drop (k+1)).all okB):=fun h=>⟨U HBW,by rw [U HGR,h];rfl⟩
      cases hk3:(kd d == 3) with
      | true=>
       rw [hk3] at HDI
       have hok:okB d=true:=by unfold okB;rw [hk3];simp
       have HNY:=V (U HNX hok)
       clear hk3 hok HNX HGR
       by_cases hlow:97 ≤ d.toNat∧d.toNat ≤ 122
       · have e1:¬ (d.toNat:Int) < 97:=by omega
         have e2:¬ (122:Int) < (d.toNat:Int):=by omega
         clear hlow
         go_wp2_with (go_at_call 132;refine (U HDI _).mono ?_;rintro e w1 ⟨rfl,hw1⟩;rw [hw1];clear hw1)
         go_roundg (l.length - (k+1))
         case rel=>exact ⟨k+1,rfl,by rw [show ((k+1:Nat):Int)=(k:Int)+1 from rfl],by omega,HNY⟩
         case measure=>omega
       · have e3:(d.toNat:Int) < 97 ∨ (¬ (d.toNat:Int) < 97∧122 < (d.toNat:Int)):=by omega
         clear hlow
         rcases e3 with e3 | ⟨e3,e4⟩ <;>
         · go_wp2_with (go_at_call 132;refine (U HDI _).mono ?_;rintro e w1 ⟨rfl,hw1⟩;rw [hw1];clear hw1)
           go_roundg (l.length - (k+1))
           case rel=>exact ⟨k+1,rfl,by rw [show ((k+1:Nat):Int)=(k:Int)+1 from rfl],by omega,HNY⟩
           case measure=>omega
      | false=>
       rw [hk3] at HDI
       by_cases hlow:97 ≤ d.toNat∧d.toNat ≤ 122
       · have e1:¬ (d.toNat:Int) < 97:=by omega
         have e2:¬ (122:Int) < (d.toNat:Int):=by omega
         have hok:okB d=true:=by unfold okB;simp [hlow.1,hlow.2]
         have HNY:=V (U HNX hok)
         clear hlow hk3 hok HNX HGR
         go_wp2_with (go_at_call 132;refine (U HDI _).mono ?_;rintro e w1 ⟨rfl,hw1⟩;rw [hw1];clear hw1)
         go_roundg (l.length - (k+1))
         case rel=>exact ⟨k+1,rfl,by rw [show ((k+1:Nat):Int)=(k:Int)+1 from rfl],by omega,HNY⟩
         case measure=>omega
       · have e3:(d.toNat:Int) < 97 ∨ (¬ (d.toNat:Int) < 97∧122 < (d.toNat:Int)):=by omega
         by_cases h95:d.toNat=95
         · have hok:okB d=true:=by unfold okB;simp [h95]
           have HNY:=V (U HNX hok)
           have e5:((d.toNat:Int) != 95)=false:=by rw [h95];rfl
           have e6:(d.toNat:Int)=95:=by omega
           rw [e6] at HDI
           clear hlow hk3 hok HNX HGR h95
           rcases e3 with e3 | ⟨e3,e4⟩ <;>
           · go_wp2_with (go_at_call 132;refine (U HDI _).mono ?_;rintro e w1 ⟨rfl,hw1⟩;rw [hw1];clear hw1)
             go_roundg (l.length - (k+1))
             case rel=>exact ⟨k+1,rfl,by rw [show ((k+1:Nat):Int)=(k:Int)+1 from rfl],by omega,HNY⟩
             case measure=>omega
         · have hok:okB d=false:=by
            unfold okB
            rw [hk3]
            simp only[Bool.or_false,Bool.or_eq_false_iff,Bool.and_eq_false_iff,decide_eq_false_iff_not,beq_eq_false_iff_ne]
            omega
           have HNY:Hid (R=false):=by show R=false;rw [U HGR,hok];rfl
           have e5:((d.toNat:Int) != 95)=true:=by simp;omega
           have e6:¬ (d.toNat:Int)=95:=by omega
           clear hlow hk3 hok HNX HGR h95
           rcases e3 with e3 | ⟨e3,e4⟩ <;>
           · go_wp2_with (go_at_call 132;refine (U HDI _).mono ?_;rintro e w1 ⟨rfl,hw1⟩;rw [hw1];clear hw1)
             go_ret
             exact ⟨by rw [U HNY];rfl,U HBW⟩
    · have hki:¬ (k:Int) < (l.length:Int):=by omega
      have HE:Hid (R=true):=by show R=true;rw [(U HG).2,List.drop_eq_nil_of_le (by omega)];rfl
      have HBW:=V (U HG).1
      clear HG
      go_wp2_with fail
      go_ret
      exact ⟨by rw [U HE];rfl,U HBW⟩
theorem bare_any (M:List Value) (E:Ex) (Q:Nat→Prop) (w:World) (h:ExM w Q M E):Calls Tryz.prog 98 #[.agg M.toArray] w fun e w'=>e=.returned (.bool (E.1.at' == 0 && E.1.ty == 0))∧Below w.heap.size w w':=by
 have hl:=h.len
 obtain ⟨args,rfl,hs⟩:=h
 obtain ⟨n,kids⟩:=E
 have hb:=alX (Below.refl w.heap.size w) (.cells (ndC n args).toArray 29)
 have HB:=V hb
 have hlt:w.heap.size < (w.alloc (.cells (ndC n args).toArray 29)).heap.size:=by simp
 have hblk:=heap_alloc_new w (.cells (ndC n args).toArray 29)
 have c8:(w.alloc (.cells (ndC n args).toArray 29)).cell? ⟨w.heap.size,8,none⟩=some (.int .i64 n.at'):=by rw [cellX hblk];rfl
 have c9:(w.alloc (.cells (ndC n args).toArray 29)).cell? ⟨w.heap.size,9,none⟩=some (.int .i64 n.ty):=by rw [cellX hblk];rfl
 obtain ⟨M,hM⟩:∃ M,M=ndC n args:=⟨_,rfl⟩
 dsimp only
 obtain ⟨b1,hb1⟩:∃ b1,b1=(n.at' == 0):=⟨_,rfl⟩
 obtain ⟨b2,hb2⟩:∃ b2,b2=(n.ty == 0):=⟨_,rfl⟩
 rw [← hb1,← hb2]
 have h1:=hb1.symm
 have h2:=hb2.symm
 rw [← hM] at c8 c9 hl HB ⊢
 clear hM hs hb hblk hlt hb1 hb2
 cases b1 <;> cases b2 <;>
 · go_enter Tryz.func98,Tryz.ntmps98
   go_wp2_with fail
   go_ret
   exact ⟨rfl,U HB⟩
end Go.Proofs.YtpnonhjmpnbmcaaGreatDoor
