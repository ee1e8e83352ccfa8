/- The document's typed, at a CASE. -/
import Derived.Test.YtpnonhjmpnbmcaaGreatDoorJXFitXTyped
import Derived.Test.YtpnonhjmpnbmcaaGreatDoorJXPar9XPar10XPar11XApp2
namespace Go.Proofs.YtpnonhjmpnbmcaaGreatDoor
open Go.RowKit Go.Lib
open Act (put)
set_option linter.unusedSimpArgs false
set_option linter.unusedVariables false
set_option maxHeartbeats 12800000
set_option maxRecDepth 100000
/-- A row of expressions in a block of the call's own (base on), their parts elsewhere (Q). -/
structure OV (Q:Nat→Prop) (base:Nat) (w:World) (a:Option Addr) (m c:Nat) (Es:List (List Value × Ex)):Prop where
 row:w.ownsRow base 29 10 (.slice a m c) m (Es.flatMap (·.1))
 len:m=Es.length
 ex:∀ x ∈ Es,ExM w Q x.1 x.2
theorem OV.none (Q:Nat→Prop) (base:Nat) (w:World):OV Q base w none 0 0 []:=⟨⟨rfl,.inl ⟨rfl,rfl⟩⟩,rfl,fun _ h=>by cases h⟩
theorem OV.own {Q:Nat→Prop} {base:Nat} {w:World} {a:Option Addr} {m c:Nat} {Es:List (List Value × Ex)} (h:OV Q base w a m c Es):∀ g,(Value.slice a m c).ownBlock=some g→base ≤ g∧g < w.heap.size:=by
 intro g hg
 rcases h.row.2 with ⟨e,_⟩ | ⟨g',cap,cur,e,hb,hc,_⟩
 · injection e with e1 _ _;subst e1;simp [Value.ownBlock] at hg
 · injection e with e1 _ _;subst e1
   simp only[Value.ownBlock,Option.some.injEq] at hg
   subst hg
   exact ⟨hb,ltX hc⟩
/-- But for a row's own block the world is as it was. -/
structure Kp (w w':World) (own:Option Nat):Prop where
 os:w'.os=w.os
 tape:w'.tape=w.tape
 output:w'.output=w.output
 size:w.heap.size ≤ w'.heap.size
 blk:∀ b,b < w.heap.size→own ≠ some b→w'.heap[b]?=w.heap[b]?
theorem OV.keep {Q:Nat→Prop} {base:Nat} {w w':World} {a:Option Addr} {m c:Nat} {Es:List (List Value × Ex)} {own:Option Nat} (h:OV Q base w a m c Es) (hk:Kp w w' own) (hQ:∀ b,Q b→b < base) (ho:∀ g,own=some g→base ≤ g) (ha:∀ g,(Value.slice a m c).ownBlock=some g→own ≠ some g):OV Q base w' a m c Es:=by
 refine ⟨⟨h.row.1,?_⟩,h.len,fun x hx=>(h.ex x hx).keep (fun b q hl=>hk.blk b hl (fun e=>by have:=ho b e;have:=hQ b q;omega)) (fun _ _ q=>q)⟩
 rcases h.row.2 with e | ⟨g,cap,cur,e,hb,hc,r⟩
 · exact .inl e
 · refine .inr ⟨g,cap,cur,e,hb,(hk.blk g (ltX hc) (ha g ?_)).trans hc,r⟩
   injection e with e1 _ _
   rw [e1]
   rfl
theorem OV.slice {Q:Nat→Prop} {base:Nat} {w:World} {a:Option Addr} {m c:Nat} {Es:List (List Value × Ex)} (h:OV Q base w a m c Es):SlAt w (fun _=>True) (.slice a m c) (toFo Es):=by
 rcases h.row.2 with ⟨e,hm⟩ | ⟨g,cap,cur,e,hb,hc,h1,h2,h3,h4⟩
 · injection e with e1 e2 e3
   subst e1
   have:Es=[]:=List.eq_nil_of_length_eq_zero (by rw [← h.len];exact hm)
   subst this
   exact .inl ⟨rfl,c,by rw [hm]⟩
 · injection e with e1 e2 e3
   subst e1
   subst e3
   refine .inr ⟨g,0,c,by rw [cnt_toFo,← h.len],by rw [cnt_toFo,← h.len];exact h1,h2,?_⟩
   refine row_of trivial (fun x hx=>(h.ex x hx).keep (fun _ _ _=>rfl) (fun _ _ _=>trivial)) (fun j v hj=>?_)
   rw [Nat.zero_add,cellX hc]
   rw [← h4] at hj
   have hj2:=(List.getElem?_eq_some_iff.1 hj).1
   rw [List.getElem?_take_of_lt (by simp at hj2;omega)] at hj
   simpa using hj
theorem append_ov {ops:Array Oper} {rest:List Oper} {o:Oper} {act:Act} {Q':Exit→Act→World→Prop} {Q:Nat→Prop} {base:Nat} {W:World} {a:Option Addr} {m c:Nat} {Es:List (List Value × Ex)} (hgd:o.guard=none) (s x:Operand)
 (ho:o.op=.call { callee:=.builtin .append,args:=#[s,x],argTypes:=#[27,27] }) (h:OV Q base W a m c Es) (hbase:base ≤ W.heap.size) (hQ:∀ b,Q b→b < base) (hs:act.eval s=.slice a m c)
 (M:List Value) (E:Ex) (hx:ExM W Q M E) (hev:act.eval x=.slice (some ⟨W.heap.size,0,none⟩) 1 1) (hn:m ≤ 1000000)
 (K:∀ ad k w',OV Q base w' ad (m+1) k (Es ++ [(M,E)])→Kp W w' (Value.slice a m c).ownBlock→((Value.slice ad (m+1) k).ownBlock=(Value.slice a m c).ownBlock ∨ ∃ g,W.heap.size ≤ g∧(Value.slice ad (m+1) k).ownBlock=some g)→wpList Tryz.prog ops Q' rest (act.put o.dst (.slice ad (m+1) k)) w'):wpList Tryz.prog ops Q' (o :: rest) act (W.alloc (.cells M.toArray 29)):=by
 obtain ⟨i0,hi,hz0,hz1,hz2⟩:=info_parts Tryz.infoEx
 have hal:Below W.heap.size W (W.alloc (.cells M.toArray 29)):=(Below.refl _ _).alloc (Nat.le_refl _) _
 have hrow:=own_keepX h.row hal
 refine wpList_append_own_at (W.alloc (.cells M.toArray 29)) hgd s x 27 ho base 29 i0 _ 10 120 Tryz.underlying27 hi hz0 hz1 hz2 rfl (by decide) _ m _ hs hrow ⟨W.heap.size,0,none⟩ 1 1 M hev (by rw [hx.len]) (fun j u hj=>?_) hx.one (by unfold maxLen;omega) (by omega) (Nat.le_trans hbase hal.size) ?_
 · rw [Go.WideShapes.add_plain,Nat.zero_add,cellX (heap_alloc_new W (.cells M.toArray 29))]
   simpa using hj
 · intro v' w' ho' hg _ hown
   obtain ⟨ad,k,rfl⟩:=ownSX ho'
   have hsz:(W.alloc (.cells M.toArray 29)).heap.size=W.heap.size+1:=by simp
   have hkp:Kp W w' (Value.slice a m c).ownBlock:=⟨hg.os.trans hal.os,hg.tape.trans hal.tape,hg.output.trans hal.output,Nat.le_trans hal.size hg.size,fun b hb e=>(hg.block b (by omega) (fun e'=>e e'.symm)).trans (hal.block b hb)⟩
   refine K ad k w' ⟨?_,?_,?_⟩ hkp ?_
   · rw [List.flatMap_append];simpa using ho'
   · rw [List.length_append,← h.len];rfl
   · intro y hy
     have hy2:ExM W Q y.1 y.2:=by
      rcases List.mem_append.1 hy with hy | hy
      · exact h.ex y hy
      · rw [List.mem_singleton.1 hy];exact hx
     exact hy2.keep (fun b q hl=>hkp.blk b hl (fun e=>by have:=(h.own b e).1;have:=hQ b q;omega)) (fun _ _ q=>q)
   · rcases hown with e | e
     · exact .inl e
     · exact .inr ⟨_,by omega,e⟩
/-- What is left of a CASE's parts: at an even place, at an odd one. -/
def restP (even:Bool) (l:List Ex):List Ex × List Ex:=if even=true then pairsL l else match l with
 | []=>([],[])
 | v :: r=>((pairsL r).1,v :: (pairsL r).2)
structure TC (Q:Nat→Prop) (w wr:World) (n:Nd) (F:Fo) (a:Option Addr) (k i:Nat) (ac av:Option Addr) (mc mv kc kv:Nat) (Cs Vs:List (List Value × Ex)):Prop where
 ty:TY Q w wr w.heap.size (w.heap.size+1) n F a k
 cs:OV (fun b=>Q b∧b < w.heap.size) (w.heap.size+2) wr ac mc kc Cs
 vs:OV (fun b=>Q b∧b < w.heap.size) (w.heap.size+2) wr av mv kv Vs
 ap:∀ g,(Value.slice ac mc kc).ownBlock=some g→(Value.slice av mv kv).ownBlock ≠ some g
 pr:pairsL (toL F)=(Cs.map (·.2) ++ (restP (i % 2 == 0) ((toL F).drop i)).1,Vs.map (·.2) ++ (restP (i % 2 == 0) ((toL F).drop i)).2)
 ln:Cs.length+Vs.length=i
theorem TY.kp {Q:Nat→Prop} {w wr w':World} {n:Nd} {F:Fo} {a:Option Addr} {k:Nat} {own:Option Nat} (h:TY Q w wr w.heap.size (w.heap.size+1) n F a k) (hk:Kp wr w' own) (ho:∀ g,own=some g→w.heap.size+2 ≤ g):TY Q w w' w.heap.size (w.heap.size+1) n F a k:=by
 have hs2:=ltX h.out.1
 have hk2:∀ b,b < w.heap.size+2→w'.heap[b]?=wr.heap[b]?:=fun b hb=>hk.blk b (by omega) (fun e=>by have:=ho b e;omega)
 exact ⟨h.va.keep (hk2 _ (by omega)),h.out.keep (hk2 _ (by omega)),h.sl.keep (fun b q _=>hk2 b (by have:=q.2;omega)) (fun _ _ q=>q),⟨hk.os.trans h.low.os,hk.tape.trans h.low.tape,hk.output.trans h.low.output,Nat.le_trans h.low.size hk.size,fun b hb=>(hk2 b (by omega)).trans (h.low.block b hb)⟩,h.b1p,h.b2p⟩
theorem restP_even (c v:Ex) (l:List Ex):restP true (c :: v :: l)=(c :: (restP false (v :: l)).1,(restP false (v :: l)).2):=rfl
theorem restP_last (v:Ex):restP true [v]=((restP false []).1,v :: (restP false []).2):=rfl
theorem restP_odd (v:Ex) (l:List Ex):restP false (v :: l)=((restP true l).1,v :: (restP true l).2):=rfl
theorem TC.cond {Q:Nat→Prop} {w wr w':World} {n:Nd} {F:Fo} {a:Option Addr} {k i:Nat} {ac av ad:Option Addr} {mc mv kc kv k':Nat} {Cs Vs:List (List Value × Ex)} {M:List Value} {x:Ex}
 (h:TC Q w wr n F a k i ac av mc mv kc kv Cs Vs) (ho:OV (fun b=>Q b∧b < w.heap.size) (w.heap.size+2) w' ad (mc+1) k' (Cs ++ [(M,x)])) (hk:Kp wr w' (Value.slice ac mc kc).ownBlock) (hn:(Value.slice ad (mc+1) k').ownBlock=(Value.slice ac mc kc).ownBlock ∨ ∃ g,wr.heap.size ≤ g∧(Value.slice ad (mc+1) k').ownBlock=some g)
 (he:i % 2=0) (hx:(toL F)[i]?=some x) (hl:i+1 < cnt F):TC Q w w' n F a k (i+1) ad av (mc+1) mv k' kv (Cs ++ [(M,x)]) Vs:=by
 refine ⟨h.ty.kp hk (fun g e=>(h.cs.own g e).1),ho,h.vs.keep hk (fun b q=>by have:=q.2;omega) (fun g e=>(h.cs.own g e).1) (fun g e e2=>h.ap g e2 e),?_,?_,by rw [List.length_append];have:=h.ln;show Cs.length+1+Vs.length=i+1;omega⟩
 · intro g e e2
   rcases hn with e3 | ⟨g',h1,e3⟩
   · exact h.ap g (e3 ▸ e) e2
   · rw [e3] at e
     injection e with e
     have:=(h.vs.own g e2).2
     omega
 · obtain ⟨y,hy⟩:∃ y,(toL F)[i+1]?=some y:=⟨_,List.getElem?_eq_getElem (by rw [← cnt_toL];exact hl)⟩
   have hd:(toL F).drop i=x :: (toL F).drop (i+1):=by
    obtain ⟨h1,h2⟩:=List.getElem?_eq_some_iff.1 hx
    rw [List.drop_eq_getElem_cons h1,h2]
   have hd2:(toL F).drop (i+1)=y :: (toL F).drop (i+2):=by
    obtain ⟨h1,h2⟩:=List.getElem?_eq_some_iff.1 hy
    rw [List.drop_eq_getElem_cons h1,h2]
   have e0:(i % 2 == 0)=true:=by rw [he];rfl
   have e1:((i+1) % 2 == 0)=false:=by rw [show (i+1) % 2=1 by omega];rfl
   rw [h.pr,e0,e1,hd,hd2,restP_even]
   simp
theorem TC.val {Q:Nat→Prop} {w wr w':World} {n:Nd} {F:Fo} {a:Option Addr} {k i:Nat} {ac av ad:Option Addr} {mc mv kc kv k':Nat} {Cs Vs:List (List Value × Ex)} {M:List Value} {x:Ex}
 (h:TC Q w wr n F a k i ac av mc mv kc kv Cs Vs) (ho:OV (fun b=>Q b∧b < w.heap.size) (w.heap.size+2) w' ad (mv+1) k' (Vs ++ [(M,x)])) (hk:Kp wr w' (Value.slice av mv kv).ownBlock) (hn:(Value.slice ad (mv+1) k').ownBlock=(Value.slice av mv kv).ownBlock ∨ ∃ g,wr.heap.size ≤ g∧(Value.slice ad (mv+1) k').ownBlock=some g)
 (he:i % 2=1 ∨ i+1=cnt F) (hx:(toL F)[i]?=some x):TC Q w w' n F a k (i+1) ac ad mc (mv+1) kc k' Cs (Vs ++ [(M,x)]):=by
 refine ⟨h.ty.kp hk (fun g e=>(h.vs.own g e).1),h.cs.keep hk (fun b q=>by have:=q.2;omega) (fun g e=>(h.vs.own g e).1) (fun g e e2=>h.ap g e e2),ho,?_,?_,by rw [List.length_append];have:=h.ln;show Cs.length+(Vs.length+1)=i+1;omega⟩
 · intro g e e2
   rcases hn with e3 | ⟨g',h1,e3⟩
   · exact h.ap g e (e3 ▸ e2)
   · rw [e3] at e2
     injection e2 with e2
     have:=(h.cs.own g e).2
     omega
 · have hd:(toL F).drop i=x :: (toL F).drop (i+1):=by
    obtain ⟨h1,h2⟩:=List.getElem?_eq_some_iff.1 hx
    rw [List.drop_eq_getElem_cons h1,h2]
   rcases Nat.mod_two_eq_zero_or_one i with h0 | h0
   · have hl:i+1=cnt F:=by omega
     have hz:(toL F).drop (i+1)=[]:=List.drop_eq_nil_of_le (by rw [← cnt_toL];omega)
     have e0:(i % 2 == 0)=true:=by rw [h0];rfl
     have e1:((i+1) % 2 == 0)=false:=by rw [show (i+1) % 2=1 by omega];rfl
     rw [h.pr,e0,e1,hd,hz,restP_last]
     simp
   · have e0:(i % 2 == 0)=false:=by rw [h0];rfl
     have e1:((i+1) % 2 == 0)=true:=by rw [show (i+1) % 2=0 by omega];rfl
     rw [h.pr,e0,e1,hd,restP_odd]
     simp
theorem toL_toFo:∀ Es:List (List Value × Ex),toL (toFo Es)=Es.map (·.2)
 | []=>rfl
 | x :: l=>by show x.2 :: toL (toFo l)=x.2 :: l.map (·.2);rw [toL_toFo l]
theorem TC.fin {Q:Nat→Prop} {w wr:World} {n:Nd} {F:Fo} {a:Option Addr} {k:Nat} {ac av:Option Addr} {mc mv kc kv:Nat} {Cs Vs:List (List Value × Ex)} (h:TC Q w wr n F a k (cnt F) ac av mc mv kc kv Cs Vs):pairsL (toL F)=(Cs.map (·.2),Vs.map (·.2)):=by
 rw [h.pr,List.drop_eq_nil_of_le (by rw [← cnt_toL];exact Nat.le_refl _)]
 have:∀ b,restP b []=([],[]):=fun b=>by cases b <;> rfl
 rw [this]
 simp
theorem typed_any6 (w:World) (Q:Nat→Prop) (M:List Value) (E:Ex) (h:ExM w Q M E) (hkind:E.1.kind=6) (hcn:cnt E.2 ≤ 1000):Calls Tryz.prog 100 #[.agg M.toArray] w (ReP Q w (typedS E)):=by
 have hlM:=h.len
 obtain ⟨args,rfl,hs⟩:=h
 obtain ⟨n,F⟩:=E
 dsimp only at hs hlM hkind hcn ⊢
 obtain ⟨a,k,rfl⟩:=slAt_slice hs
 have HT0:=V (TY.new (n:={ n with ty:=1 }) hs)
 have hcc:=(TY.new (n:=n) hs).cells
 have HALL:Hid (∀ (s:Int) (W:World),SlAt W (fun b=>Q b∧b < w.heap.size) (.slice a (cnt F) k) F→Calls Tryz.prog 155 #[.slice a (cnt F) k,.int .i64 s] W fun e w'=>e=.returned (.bool (allB s (toL F)))∧w'=W):=fun s W h=>all_any F s W _ _ h
 have HONE:Hid (∀ (W:World),SlAt W (fun b=>Q b∧b < w.heap.size) (.slice a (cnt F) k) F→Calls Tryz.prog 156 #[.slice a (cnt F) k] W fun e w'=>e=.returned (.tuple #[.int .i64 (oneL 0 (toL F)).1,.bool (oneL 0 (toL F)).2])∧w'=W):=fun W h=>one_any F W _ _ h
 obtain ⟨M,hM⟩:∃ M,M=ndC n (.slice a (cnt F) k):=⟨_,rfl⟩
 obtain ⟨R,hR⟩:∃ R,R=typedS (n,F):=⟨_,rfl⟩
 obtain ⟨K,hK⟩:∃ K,K=tyK (n,F):=⟨_,rfl⟩
 have HKK:=V hK
 have HRE:=V hR
 obtain ⟨PP,hPP⟩:∃ PP,PP=ReP Q w R:=⟨_,rfl⟩
 have HPP:=V hPP
 have hM1:ndC { n with ty:=1 } (.slice a (cnt F) k)=M.set 9 (.int .i64 1):=by rw [hM];rfl
 rw [hM1] at HT0
 rw [← hM] at hlM hcc ⊢
 rw [← hR,← hPP]
 obtain ⟨q0,q1,q2,q7,q9,f9⟩:=hcc
 clear hM hR hs hPP hK q2 q0 q1 q7
 unfold zL at q9 f9
 go_enter Tryz.func100,Tryz.ntmps100
 go_upto_region 3 with fail
 clear q9 f9
 unfold zL at HT0
 obtain ⟨w1,hw1⟩:∃ w1,w1=(w.alloc (.cells (M.set 9 (.int .i64 1)).toArray 29)).alloc (.cells zL.toArray 29):=⟨_,rfl⟩
 unfold zL at hw1
 have HT:=HT0
 clear HT0 hM1
 rw [← hw1] at HT
 rw [← hw1]
 clear hw1
 obtain ⟨c0,c1,c2,c7,c9,f9⟩:=(U HT).cells
 dsimp only at c0 c1 c2 c9
 clear c2
 go_upto_block 0 with fail
 go_cut [4,5,6,7,8,9] from 11 to 137 (fun s4 s5 s6 s7 s8 s9 wx=>s4=.bool K.1∧s5=s5∧s6=s6∧s7=s7∧s8=s8∧s9=s9∧Hid (TY Q w wx w.heap.size (w.heap.size+1) { n with ty:=K.2 } F a k))
 case first=>
  have HK:Hid (K=((oneL 0 (pairsL (toL F)).2).2 && allB 1 (pairsL (toL F)).1,(oneL 0 (pairsL (toL F)).2).1)):=by
   show K=_
   rw [U HKK]
   unfold tyK
   dsimp only
   rw [if_neg (by rw [hkind];decide),if_neg (by rw [hkind];decide),if_neg (by rw [hkind];decide),if_pos hkind]
  rw [hkind] at c0
  have HG0:Hid (TC Q w w1 { n with ty:=1 } F a k 0 none none 0 0 0 0 [] []):=⟨U HT,OV.none _ _ _,OV.none _ _ _,fun g e=>by simp [Value.ownBlock] at e,by simp [restP],rfl⟩
  clear HKK HRE HPP HALL HONE
  go_upto_region 25 with fail
  clear c0 c1 c7 c9 f9 HT
  go_wp2_with fail
  go_loopg [5,6,7] (cnt F) (fun g s5 s6 s7 wr=>∃ (i:Nat) (ac av:Option Addr) (mc mv kc kv:Nat) (Cs Vs:List (List Value × Ex)),g=cnt F - i∧s5=.slice ac mc kc∧s6=.slice av mv kv∧s7=.int .i64 (i:Int)∧i ≤ cnt F∧Hid (TC Q w wr { n with ty:=1 } F a k i ac av mc mv kc kv Cs Vs))
  case atStart=>exact ⟨0,none,none,0,0,0,0,[],[],rfl,rfl,rfl,rfl,Nat.zero_le _,HG0⟩
  case round=>
   obtain ⟨i,ac,av,mc,mv,kc,kv,Cs,Vs,hg,rfl,rfl,rfl,hi,HG⟩:=hrel
   clear HG0
   have hi0:(0:Int) ≤ (i:Int):=by omega
   obtain ⟨z0,z1,z2,c7,z9,z8⟩:=(U HG).ty.cells
   clear z0 z1 z2 z9 z8
   by_cases hlt:i < cnt F
   · skip
     obtain ⟨x,hx⟩:∃ x,(toL F)[i]?=some x:=⟨_,List.getElem?_eq_getElem (by rw [← cnt_toL];exact hlt)⟩
     rcases (U HG).ty.sl with ⟨hf,_⟩ | ⟨bq,oq,cq,he,hc1,hc2,hrow⟩
     · rw [hf] at hlt;exact absurd hlt (Nat.not_lt_zero _)
     injection he with e1 _ e3
     subst e1
     subst e3
     obtain ⟨N,hxN,hrN,_⟩:=row_nth F i bq oq x hrow hx
     have hiI:(i:Int) < (cnt F:Int):=by omega
     have hw1:IntKind.wrap .i64 ((i:Int)+1)=(i:Int)+1:=by rw [IntKind.wrap_i64];omega
     have hlN:N.length=10:=hxN.len
     have hfo:=fold10 hlN
     have HXN:=V hxN
     have HRN:=V hrN
     have HXX:=V hx
     have hbase:w.heap.size+2 ≤ wr.heap.size:=ltX (U HG).ty.out.1
     have HQ:Hid (∀ b,(Q b∧b < w.heap.size)→b < w.heap.size+2):=fun b q=>by have:=q.2;omega
     have hmc:mc ≤ 1000:=by have h1:=(U HG).ln;have h2:=(U HG).cs.len;omega
     have hmv:mv ≤ 1000:=by have h1:=(U HG).ln;have h2:=(U HG).vs.len;omega
     obtain ⟨d0,d1,d2,c7,d9,e9⟩:=(U HG).ty.cells
     clear d0 d1 d2 d9 e9 hxN hrN hrow hx hc1 hc2
     rcases Nat.mod_two_eq_zero_or_one i with h2 | h2
     · have htm:(i:Int).tmod 2=0:=by rw [Int.tmod_eq_emod_of_nonneg hi0];omega
       by_cases hl2:i+1 < cnt F
       · have hl2I:(i:Int)+1 < (cnt F:Int):=by omega
         have HO:=V (U HG).cs
         as_aux_lemma=>
          go_upto_region 29 with fail
          refine wp_region_list ?_
          refine lt 87 (.slice ac mc kc) ?_
          refine lt 88 (.pointer (some ⟨w.heap.size,7,none⟩)) ?_
          simp only[put,sA,sB,sC]
          refine list_to (d:=89) (v:=.slice (some ⟨bq,oq,none⟩) (cnt F) k) rfl rfl (by go_simp) ?_
          refine lt 90 (.int .i64 (i:Int)) ?_
          simp only[put,sA,sB,sC]
          refine list_to (d:=91) (v:=.pointer (some ⟨bq,oq+10 * i,none⟩)) rfl rfl (by go_simp) ?_
          simp only[put,sA,sB,sC]
          refine wpList_load_mid rfl 29 (.tmp 91) rfl bq (oq+10 * i) rfl N _ (U HRN) Tryz.underlying29 rfl (by rw [hlN];exact sizeEx) ?_
          simp only[put,sA,sB,sC]
          go_wp2_with (at_builtin;refine append_ov rfl (.tmp 87) (.tmp 93) rfl (U HO) hbase (U HQ) rfl N x (U HXN) rfl (by omega) ?_;intro ad4 k4 w4 ho4 hk4 hn4;have HO4:=V ho4;have HK4:=V hk4;have HN4:=V hn4;clear ho4 hk4 hn4)
          have HNX:Hid (TC Q w w4 { n with ty:=1 } F (some ⟨bq,oq,none⟩) k (i+1) ad4 av (mc+1) mv k4 kv (Cs ++ [(N,x)]) Vs):=TC.cond (U HG) (U HO4) (U HK4) (U HN4) h2 (U HXX) hl2
          go_roundg (cnt F - (i+1))
          case rel=>exact ⟨i+1,ad4,av,mc+1,mv,k4,kv,Cs ++ [(N,x)],Vs,rfl,rfl,rfl,by rw [show ((i+1:Nat):Int)=(i:Int)+1 from rfl],by omega,HNX⟩
          case measure=>omega
       · have hl2I:¬ (i:Int)+1 < (cnt F:Int):=by omega
         have HO:=V (U HG).vs
         as_aux_lemma=>
          go_upto_region 30 with fail
          refine wp_region_list ?_
          refine lt 95 (.slice av mv kv) ?_
          refine lt 96 (.pointer (some ⟨w.heap.size,7,none⟩)) ?_
          simp only[put,sA,sB,sC]
          refine list_to (d:=97) (v:=.slice (some ⟨bq,oq,none⟩) (cnt F) k) rfl rfl (by go_simp) ?_
          refine lt 98 (.int .i64 (i:Int)) ?_
          simp only[put,sA,sB,sC]
          refine list_to (d:=99) (v:=.pointer (some ⟨bq,oq+10 * i,none⟩)) rfl rfl (by go_simp) ?_
          simp only[put,sA,sB,sC]
          refine wpList_load_mid rfl 29 (.tmp 99) rfl bq (oq+10 * i) rfl N _ (U HRN) Tryz.underlying29 rfl (by rw [hlN];exact sizeEx) ?_
          simp only[put,sA,sB,sC]
          go_wp2_with (at_builtin;refine append_ov rfl (.tmp 95) (.tmp 101) rfl (U HO) hbase (U HQ) rfl N x (U HXN) rfl (by omega) ?_;intro ad4 k4 w4 ho4 hk4 hn4;have HO4:=V ho4;have HK4:=V hk4;have HN4:=V hn4;clear ho4 hk4 hn4)
          have HNX:Hid (TC Q w w4 { n with ty:=1 } F (some ⟨bq,oq,none⟩) k (i+1) ac ad4 mc (mv+1) kc k4 Cs (Vs ++ [(N,x)])):=TC.val (U HG) (U HO4) (U HK4) (U HN4) (.inr (by omega)) (U HXX)
          go_roundg (cnt F - (i+1))
          case rel=>exact ⟨i+1,ac,ad4,mc,mv+1,kc,k4,Cs,Vs ++ [(N,x)],rfl,rfl,rfl,by rw [show ((i+1:Nat):Int)=(i:Int)+1 from rfl],by omega,HNX⟩
          case measure=>omega
     · have htm:(i:Int).tmod 2=1:=by rw [Int.tmod_eq_emod_of_nonneg hi0];omega
       have HO:=V (U HG).vs
       as_aux_lemma=>
        go_upto_region 30 with fail
        refine wp_region_list ?_
        refine lt 95 (.slice av mv kv) ?_
        refine lt 96 (.pointer (some ⟨w.heap.size,7,none⟩)) ?_
        simp only[put,sA,sB,sC]
        refine list_to (d:=97) (v:=.slice (some ⟨bq,oq,none⟩) (cnt F) k) rfl rfl (by go_simp) ?_
        refine lt 98 (.int .i64 (i:Int)) ?_
        simp only[put,sA,sB,sC]
        refine list_to (d:=99) (v:=.pointer (some ⟨bq,oq+10 * i,none⟩)) rfl rfl (by go_simp) ?_
        simp only[put,sA,sB,sC]
        refine wpList_load_mid rfl 29 (.tmp 99) rfl bq (oq+10 * i) rfl N _ (U HRN) Tryz.underlying29 rfl (by rw [hlN];exact sizeEx) ?_
        simp only[put,sA,sB,sC]
        go_wp2_with (at_builtin;refine append_ov rfl (.tmp 95) (.tmp 101) rfl (U HO) hbase (U HQ) rfl N x (U HXN) rfl (by omega) ?_;intro ad4 k4 w4 ho4 hk4 hn4;have HO4:=V ho4;have HK4:=V hk4;have HN4:=V hn4;clear ho4 hk4 hn4)
        have HNX:Hid (TC Q w w4 { n with ty:=1 } F (some ⟨bq,oq,none⟩) k (i+1) ac ad4 mc (mv+1) kc k4 Cs (Vs ++ [(N,x)])):=TC.val (U HG) (U HO4) (U HK4) (U HN4) (.inl h2) (U HXX)
        go_roundg (cnt F - (i+1))
        case rel=>exact ⟨i+1,ac,ad4,mc,mv+1,kc,k4,Cs,Vs ++ [(N,x)],rfl,rfl,rfl,by rw [show ((i+1:Nat):Int)=(i:Int)+1 from rfl],by omega,HNX⟩
        case measure=>omega
   · skip
     have hiI:¬ (i:Int) < (cnt F:Int):=by omega
     have hie:i=cnt F:=by omega
     clear hlt
     subst hie
     have hp:=(U HG).fin
     have HT:=V (U HG).ty
     have HSV:=V (U HG).vs.slice
     have HSC:=V (U HG).cs.slice
     obtain ⟨P,hP⟩:∃ P,P=oneL 0 (Vs.map (·.2)):=⟨_,rfl⟩
     have HKP:Hid (K=(P.2 && allB 1 (Cs.map (·.2)),P.1)):=by
      show K=_
      rw [U HK,hp,hP]
     have HONE:Hid (∀ (W:World),SlAt W (fun _=>True) (.slice av mv kv) (toFo Vs)→Calls Tryz.prog 156 #[.slice av mv kv] W fun e w'=>e=.returned (.tuple #[.int .i64 P.1,.bool P.2])∧w'=W):=fun W h=>by
      have:=one_any (toFo Vs) W _ _ h
      rw [toL_toFo,← hP] at this
      exact this
     have HALL:Hid (∀ (W:World),SlAt W (fun _=>True) (.slice ac mc kc) (toFo Cs)→Calls Tryz.prog 155 #[.slice ac mc kc,.int .i64 1] W fun e w'=>e=.returned (.bool (allB 1 (Cs.map (·.2))))∧w'=W):=fun W h=>by
      have:=all_any (toFo Cs) 1 W _ _ h
      rw [toL_toFo] at this
      exact this
     obtain ⟨d0,d1,d2,d7,c9,f9⟩:=(U HG).ty.cells
     clear d0 d1 d2 d7 HG hp hP HK
     cases hP2:P.2 with
     | true=>
      have HKQ:Hid (K=(allB 1 (Cs.map (·.2)),P.1)):=by show K=_;rw [U HKP,hP2,Bool.true_and]
      rw [hP2] at HONE
      clear hP2 HKP
      as_aux_lemma=>
       go_wp2_with (first
        | (go_at_call 156;refine (U HONE _ (U HSV)).mono ?_;rintro e w4 ⟨rfl,hw4⟩;rw [hw4];clear hw4)
        | (go_at_call 155;refine (U HALL _ (U HSC)).mono ?_;rintro e w4 ⟨rfl,hw4⟩;rw [hw4];clear hw4))
       go_meet
       refine ⟨?_,trivial,trivial,trivial,trivial,trivial,?_⟩
       · show Value.bool _=Value.bool _
         rw [U HKQ]
       · rw [U HKQ]
         exact V ((U HT).setTy _)
     | false=>
      have HKQ:Hid (K=(false,P.1)):=by show K=_;rw [U HKP,hP2,Bool.false_and]
      rw [hP2] at HONE
      clear hP2 HKP
      as_aux_lemma=>
       go_wp2_with (first
        | (go_at_call 156;refine (U HONE _ (U HSV)).mono ?_;rintro e w4 ⟨rfl,hw4⟩;rw [hw4];clear hw4)
        | (go_at_call 155;refine (U HALL _ (U HSC)).mono ?_;rintro e w4 ⟨rfl,hw4⟩;rw [hw4];clear hw4))
       go_meet
       refine ⟨?_,trivial,trivial,trivial,trivial,trivial,?_⟩
       · show Value.bool _=Value.bool _
         rw [U HKQ]
       · rw [U HKQ]
         exact V ((U HT).setTy _)
 case rest=>
  obtain ⟨rfl,-,-,-,-,-,HT3⟩:=hcut
  clear HT
  cases hK1:K.1 with
  | true=>
   have HR:Hid (R=.ok ({ n with ty:=K.2 },F)):=by
    show R=_
    rw [U HRE]
    unfold typedS
    rw [← U HKK,hK1]
    rfl
   clear hK1
   skip
   as_aux_lemma=>
    go_upto_region 42 with fail
    refine wp_region_list ?_
    refine wpList_load_mid rfl 29 (.tmp 1) rfl w.heap.size 0 rfl (ndC { n with ty:=K.2 } (.slice a (cnt F) k)) _ (U HT3).va.range Tryz.underlying29 rfl sizeEx ?_
    simp only[put,sA,sB,sC]
    refine wpList_store_mid rfl 29 (.tmp 2) (.tmp 141) rfl (w.heap.size+1) 0 (ndC { n with ty:=K.2 } (.slice a (cnt F) k)).toArray rfl rfl (U HT3).out.there sizeEx (all_oneCell_toArray (ndC_one rfl)) ?_
    show wpList _ _ _ _ _ (wc.setCells (w.heap.size+1) 0 (ndC { n with ty:=K.2 } (.slice a (cnt F) k)))
    refine lt 3 (.int .i64 0) ?_
    simp only[put,sA,sB,sC]
    go_wp2_with fail
    have hs:=(U HT3).out.set (M':=ndC { n with ty:=K.2 } (.slice a (cnt F) k)) rfl
    refine bodyPost_ret (hs.result2 rfl _ rfl) rfl ?_
    rw [U HPP,U HR]
    obtain ⟨e1,e2,e3,e4⟩:=setCells_env (w.heap.size+1) (ndC { n with ty:=K.2 } (.slice a (cnt F) k)) 0 wc
    have hlow:=(U HT3).low
    refine ⟨⟨e1.trans hlow.os,e2.trans hlow.tape,e3.trans hlow.output,by rw [e4];exact hlow.size,fun b hb=>(setCells_heap (w.heap.size+1) (ndC { n with ty:=K.2 } (.slice a (cnt F) k)) 0 wc b (by omega)).trans (hlow.block b hb)⟩,_,rfl,_,rfl,?_⟩
    exact (U HT3).sl.keep (fun b q _=>setCells_heap (w.heap.size+1) (ndC { n with ty:=K.2 } (.slice a (cnt F) k)) 0 wc b (by have:=q.2;omega)) (fun _ _ q=>q.1)
  | false=>
   have HR:Hid (R=.error 4):=by
    show R=_
    rw [U HRE]
    unfold typedS
    rw [← U HKK,hK1]
    rfl
   clear hK1
   skip
   as_aux_lemma=>
    go_upto_region 41 with fail
    refine wp_region_list ?_
    refine lt 140 (.agg zL.toArray) ?_
    simp only[put,sA,sB,sC]
    refine wpList_store_mid rfl 29 (.tmp 2) (.tmp 140) rfl (w.heap.size+1) 0 zL.toArray rfl rfl (U HT3).out.there sizeEx (all_oneCell_toArray (by decide)) ?_
    show wpList _ _ _ _ _ (wc.setCells (w.heap.size+1) 0 zL)
    refine lt 3 (.int .i64 4) ?_
    simp only[put,sA,sB,sC]
    go_wp2_with fail
    have hs:=(U HT3).out.set (M':=zL) rfl
    refine bodyPost_ret (hs.result2 rfl _ rfl) rfl ?_
    rw [U HPP,U HR]
    obtain ⟨e1,e2,e3,e4⟩:=setCells_env (w.heap.size+1) zL 0 wc
    have hlow:=(U HT3).low
    exact ⟨⟨e1.trans hlow.os,e2.trans hlow.tape,e3.trans hlow.output,by rw [e4];exact hlow.size,fun b hb=>(setCells_heap (w.heap.size+1) zL 0 wc b (by omega)).trans (hlow.block b hb)⟩,rfl⟩
theorem typed_all (w:World) (Q:Nat→Prop) (M:List Value) (E:Ex) (h:ExM w Q M E) (hkind:E.1.kind=3 ∨ E.1.kind=4 ∨ E.1.kind=5 ∨ E.1.kind=6) (hcn:E.1.kind=6→cnt E.2 ≤ 1000):Calls Tryz.prog 100 #[.agg M.toArray] w (ReP Q w (typedS E)):=by
 rcases hkind with hk | hk | hk | hk
 · exact typed_any w Q M E h (.inl hk)
 · exact typed_any w Q M E h (.inr (.inl hk))
 · exact typed_any w Q M E h (.inr (.inr hk))
 · exact typed_any6 w Q M E h hk (hcn hk)
end Go.Proofs.YtpnonhjmpnbmcaaGreatDoor
