/- The document's fit, all, one. -/
import Derived.Test.YtpnonhjmpnbmcaaGreatDoorJXWStmtXIseXDl
namespace Go.Proofs.YtpnonhjmpnbmcaaGreatDoor
open Go.RowKit Go.Lib
open Act (put)
set_option maxRecDepth 100000
set_option maxHeartbeats 12800000
set_option linter.unusedSimpArgs false
set_option linter.unusedVariables false
def fitB (t s:Int):Bool:=t == 0 || (s == 0 || t == s)
def oneL:Int→List Ex→Int × Bool
 | t,[]=>(t,true)
 | t,x :: l=>if fitB x.1.ty t=true then oneL (if t=0 then x.1.ty else t) l else (0,false)
theorem fit_any (t s:Int) (w:World):Calls Tryz.prog 92 #[.int .i64 t,.int .i64 s] w fun e w'=>e=.returned (.bool (fitB t s))∧w'=w:=by
 by_cases h1:t=0
 · subst h1
   go_enter Tryz.func92,Tryz.ntmps92
   go_wp2_with fail
   go_ret
   exact ⟨rfl,rfl⟩
 · have e1:(t == 0)=false:=beq_eq_false_iff_ne.2 h1
   by_cases h2:s=0
   · subst h2
     go_enter Tryz.func92,Tryz.ntmps92
     go_wp2_with fail
     go_ret
     exact ⟨xret_bool (by unfold fitB;rw [e1];rfl),rfl⟩
   · have e2:(s == 0)=false:=beq_eq_false_iff_ne.2 h2
     go_enter Tryz.func92,Tryz.ntmps92
     go_wp2_with fail
     go_ret
     exact ⟨xret_bool (by unfold fitB;rw [e1,e2];rfl),rfl⟩
theorem row_ty {w:World} {Q:Nat→Prop} {F:Fo} {i b o:Nat} {x:Ex} (h:RowAt w Q F b o) (hx:(toL F)[i]?=some x):w.cell? ⟨b,o+i * 10+9,none⟩=some (.int .i64 x.1.ty):=by
 obtain ⟨M,⟨args,rfl,_⟩,hr,_⟩:=row_nth F i b o x h hx
 have:=hr 9 _ rfl
 rwa [show o+10 * i+9=o+i * 10+9 by omega] at this
theorem all_any (F:Fo) (s:Int) (w:World) (Q:Nat→Prop) (v:Value) (h:SlAt w Q v F):Calls Tryz.prog 155 #[v,.int .i64 s] w fun e w'=>e=.returned (.bool ((toL F).all fun x=>fitB x.1.ty s))∧w'=w:=by
 have hcnt:=slAt_cnt h
 have hcI:(cnt F:Int) ≤ 9223372036854775807:=by unfold maxLen at hcnt;omega
 obtain ⟨a,k,rfl⟩:=slAt_slice h
 have HS:=V h
 obtain ⟨R,hR⟩:∃ R,R=(toL F).all fun x=>fitB x.1.ty s:=⟨_,rfl⟩
 have HG0:Hid (R=((toL F).drop 0).all fun x=>fitB x.1.ty s):=by rw [List.drop_zero];exact hR
 rw [← hR]
 clear hR h hcnt
 go_enter Tryz.func155,Tryz.ntmps155
 go_wp2_with fail
 go_loopg [5] (cnt F) (fun g s5 wr=>∃ i:Nat,g=cnt F - i∧s5=.int .i64 (i:Int)∧i ≤ cnt F∧w=wr∧Hid (R=((toL F).drop i).all fun x=>fitB x.1.ty s))
 case atStart=>exact ⟨0,rfl,rfl,Nat.zero_le _,rfl,HG0⟩
 case round=>
  obtain ⟨i,rfl,rfl,hi,rfl,HG⟩:=hrel
  clear HG0
  have hi0:(0:Int) ≤ (i:Int):=by omega
  by_cases hlt:i < cnt F
  · have hiI:(i:Int) < (cnt F:Int):=by omega
    obtain ⟨x,hx⟩:∃ x,(toL F)[i]?=some x:=⟨_,List.getElem?_eq_getElem (by rw [← cnt_toL];exact hlt)⟩
    rcases U HS with ⟨hf,_⟩ | ⟨bq,oq,cq,he,hc1,hc2,hrow⟩
    · rw [hf] at hlt;exact absurd hlt (Nat.not_lt_zero _)
    injection he with e1 _ e3
    subst e1
    subst e3
    have ct:=row_ty hrow hx
    have hdr:(toL F).drop i=x :: (toL F).drop (i+1):=by
     rw [List.getElem?_eq_some_iff] at hx
     obtain ⟨hx1,hx2⟩:=hx
     rw [List.drop_eq_getElem_cons hx1,hx2]
    have HRR:Hid (R=(fitB x.1.ty s && ((toL F).drop (i+1)).all fun x=>fitB x.1.ty s)):=by
     show R=_
     rw [U HG,hdr,List.all_cons]
    have HF:=V (fit_any x.1.ty s)
    clear hx hdr hrow HG hc1 hc2
    cases hfx:fitB x.1.ty s with
    | true=>
     rw [hfx] at HF HRR
     have HNX:Hid (R=((toL F).drop (i+1)).all fun x=>fitB x.1.ty s):=by show R=_;rw [U HRR,Bool.true_and]
     clear hfx HRR
     go_wp2_with (go_at_call 92;refine (U HF _).mono ?_;rintro e w1 ⟨rfl,hw1⟩;rw [hw1];clear hw1)
     go_roundg (cnt F - (i+1))
     case rel=>exact ⟨i+1,rfl,by rw [show ((i+1:Nat):Int)=(i:Int)+1 from rfl],by omega,rfl,HNX⟩
     case measure=>omega
    | false=>
     rw [hfx] at HF HRR
     have HE:Hid (R=false):=by show R=_;rw [U HRR,Bool.false_and]
     clear hfx HRR
     go_wp2_with (go_at_call 92;refine (U HF _).mono ?_;rintro e w1 ⟨rfl,hw1⟩;rw [hw1];clear hw1)
     go_ret
     exact ⟨by rw [U HE];rfl,rfl⟩
  · have hiI:¬ (i:Int) < (cnt F:Int):=by omega
    have HE:Hid (R=true):=by
     show R=_
     rw [U HG,List.drop_eq_nil_of_le (by rw [← cnt_toL];omega)]
     rfl
    clear HG
    go_wp2_with fail
    go_ret
    exact ⟨by rw [U HE];rfl,rfl⟩
theorem one_any (F:Fo) (w:World) (Q:Nat→Prop) (v:Value) (h:SlAt w Q v F):Calls Tryz.prog 156 #[v] w fun e w'=>e=.returned (.tuple #[.int .i64 (oneL 0 (toL F)).1,.bool (oneL 0 (toL F)).2])∧w'=w:=by
 have hcnt:=slAt_cnt h
 have hcI:(cnt F:Int) ≤ 9223372036854775807:=by unfold maxLen at hcnt;omega
 obtain ⟨a,k,rfl⟩:=slAt_slice h
 have HS:=V h
 obtain ⟨R,hR⟩:∃ R,R=oneL 0 (toL F):=⟨_,rfl⟩
 have HG0:Hid (R=oneL 0 ((toL F).drop 0)):=by rw [List.drop_zero];exact hR
 obtain ⟨PP,hPP⟩:∃ PP:Ending→World→Prop,PP=fun e w'=>e=.returned (.tuple #[.int .i64 R.1,.bool R.2])∧w'=w:=⟨_,rfl⟩
 have HPP:=V hPP
 rw [← hR,← hPP]
 clear hR h hcnt hPP
 go_enter Tryz.func156,Tryz.ntmps156
 go_wp2_with fail
 go_loopg [4,5] (cnt F) (fun g s4 s5 wr=>∃ (i:Nat) (t:Int),g=cnt F - i∧s4=.int .i64 t∧s5=.int .i64 (i:Int)∧i ≤ cnt F∧w=wr∧Hid (R=oneL t ((toL F).drop i)))
 case atStart=>exact ⟨0,0,rfl,rfl,rfl,Nat.zero_le _,rfl,HG0⟩
 case round=>
  obtain ⟨i,t,rfl,rfl,rfl,hi,rfl,HG⟩:=hrel
  clear HG0
  have hi0:(0:Int) ≤ (i:Int):=by omega
  by_cases hlt:i < cnt F
  · have hiI:(i:Int) < (cnt F:Int):=by omega
    obtain ⟨x,hx⟩:∃ x,(toL F)[i]?=some x:=⟨_,List.getElem?_eq_getElem (by rw [← cnt_toL];exact hlt)⟩
    rcases U HS with ⟨hf,_⟩ | ⟨bq,oq,cq,he,hc1,hc2,hrow⟩
    · rw [hf] at hlt;exact absurd hlt (Nat.not_lt_zero _)
    injection he with e1 _ e3
    subst e1
    subst e3
    have ct:=row_ty hrow hx
    have hdr:(toL F).drop i=x :: (toL F).drop (i+1):=by
     rw [List.getElem?_eq_some_iff] at hx
     obtain ⟨hx1,hx2⟩:=hx
     rw [List.drop_eq_getElem_cons hx1,hx2]
    have HRR:Hid (R=if fitB x.1.ty t=true then oneL (if t=0 then x.1.ty else t) ((toL F).drop (i+1)) else (0,false)):=by
     show R=_
     rw [U HG,hdr,oneL]
    have HF:=V (fit_any x.1.ty t)
    clear hx hdr hrow HG hc1 hc2
    cases hfx:fitB x.1.ty t with
    | true=>
     rw [hfx] at HF HRR
     by_cases ht:t=0
     · have HNX:Hid (R=oneL x.1.ty ((toL F).drop (i+1))):=by show R=_;rw [U HRR,if_pos rfl,if_pos ht]
       clear hfx HRR
       subst ht
       go_wp2_with (go_at_call 92;refine (U HF _).mono ?_;rintro e w1 ⟨rfl,hw1⟩;rw [hw1];clear hw1)
       go_roundg (cnt F - (i+1))
       case rel=>exact ⟨i+1,_,rfl,rfl,by rw [show ((i+1:Nat):Int)=(i:Int)+1 from rfl],by omega,rfl,HNX⟩
       case measure=>omega
     · have HNX:Hid (R=oneL t ((toL F).drop (i+1))):=by show R=_;rw [U HRR,if_pos rfl,if_neg ht]
       have hte:(t == 0)=false:=beq_eq_false_iff_ne.2 ht
       clear hfx HRR
       go_wp2_with (go_at_call 92;refine (U HF _).mono ?_;rintro e w1 ⟨rfl,hw1⟩;rw [hw1];clear hw1)
       go_roundg (cnt F - (i+1))
       case rel=>exact ⟨i+1,_,rfl,rfl,by rw [show ((i+1:Nat):Int)=(i:Int)+1 from rfl],by omega,rfl,HNX⟩
       case measure=>omega
    | false=>
     rw [hfx] at HF HRR
     have HE:Hid (R=(0,false)):=by show R=_;rw [U HRR,if_neg (by decide)]
     clear hfx HRR
     go_wp2_with (go_at_call 92;refine (U HF _).mono ?_;rintro e w1 ⟨rfl,hw1⟩;rw [hw1];clear hw1)
     rw [U HPP,U HE]
     exact ⟨rfl,rfl⟩
  · have hiI:¬ (i:Int) < (cnt F:Int):=by omega
    have HE:Hid (R=(t,true)):=by
     show R=_
     rw [U HG,List.drop_eq_nil_of_le (by rw [← cnt_toL];omega)]
     rfl
    clear HG
    go_wp2_with fail
    rw [U HPP,U HE]
    exact ⟨rfl,rfl⟩
def allB (s:Int) (l:List Ex):Bool:=l.all fun x=>fitB x.1.ty s
/-- Conditions and values of a CASE. -/
def pairsL:List Ex→List Ex × List Ex
 | []=>([],[])
 | [v]=>([],[v])
 | c :: v :: l=>(c :: (pairsL l).1,v :: (pairsL l).2)
/-- Do the types fit, and what type is told. -/
def tyK (E:Ex):Bool × Int:=
 if E.1.kind=3 then (if E.1.op=1 then (allB 2 (toL E.2),2) else if E.1.op=2 then (allB 1 (toL E.2),1) else (true,1))
 else if E.1.kind=4 then (if E.1.op ≤ 10 then ((oneL 0 (toL E.2)).2,1) else if E.1.op ≤ 15 then (allB 2 (toL E.2),2) else if E.1.op=16 then (allB 3 (toL E.2),3) else (allB 1 (toL E.2),1))
 else if E.1.kind=5 then ((oneL 0 (toL E.2)).2,1)
 else if E.1.kind=6 then ((oneL 0 (pairsL (toL E.2)).2).2 && allB 1 (pairsL (toL E.2)).1,(oneL 0 (pairsL (toL E.2)).2).1)
 else (true,1)
def typedS (E:Ex):Except Int Ex:=if (tyK E).1=true then .ok ({ E.1 with ty:=(tyK E).2 },E.2) else .error 4
/-- What tells an expression and a class. -/
def ReP (Q:Nat→Prop) (w:World) (R:Except Int Ex) (e:Ending) (w':World):Prop:=Below w.heap.size w w'∧match R with
 | .ok E=>∃ M,e=.returned (.tuple #[.agg M.toArray,.int .i64 0])∧ExM w' Q M E
 | .error c=>e=.returned (.tuple #[.agg zL.toArray,.int .i64 c])
theorem VrX.result2 {fn:Func} {p u:Tmp} {w:World} {b:Nat} {M:List Value} (h:VrX w b M) (hf:fn.results=#[.cell p 29,.tmp u]) (tmps:Array Value) (ht:tmps.getD p undef=.pointer (some ⟨b,0,none⟩)):(results fn tmps).run Tryz.prog w=.ok (.tuple #[.agg M.toArray,tmps.getD u undef]) w:=by
 rw [results_cell_tmp hf,ht]
 simp only[asAddr,Sem.run_pure,Result.andThen_ok]
 rw [run_loadVar_mid w b 0 29 M _ h.range Tryz.underlying29 rfl (by rw [h.2];exact sizeEx)]
 simp only[Result.andThen_ok]
/-- A call's two variables: an expression that came in, at b1; what will be told, at b2. -/
structure TY (Q:Nat→Prop) (w wr:World) (b1 b2:Nat) (n:Nd) (F:Fo) (a:Option Addr) (k:Nat):Prop where
 va:VrX wr b1 (ndC n (.slice a (cnt F) k))
 out:VrX wr b2 zL
 sl:SlAt wr (fun b=>Q b∧b < w.heap.size) (.slice a (cnt F) k) F
 low:Below w.heap.size w wr
 b1p:w.heap.size ≤ b1
 b2p:b1 < b2
theorem TY.below {Q:Nat→Prop} {w wr w':World} {b1 b2:Nat} {n:Nd} {F:Fo} {a:Option Addr} {k:Nat} (h:TY Q w wr b1 b2 n F a k) (hb:Below wr.heap.size wr w'):TY Q w w' b1 b2 n F a k:=
 ⟨h.va.below hb,h.out.below hb,h.sl.keep (fun b _ hl=>hb.block b hl) (fun _ _ q=>q),trX h.low hb,h.b1p,h.b2p⟩
theorem TY.setTy {Q:Nat→Prop} {w wr:World} {b1 b2:Nat} {n:Nd} {F:Fo} {a:Option Addr} {k:Nat} (h:TY Q w wr b1 b2 n F a k) (t:Int):TY Q w (wr.setCell ⟨b1,9,none⟩ (.int .i64 t)) b1 b2 { n with ty:=t } F a k:=by
 have h1:=h.b1p
 have h2:=h.b2p
 have hk:∀ j,j ≠ b1→(wr.setCell ⟨b1,9,none⟩ (.int .i64 t)).heap[j]?=wr.heap[j]?:=fun j hj=>Below.heap_setCell wr ⟨b1,9,none⟩ _ j hj
 exact ⟨⟨by rw [setX h.va.1 9];rfl,rfl⟩,h.out.keep (hk b2 (by omega)),h.sl.keep (fun b q _=>hk b (by have:=q.2;omega)) (fun _ _ q=>q),h.low.setCell h1 _,h1,h2⟩
theorem TY.cells {Q:Nat→Prop} {w wr:World} {b1 b2:Nat} {n:Nd} {F:Fo} {a:Option Addr} {k:Nat} (h:TY Q w wr b1 b2 n F a k) :
 wr.cell? ⟨b1,0,none⟩=some (.int .i64 n.kind)∧wr.cell? ⟨b1,1,none⟩=some (.int .i64 n.op)∧wr.cell? ⟨b1,2,none⟩=some (.int .i64 n.vk)∧wr.cell? ⟨b1,7,none⟩=some (.slice a (cnt F) k)∧wr.cell? ⟨b1,9,none⟩=some (.int .i64 n.ty)∧wr.frozen? ⟨b1,9,none⟩=false:=
 ⟨cellX h.va.1 0,cellX h.va.1 1,cellX h.va.1 2,cellX h.va.1 7,cellX h.va.1 9,frzX h.va.1 9⟩
theorem TY.new {Q:Nat→Prop} {w:World} {n:Nd} {F:Fo} {a:Option Addr} {k:Nat} (h:SlAt w Q (.slice a (cnt F) k) F):TY Q w ((w.alloc (.cells (ndC n (.slice a (cnt F) k)).toArray 29)).alloc (.cells zL.toArray 29)) w.heap.size (w.heap.size+1) n F a k:=by
 have h1:Below w.heap.size w (w.alloc (.cells (ndC n (.slice a (cnt F) k)).toArray 29)):=alX (Below.refl _ _) _
 have hz:(w.alloc (.cells (ndC n (.slice a (cnt F) k)).toArray 29)).heap.size=w.heap.size+1:=by simp
 have h2:Below (w.alloc (.cells (ndC n (.slice a (cnt F) k)).toArray 29)).heap.size (w.alloc (.cells (ndC n (.slice a (cnt F) k)).toArray 29)) ((w.alloc (.cells (ndC n (.slice a (cnt F) k)).toArray 29)).alloc (.cells zL.toArray 29)):=alX (Below.refl _ _) _
 refine ⟨(VrX.new w rfl).below h2,?_,h.keep (fun b _ hl=>(h2.block b (by omega)).trans (h1.block b hl)) (fun b hl q=>⟨q,hl⟩),trX h1 h2,Nat.le_refl _,by omega⟩
 rw [← hz]
 exact VrX.new _ rfl
theorem typed_any (w:World) (Q:Nat→Prop) (M:List Value) (E:Ex) (h:ExM w Q M E) (hkind:E.1.kind=3 ∨ E.1.kind=4 ∨ E.1.kind=5):Calls Tryz.prog 100 #[.agg M.toArray] w (ReP Q w (typedS E)):=by
 have hlM:=h.len
 obtain ⟨args,rfl,hs⟩:=h
 obtain ⟨n,F⟩:=E
 dsimp only at hs hlM hkind ⊢
 obtain ⟨a,k,rfl⟩:=slAt_slice hs
 have HT0:=V (TY.new (n:={ n with ty:=1 }) hs)
 have hcc:=(TY.new (n:=n) hs).cells
 have HALL:Hid (∀ (s:Int) (W:World),SlAt W (fun b=>Q b∧b < w.heap.size) (.slice a (cnt F) k) F→Calls Tryz.prog 155 #[.slice a (cnt F) k,.int .i64 s] W fun e w'=>e=.returned (.bool (allB s (toL F)))∧w'=W):=fun s W h=>all_any F s W _ _ h
 have HONE:Hid (∀ (W:World),SlAt W (fun b=>Q b∧b < w.heap.size) (.slice a (cnt F) k) F→Calls Tryz.prog 156 #[.slice a (cnt F) k] W fun e w'=>e=.returned (.tuple #[.int .i64 (oneL 0 (toL F)).1,.bool (oneL 0 (toL F)).2])∧w'=W):=fun W h=>one_any F W _ _ h
 obtain ⟨M,hM⟩:∃ M,M=ndC n (.slice a (cnt F) k):=⟨_,rfl⟩
 obtain ⟨R,hR⟩:∃ R,R=typedS (n,F):=⟨_,rfl⟩
 obtain ⟨K,hK⟩:∃ K,K=tyK (n,F):=⟨_,rfl⟩
 have HKK:=V hK
 have HRE:=V hR
 obtain ⟨PP,hPP⟩:∃ PP,PP=ReP Q w R:=⟨_,rfl⟩
 have HPP:=V hPP
 have hM1:ndC { n with ty:=1 } (.slice a (cnt F) k)=M.set 9 (.int .i64 1):=by rw [hM];rfl
 rw [hM1] at HT0
 rw [← hM] at hlM hcc ⊢
 rw [← hR,← hPP]
 obtain ⟨q0,q1,q2,q7,q9,f9⟩:=hcc
 clear hM hR hs hPP hK q2 q0 q1 q7
 unfold zL at q9 f9
 go_enter Tryz.func100,Tryz.ntmps100
 go_upto_region 3 with fail
 clear q9 f9
 unfold zL at HT0
 obtain ⟨w1,hw1⟩:∃ w1,w1=(w.alloc (.cells (M.set 9 (.int .i64 1)).toArray 29)).alloc (.cells zL.toArray 29):=⟨_,rfl⟩
 unfold zL at hw1
 have HT:=HT0
 clear HT0 hM1
 rw [← hw1] at HT
 rw [← hw1]
 clear hw1
 obtain ⟨c0,c1,c2,c7,c9,f9⟩:=(U HT).cells
 dsimp only at c0 c1 c2 c9
 clear c2
 go_upto_block 0 with fail
 go_cut [4,5,6,7,8,9] from 11 to 137 (fun s4 s5 s6 s7 s8 s9 wx=>s4=.bool K.1∧s5=s5∧s6=s6∧s7=s7∧s8=s8∧s9=s9∧Hid (TY Q w wx w.heap.size (w.heap.size+1) { n with ty:=K.2 } F a k))
 case first=>
  rcases hkind with hk | hk | hk
  · rw [hk] at c0
    by_cases h1:n.op=1
    · rw [h1] at c1
      have HK:Hid (K=(allB 2 (toL F),2)):=by
       show K=_
       rw [U HKK]
       unfold tyK
       dsimp only
       rw [if_pos hk,if_pos h1]
      skip
      as_aux_lemma=>
       clear HKK HRE HPP
       go_wp2_with (go_at_call 155;refine (U HALL 2 _ (U HT).sl).mono ?_;rintro e w4 ⟨rfl,hw4⟩;rw [hw4];clear hw4)
       go_meet
       refine ⟨?_,trivial,trivial,trivial,trivial,trivial,?_⟩
       · show Value.bool _=Value.bool _
         rw [U HK]
       · rw [U HK]
         exact V ((U HT).setTy 2)
    · by_cases h2:n.op=2
      · rw [h2] at c1
        have HK:Hid (K=(allB 1 (toL F),1)):=by
         show K=_
         rw [U HKK]
         unfold tyK
         dsimp only
         rw [if_pos hk,if_neg h1,if_pos h2]
        skip
        as_aux_lemma=>
         clear HKK HRE HPP
         go_wp2_with (go_at_call 155;refine (U HALL 1 _ (U HT).sl).mono ?_;rintro e w4 ⟨rfl,hw4⟩;rw [hw4];clear hw4)
         go_meet
         refine ⟨?_,trivial,trivial,trivial,trivial,trivial,?_⟩
         · show Value.bool _=Value.bool _
           rw [U HK]
         · rw [U HK]
           exact V (U HT)
      · have e1:(n.op == 1)=false:=beq_eq_false_iff_ne.2 h1
        have e2:(n.op == 2)=false:=beq_eq_false_iff_ne.2 h2
        have HK:Hid (K=(true,1)):=by
         show K=_
         rw [U HKK]
         unfold tyK
         dsimp only
         rw [if_pos hk,if_neg h1,if_neg h2]
        skip
        as_aux_lemma=>
         clear HKK HRE HPP
         go_wp2_with fail
         go_meet
         refine ⟨?_,trivial,trivial,trivial,trivial,trivial,?_⟩
         · show Value.bool _=Value.bool _
           rw [U HK]
         · rw [U HK]
           exact V (U HT)
  · rw [hk] at c0
    by_cases h1:n.op ≤ 10
    · 
      have HK:Hid (K=((oneL 0 (toL F)).2,1)):=by
       show K=_
       rw [U HKK]
       unfold tyK
       dsimp only
       rw [if_neg (by rw [hk];decide),if_pos hk,if_pos h1]
      skip
      as_aux_lemma=>
       clear HKK HRE HPP
       go_wp2_with (go_at_call 156;refine (U HONE _ (U HT).sl).mono ?_;rintro e w4 ⟨rfl,hw4⟩;rw [hw4];clear hw4)
       go_meet
       refine ⟨?_,trivial,trivial,trivial,trivial,trivial,?_⟩
       · show Value.bool _=Value.bool _
         rw [U HK]
       · rw [U HK]
         exact V (U HT)
    · by_cases h2:n.op ≤ 15
      · 
        have HK:Hid (K=(allB 2 (toL F),2)):=by
         show K=_
         rw [U HKK]
         unfold tyK
         dsimp only
         rw [if_neg (by rw [hk];decide),if_pos hk,if_neg h1,if_pos h2]
        skip
        as_aux_lemma=>
         clear HKK HRE HPP
         go_wp2_with (go_at_call 155;refine (U HALL 2 _ (U HT).sl).mono ?_;rintro e w4 ⟨rfl,hw4⟩;rw [hw4];clear hw4)
         go_meet
         refine ⟨?_,trivial,trivial,trivial,trivial,trivial,?_⟩
         · show Value.bool _=Value.bool _
           rw [U HK]
         · rw [U HK]
           exact V ((U HT).setTy 2)
      · by_cases h3:n.op=16
        · rw [h3] at c1
          have HK:Hid (K=(allB 3 (toL F),3)):=by
           show K=_
           rw [U HKK]
           unfold tyK
           dsimp only
           rw [if_neg (by rw [hk];decide),if_pos hk,if_neg h1,if_neg h2,if_pos h3]
          skip
          as_aux_lemma=>
           clear HKK HRE HPP
           go_wp2_with (go_at_call 155;refine (U HALL 3 _ (U HT).sl).mono ?_;rintro e w4 ⟨rfl,hw4⟩;rw [hw4];clear hw4)
           go_meet
           refine ⟨?_,trivial,trivial,trivial,trivial,trivial,?_⟩
           · show Value.bool _=Value.bool _
             rw [U HK]
           · rw [U HK]
             exact V ((U HT).setTy 3)
        · have e3:(n.op == 16)=false:=beq_eq_false_iff_ne.2 h3
          have HK:Hid (K=(allB 1 (toL F),1)):=by
           show K=_
           rw [U HKK]
           unfold tyK
           dsimp only
           rw [if_neg (by rw [hk];decide),if_pos hk,if_neg h1,if_neg h2,if_neg h3]
          skip
          as_aux_lemma=>
           clear HKK HRE HPP
           go_wp2_with (go_at_call 155;refine (U HALL 1 _ (U HT).sl).mono ?_;rintro e w4 ⟨rfl,hw4⟩;rw [hw4];clear hw4)
           go_meet
           refine ⟨?_,trivial,trivial,trivial,trivial,trivial,?_⟩
           · show Value.bool _=Value.bool _
             rw [U HK]
           · rw [U HK]
             exact V (U HT)
  · rw [hk] at c0
    have HK:Hid (K=((oneL 0 (toL F)).2,1)):=by
     show K=_
     rw [U HKK]
     unfold tyK
     dsimp only
     rw [if_neg (by rw [hk];decide),if_neg (by rw [hk];decide),if_pos hk]
    skip
    as_aux_lemma=>
     clear HKK HRE HPP
     go_wp2_with (go_at_call 156;refine (U HONE _ (U HT).sl).mono ?_;rintro e w4 ⟨rfl,hw4⟩;rw [hw4];clear hw4)
     go_meet
     refine ⟨?_,trivial,trivial,trivial,trivial,trivial,?_⟩
     · show Value.bool _=Value.bool _
       rw [U HK]
     · rw [U HK]
       exact V (U HT)
 case rest=>
  obtain ⟨rfl,-,-,-,-,-,HT3⟩:=hcut
  clear HT
  cases hK1:K.1 with
  | true=>
   have HR:Hid (R=.ok ({ n with ty:=K.2 },F)):=by
    show R=_
    rw [U HRE]
    unfold typedS
    rw [← U HKK,hK1]
    rfl
   clear hK1
   skip
   as_aux_lemma=>
    go_upto_region 42 with fail
    refine wp_region_list ?_
    refine wpList_load_mid rfl 29 (.tmp 1) rfl w.heap.size 0 rfl (ndC { n with ty:=K.2 } (.slice a (cnt F) k)) _ (U HT3).va.range Tryz.underlying29 rfl sizeEx ?_
    simp only[put,sA,sB,sC]
    refine wpList_store_mid rfl 29 (.tmp 2) (.tmp 141) rfl (w.heap.size+1) 0 (ndC { n with ty:=K.2 } (.slice a (cnt F) k)).toArray rfl rfl (U HT3).out.there sizeEx (all_oneCell_toArray (ndC_one rfl)) ?_
    show wpList _ _ _ _ _ (wc.setCells (w.heap.size+1) 0 (ndC { n with ty:=K.2 } (.slice a (cnt F) k)))
    refine lt 3 (.int .i64 0) ?_
    simp only[put,sA,sB,sC]
    go_wp2_with fail
    have hs:=(U HT3).out.set (M':=ndC { n with ty:=K.2 } (.slice a (cnt F) k)) rfl
    refine bodyPost_ret (hs.result2 rfl _ rfl) rfl ?_
    rw [U HPP,U HR]
    obtain ⟨e1,e2,e3,e4⟩:=setCells_env (w.heap.size+1) (ndC { n with ty:=K.2 } (.slice a (cnt F) k)) 0 wc
    have hlow:=(U HT3).low
    refine ⟨⟨e1.trans hlow.os,e2.trans hlow.tape,e3.trans hlow.output,by rw [e4];exact hlow.size,fun b hb=>(setCells_heap (w.heap.size+1) (ndC { n with ty:=K.2 } (.slice a (cnt F) k)) 0 wc b (by omega)).trans (hlow.block b hb)⟩,_,rfl,_,rfl,?_⟩
    exact (U HT3).sl.keep (fun b q _=>setCells_heap (w.heap.size+1) (ndC { n with ty:=K.2 } (.slice a (cnt F) k)) 0 wc b (by have:=q.2;omega)) (fun _ _ q=>q.1)
  | false=>
   have HR:Hid (R=.error 4):=by
    show R=_
    rw [U HRE]
    unfold typedS
    rw [← U HKK,hK1]
    rfl
   clear hK1
   skip
   as_aux_lemma=>
    go_upto_region 41 with fail
    refine wp_region_list ?_
    refine lt 140 (.agg zL.toArray) ?_
    simp only[put,sA,sB,sC]
    refine wpList_store_mid rfl 29 (.tmp 2) (.tmp 140) rfl (w.heap.size+1) 0 zL.toArray rfl rfl (U HT3).out.there sizeEx (all_oneCell_toArray (by decide)) ?_
    show wpList _ _ _ _ _ (wc.setCells (w.heap.size+1) 0 zL)
    refine lt 3 (.int .i64 4) ?_
    simp only[put,sA,sB,sC]
    go_wp2_with fail
    have hs:=(U HT3).out.set (M':=zL) rfl
    refine bodyPost_ret (hs.result2 rfl _ rfl) rfl ?_
    rw [U HPP,U HR]
    obtain ⟨e1,e2,e3,e4⟩:=setCells_env (w.heap.size+1) zL 0 wc
    have hlow:=(U HT3).low
    exact ⟨⟨e1.trans hlow.os,e2.trans hlow.tape,e3.trans hlow.output,by rw [e4];exact hlow.size,fun b hb=>(setCells_heap (w.heap.size+1) zL 0 wc b (by omega)).trans (hlow.block b hb)⟩,rfl⟩
end Go.Proofs.YtpnonhjmpnbmcaaGreatDoor
