/- The document's parser: not. -/
import Derived.Test.YtpnonhjmpnbmcaaGreatDoorXPar6
import Derived.Test.YtpnonhjmpnbmcaaGreatDoorJHandXBaseXLex3HandL
import Derived.Lib.AppendZeros
import Derived.Maps.AppendAt
import Derived.Laws.OwnMore
namespace Go.Proofs.YtpnonhjmpnbmcaaGreatDoor
open Go.RowKit Go.Lib
open Act (put)
set_option linter.unusedSimpArgs false
set_option maxHeartbeats 12800000
set_option maxRecDepth 20000
/-- What stands between two calls of a function that tells an expression: its result's variable, the parser. -/
structure RVX (T:List Tk) (p bt c b2:Nat) (w wr:World) (S:PS):Prop where
 out:VrX wr b2 zL
 px:PX T wr p bt c S
 fr:FrX p w wr
 b2p:b2=w.heap.size
theorem RVX.move {T:List Tk} {p bt c b2:Nat} {w wr w':World} {S S':PS} (h:RVX T p bt c b2 w wr S) (hp:PX T w' p bt c S') (hf:FrX p wr w') (hpl:p < b2):RVX T p bt c b2 w w' S':=
 ⟨h.out.keep (hf.blk b2 (ltX h.out.1) (by omega)),hp,h.fr.trans hf,h.b2p⟩
theorem RVX.below {T:List Tk} {p bt c b2:Nat} {w wr w':World} {S:PS} (h:RVX T p bt c b2 w wr S) (hb:Below wr.heap.size wr w'):RVX T p bt c b2 w w' S:=
 ⟨h.out.below hb,h.px.below hb,h.fr.trans (FrX.of_below hb),h.b2p⟩
theorem RVX.drew {T:List Tk} {p bt c b2:Nat} {w wr:World} {S:PS} (h:RVX T p bt c b2 w wr S):RVX T p bt c b2 w wr.drew S:=⟨h.out,h.px.drew,h.fr.drew,h.b2p⟩
theorem RVX.new {T:List Tk} {p bt c:Nat} {w:World} {S:PS} (h:PX T w p bt c S):RVX T p bt c w.heap.size w (w.alloc (.cells zL.toArray 29)) S:=
 ⟨VrX.new w rfl,h.below ((Below.refl _ _).alloc (Nat.le_refl _) _),(FrX.refl p w).alloc _,rfl⟩
/-- A level called: what it tells lies behind b2. -/
theorem RVX.call {T:List Tk} {p bt c b2:Nat} {w wr:World} {S:PS} {f:FuncId} {G:PS→Ex × PS} {B:Nat} (h:RVX T p bt c b2 w wr S) (hG:LvC T p bt c f G B) (hm:muS T S ≤ B) (hpl:p < b2) :
 Calls Tryz.prog f #[.pointer (some ⟨p,0,none⟩)] wr fun e w'=>∃ M,e=.returned (.agg M.toArray)∧ExM w' (fun b=>wr.heap.size ≤ b) M (G S).1∧RVX T p bt c b2 w w' (G S).2∧FrX p wr w'∧muS T (G S).2 ≤ muS T S:=by
 refine (hG wr S h.px hm).mono ?_
 rintro e w' ⟨M,rfl,hx,hp,hf,hm'⟩
 exact ⟨M,rfl,hx,h.move hp hf hpl,hf,hm'⟩
theorem RVX.done {T:List Tk} {p bt c b2:Nat} {w wr:World} {S S0:PS} {M:List Value} {E:Ex} (h:RVX T p bt c b2 w wr S) (hx:ExM wr (fun b=>b2 < b) M E) (hm:muS T S ≤ muS T S0) (hbt:b2 ≠ bt) (hb2:b2 ≠ p) :
 VrX (wr.setCells b2 0 M) b2 M∧LvP T p bt c w S0 (E,S) (.returned (.agg M.toArray)) (wr.setCells b2 0 M):=by
 have hb2p:=h.b2p
 refine ⟨h.out.set hx.len,M,rfl,?_,h.px.setCells _ hb2 hbt,h.fr.setCells (by omega) _,hm⟩
 exact (hx.setCells (fun q=>by omega) M).keep (fun _ _ _=>rfl) (fun b _ q=>by omega)
theorem not_lv {T:List Tk} {p bt c:Nat} (hT:TG T) {st sn:PS→Ex × PS} {B:Nat} (hst:LvC T p bt c 209 st B) (hsn:1 ≤ B→LvC T p bt c 201 sn (B - 1)) :
 LvC T p bt c 201 (fun S=>if isS T 2 [78,79,84] S then (unE 2 (sn (openS T [78,79,84] S)).1,closeS T [] (sn (openS T [78,79,84] S)).2) else st S) B:=by
 intro w S hp hmu
 have hbtlt:=hp.bt_lt
 have hplt:=hp.lt_p
 have HV:=V (RVX.new hp)
 have HNE:Hid (w.heap.size ≠ bt∧w.heap.size ≠ p∧p < w.heap.size):=⟨by omega,by omega,by omega⟩
 have HI:=V hp.lt
 have HMU:=V hmu
 clear hp hbtlt hplt hmu
 cases hb:isS T 2 [78,79,84] S with
 | false=>
  dsimp only
  rw [if_neg (by rw [hb];decide)]
  have HNB:=V hb
  obtain ⟨PP,hPP⟩:∃ PP,PP=LvP T p bt c w S (st S):=⟨_,rfl⟩
  have HPP:=V hPP
  show Calls _ _ _ _ (LvP T p bt c w S (st S))
  rw [← hPP]
  clear hb hPP
  go_enter Tryz.func201,Tryz.ntmps201
  go_wp2_with (first | (go_at_call 177;refine (word_any (U HV).px [78,79,84]).mono ?_;rw [U HNB];rintro e w1 ⟨rfl,hp1,hf1⟩;have HV1:=V ((U HV).move hp1 hf1 (U HNE).2.2);clear hp1 hf1) | (go_at_call 209;refine ((U HV1).call hst (U HMU) (U HNE).2.2).mono ?_;rintro e w2 ⟨M2,rfl,hx,hv,hf,hm⟩;have hl2:=hx.len;have HX2:=V hx;have HV2:=V hv;have HM2:=V hm;have HF2:=V hf;have hst2:=hv.out.storeC hx.len hx.one;have hsn2:=storeNew w2 hx.len hx.one;unfold zL at hsn2;clear hx hv hf hm))
  have hxx:ExM w2 (fun b=>w.heap.size < b) M2 (st S).1:=(U HX2).keep (fun _ _ _=>rfl) (fun b _ q=>by have h1:=(U HV1).out.1;have:=ltX h1;omega)
  obtain ⟨h1,h2⟩:=(U HV2).done (S0:=S) hxx (U HM2) (U HNE).1 (U HNE).2.1
  exact bodyPost_ret (h1.result rfl _ rfl) rfl (by rw [U HPP];exact h2)
 | true=>
  dsimp only
  rw [if_pos hb]
  have HNB:=V hb
  have hmo:=muS_open_lt hT (x:=[78,79,84]) (U HI) (isS_err hb).1
  have HMO:=V hmo
  obtain ⟨r,hr⟩:∃ r,r=(unE 2 (sn (openS T [78,79,84] S)).1,closeS T [] (sn (openS T [78,79,84] S)).2):=⟨_,rfl⟩
  obtain ⟨PP,hPP⟩:∃ PP,PP=LvP T p bt c w S r:=⟨_,rfl⟩
  rw [hr] at hPP
  have HPP:=V hPP
  show Calls _ _ _ _ (LvP T p bt c w S (unE 2 (sn (openS T [78,79,84] S)).1,closeS T [] (sn (openS T [78,79,84] S)).2))
  rw [← hPP]
  clear hb hPP hr hmo
  go_enter Tryz.func201,Tryz.ntmps201
  go_upto_region 6 with (first | (go_at_call 177;refine (word_any (U HV).px [78,79,84]).mono ?_;rw [U HNB];rintro e w1 ⟨rfl,hp1,hf1⟩;have HV1:=V ((U HV).move hp1 hf1 (U HNE).2.2);clear hp1 hf1) | (go_at_call 178;refine (open_any hT (U HV1).px [78,79,84]).mono ?_;rintro e w2 ⟨rfl,hp1,hf1⟩;have HV2:=V ((U HV1).move hp1 hf1 (U HNE).2.2);clear hp1 hf1) | (go_at_call 201;refine ((U HV2).call (hsn (by have h1:=U HMO;have h2:=U HMU;omega)) (by have h1:=U HMO;have h2:=U HMU;omega) (U HNE).2.2).mono ?_;rintro e w3 ⟨M3,rfl,hx,hv,hf,hm⟩;have hl3:=hx.len;have HX3:=V hx;have HV3:=V hv;have HM3:=V hm;have HF3:=V hf;have hst3:=hv.out.storeC hx.len hx.one;have hsn3:=storeNew w3 hx.len hx.one;unfold zL at hsn3;clear hx hv hf hm) | (go_at_call 180;refine (close_any hT ((U HV3).below (alX (Below.refl _ _) (.cells M3.toArray 29))).px []).mono ?_;rintro e w4 ⟨rfl,hp4,hf4⟩;have HP4:=V hp4;have HF4:=V hf4;clear hp4 hf4))
  have hw3:Below w3.heap.size w3 (w3.alloc (.cells M3.toArray 29)):=alX (Below.refl _ _) _
  have hz3:(w3.alloc (.cells M3.toArray 29)).heap.size=w3.heap.size+1:=by simp
  have hlo:=ltX (U HV3).out.1
  have hv4:VrX w4 w3.heap.size M3:=(VrX.new w3 hl3).keep ((U HF4).blk _ (by omega) (by have:=(U HNE).2.2;omega))
  have HV4:Hid (RVX T p bt c w.heap.size w w4 (closeS T [] (sn (openS T [78,79,84] S)).2)):=((U HV3).below hw3).move (U HP4) (U HF4) (U HNE).2.2
  have HX4:Hid (ExM w4 (fun b=>w.heap.size < b) M3 (sn (openS T [78,79,84] S)).1):=by
   have h1:=ltX (U HV2).out.1
   have h2:=(U HX3).below hw3
   exact h2.keep (fun b hq hl=>(U HF4).blk b hl (by have:=(U HNE).2.2;omega)) (fun b _ q=>by omega)
  have HMF:Hid (muS T (closeS T [] (sn (openS T [78,79,84] S)).2) ≤ muS T S):=by
   have h1:=muS_close T [] (sn (openS T [78,79,84] S)).2
   have h2:=U HM3
   have h3:=U HMO
   show _ ≤ _
   omega
  have HV4':=V hv4
  clear hst3 hsn3 hw3 hz3 hlo hv4
  refine wp_region_list ?_
  refine wpList_load_mid rfl 29 (.tmp 3) rfl w3.heap.size 0 rfl M3 _ (U HV4').range Tryz.underlying29 rfl (by rw [hl3];exact sizeEx) ?_
  go_wp2_with (go_at_call 210;refine (unary_any 2 M3 _ (fun b=>w.heap.size < b) w4 (U HX4)).mono ?_;rintro e w5 ⟨M5,rfl,hx5,hb5⟩;have hl5:=hx5.len;have hv5:=(U HV4).below hb5;have hst5:=hv5.out.storeC hx5.len hx5.one;have HX5:=V hx5;have HV5:=V hv5;clear hx5 hb5 hv5)
  have hxx:ExM w5 (fun b=>w.heap.size < b) M5 (unE 2 (sn (openS T [78,79,84] S)).1):=(U HX5).keep (fun _ _ _=>rfl) (fun b _ q=>by
   have h1:=ltX (U HV4).out.1
   rcases q with q | q
   · exact q
   · omega)
  obtain ⟨h1,h2⟩:=(U HV5).done (S0:=S) hxx (U HMF) (U HNE).1 (U HNE).2.1
  exact bodyPost_ret (h1.result rfl _ rfl) rfl (by rw [U HPP];exact h2)
def toFo:List (List Value × Ex)→Fo
 | []=>.nil
 | x :: l=>Fo.cons x.2.1 x.2.2 (toFo l)
theorem toFo_snoc (M:List Value) (E:Ex):∀ l:List (List Value × Ex),Fo.app (toFo l) (Fo.cons E.1 E.2 .nil)=toFo (l ++ [(M,E)])
 | []=>rfl
 | x :: l=>by show Go.Deep.BT.node 0 0 _ _ (Fo.app (toFo l) _)=_;rw [toFo_snoc M E l];rfl
theorem cnt_toFo:∀ l:List (List Value × Ex),cnt (toFo l)=l.length
 | []=>rfl
 | x :: l=>by show cnt (toFo l)+1=_;rw [cnt_toFo l];rfl
/-- A row of expressions of the call's own. -/
structure OE (base:Nat) (w:World) (a:Option Addr) (m c:Nat) (Es:List (List Value × Ex)):Prop where
 row:w.ownsRow base 29 10 (.slice a m c) m (Es.flatMap (·.1))
 len:m=Es.length
 ex:∀ x ∈ Es,ExM w (fun b=>base ≤ b∧(Value.slice a m c).ownBlock ≠ some b) x.1 x.2
theorem OE.none (w:World):OE w.heap.size w none 0 0 []:=⟨⟨rfl,.inl ⟨rfl,rfl⟩⟩,rfl,fun _ h=>by cases h⟩
theorem OE.own {base:Nat} {w:World} {a:Option Addr} {m c:Nat} {Es:List (List Value × Ex)} (h:OE base w a m c Es):∀ g,(Value.slice a m c).ownBlock=some g→base ≤ g∧g < w.heap.size:=by
 intro g hg
 rcases h.row.2 with ⟨e,_⟩ | ⟨g',cap,cur,e,hb,hc,_⟩
 · injection e with e1 _ _;subst e1;simp [Value.ownBlock] at hg
 · injection e with e1 _ _;subst e1
   simp only[Value.ownBlock,Option.some.injEq] at hg
   subst hg
   exact ⟨hb,ltX hc⟩
/-- A row stands while its own blocks do. -/
theorem OE.keep {base:Nat} {w w':World} {a:Option Addr} {m c:Nat} {Es:List (List Value × Ex)} (h:OE base w a m c Es) (hk:∀ b,base ≤ b→b < w.heap.size→w'.heap[b]?=w.heap[b]?):OE base w' a m c Es:=by
 refine ⟨⟨h.row.1,?_⟩,h.len,fun x hx=>(h.ex x hx).keep (fun b q hl=>hk b q.1 hl) (fun _ _ q=>q)⟩
 rcases h.row.2 with e | ⟨g,cap,cur,e,hb,hc,r⟩
 · exact .inl e
 · exact .inr ⟨g,cap,cur,e,hb,(hk g hb (ltX hc)).trans hc,r⟩
theorem flat_len {Es:List (List Value × Ex)} (h:∀ x ∈ Es,x.1.length=10):(Es.flatMap (·.1)).length=Es.length * 10:=by
 induction Es with
 | nil=>rfl
 | cons x l ih=>
  rw [List.flatMap_cons,List.length_append,h x (List.mem_cons_self ..),ih (fun y hy=>h y (List.mem_cons_of_mem _ hy)),List.length_cons]
  omega
theorem row_of {w:World} {Q:Nat→Prop} {b:Nat} (hb:Q b):∀ {Es:List (List Value × Ex)} {o:Nat},(∀ x ∈ Es,ExM w Q x.1 x.2)→w.rangeAt b o (Es.flatMap (·.1))→RowAt w Q (toFo Es) b o
 | [],_,_,_=>trivial
 | x :: l,o,h,hr=>by
  have hx:=h x (List.mem_cons_self ..)
  have hl:=hx.len
  rw [List.flatMap_cons] at hr
  have h1:w.rangeAt b o x.1:=fun j v hj=>hr j v (by rw [List.getElem?_append_left (List.getElem?_eq_some_iff.1 hj).1];exact hj)
  have h2:w.rangeAt b (o+10) (l.flatMap (·.1)):=fun j v hj=>by
   have:=hr (10+j) v (by rw [List.getElem?_append_right (by omega),hl,Nat.add_sub_cancel_left];exact hj)
   rw [← Nat.add_assoc] at this
   exact this
  obtain ⟨h3,_⟩:=RowAt.one hx h1 hb
  exact ⟨h3,row_of hb (fun y hy=>h y (List.mem_cons_of_mem _ hy)) h2⟩
/-- A row of one's own as a slice. -/
theorem OE.slice {base:Nat} {w:World} {a:Option Addr} {m c:Nat} {Es:List (List Value × Ex)} (h:OE base w a m c Es):SlAt w (fun b=>base ≤ b) (.slice a m c) (toFo Es):=by
 rcases h.row.2 with ⟨e,hm⟩ | ⟨g,cap,cur,e,hb,hc,h1,h2,h3,h4⟩
 · injection e with e1 e2 e3
   subst e1
   have:Es=[]:=List.eq_nil_of_length_eq_zero (by rw [← h.len];exact hm)
   subst this
   exact .inl ⟨rfl,c,by rw [hm]⟩
 · injection e with e1 e2 e3
   subst e1
   subst e3
   refine .inr ⟨g,0,c,by rw [cnt_toFo,← h.len],by rw [cnt_toFo,← h.len];exact h1,h2,?_⟩
   refine row_of hb (fun x hx=>(h.ex x hx).keep (fun _ _ _=>rfl) (fun _ _ q=>q.1)) (fun j v hj=>?_)
   rw [Nat.zero_add,cellX hc]
   rw [← h4] at hj
   have hj2:=(List.getElem?_eq_some_iff.1 hj).1
   rw [List.getElem?_take_of_lt (by simp at hj2;omega)] at hj
   simpa using hj
theorem append_ex {ops:Array Oper} {rest:List Oper} {o:Oper} {act:Act} {Q':Exit→Act→World→Prop} {base:Nat} {W:World} {a:Option Addr} {m c:Nat} {Es:List (List Value × Ex)} (hgd:o.guard=none) (s x:Operand)
 (ho:o.op=.call { callee:=.builtin .append,args:=#[s,x],argTypes:=#[27,27] }) (h:OE base W a m c Es) (hbase:base ≤ W.heap.size) (hs:act.eval s=.slice a m c)
 (M:List Value) (E:Ex) (hx:ExM W (fun b=>base ≤ b∧(Value.slice a m c).ownBlock ≠ some b) M E) (hev:act.eval x=.slice (some ⟨W.heap.size,0,none⟩) 1 1) (hn:m ≤ 1000000)
 (K:∀ ad k w',OE base w' ad (m+1) k (Es ++ [(M,E)])→Below base W w'→wpList Tryz.prog ops Q' rest (act.put o.dst (.slice ad (m+1) k)) w'):wpList Tryz.prog ops Q' (o :: rest) act (W.alloc (.cells M.toArray 29)):=by
 obtain ⟨i0,hi,hz0,hz1,hz2⟩:=info_parts Tryz.infoEx
 have hal:Below W.heap.size W (W.alloc (.cells M.toArray 29)):=(Below.refl _ _).alloc (Nat.le_refl _) _
 have hrow:=own_keepX h.row hal
 refine wpList_append_own_at (W.alloc (.cells M.toArray 29)) hgd s x 27 ho base 29 i0 _ 10 120 Tryz.underlying27 hi hz0 hz1 hz2 rfl (by decide) _ m _ hs hrow ⟨W.heap.size,0,none⟩ 1 1 M hev (by rw [hx.len]) (fun j u hj=>?_) hx.one (by unfold maxLen;omega) (by omega) (Nat.le_trans hbase hal.size) ?_
 · rw [Go.WideShapes.add_plain,Nat.zero_add,cellX (heap_alloc_new W (.cells M.toArray 29))]
   simpa using hj
 · intro v' w' ho' hg _ hown
   obtain ⟨ad,k,rfl⟩:=ownSX ho'
   refine K ad k w' ⟨?_,?_,?_⟩ ?_
   · rw [List.flatMap_append];simpa using ho'
   · rw [List.length_append,← h.len];rfl
   · have hz:(W.alloc (.cells M.toArray 29)).heap.size=W.heap.size+1:=by simp
     have hall:∀ y ∈ Es ++ [(M,E)],ExM W (fun b=>base ≤ b∧(Value.slice a m c).ownBlock ≠ some b) y.1 y.2:=by
      intro y hy
      rcases List.mem_append.1 hy with hy | hy
      · exact h.ex y hy
      · rw [List.mem_singleton.1 hy];exact hx
     intro y hy
     refine (hall y hy).keep (fun b q hl=>?_) (fun b hl q=>⟨q.1,?_⟩)
     · rw [hg.block b (by omega) (fun e=>q.2 e.symm)]
       exact hal.block b hl
     · rcases hown with e | e
       · rw [e];exact q.2
       · rw [e,hz]
         intro e'
         injection e' with e'
         omega
   · refine ⟨hg.os,hg.tape,hg.output,Nat.le_trans hal.size hg.size,fun b hb=>?_⟩
     rw [hg.block b (by have:=hal.size;omega) (fun e=>?_)]
     · exact hal.block b (by omega)
     · have:=(h.own b e.symm).1;omega
theorem fold10 {M:List Value} (hl:M.length=10):List.foldl (fun (cs:Array Value) (x:Value × Nat)=>cs.setIfInBounds x.snd x.fst) #[.int .i64 0,.int .i64 0,.int .i64 0,.int .i64 0,.string ⟨#[]⟩,.string ⟨#[]⟩,.string ⟨#[]⟩,.slice none 0 0,.int .i64 0,.int .i64 0] M.zipIdx=M.toArray:=by
 match M,hl with
 | [_,_,_,_,_,_,_,_,_,_],_=>simp [List.zipIdx]
theorem OE.nil {base:Nat} {w:World} {a:Option Addr} {m c:Nat} {Es:List (List Value × Ex)} (h:OE base w a m c Es):a=Option.none→c=0:=by
 intro e
 subst e
 rcases h.row.2 with ⟨e,_⟩ | ⟨g,cap,cur,e,_⟩
 · injection e with _ _ e3
 · injection e with e1 _ _
   cases e1
/-- What exprs tells. -/
def RsP (T:List Tk) (p bt c:Nat) (w:World) (S:PS) (r:Fo × PS) (e:Ending) (w':World):Prop:=
 ∃ a m k,e=.returned (.slice a m k)∧m ≤ 4000∧m=cnt r.1∧SlAt w' (fun b=>w.heap.size ≤ b) (.slice a m k) r.1∧(a=none→k=0)∧PX T w' p bt c r.2∧FrX p w w'∧muS T r.2 ≤ muS T S
structure EsI (T:List Tk) (p bt c mu0:Nat) (w wr:World) (R:Fo × PS) (mir:Nat→Fo→PS→Fo × PS) (a:Option Addr) (m k:Nat) (Es:List (List Value × Ex)) (S:PS) (n:Nat):Prop where
 row:OE w.heap.size wr a m k Es
 px:PX T wr p bt c S
 fr:FrX p w wr
 eq:mir n (toFo Es) S=R
 fuel:muS T S ≤ n
 mu:m+muS T S ≤ mu0
theorem exprs_lv {T:List Tk} {p bt c:Nat} (hT:TG T) {sub:PS→Ex × PS} {B n:Nat} (hn:B ≤ n) (hB:B ≤ 3500) (hs:LvC T p bt c 150 sub B) (w:World) (S:PS) (hp:PX T w p bt c S) (hmu:muS T S ≤ B) :
 Calls Tryz.prog 182 #[.pointer (some ⟨p,0,none⟩)] w (RsP T p bt c w S (exprsS T sub n .nil S)):=by
 have hplt:=hp.lt_p
 have HBT:=V hp.bt_lt
 obtain ⟨R,hR⟩:∃ R,R=exprsS T sub n .nil S:=⟨_,rfl⟩
 have HI:Hid (EsI T p bt c (muS T S) w w R (exprsS T sub) none 0 0 [] S n):=⟨OE.none w,hp,FrX.refl p w,hR.symm,by omega,by omega⟩
 obtain ⟨PP,hPP⟩:∃ PP,PP=RsP T p bt c w S R:=⟨_,rfl⟩
 rw [← hR,← hPP]
 have HPP:=V hPP
 have HMU:=V hmu
 clear hR hPP hp hmu
 go_enter Tryz.func182,Tryz.ntmps182
 go_wp2_with fail
 go_loopg [3] (muS T S) (fun g s3 wr=>∃ (a:Option Addr) (m k:Nat) (Es:List (List Value × Ex)) (S1:PS) (n1:Nat),g=muS T S1∧s3=.slice a m k∧Hid (EsI T p bt c (muS T S) w wr R (exprsS T sub) a m k Es S1 n1))
 case atStart=>exact ⟨none,0,0,[],S,n,rfl,rfl,HI⟩
 case round=>
  obtain ⟨a,m,k,Es,S1,n1,rfl,rfl,HE⟩:=hrel
  clear HI
  have hm3:m ≤ 3500:=by have h1:=(U HE).mu;have h2:=U HMU;omega
  have HOK:=V (ok_any' (U HE).px)
  cases he:(S1.err == 0) with
  | false=>
   rw [he] at HOK
   have HEQ:Hid (R=(toFo Es,S1)):=by
    have h:=(U HE).eq
    show R=_
    rw [← h]
    have he':¬ S1.err=0:=by simpa using he
    cases n1 with
    | zero=>rfl
    | succ n1=>rw [exprsS,if_neg he']
   clear he
   go_wp2_with (go_at_call 96;refine (U HOK).mono ?_;rintro e w1 ⟨rfl,hp1,hf1⟩;have HP1:=V hp1;have HF1:=V hf1;clear hp1 hf1)
   rw [U HPP]
   have hE:=U HE
   have hro:=hE.row.keep (w':=w1) (fun b h1 h2=>(U HF1).blk b h2 (by omega))
   refine ⟨a,m,k,rfl,by omega,by rw [U HEQ,cnt_toFo];exact hE.row.len,?_,hro.nil,?_,hE.fr.trans (U HF1),?_⟩
   · rw [U HEQ];exact hro.slice
   · rw [U HEQ];exact U HP1
   · rw [U HEQ];have:=hE.mu;dsimp only;omega
  | true=>
   rw [he] at HOK
   have he':S1.err=0:=by simpa using he
   have hpos:1 ≤ muS T S1:=by unfold muS;rw [if_pos he'];omega
   obtain ⟨n2,rfl⟩:∃ n2,n1=n2+1:=⟨n1 - 1,by have:=(U HE).fuel;omega⟩
   obtain ⟨S2,hS2⟩:∃ S2,S2=elementS T m S1:=⟨_,rfl⟩
   have hmE:muS T S2 ≤ muS T S1:=by rw [hS2];exact muS_element T m S1
   have HEQ:Hid (R=if isS T 5 [44] (sub S2).2 then exprsS T sub n2 (Fo.app (toFo Es) (Fo.cons (sub S2).1.1 (sub S2).1.2 .nil)) (nextS T (sub S2).2) else (Fo.app (toFo Es) (Fo.cons (sub S2).1.1 (sub S2).1.2 .nil),(sub S2).2)):=by
    have h:=(U HE).eq
    show R=_
    rw [← h,exprsS,if_pos he',cnt_toFo,← (U HE).row.len,← hS2]
   have HS2:=V hS2
   have HME:=V hmE
   have HPOS:=V hpos
   have HEL:Hid (∀ w1,PX T w1 p bt c S1→Calls Tryz.prog 187 #[.pointer (some ⟨p,0,none⟩),.int .i64 (m:Int)] w1 fun e w'=>e=.returned (.tuple #[])∧PX T w' p bt c S2∧FrX p w1 w'):=fun w1 h=>by rw [hS2];exact element_any hT h m
   have HSUB:Hid (∀ w2,PX T w2 p bt c S2→Calls Tryz.prog 150 #[.pointer (some ⟨p,0,none⟩)] w2 (LvP T p bt c w2 S2 (sub S2))):=fun w2 h=>hs w2 S2 h (by have h1:=(U HE).mu;have h2:=U HMU;omega)
   clear he he' hpos hmE hS2
   have HRK:Hid (∀ w1 w2 w3,FrX p wr w1→FrX p w1 w2→FrX p w2 w3→OE w.heap.size w3 a m k Es):=fun w1 w2 w3 h1 h2 h3=>(U HE).row.keep (fun b q1 q2=>((h1.trans h2).trans h3).blk b q2 (by omega))
   have HXK:Hid (∀ w1 w2 w3 M E,FrX p wr w1→FrX p w1 w2→ExM w3 (fun b=>w2.heap.size ≤ b) M E→ExM w3 (fun b=>w.heap.size ≤ b∧(Value.slice a m k).ownBlock ≠ some b) M E):=fun w1 w2 w3 M E h1 h2 h=>h.keep (fun _ _ _=>rfl) (fun b _ q=>by
    have z1:=(h1.trans h2).size
    have z2:=(U HE).fr.size
    refine ⟨by omega,fun e=>?_⟩
    have:=((U HE).row.own b e).2
    omega)
   have HZK:Hid (∀ w1 w2 w3,FrX p wr w1→FrX p w1 w2→FrX p w2 w3→w.heap.size ≤ w3.heap.size∧bt < w.heap.size):=fun w1 w2 w3 h1 h2 h3=>⟨Nat.le_trans (U HE).fr.size ((h1.trans h2).trans h3).size,U HBT⟩
   have HPK:Hid (∀ w3 w4 S',PX T w3 p bt c S'→bt < w.heap.size→Below w.heap.size w3 w4→PX T w4 p bt c S'):=fun w3 w4 S' h hb hbb=>⟨(hbb.block p hplt).trans h.blk,h.toks.keep (fun _=>hbb.block bt hb),h.ne,h.lt,h.dlo,h.dhi,h.err⟩
   have HFK:Hid (∀ w1 w2 w3 w4,FrX p wr w1→FrX p w1 w2→FrX p w2 w3→Below w.heap.size w3 w4→FrX p w w4):=fun w1 w2 w3 w4 h1 h2 h3 hbb=>by
    have h:=(((U HE).fr.trans h1).trans h2).trans h3
    exact ⟨hbb.os.trans h.os,hbb.tape.trans h.tape,hbb.output.trans h.output,Nat.le_trans h.size hbb.size,fun b q1 q2=>(hbb.block b q1).trans (h.blk b q1 q2)⟩
   cases hc:isS T 5 [44] (sub S2).2 with
   | true=>
    have HC:=V hc
    have HMS:Hid (∀ w4,PX T w4 p bt c (sub S2).2→Calls Tryz.prog 95 #[.pointer (some ⟨p,0,none⟩),.string ⟨#[44]⟩] w4 fun e w5=>e=.returned (.bool true)∧PX T w5 p bt c (nextS T (sub S2).2)∧FrX p w4 w5):=fun w4 h=>by
     refine (maySign_any hT h [44]).mono ?_
     rintro e w5 ⟨rfl,h1,h2⟩
     unfold mayS at h1
     rw [if_pos hc] at h1
     exact ⟨by rw [hc],h1,h2⟩
    clear hc
    go_wp2_with (first | (go_at_call 96;refine (U HOK).mono ?_;rintro e w1 ⟨rfl,hp1,hf1⟩;have HP1:=V hp1;have HF1:=V hf1;clear hp1 hf1) | (go_at_call 187;refine (U HEL _ (U HP1)).mono ?_;rintro e w2 ⟨rfl,hp2,hf2⟩;have HP2:=V hp2;have HF2:=V hf2;clear hp2 hf2) | (go_at_call 150;refine (U HSUB _ (U HP2)).mono ?_;rintro e w3 ⟨M,rfl,hx,hp3,hf3,hm3'⟩;have hl3:=hx.len;have hfo3:=fold10 hx.len;have HR3:=V (U HRK w1 w2 w3 (U HF1) (U HF2) hf3);have HX3:=V (U HXK w1 w2 w3 M _ (U HF1) (U HF2) hx);have HZ3:=V (U HZK w1 w2 w3 (U HF1) (U HF2) hf3);have HP3:=V hp3;have HF3:=V hf3;have HM3:=V hm3';clear hx hp3 hf3 hm3') | (at_builtin;refine append_ex rfl (.tmp 10) (.tmp 13) rfl (U HR3) (U HZ3).1 rfl M (sub S2).1 (U HX3) rfl (by omega) ?_;intro ad4 k4 w4 ho4 hb4;have HO4:=V ho4;have HP4:=V (U HPK w3 w4 _ (U HP3) (U HZ3).2 hb4);have HF4:=V (U HFK _ _ _ _ (U HF1) (U HF2) (U HF3) hb4);clear ho4 hb4) | (go_at_call 95;refine (U HMS _ (U HP4)).mono ?_;rintro e w5 ⟨rfl,hp5,hf5⟩;have HP5:=V hp5;have HF5:=V hf5;clear hp5 hf5))
    have HRO:Hid (OE w.heap.size w5 ad4 (m+1) k4 (Es ++ [(M,(sub S2).1)])):=(U HO4).keep (fun b q1 q2=>(U HF5).blk b q2 (by omega))
    have HFE:=V ((U HF4).trans (U HF5))
    have HNX:Hid (EsI T p bt c (muS T S) w w5 R (exprsS T sub) ad4 (m+1) k4 (Es ++ [(M,(sub S2).1)]) (nextS T (sub S2).2) n2):=by
     have hE:=U HE
     have h1:=muS_next hT (U HC) (by decide) (U HP3).lt
     have h2:=U HM3
     have h3:=U HME
     have h4:=hE.mu
     have h5:=hE.fuel
     refine ⟨U HRO,U HP5,U HFE,?_,by omega,by omega⟩
     rw [← toFo_snoc]
     have h6:=U HEQ
     rw [if_pos (U HC)] at h6
     exact h6.symm
    have HDEC:Hid (muS T (nextS T (sub S2).2) < muS T S1):=by
     have h1:=muS_next hT (U HC) (by decide) (U HP3).lt
     have h2:=U HM3
     have h3:=U HME
     show _ < _
     omega
    go_roundg (muS T (nextS T (sub S2).2))
    case rel=>exact ⟨_,_,_,_,_,_,rfl,rfl,HNX⟩
    case measure=>exact U HDEC
   | false=>
    have HC:=V hc
    have HMS:Hid (∀ w4,PX T w4 p bt c (sub S2).2→Calls Tryz.prog 95 #[.pointer (some ⟨p,0,none⟩),.string ⟨#[44]⟩] w4 fun e w5=>e=.returned (.bool false)∧PX T w5 p bt c (sub S2).2∧FrX p w4 w5):=fun w4 h=>by
     refine (maySign_any hT h [44]).mono ?_
     rintro e w5 ⟨rfl,h1,h2⟩
     unfold mayS at h1
     rw [if_neg (by rw [hc];decide)] at h1
     exact ⟨by rw [hc],h1,h2⟩
    clear hc
    go_wp2_with (first | (go_at_call 96;refine (U HOK).mono ?_;rintro e w1 ⟨rfl,hp1,hf1⟩;have HP1:=V hp1;have HF1:=V hf1;clear hp1 hf1) | (go_at_call 187;refine (U HEL _ (U HP1)).mono ?_;rintro e w2 ⟨rfl,hp2,hf2⟩;have HP2:=V hp2;have HF2:=V hf2;clear hp2 hf2) | (go_at_call 150;refine (U HSUB _ (U HP2)).mono ?_;rintro e w3 ⟨M,rfl,hx,hp3,hf3,hm3'⟩;have hl3:=hx.len;have hfo3:=fold10 hx.len;have HR3:=V (U HRK w1 w2 w3 (U HF1) (U HF2) hf3);have HX3:=V (U HXK w1 w2 w3 M _ (U HF1) (U HF2) hx);have HZ3:=V (U HZK w1 w2 w3 (U HF1) (U HF2) hf3);have HP3:=V hp3;have HF3:=V hf3;have HM3:=V hm3';clear hx hp3 hf3 hm3') | (at_builtin;refine append_ex rfl (.tmp 10) (.tmp 13) rfl (U HR3) (U HZ3).1 rfl M (sub S2).1 (U HX3) rfl (by omega) ?_;intro ad4 k4 w4 ho4 hb4;have HO4:=V ho4;have HP4:=V (U HPK w3 w4 _ (U HP3) (U HZ3).2 hb4);have HF4:=V (U HFK _ _ _ _ (U HF1) (U HF2) (U HF3) hb4);clear ho4 hb4) | (go_at_call 95;refine (U HMS _ (U HP4)).mono ?_;rintro e w5 ⟨rfl,hp5,hf5⟩;have HP5:=V hp5;have HF5:=V hf5;clear hp5 hf5))
    have HRO:Hid (OE w.heap.size w5 ad4 (m+1) k4 (Es ++ [(M,(sub S2).1)])):=(U HO4).keep (fun b q1 q2=>(U HF5).blk b q2 (by omega))
    have HFE:=V ((U HF4).trans (U HF5))
    rw [U HPP]
    have hE:=U HE
    have h6:=U HEQ
    rw [if_neg (by rw [U HC];decide),toFo_snoc M] at h6
    refine ⟨ad4,m+1,k4,rfl,by omega,by rw [h6,cnt_toFo];exact (U HRO).len,?_,(U HRO).nil,?_,U HFE,?_⟩
    · rw [h6];exact (U HRO).slice
    · rw [h6];exact U HP5
    · rw [h6]
      have h2:=U HM3
      have h3:=U HME
      have h4:=hE.mu
      dsimp only
      omega
/-- Expressions as a row. -/
def foE:List Ex→Fo
 | []=>.nil
 | x :: l=>Fo.cons x.1 x.2 (foE l)
theorem toFo_foE:∀ Xs:List (List Value × Ex),toFo Xs=foE (Xs.map (·.2))
 | []=>rfl
 | x :: l=>by show Fo.cons _ _ (toFo l)=Fo.cons _ _ (foE (l.map (·.2)));rw [toFo_foE l]
theorem foE_snoc (E:Ex):∀ l:List Ex,Fo.app (foE l) (Fo.cons E.1 E.2 .nil)=foE (l ++ [E])
 | []=>rfl
 | x :: l=>by show Go.Deep.BT.node 0 0 _ _ (Fo.app (foE l) _)=_;rw [foE_snoc E l];rfl
theorem cnt_foE:∀ l:List Ex,cnt (foE l)=l.length
 | []=>rfl
 | x :: l=>by show cnt (foE l)+1=_;rw [cnt_foE l];rfl
theorem exprsS_foE (T:List Tk) (sub:PS→Ex × PS):∀ (n:Nat) (L:List Ex) (S:PS),∃ K,(exprsS T sub n (foE L) S).1=foE K
 | 0,L,_=>⟨L,rfl⟩
 | n+1,L,S=>by
  rw [exprsS]
  split
  · dsimp only
    rw [foE_snoc]
    split
    · exact exprsS_foE T sub n _ _
    · exact ⟨_,rfl⟩
  · exact ⟨L,rfl⟩
/-- A row of expressions as a list of their cells. -/
theorem row_list {w:World} {Q:Nat→Prop}:∀ (L:List Ex) {b o:Nat},RowAt w Q (foE L) b o→∃ Xs:List (List Value × Ex),Xs.map (·.2)=L∧(∀ y ∈ Xs,ExM w Q y.1 y.2)∧w.rangeAt b o (Xs.flatMap (·.1))
 | [],_,_,_=>⟨[],rfl,(fun _ h=>by cases h),fun j v hv=>by cases hv⟩
 | (a,kids) :: L,b,off,h=>by
  obtain ⟨⟨args,h1,h2,h3⟩,h4⟩:=h
  obtain ⟨Xs,e,hx,hr⟩:=row_list L h4
  refine ⟨(ndC a args,(a,kids)) :: Xs,by rw [List.map_cons,e],?_,?_⟩
  · intro y hy
    rcases List.mem_cons.1 hy with rfl | hy
    · exact ⟨args,rfl,h3⟩
    · exact hx y hy
  · rw [List.flatMap_cons]
    intro j v hv
    by_cases hj:j < 10
    · rw [List.getElem?_append_left (by rw [ndC_len];exact hj)] at hv
      exact h1 j v hv
    · rw [List.getElem?_append_right (by rw [ndC_len];omega),ndC_len] at hv
      have:=hr (j - 10) v hv
      rwa [show off+10+(j - 10)=off+j by omega] at this
theorem flat_one {w:World} {Q:Nat→Prop} {Xs:List (List Value × Ex)} (h:∀ y ∈ Xs,ExM w Q y.1 y.2):∀ u ∈ Xs.flatMap (·.1),u.oneCell'=true:=by
 intro u hu
 obtain ⟨y,hy,hu⟩:=List.mem_flatMap.1 hu
 exact (h y hy).one u hu
/-- The same at an operation of a region that draws. -/
theorem append_op {o:Oper} {act:Act} {Q':Exit→Act→World→Prop} {K:Act→World→Prop} {base:Nat} {W:World} {a:Option Addr} {m c:Nat} {Es:List (List Value × Ex)} (s x:Operand)
 (ho:o.op=.call { callee:=.builtin .append,args:=#[s,x],argTypes:=#[27,27] }) (h:OE base W a m c Es) (hbase:base ≤ W.heap.size) (hs:act.eval s=.slice a m c)
 (Xs:List (List Value × Ex)) (hx:∀ y ∈ Xs,ExM W (fun b=>base ≤ b∧(Value.slice a m c).ownBlock ≠ some b) y.1 y.2) (bx ox kx:Nat) (hev:act.eval x=.slice (some ⟨bx,ox,none⟩) Xs.length kx) (hr:W.rangeAt bx ox (Xs.flatMap (·.1))) (hn:m ≤ 1000000) (hn2:Xs.length ≤ 1000000)
 (hK:∀ ad k w',OE base w' ad (m+Xs.length) k (Es ++ Xs)→Below base W w'→(∀ b,b < W.heap.size→(Value.slice a m c).ownBlock ≠ some b→w'.heap[b]?=W.heap[b]?)→((Value.slice ad (m+Xs.length) k).ownBlock=(Value.slice a m c).ownBlock ∨ (Value.slice ad (m+Xs.length) k).ownBlock=some W.heap.size)→K (act.put o.dst (.slice ad (m+Xs.length) k)) w'):o.wp Tryz.prog act W K Q':=by
 obtain ⟨i0,hi,hz0,hz1,hz2⟩:=info_parts Tryz.infoEx
 obtain ⟨v',w',hrun,ho',hg,_,hown⟩:=run_append_own_at (P:=Tryz.prog) W base 27 o.type 29 i0 _ 10 120 Tryz.underlying27 hi hz0 hz1 hz2 rfl (by decide) _ m _ h.row ⟨bx,ox,none⟩ Xs.length kx (Xs.flatMap (·.1)) (flat_len (fun y hy=>(hx y hy).len)) (fun j u hj=>by rw [Go.WideShapes.add_plain];exact hr j u hj) (flat_one hx) (by unfold maxLen;omega) (by omega) hbase
 obtain ⟨ad,k,rfl⟩:=ownSX ho'
 refine Lib.wp_append_run W s x 27 27 ho _ _ hs hev _ w' hrun (hK ad k w' ⟨?_,?_,?_⟩ ?_ (fun b hb e=>hg.block b hb (fun e'=>e e'.symm)) hown)
 · rw [List.flatMap_append];simpa using ho'
 · rw [List.length_append,← h.len]
 · have hall:∀ y ∈ Es ++ Xs,ExM W (fun b=>base ≤ b∧(Value.slice a m c).ownBlock ≠ some b) y.1 y.2:=by
    intro y hy
    rcases List.mem_append.1 hy with hy | hy
    · exact h.ex y hy
    · exact hx y hy
   intro y hy
   refine (hall y hy).keep (fun b q hl=>?_) (fun b hl q=>⟨q.1,?_⟩)
   · exact hg.block b hl (fun e=>q.2 e.symm)
   · rcases hown with e | e
     · rw [e];exact q.2
     · rw [e]
       intro e'
       injection e' with e'
       omega
 · refine ⟨hg.os,hg.tape,hg.output,hg.size,fun b hb=>?_⟩
   exact hg.block b (by omega) (fun e=>by have:=(h.own b e.symm).1;omega)
/-- A row of one's own as a slice, whatever is known of its blocks. -/
theorem OE.sliceQ {base:Nat} {w:World} {a:Option Addr} {m c:Nat} {Es:List (List Value × Ex)} (h:OE base w a m c Es) {Q:Nat→Prop} (hx:∀ x ∈ Es,ExM w Q x.1 x.2) (hq:∀ g,(Value.slice a m c).ownBlock=some g→Q g):SlAt w Q (.slice a m c) (toFo Es):=by
 rcases h.row.2 with ⟨e,hm⟩ | ⟨g,cap,cur,e,hb,hc,h1,h2,h3,h4⟩
 · injection e with e1 e2 e3
   subst e1
   have:Es=[]:=List.eq_nil_of_length_eq_zero (by rw [← h.len];exact hm)
   subst this
   exact .inl ⟨rfl,c,by rw [hm]⟩
 · injection e with e1 e2 e3
   subst e1
   subst e3
   refine .inr ⟨g,0,c,by rw [cnt_toFo,← h.len],by rw [cnt_toFo,← h.len];exact h1,h2,?_⟩
   refine row_of (hq g (by simp [Value.ownBlock])) hx (fun j v hj=>?_)
   rw [Nat.zero_add,cellX hc]
   rw [← h4] at hj
   have hj2:=(List.getElem?_eq_some_iff.1 hj).1
   rw [List.getElem?_take_of_lt (by simp at hj2;omega)] at hj
   simpa using hj
/-- Nothing appended. -/
theorem append_op_none {o:Oper} {act:Act} {Q':Exit→Act→World→Prop} {K:Act→World→Prop} {base:Nat} {W:World} {a:Option Addr} {m c:Nat} {Es:List (List Value × Ex)} (s x:Operand)
 (ho:o.op=.call { callee:=.builtin .append,args:=#[s,x],argTypes:=#[27,27] }) (h:OE base W a m c Es) (hs:act.eval s=.slice a m c) (hev:act.eval x=.slice none 0 0)
 (hK:K (act.put o.dst (.slice a m c)) W):o.wp Tryz.prog act W K Q':=by
 obtain ⟨i0,hi,_,_,_⟩:=info_parts Tryz.infoEx
 have hrun:=run_append_owned_none (P:=Tryz.prog) (w:=W) base 27 o.type 29 i0 10 Tryz.underlying27 hi _ m _ h.row
 exact Lib.wp_append_run W s x 27 27 ho _ _ hs hev _ W hrun hK
/-- A new row of one. -/
theorem oe_one {base:Nat} {W:World} {M:List Value} {E:Ex} (hb:base ≤ W.heap.size) (hx:ExM W (fun b=>base ≤ b) M E):OE base (W.alloc (.cells M.toArray 29)) (some ⟨W.heap.size,0,none⟩) 1 1 [(M,E)]:=by
 have hl:=hx.len
 refine ⟨⟨by simp [hl],.inr ⟨W.heap.size,1,M.toArray,rfl,hb,heap_alloc_new _ _,Nat.le_refl 1,by unfold maxLen;omega,by simp [hl],?_⟩⟩,rfl,?_⟩
 · simp [List.take_of_length_le,hl]
 · intro y hy
   rw [List.mem_singleton.1 hy]
   exact (hx.keep (Q':=fun b=>base ≤ b∧(Value.slice (some ⟨W.heap.size,0,none⟩) 1 1).ownBlock ≠ some b) (fun _ _ _=>rfl) (fun b hl q=>⟨q,fun e=>by simp only[Value.ownBlock,Option.some.injEq] at e;omega⟩)).below (alX (Below.refl _ _) _)
section
variable {P:Program} {ops:Array Oper} {Q:Exit→Act→World→Prop} {md:Region.Mode} {S:World→Prop} {fin:Nat}
/-- Numbers i and j may come up: in either order. -/
theorem last_two {i j:Nat} {oi oj:Oper} {fuel:Nat} {listed:Array Bool} {a:Act} {w:World} (hr:Region.ready md ops listed=[i,j]) (hi:ops[i]?=some oi) (hj:ops[j]?=some oj)
 (h1:∀ K':Act→World→Prop,Shut (∀ a w,(i ≠ fin→S w)→((i ≠ fin→S w)→wpAnyL P md ops Q S fin fuel (listed.setIfInBounds i true) a w)→K' a w)→if Region.wanted oi (yielded ops a.tmps)=true then Oper.wp P oi a w K' Q else K' (a.put oi.dst undef) w)
 (h2:∀ K':Act→World→Prop,Shut (∀ a w,(j ≠ fin→S w)→((j ≠ fin→S w)→wpAnyL P md ops Q S fin fuel (listed.setIfInBounds j true) a w)→K' a w)→if Region.wanted oj (yielded ops a.tmps)=true then Oper.wp P oj a w K' Q else K' (a.put oj.dst undef) w):wpAnyL P md ops Q S fin (fuel+1) listed a w:=by
 refine ⟨fun h0=>absurd (hr ▸ h0) (by simp),fun k hk=>?_⟩
 rw [hr] at hk
 rcases List.mem_cons.1 hk with rfl | hk
 · exact wpOp_step hi (fun K' hK=>h1 K' (fun a w hS hW=>hK a w ⟨hS,hW hS⟩))
 · obtain rfl:=List.mem_singleton.1 hk
   exact wpOp_step hj (fun K' hK=>h2 K' (fun a w hS hW=>hK a w ⟨hS,hW hS⟩))
end
end Go.Proofs.YtpnonhjmpnbmcaaGreatDoor
