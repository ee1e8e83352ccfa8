/- Package expr: eval, every expression that is known so far. -/
import Derived.Test.YtpnonhjmpnbmcaaGreatDoorXEv10
import Derived.Shelf.Pu.Clone
import Derived.Ground.MpProg
import Derived.Test.YtpnonhjmpnbmcaaGreatDoorProg
namespace Go.Proofs.YtpnonhjmpnbmcaaGreatDoor
open Go.RowKit Go.Lib
open Act (put)
set_option linter.unusedSimpArgs false
set_option linter.unusedVariables false
set_option maxHeartbeats 6400000
set_option maxRecDepth 20000
theorem eval_all (row:List GV) (hrow:∀ g ∈ row,g.ok) (pg:Nat):∀ (m:Nat) (w:World) (Q:Nat→Prop) (be oe:Nat) (E:Ex) (v:Value),w.rangeAt be oe (ndC E.1 v)→SlAt w Q v E.2→exOk E→simE E=true→GrAt w pg row→szF E.2 < m→EvAt w pg be oe (evE row E):=by
 intro m
 induction m with
 | zero=>intros;omega
 | succ m ih=>
  intro w0 Q be oe E v hr0 hs0 hok hsim hgr0 hm w hB
  have hgr:=hgr0.below hB
  have hbe:be < w0.heap.size:=World.block_lt_of_cell? w0 _ (hr0 0 _ rfl)
  have hr:w.rangeAt be oe (ndC E.1 v):=fun j u hj=>(hB.cell (p:=⟨be,oe+j,none⟩) hbe).trans (hr0 j u hj)
  have hs:SlAt w Q v E.2:=hs0.keep (fun b _ hl=>hB.block b hl) (fun _ _ h=>h)
  clear hr0 hs0 hgr0 hB hbe
  obtain ⟨n,F⟩:=E
  have hev:∀ (ba oa:Nat),RowAt w Q F ba oa→∀ (i:Nat) (x:Ex),(toL F)[i]?=some x→EvAt w pg ba (oa+10 * i) (evE row x):=by
   intro ba oa hR i x hx
   obtain ⟨M,⟨args,hM,hsl⟩,hrg,_⟩:=row_nth F i ba oa x hR hx
   rw [hM] at hrg
   simp only[simE,Bool.and_eq_true] at hsim
   have hz:=szF_get F i x hx
   exact ih w Q ba (oa+10 * i) x args hrg hsl (foOk_get F i x hok.2 hx) (simF_get F i x hsim.2 hx) hgr (by show szF x.2 < m;have:szF F < m+1:=hm;omega)
  have hlok:∀ r ∈ evL row F,r.1.ok:=evL_ok hrow F hok.2
  obtain ⟨av,k,rfl⟩:=slAt_slice hs
  have c0:w.cell? ⟨be,oe,none⟩=some (.int .i64 n.kind):=hr 0 _ rfl
  have c1:w.cell? ⟨be,oe+1,none⟩=some (.int .i64 n.op):=hr 1 _ rfl
  have c7:w.cell? ⟨be,oe+7,none⟩=some (.slice av (cnt F) k):=hr 7 _ rfl
  have hbe:be < w.heap.size:=World.block_lt_of_cell? w _ c0
  have c1':∀ W,Below w.heap.size w W→W.cell? ⟨be,oe+1,none⟩=some (.int .i64 n.op):=fun W hb=>(hb.cell (p:=⟨be,oe+1,none⟩) hbe).trans c1
  have c7':∀ W,Below w.heap.size w W→W.cell? ⟨be,oe+7,none⟩=some (.slice av (cnt F) k):=fun W hb=>(hb.cell (p:=⟨be,oe+7,none⟩) hbe).trans c7
  have har:∀ W,Below w.heap.size w W→Calls Tryz.prog 60 #[.pointer (some ⟨be,oe,none⟩)] W fun e w'=>e=.returned (.tuple #[.int .i64 (argK n.kind n.op).1,.int .i64 (argK n.kind n.op).2])∧w'=W:=
   fun W hb=>args_any W be oe n.kind n.op ((hb.cell (p:=⟨be,oe,none⟩) hbe).trans c0) (c1' W hb)
  have hlen:(evL row F).length=cnt F:=evL_len row F
  show Calls _ _ _ _ (GeP w (evN row n (evL row F)))
  by_cases hc:(cnt F:Int) < (argK n.kind n.op).1 ∨ (argK n.kind n.op).2 < (cnt F:Int)
  · have hN:evN row n (evL row F)=(nullG,20):=by unfold evN;rw [hlen,if_pos hc]
    rw [hN]
    exact eval_cnt w pg be oe (cnt F) k av n.kind _ _ c0 c7 har hc
  have h1:¬ (cnt F:Int) < (argK n.kind n.op).1:=fun h=>hc (.inl h)
  have h2:¬ (argK n.kind n.op).2 < (cnt F:Int):=fun h=>hc (.inr h)
  have hcL:¬ (((evL row F).length:Int) < (argK n.kind n.op).1 ∨ (argK n.kind n.op).2 < ((evL row F).length:Int)):=by rw [hlen];exact hc
  have hk4:n.kind=1 ∨ n.kind=2 ∨ n.kind=3 ∨ n.kind=4 ∨ n.kind=5 ∨ n.kind=6:=by
   simp only[simE,simK,Bool.and_eq_true,Bool.or_eq_true,beq_iff_eq] at hsim
   exact hsim.1
  rcases hk4 with hk | hk | hk | hk | hk | hk
  · rw [evN1 hcL hk]
    rw [hk] at c0
    exact eval_k1 w pg be oe (cnt F) k av _ _ _ c0 c7 har (gvN n) (range_val hr) h1 h2 (fun W _=>soundE_any (gvN n) (gvN_ok hok.1) W)
  · rw [evN2 hcL hk]
    rw [hk] at c0
    exact eval_k2 w pg be oe (cnt F) k av _ _ _ c0 c7 har n.at' (hr 8 _ rfl) h1 h2 (fun W hb=>column_any row hrow n.at' W pg (hgr.below hb))
  · rw [hk] at c0
    have ha:argK n.kind n.op=(1,1):=by rw [hk];rfl
    rw [ha] at h1 h2
    have h1':¬ (cnt F:Int) < 1:=h1
    have h2':¬ 1 < (cnt F:Int):=h2
    have hc1:cnt F=1:=by omega
    match F,hc1 with
    | .node n1 n2 a kids rest,hc1=>
     have hc0:cnt rest=0:=by show cnt rest=0;have:cnt rest+1=1:=hc1;omega
     match rest,hc0 with
     | .nil,_=>
      rcases hs with ⟨h,_⟩ | ⟨ba,oa,k',hv,_,_,hR⟩
      · exact absurd h (by simp)
      injection hv with hv1 _ hv3
      subst hv1 hv3
      have hL:evL row (.node n1 n2 a kids .nil)=[evE row (a,kids)]:=rfl
      rw [hL] at hcL ⊢
      rw [evN3 hcL hk]
      exact eval_k3 w pg be oe 1 k _ _ _ _ c0 c7 har (by rw [ha];decide) (by rw [ha];decide) (fun W hb=>unary_of W pg be oe ba oa k n.op _ (c1' W hb) (c7' W hb) (hlok _ (by rw [hL];exact List.mem_cons_self ..)) ((hev ba oa hR 0 (a,kids) rfl).mono hb))
  · rw [hk] at c0
    have ha:argK n.kind n.op=(2,2):=by rw [hk];rfl
    rw [ha] at h1 h2
    have h1':¬ (cnt F:Int) < 2:=h1
    have h2':¬ 2 < (cnt F:Int):=h2
    have hc1:cnt F=2:=by omega
    match F,hc1 with
    | .node n1 n2 a kids (.node n3 n4 a2 kids2 rest),hc1=>
     have hc0:cnt rest=0:=by have:cnt rest+1+1=2:=hc1;omega
     match rest,hc0 with
     | .nil,_=>
      rcases hs with ⟨h,_⟩ | ⟨ba,oa,k',hv,_,_,hR⟩
      · exact absurd h (by simp)
      injection hv with hv1 _ hv3
      subst hv1 hv3
      have hL:evL row (.node n1 n2 a kids (.node n3 n4 a2 kids2 .nil))=[evE row (a,kids),evE row (a2,kids2)]:=rfl
      rw [hL] at hcL ⊢
      rw [evN4 hcL hk]
      have hx:=hev ba oa hR 0 (a,kids) rfl
      have hy:=hev ba oa hR 1 (a2,kids2) rfl
      have hxo:(evE row (a,kids)).1.ok:=hlok _ (by rw [hL];exact List.mem_cons_self ..)
      have hyo:(evE row (a2,kids2)).1.ok:=hlok _ (by rw [hL];exact List.mem_cons_of_mem _ (List.mem_cons_self ..))
      refine eval_k4 w pg be oe 2 k _ _ _ _ c0 c7 har (by rw [ha];decide) (by rw [ha];decide) (fun W hb=>?_)
      show Calls _ _ _ _ (GeP W (binaryG n.op (evE row (a,kids)) (evE row (a2,kids2))))
      have d1:=c1' W hb
      have d7:=c7' W hb
      by_cases h17:n.op=17
      · rw [h17] at d1
        have hl:binaryG n.op (evE row (a,kids)) (evE row (a2,kids2))=logicG 17 (evE row (a,kids)) (evE row (a2,kids2)):=by unfold binaryG;rw [if_pos (.inl h17),h17]
        rw [hl]
        refine binary_l17 W pg be oe _ d1 (fun W' hb'=>logic_of17 W' pg be oe ba oa k _ _ ?_ ?_ (hx.mono (trX hb hb')) (hy.mono (trX hb hb')))
        · rw [← h17];exact c1' W' (trX hb hb')
        · exact c7' W' (trX hb hb')
      by_cases h18:n.op=18
      · rw [h18] at d1
        have hl:binaryG n.op (evE row (a,kids)) (evE row (a2,kids2))=logicG 18 (evE row (a,kids)) (evE row (a2,kids2)):=by unfold binaryG;rw [if_pos (.inr h18),h18]
        rw [hl]
        refine binary_l18 W pg be oe _ d1 (fun W' hb'=>logic_of18 W' pg be oe ba oa k _ _ ?_ ?_ (hx.mono (trX hb hb')) (hy.mono (trX hb hb')))
        · rw [← h18];exact c1' W' (trX hb hb')
        · exact c7' W' (trX hb hb')
      exact binary_of W pg be oe ba oa k n.op _ _ h17 h18 d1 d7 hxo hyo (hx.mono hb) (hy.mono hb)
  · rw [hk] at c0
    have ha:argK n.kind n.op=(2,11):=by rw [hk];rfl
    rw [ha] at h1 h2
    have h1':¬ (cnt F:Int) < 2:=h1
    have h2':¬ 11 < (cnt F:Int):=h2
    match F,h1',h2' with
    | .node n1 n2 a kids rest,h1',h2'=>
     have hcr:cnt rest ≤ 10:=by have:¬ 11 < ((cnt rest+1:Nat):Int):=h2';omega
     rcases hs with ⟨h,_⟩ | ⟨ba,oa,k',hv,_,_,hR⟩
     · exact absurd h (by simp)
     injection hv with hv1 _ hv3
     subst hv1 hv3
     have hL:evL row (.node n1 n2 a kids rest)=evE row (a,kids) :: evL row rest:=rfl
     rw [hL] at hcL ⊢
     rw [evN5 hcL hk]
     have hll:(evL row rest).length=cnt rest:=evL_len row rest
     refine eval_k5 w pg be oe (cnt rest+1) k _ _ _ _ c0 c7 har (by rw [ha];exact h1) (by rw [ha];exact h2) (fun W hb=>?_)
     rw [← hll]
     refine among_of W pg ba oa k _ _ (by omega) (by rw [← hL];exact hlok) (fun i r hi=>?_)
     rw [← hL] at hi
     obtain ⟨x,hx⟩:∃ x,(toL (.node n1 n2 a kids rest))[i]?=some x:=by
      have hlt:i < (evL row (.node n1 n2 a kids rest)).length:=(List.getElem?_eq_some_iff.1 hi).1
      rw [evL_len,cnt_toL] at hlt
      exact ⟨_,List.getElem?_eq_getElem hlt⟩
     have hg:=evL_get row _ i x hx
     rw [hg] at hi
     injection hi with hi
     rw [← hi]
     exact (hev ba oa hR i x hx).mono hb
  · rw [hk] at c0
    have ha:argK n.kind n.op=(2,21):=by rw [hk];rfl
    rw [ha] at h1 h2
    have h1':¬ (cnt F:Int) < 2:=h1
    have h2':¬ 21 < (cnt F:Int):=h2
    rcases hs with ⟨h,_⟩ | ⟨ba,oa,k',hv,hq1,hq2,hR⟩
    · exact absurd (show (cnt F:Int) < 2 by (have h':F=.nil:=h;rw [h'];decide)) h1'
    injection hv with hv1 _ hv3
    subst hv1 hv3
    rw [evN6 hcL hk]
    refine eval_k6 w pg be oe (cnt F) k _ _ _ _ c0 c7 har (by rw [ha];exact h1) (by rw [ha];exact h2) (fun W hb=>?_)
    rw [← hlen]
    refine choice_of W pg ba oa k _ (by rw [hlen];omega) (by rw [hlen];exact hq1) hq2 (fun i r hi=>?_)
    obtain ⟨x,hx⟩:∃ x,(toL F)[i]?=some x:=by
     have hlt:i < (evL row F).length:=(List.getElem?_eq_some_iff.1 hi).1
     rw [evL_len,cnt_toL] at hlt
     exact ⟨_,List.getElem?_eq_getElem hlt⟩
    have hg:=evL_get row _ i x hx
    rw [hg] at hi
    injection hi with hi
    rw [← hi]
    exact (hev ba oa hR i x hx).mono hb
end Go.Proofs.YtpnonhjmpnbmcaaGreatDoor
namespace Go.Proofs.YtpnonhjmpnbmcaaGreatDoor
open Go.Shelf
open Act (put)
set_option linter.unusedSimpArgs false
set_option linter.unusedVariables false
set_option maxHeartbeats 6400000
set_option maxRecDepth 20000
def Tryz.clone_ren:Go.Shelf.Ren:=⟨fun | 25=>101 | n=>n,fun | 9=>9 | 3=>3 | 4=>4 | 37=>52 | 0=>0 | 47=>255 | 5=>5 | n=>n,fun | n=>n⟩
theorem Tryz.clone:Go.Proofs.LaysPu.n25 Tryz.prog Tryz.clone_ren:={
 mixed:=by kernel_rfl
 f25:=Tryz.func101.trans (congrArg some (by kernel_rfl))
 t0:=Tryz.underlying0
 a0:=Tryz.isAgg0
 z0:=Tryz.sizeOf0
 v0:=Tryz.zeroValue0
 i0:=by kernel_rfl
 t3:=Tryz.underlying3
 a3:=Tryz.isAgg3
 z3:=Tryz.sizeOf3
 v3:=Tryz.zeroValue3
 i3:=by kernel_rfl
 t4:=Tryz.underlying4
 a4:=Tryz.isAgg4
 z4:=Tryz.sizeOf4
 v4:=Tryz.zeroValue4
 i4:=by kernel_rfl
 t5:=Tryz.underlying5
 a5:=Tryz.isAgg5
 z5:=Tryz.sizeOf5
 v5:=Tryz.zeroValue5
 i5:=by kernel_rfl
 t9:=Tryz.underlying9
 a9:=Tryz.isAgg9
 z9:=Tryz.sizeOf9
 v9:=Tryz.zeroValue9
 i9:=by kernel_rfl
 t37:=Tryz.underlying52
 a37:=Tryz.isAgg52
 z37:=Tryz.sizeOf52
 v37:=Tryz.zeroValue52
 i37:=by kernel_rfl
 t47:=Tryz.underlying255
 a47:=Tryz.isAgg255
 z47:=Tryz.sizeOf255
 v47:=Tryz.zeroValue255
 i47:=by kernel_rfl }
end Go.Proofs.YtpnonhjmpnbmcaaGreatDoor
namespace Go.Proofs.YtpnonhjmpnbmcaaGreatDoor
open Go.RowKit Go.Lib
open Act (put)
set_option linter.unusedSimpArgs false
set_option linter.unusedVariables false
set_option maxHeartbeats 6400000
set_option maxRecDepth 20000
theorem list_run {P:Program} {ops:Array Oper} {rest:List Oper} {o:Oper} {a:Act} {w w':World} {Q:Exit→Act→World→Prop} {d:Nat} {v:Value} (hg:o.guard=none) (hd:o.dst=some d) (hrun:(execOp a.eval o).run P w=.ok (.value v) w') (h:wpList P ops Q rest (a.put (some d) v) w'):wpList P ops Q (o :: rest) a w:=
 wpList_plain hg fun K hK=>by
  unfold Oper.wp
  rw [hrun]
  show K (a.put o.dst v) w'
  rw [hd]
  exact hK _ _ h
theorem sclone_any (s:ByteArray) (w:World) (h:s.size ≤ 281474976710656):Calls Tryz.prog 46 #[.string s] w fun e w'=>e=.returned (.string s)∧Below w.heap.size w w':=by
 have HC:Hid (Calls Tryz.prog 101 #[.string s] w fun e w'=>e=.returned (.string s)∧Below w.heap.size w w'):=AnyPu.stringslite_Clone Tryz.clone s w h
 go_enter Tryz.func46,Tryz.ntmps46
 go_upto_region 1 with fail
 refine wp_region_list ?_
 refine lt 3 (.string s) ?_
 refine list_call rfl (some 4) rfl 101 #[.string s] (by kernel_rfl) (U HC) ?_
 rintro e w1 ⟨rfl,hb⟩
 refine ⟨_,rfl,?_⟩
 refine lt 2 (.string s) ?_
 simp only[put,sA,sB,sC]
 go_wp2_with fail
 go_ret
 exact ⟨rfl,hb⟩
theorem answer_of (w:World) (pg be oe:Nat) (r:GV × Int) (hr:r.1.text.size ≤ 281474976710656) (hev:EvAt w pg be oe r):Calls Tryz.prog 24 #[.pointer (some ⟨pg,0,none⟩),.pointer (some ⟨be,oe,none⟩)] w (GeP w r):=by
 have HEV:=V hev
 have HTX:Hid (∀ W:World,Calls Tryz.prog 46 #[.string r.1.text] W fun e w'=>e=.returned (.string r.1.text)∧Below W.heap.size W w'):=fun W=>sclone_any _ W hr
 obtain ⟨PP,hPP⟩:∃ PP,PP=GeP w r:=⟨_,rfl⟩
 have HPP:=V hPP
 rw [← hPP]
 clear hPP hev hr
 go_enter Tryz.func24,Tryz.ntmps24
 go_upto_region 1 with fail
 obtain ⟨w0,hw0⟩:∃ w0,w0=w.alloc (.cells (gvC nullG).toArray 26):=⟨_,rfl⟩
 have hb0:Below w.heap.size w w0:=by rw [hw0];exact alX (Below.refl _ _) _
 have HV:=V (show VV w0 w.heap.size nullG by rw [hw0];exact VV.new w nullG)
 have HB:=V hb0
 rw [show (gvC nullG).toArray=#[.int .i64 0,.int .i64 0,.string ⟨#[]⟩] from rfl] at hw0
 rw [← hw0]
 clear hw0 hb0
 refine wp_region_list ?_
 refine lt 9 (.pointer (some ⟨pg,0,none⟩)) ?_
 refine lt 10 (.pointer (some ⟨be,oe,none⟩)) ?_
 refine list_call rfl (some 11) rfl 28 #[.pointer (some ⟨pg,0,none⟩),.pointer (some ⟨be,oe,none⟩)] (by kernel_rfl) (U HEV w0 (U HB)) ?_
 rintro e q1 ⟨rfl,hb⟩
 refine ⟨_,rfl,?_⟩
 simp only[put,sA,sB,sC]
 have HB:=V (trX (U HB) hb)
 have HV:=V ((U HV).below hb)
 clear hb
 refine lt 8 (.tuple #[r.1.agg,errG r.2]) ?_
 refine lt 12 (.agg (gvC r.1).toArray) ?_
 refine lt 13 (errG r.2) ?_
 simp only[put,sA,sB,sC]
 refine list_new rfl 26 rfl (gvC nullG).toArray (zero_of_info zeroV).1 ?_
 simp only[put,sA,sB,sC]
 refine wpList_store_mid rfl 26 (.tmp 6) (.tmp 12) rfl q1.heap.size 0 (gvC r.1).toArray rfl rfl (VV.new q1 nullG).there sizeV (all_oneCell_toArray (gvC_one _)) ?_
 show wpList _ _ _ _ _ ((q1.alloc (.cells (gvC nullG).toArray 26)).setCells q1.heap.size 0 (gvC r.1))
 rw [setV_new q1 r.1]
 refine lt 7 (errG r.2) ?_
 simp only[put,sA,sB,sC]
 have LHX:Hid (w.heap.size < q1.heap.size):=ltX (U HV)
 have HX:=V (VV.new q1 r.1)
 have hb:Below q1.heap.size q1 (q1.alloc (.cells (gvC r.1).toArray 26)):=alX (Below.refl _ _) _
 have HB:=V (trX (U HB) hb)
 have HV:=V ((U HV).below hb)
 obtain ⟨bHX,hb9⟩:∃ bHX,bHX=q1.heap.size:=⟨_,rfl⟩
 obtain ⟨w1,hw9⟩:∃ w1,w1=q1.alloc (.cells (gvC r.1).toArray 26):=⟨_,rfl⟩
 rw [← hw9] at HB HX HV
 rw [← hw9]
 rw [← hb9] at HX LHX
 rw [← hb9]
 clear hb hw9 hb9
 have c2:w1.cell? ⟨bHX,2,none⟩=some (.string r.1.text):=cellX (U HX) 2
 have HTX:=V (U HTX w1)
 go_upto_region 3 with (first | (go_at_call 46;refine (U HTX).mono ?_;rintro e w2 ⟨rfl,hb⟩;have HX2:=V ((U HX).below hb);have d2:=(cellX (U HX2) 2:w2.cell? ⟨bHX,2,none⟩=some (.string r.1.text));have f2:=frzX (U HX2) 2))
 clear c2 d2 f2 HX
 have HX:=V (show VV (w2.setCell ⟨bHX,2,none⟩ (.string r.1.text)) bHX r.1 from (setX (U HX2) 2 _).trans rfl)
 have HV:=V (((U HV).below hb).keep (Below.heap_setCell w2 ⟨bHX,2,none⟩ (.string r.1.text) w.heap.size (by have:=U LHX;show w.heap.size ≠ bHX;omega)))
 have HB:=V ((trX (U HB) hb).setCell (p:=⟨bHX,2,none⟩) (by have:=U LHX;show w.heap.size ≤ bHX;omega) (.string r.1.text))
 clear hb HX2
 obtain ⟨w3,hw3⟩:∃ w3,w3=w2.setCell ⟨bHX,2,none⟩ (.string r.1.text):=⟨_,rfl⟩
 rw [← hw3] at HX HV HB
 rw [← hw3]
 clear hw3
 refine wp_region_list ?_
 refine wpList_load_mid rfl 26 (.tmp 6) rfl bHX 0 rfl (gvC r.1) _ (U HX).range Tryz.underlying26 rfl sizeV ?_
 refine lt 19 (errG r.2) ?_
 simp only[put,sA,sB,sC]
 refine wpList_store_mid rfl 26 (.tmp 4) (.tmp 18) rfl w.heap.size 0 (gvC r.1).toArray rfl rfl (U HV).there sizeV (all_oneCell_toArray (gvC_one _)) ?_
 show wpList _ _ _ _ _ (w3.setCells w.heap.size 0 (gvC r.1))
 refine lt 5 (errG r.2) ?_
 simp only[put,sA,sB,sC]
 go_wp2_with fail
 refine bodyPost_ret (((U HV).set r.1).result2 rfl _ rfl) rfl ?_
 rw [U HPP]
 exact ⟨rfl,below_setCells0 (U HB) (Nat.le_refl _) _⟩
theorem evalp_any (row:List GV) (hrow:∀ g ∈ row,g.ok) (w:World) (Q:Nat→Prop) (M:List Value) (E:Ex) (a:Option Addr) (n k:Nat) (hrw:n=row.length∧RwAt w a k row) (h:ExM w Q M E) (hok:exOk E) (hsim:simE E=true) (htx:(evE row E).1.text.size ≤ 281474976710656):Calls Tryz.prog 9 #[.agg M.toArray,.slice a n k] w (GeP w (evE row E)):=by
 have hM:=h.len
 obtain ⟨w1,hw1⟩:∃ w1,w1=w.alloc (.cells M.toArray 29):=⟨_,rfl⟩
 have hv1:VrX w1 w.heap.size M:=by rw [hw1];exact VrX.new w hM
 have hb1:Below w.heap.size w w1:=by rw [hw1];exact alX (Below.refl _ _) _
 have hz1:w1.heap.size=w.heap.size+1:=by rw [hw1];simp
 have hx1:=h.below hb1
 obtain ⟨R,hR⟩:∃ R,R=evE row E:=⟨_,rfl⟩
 have HAN:Hid (∀ (W:World) (pg:Nat),Below w1.heap.size w1 W→GrAt W pg row→Calls Tryz.prog 24 #[.pointer (some ⟨pg,0,none⟩),.pointer (some ⟨w.heap.size,0,none⟩)] W (GeP W R)):=by
  intro W pg hb hgr
  obtain ⟨args,hM2,hs⟩:=hx1
  refine answer_of W pg w.heap.size 0 R ?_ ?_
  · rw [hR]
    exact htx
  · rw [hR]
    refine eval_all row hrow pg (szF E.2+1) W Q w.heap.size 0 E args ?_ (hs.keep (fun b _ hl=>hb.block b hl) (fun _ _ q=>q)) hok hsim hgr (Nat.lt_succ_self _)
    rw [← hM2]
    exact (hv1.below hb).range
 obtain ⟨PP,hPP⟩:∃ PP,PP=GeP w R:=⟨_,rfl⟩
 have HPP:=V hPP
 have HB1:=V hb1
 have HW1:=V hw1
 have HZ1:=V hz1
 have HR:=V hR
 rw [← hR,← hPP]
 have HN:Hid (n=row.length):=hrw.1
 have HRW:Hid (RwAt w1 a k row):=hrw.2.below hb1
 clear hPP hb1 hw1 hz1 hv1 hx1 hR h hok hsim hrow htx hrw
 go_enter Tryz.func9,Tryz.ntmps9
 go_upto_region 1 with fail
 rw [← U HW1]
 obtain ⟨w0,hw0⟩:∃ w0,w0=w1.alloc (.cells (gvC nullG).toArray 26):=⟨_,rfl⟩
 have hb0:Below w1.heap.size w1 w0:=by rw [hw0];exact alX (Below.refl _ _) _
 have HV:=V (show VV w0 (w.heap.size+1) nullG by rw [← U HZ1,hw0];exact VV.new w1 nullG)
 have HB:=V hb0
 rw [show (gvC nullG).toArray=#[.int .i64 0,.int .i64 0,.string ⟨#[]⟩] from rfl] at hw0
 rw [← hw0]
 clear hw0 hb0
 refine wp_region_list ?_
 refine lt 6 (.slice a n k) ?_
 refine lt 7 (.agg #[(.slice a n k),.bool false,.slice none 0 0]) ?_
 simp only[put,sA,sB,sC]
 refine list_run (d:=8) (v:=.pointer (some ⟨w0.heap.size,0,none⟩)) (w':=w0.alloc (.cells #[(.slice a n k),.bool false,.slice none 0 0] 92)) rfl rfl (by rfl) ?_
 simp only[put,sA,sB,sC]
 have hb3:Below w0.heap.size w0 (w0.alloc (.cells #[(.slice a n k),.bool false,.slice none 0 0] 92)):=alX (Below.refl _ _) _
 have HGR:Hid (GrAt (w0.alloc (.cells #[(.slice a n k),.bool false,.slice none 0 0] 92)) w0.heap.size row):=by
  have hn:=heap_alloc_new w0 (.cells #[(.slice a n k),.bool false,.slice none 0 0] 92)
  exact ⟨a,k,by rw [← U HN];exact cellX hn 0,cellX hn 1,((U HRW).below (U HB)).below hb3⟩
 obtain ⟨w3,hw3⟩:∃ w3,w3=w0.alloc (.cells #[(.slice a n k),.bool false,.slice none 0 0] 92):=⟨_,rfl⟩
 rw [← hw3] at hb3 HGR
 rw [← hw3]
 clear hw3
 have HB:=V (trX (U HB) hb3)
 have HV:=V ((U HV).below hb3)
 clear hb3
 refine list_call rfl (some 9) rfl 24 #[.pointer (some ⟨w0.heap.size,0,none⟩),.pointer (some ⟨w.heap.size,0,none⟩)] (by kernel_rfl) (U HAN w3 w0.heap.size (U HB) (U HGR)) ?_
 rintro e w5 ⟨rfl,hb⟩
 refine ⟨_,rfl,?_⟩
 simp only[put,sA,sB,sC]
 have HB:=V (trX (U HB) hb)
 have HV:=V ((U HV).below hb)
 clear hb
 refine lt 10 (.agg (gvC R.1).toArray) ?_
 refine lt 11 (errG R.2) ?_
 simp only[put,sA,sB,sC]
 refine wpList_store_mid rfl 26 (.tmp 4) (.tmp 10) rfl (w.heap.size+1) 0 (gvC R.1).toArray rfl rfl (U HV).there sizeV (all_oneCell_toArray (gvC_one _)) ?_
 show wpList _ _ _ _ _ (w5.setCells (w.heap.size+1) 0 (gvC R.1))
 refine lt 5 (errG R.2) ?_
 simp only[put,sA,sB,sC]
 go_wp2_with fail
 refine bodyPost_ret (((U HV).set R.1).result2 rfl _ rfl) rfl ?_
 rw [U HPP]
 exact ⟨rfl,below_setCells0 (trX (U HB1) (U HB)) (by omega) _⟩
end Go.Proofs.YtpnonhjmpnbmcaaGreatDoor
