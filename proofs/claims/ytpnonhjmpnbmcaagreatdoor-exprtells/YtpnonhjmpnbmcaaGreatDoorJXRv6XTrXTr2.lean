/- The document's eval: every resolved expression without aggregates. -/
import Derived.Test.YtpnonhjmpnbmcaaGreatDoorXRv5
namespace Go.Proofs.YtpnonhjmpnbmcaaGreatDoor
open Go.RowKit Go.Lib
open Act (put)
set_option linter.unusedSimpArgs false
set_option linter.unusedVariables false
set_option maxHeartbeats 6400000
set_option maxRecDepth 20000
theorem rvL_map (row:List GV):∀ F:Fo,rvL row F=(toL F).map (rvE row)
 | .nil=>rfl
 | .node _ _ a kids rest=>by
  rw [rvL,rvL_map row rest]
  rfl
theorem foT_get:∀ (F:Fo) (i:Nat) (x:Ex),foT F→(toL F)[i]?=some x→exT x
 | .nil,i,x,_,h=>by simp [toL] at h
 | .node _ _ a kids rest,0,x,h,hx=>by
  simp [toL] at hx
  subst hx
  exact h.1
 | .node _ _ a kids rest,i+1,x,h,hx=>foT_get rest i x h.2 (by simpa [toL] using hx)
theorem reval_all (row:List GV) (hrow:RowTy row) (hok:∀ g ∈ row,g.ok) (ra:Option Addr) (rk:Nat):∀ (m:Nat) (w:World) (Q:Nat→Prop) (M:List Value) (E:Ex),ExM w Q M E→exT E→exOk E→RwAt w ra rk row→szF E.2 < m→RvA w M ra row.length rk (rvE row E):=by
 intro m
 induction m with
 | zero=>intros;omega
 | succ m ih=>
  intro w0 Q M E hx0 hT hO hr0 hm w hB
  have hx:ExM w Q M E:=hx0.keep (fun b _ hl=>hB.block b hl) (fun _ _ h=>h)
  have hr:=hr0.below hB
  clear hx0 hr0 hB
  obtain ⟨n,F⟩:=E
  obtain ⟨args,hM,hs⟩:=hx
  dsimp only at hM hs
  obtain ⟨av,k,rfl⟩:=slAt_slice hs
  have hev:∀ (ba oa:Nat),RowAt w Q F ba oa→∀ (i:Nat) (r:GV × Int),((toL F).map (rvE row))[i]?=some r→∃ N:List Value,N.length=10∧w.rangeAt ba (oa+10 * i) N∧RvA w N ra row.length rk r∧r.1.ok:=by
   intro ba oa hR i r hir
   rw [List.getElem?_map] at hir
   cases hxi:(toL F)[i]? with
   | none=>rw [hxi] at hir;cases hir
   | some x=>
    rw [hxi] at hir
    injection hir with hir
    obtain ⟨N,hN,hrg,_⟩:=row_nth F i ba oa x hR hxi
    have hTx:=foT_get F i x hT.2 hxi
    have hOx:=foOk_get F i x hO.2 hxi
    refine ⟨N,hN.len,hrg,?_,?_⟩
    · rw [← hir]
      exact ih w Q N x hN hTx hOx hr (by have h1:=szF_get F i x hxi;have:szF F < m+1:=hm;omega)
    · rw [← hir,(ex_good hrow hTx).1]
      exact evE_ok hok hOx
  have hrow5:row.length=5:=hrow.1
  have hlm:((toL F).map (rvE row)).length=cnt F:=by rw [List.length_map,cnt_len]
  have hsl:cnt F ≠ 0→∃ ba oa,av=some ⟨ba,oa,none⟩∧cnt F ≤ k∧k ≤ maxLen∧RowAt w Q F ba oa:=by
   intro h0
   rcases hs with ⟨h,_⟩ | ⟨ba,oa,k',hv,h1,h2,hR⟩
   · have h:F=.nil:=h
     rw [h] at h0;exact absurd rfl h0
   · injection hv with e1 _ e3
     subst e1 e3
     exact ⟨ba,oa,rfl,h1,h2,hR⟩
  have e:rvE row (n,F)=rvN row n ((toL F).map (rvE row)):=by rw [← rvL_map];rfl
  rcases hT.1 with ⟨h1,_⟩ | ⟨h2,_,c,h0,hc5,_⟩ | ⟨h3,ho1,ho4,hk,_⟩ | ⟨h4,ho5,ho18,hk,_⟩ | ⟨h5,hk2,hk11,_⟩ | ⟨h6,hk2,hk21,_⟩
  · exact reval_k1 w n M av (cnt F) k hM ra row.length rk _ h1 (if_pos h1)
  · obtain ⟨g,hg1,_⟩:=hrow.2 _ _ hc5
    obtain ⟨hl,hrr⟩:=hr
    rcases hrr with hn | ⟨rb,ro,hra,hk1,hk2,hrg⟩
    · rw [hn] at hrow5;cases hrow5
    · subst hra
      refine reval_k2 w n M av (cnt F) k hM rb ro row.length rk _ h2 n.at'.toNat (by have h0:0 ≤ n.at':=h0;omega) (List.getElem?_eq_some_iff.1 hg1).1 (by omega) hk1 hk2 g (hrg _ g hg1) ?_
      show rvN row n _=_
      unfold rvN
      rw [if_neg (by have h2:n.kind=2:=h2;omega),if_pos h2]
      show ((row[n.at'.toNat]?).getD nullG,(0:Int))=(g,0)
      rw [show row[n.at'.toNat]?=some g from hg1]
      rfl
  · have hk:cnt F=1:=hk
    obtain ⟨ba,oa,rfl,hk1,hk2,hR⟩:=hsl (by omega)
    rw [hk] at hM
    have hev:=hev ba oa hR
    obtain ⟨x,hx⟩:=one_of (show (toL F).length=1 by rw [cnt_len];exact hk)
    rw [hx] at hev e
    obtain ⟨N0,hl0,hr0,hx0,hxo⟩:=hev 0 _ rfl
    have h3:n.kind=3:=h3
    exact reval_k3 w n M ba oa k hM ra row.length rk _ h3 (by have ho1:1 ≤ n.op:=ho1;have ho4:n.op ≤ 4:=ho4;omega) N0 hl0 hr0 _ hxo hx0 (by rw [e];unfold rvN;rw [if_neg (by omega),if_neg (by omega),h3];rfl)
  · have hk:cnt F=2:=hk
    obtain ⟨ba,oa,rfl,hk1,hk2,hR⟩:=hsl (by omega)
    rw [hk] at hM
    have hev:=hev ba oa hR
    obtain ⟨x,y,hx⟩:=two_of (show (toL F).length=2 by rw [cnt_len];exact hk)
    rw [hx] at hev e
    obtain ⟨N0,hl0,hr0,hx0,hxo⟩:=hev 0 _ rfl
    obtain ⟨N1,hl1,hr1,hx1,hyo⟩:=hev 1 _ rfl
    have h4:n.kind=4:=h4
    exact reval_k4 w n M ba oa k hM ra row.length rk _ h4 ho5 ho18 N0 N1 hl0 hr0 hl1 hr1 _ _ hxo hyo hx0 hx1 (by rw [e];unfold rvN;rw [if_neg (by omega),if_neg (by omega),h4];rfl)
  · have hk2:2 ≤ cnt F:=hk2
    have hk11:cnt F ≤ 11:=hk11
    obtain ⟨ba,oa,rfl,_,_,hR⟩:=hsl (by omega)
    have hev:=hev ba oa hR
    obtain ⟨x,l,hx⟩:∃ x l,toL F=x :: l:=by
     cases hh:toL F with
     | nil=>rw [hh] at hlm;simp at hlm;omega
     | cons x l=>exact ⟨x,l,rfl⟩
    rw [hx] at hev e hlm
    have h5:n.kind=5:=h5
    exact reval_k5 w n M ba oa (cnt F) k hM ra row.length rk _ h5 (rvE row x) (l.map (rvE row)) hlm hk2 (by omega) (hev 0 _ rfl) (fun j y hy=>hev (j+1) y hy) (by rw [e];unfold rvN;rw [if_neg (by omega),if_neg (by omega),h5];rfl)
  · have hk2:2 ≤ cnt F:=hk2
    have hk21:cnt F ≤ 21:=hk21
    obtain ⟨ba,oa,rfl,_,_,hR⟩:=hsl (by omega)
    have h6:n.kind=6:=h6
    exact reval_k6 w n M ba oa (cnt F) k hM ra row.length rk _ h6 _ hlm hk2 (by omega) (hev ba oa hR) (by rw [e];unfold rvN;rw [if_neg (by omega),if_neg (by omega),h6];rfl)
section
variable {P:Program} {ops:Array Oper} {Q:Exit→Act→World→Prop} {rest:List Oper} {o:Oper} {a:Act} {w:World}
theorem list_want_load {d:Nat} (hd:o.dst=some d) (hg:Region.wanted o (yielded ops a.tmps)=true) (ty:TypeId) (x:Operand) (ho:o.op=.load ty x) (b oo:Nat) (hx:a.eval x=.pointer (some ⟨b,oo,none⟩)) (cs:List Value) (dd:TypeDesc) (hc:w.rangeAt b oo cs)
 (hu:P.underlying ty=some dd) (hr:dd.isRow=true) (hi:(P.info? ty).map (·.size)=some cs.length) (h:wpList P ops Q rest (a.put (some d) (.agg cs.toArray)) w):wpList P ops Q (o :: rest) a w:=
 wpList_step fun K hK=>by
  rw [if_pos hg]
  exact wp_load_mid ty x ho b oo hx cs dd hc hu hr hi (by rw [hd];exact hK _ _ h)
theorem list_want_call {Post:Ending→World→Prop} (d:Nat) (hd:o.dst=some d) (hg:Region.wanted o (yielded ops a.tmps)=true) (f:FuncId) (args:Array Value)
 (hrun:(execOp a.eval o).run P w=.ok (.enter f args) w) (hc:Calls P f args w Post) (h:∀ e w',Post e w'→∃ v,e=.returned v∧wpList P ops Q rest (a.put (some d) v) w'):wpList P ops Q (o :: rest) a w:=
 wpList_step fun K hK=>by
  rw [if_pos hg]
  unfold Oper.wp
  rw [hrun,Oper.upon_enter]
  refine hc.mono fun e w'' hh=>?_
  obtain ⟨v,rfl,h2⟩:=h e w'' hh
  rw [← hd] at h2
  exact hK _ _ h2
end
theorem rEval_of (w:World) (M:List Value) (hlM:M.length=10) (ra:Option Addr) (rn rk:Nat) (r:GV × Int) (h:RvA w M ra rn rk r):Calls Tryz.prog 10 #[.agg M.toArray,.slice ra rn rk] w (RvP w r):=by
 as_aux_lemma=>
  obtain ⟨w1,hw1⟩:∃ w1,w1=w.alloc (.cells M.toArray 29):=⟨_,rfl⟩
  have HW1:=V hw1
  have hv1:VrX w1 w.heap.size M:=by rw [hw1];exact VrX.new w hlM
  have hb1:Below w.heap.size w w1:=by rw [hw1];exact alX (Below.refl _ _) _
  have HZ1:Hid (w1.heap.size=w.heap.size+1):=by show w1.heap.size=w.heap.size+1;rw [hw1];simp
  have HVA:=V hv1
  have HB1:=V hb1
  obtain ⟨PP,hPP⟩:∃ PP,PP=RvP w r:=⟨_,rfl⟩
  have HPP:=V hPP
  have HA:=V h
  rw [← hPP]
  clear hPP hv1 hb1 hw1 h
  go_enter Tryz.func10,Tryz.ntmps10
  go_upto_region 1 with fail
  rw [← U HW1]
  obtain ⟨w0,hw0⟩:∃ w0,w0=w1.alloc (.cells (gvC nullG).toArray 26):=⟨_,rfl⟩
  have hb0:Below w1.heap.size w1 w0:=by rw [hw0];exact alX (Below.refl _ _) _
  have HV:=V (show VV w0 (w.heap.size+1) nullG by rw [← U HZ1,hw0];exact VV.new w1 nullG)
  have HB:=V (trX (U HB1) hb0)
  have HVA:=V ((U HVA).below hb0)
  rw [show (gvC nullG).toArray=#[.int .i64 0,.int .i64 0,.string ⟨#[]⟩] from rfl] at hw0
  rw [← hw0]
  clear hw0 hb0 HB1 HZ1 HW1
  refine wp_region_list ?_
  refine wpList_load_mid rfl 29 (.tmp 2) rfl w.heap.size 0 rfl M _ (U HVA).range Tryz.underlying29 rfl (by rw [hlM];exact sizeEx) ?_
  refine lt 7 (.slice ra rn rk) ?_
  refine list_call rfl (some 8) rfl 25 #[.agg M.toArray,.slice ra rn rk,.slice none 0 0,.bool false] (by kernel_rfl) (U HA w0 (U HB)) ?_
  rintro e w5 ⟨rfl,hb⟩
  refine ⟨_,rfl,?_⟩
  simp only[put,sA,sB,sC]
  have HB:=V (trX (U HB) hb)
  have HV:=V ((U HV).below hb)
  clear hb
  refine lt 9 (.agg (gvC r.1).toArray) ?_
  refine lt 10 (.int .i64 r.2) ?_
  simp only[put,sA,sB,sC]
  refine wpList_store_mid rfl 26 (.tmp 4) (.tmp 9) rfl (w.heap.size+1) 0 (gvC r.1).toArray rfl rfl (U HV).there sizeV (all_oneCell_toArray (gvC_one _)) ?_
  show wpList _ _ _ _ _ (w5.setCells (w.heap.size+1) 0 (gvC r.1))
  refine lt 5 (.int .i64 r.2) ?_
  simp only[put,sA,sB,sC]
  go_wp2_with fail
  refine bodyPost_ret (((U HV).set r.1).result2 rfl _ rfl) rfl ?_
  rw [U HPP]
  exact ⟨rfl,below_setCells0 (U HB) (Nat.le_succ _) _⟩
def TrQ (w:World) (r:GV × Int) (e:Ending) (w':World):Prop:=e=.returned (.tuple #[.bool (decide (rtG r.1=1)),.int .i64 r.2])∧Below w.heap.size w w'
theorem rTruth_of (w:World) (M:List Value) (hlM:M.length=10) (kd:Int) (hkd:M[0]?=some (.int .i64 kd)) (hk0:kd ≠ 0) (ra:Option Addr) (rn rk:Nat) (r:GV × Int) (hg:r.2 ≠ 0→r.1=nullG) (h:RvA w M ra rn rk r):Calls Tryz.prog 13 #[.agg M.toArray,.slice ra rn rk] w (TrQ w r):=by
 as_aux_lemma=>
  obtain ⟨w1,hw1⟩:∃ w1,w1=w.alloc (.cells M.toArray 29):=⟨_,rfl⟩
  have HW1:=V hw1
  have hv1:VrX w1 w.heap.size M:=by rw [hw1];exact VrX.new w hlM
  have hb1:Below w.heap.size w w1:=by rw [hw1];exact alX (Below.refl _ _) _
  have HZ1:Hid (w1.heap.size=w.heap.size+1):=by show w1.heap.size=w.heap.size+1;rw [hw1];simp
  have HVA:=V hv1
  have HB1:=V hb1
  have HA:Hid (∀ W,Below w.heap.size w W→Calls Tryz.prog 10 #[.agg M.toArray,.slice ra rn rk] W (RvP W r)):=fun W hb=>rEval_of W M hlM ra rn rk r (fun W' hb'=>h W' (trX hb hb'))
  obtain ⟨PP,hPP⟩:∃ PP,PP=TrQ w r:=⟨_,rfl⟩
  have HPP:=V hPP
  rw [← hPP]
  have c0:w1.cell? ⟨w.heap.size,0,none⟩=some (.int .i64 kd):=(U HVA).range 0 _ hkd
  have e0:(kd == 0)=false:=beq_eq_false_iff_ne.2 hk0
  have hm:=U HW1
  clear hPP hv1 hb1 hw1 h hkd hk0
  go_enter Tryz.func13,Tryz.ntmps13
  go_upto_region 1 with fail
  rw [← hm]
  clear hm
  go_upto_region 3 with fail
  clear c0 e0
  have HB:=HB1
  refine wp_region_list ?_
  refine wpList_load_mid rfl 29 (.tmp 2) rfl w.heap.size 0 rfl M _ (U HVA).range Tryz.underlying29 rfl (by rw [hlM];exact sizeEx) ?_
  refine lt 13 (.slice ra rn rk) ?_
  refine list_call rfl (some 14) rfl 10 #[.agg M.toArray,.slice ra rn rk] (by kernel_rfl) (U HA w1 (U HB)) ?_
  rintro e q ⟨rfl,hb⟩
  refine ⟨_,rfl,?_⟩
  simp only[put,sA,sB,sC]
  have HB:=V (trX (U HB) hb)
  clear hb
  refine lt 11 (.tuple #[r.1.agg,.int .i64 r.2]) ?_
  refine lt 15 (.agg (gvC r.1).toArray) ?_
  refine lt 16 (.int .i64 r.2) ?_
  simp only[put,sA,sB,sC]
  refine list_new rfl 26 rfl (gvC nullG).toArray (zero_of_info zeroV).1 ?_
  simp only[put,sA,sB,sC]
  refine wpList_store_mid rfl 26 (.tmp 6) (.tmp 15) rfl q.heap.size 0 (gvC r.1).toArray rfl rfl (VV.new q nullG).there sizeV (all_oneCell_toArray (gvC_one _)) ?_
  show wpList _ _ _ _ _ ((q.alloc (.cells (gvC nullG).toArray 26)).setCells q.heap.size 0 (gvC r.1))
  rw [setV_new q r.1]
  refine lt 7 (.int .i64 r.2) ?_
  simp only[put,sA,sB,sC]
  have HX:=V (VV.new q r.1)
  have hb:Below q.heap.size q (q.alloc (.cells (gvC r.1).toArray 26)):=alX (Below.refl _ _) _
  have HB:=V (trX (U HB) hb)
  obtain ⟨bX,hb9⟩:∃ bX,bX=q.heap.size:=⟨_,rfl⟩
  obtain ⟨w2,hw9⟩:∃ w2,w2=q.alloc (.cells (gvC r.1).toArray 26):=⟨_,rfl⟩
  rw [← hw9] at HB HX
  rw [← hw9]
  rw [← hb9] at HX
  rw [← hb9]
  clear hb hw9 hb9
  go_upto_region 4 with fail
  refine wp_region_list ?_
  refine lt 17 (.int .i64 r.2) ?_
  refine lt 18 (.bool (r.2 == 0)) ?_
  simp only[put,sA,sB,sC]
  by_cases he:r.2=0
  · have hd:(r.2 == 0)=true:=by simpa using he
    rw [hd]
    refine lt 19 (.bool true) ?_
    simp only[put,sA,sB,sC]
    refine list_want_load (d:=20) rfl (by kernel_rfl) 26 (.tmp 6) rfl bX 0 rfl (gvC r.1) _ (U HX).range Tryz.underlying26 rfl sizeV ?_
    simp only[put,sA,sB,sC]
    refine list_want_call 21 rfl (by kernel_rfl) 30 #[.agg (gvC r.1).toArray] (by kernel_rfl) (rtruth_any r.1 w2) ?_
    rintro e w9 ⟨rfl,hb⟩
    refine ⟨_,rfl,?_⟩
    simp only[put,sA,sB,sC]
    have HB:=V (trX (U HB) hb)
    clear hb
    refine list_want (d:=22) (v:=.bool (rtG r.1 == 1)) rfl (by kernel_rfl) (by kernel_rfl) ?_
    refine lt 23 (.bool (rtG r.1 == 1)) ?_
    refine lt 24 (.int .i64 r.2) ?_
    refine lt 4 (.bool (rtG r.1 == 1)) ?_
    refine lt 5 (.int .i64 r.2) ?_
    simp only[put,sA,sB,sC]
    go_wp2_with fail
    rw [U HPP]
    have hbq:decide (rtG r.1=1)=(rtG r.1 == 1):=by rw [Bool.eq_iff_iff];simp
    exact ⟨by rw [hbq];rfl,U HB⟩
  · have hd:(r.2 == 0)=false:=beq_eq_false_iff_ne.2 he
    rw [hd]
    refine lt 19 (.bool false) ?_
    simp only[put,sA,sB,sC]
    refine list_skip (d:=20) rfl (by kernel_rfl) ?_
    simp only[put,sA,sB,sC]
    refine list_skip (d:=21) rfl (by kernel_rfl) ?_
    simp only[put,sA,sB,sC]
    refine list_skip (d:=22) rfl (by kernel_rfl) ?_
    refine lt 23 (.bool false) ?_
    refine lt 24 (.int .i64 r.2) ?_
    refine lt 4 (.bool false) ?_
    refine lt 5 (.int .i64 r.2) ?_
    simp only[put,sA,sB,sC]
    go_wp2_with fail
    rw [U HPP]
    exact ⟨by rw [hg he];rfl,U HB⟩
def TrG (w:World) (r:GV × Int) (e:Ending) (w':World):Prop:=e=.returned (.tuple #[.bool (decide (rtG r.1=1)),errG r.2])∧Below w.heap.size w w'
theorem pTruth_of (row:List GV) (hrow:∀ g ∈ row,g.ok) (w:World) (Q:Nat→Prop) (M:List Value) (E:Ex) (a:Option Addr) (n k:Nat) (hrw:n=row.length∧RwAt w a k row) (h:ExM w Q M E) (hok:exOk E) (hsim:simE E=true) (hk0:E.1.kind ≠ 0) (hval:(evE row E).1=nullG ∨ (evE row E).1=ofTruthG 0 ∨ (evE row E).1=ofTruthG 1):Calls Tryz.prog 12 #[.agg M.toArray,.slice a n k] w (TrG w (evE row E)):=by
 have hM:=h.len
 obtain ⟨w1,hw1⟩:∃ w1,w1=w.alloc (.cells M.toArray 29):=⟨_,rfl⟩
 have hv1:VrX w1 w.heap.size M:=by rw [hw1];exact VrX.new w hM
 have hb1:Below w.heap.size w w1:=by rw [hw1];exact alX (Below.refl _ _) _
 have hx1:=h.below hb1
 have hkd:M[0]?=some (.int .i64 E.1.kind):=by obtain ⟨args,rfl,_⟩:=h;rfl
 obtain ⟨R,hR⟩:∃ R,R=evE row E:=⟨_,rfl⟩
 rw [← hR] at hval ⊢
 have HEV:Hid (∀ (W:World) (pg:Nat),Below w1.heap.size w1 W→GrAt W pg row→Calls Tryz.prog 28 #[.pointer (some ⟨pg,0,none⟩),.pointer (some ⟨w.heap.size,0,none⟩)] W (GeP W R)):=by
  intro W pg hb hgr
  obtain ⟨args,hM2,hs⟩:=hx1
  rw [hR]
  refine eval_all row hrow pg (szF E.2+1) W Q w.heap.size 0 E args ?_ (hs.keep (fun b _ hl=>hb.block b hl) (fun _ _ q=>q)) hok hsim hgr (Nat.lt_succ_self _) W (Below.refl _ _)
  rw [← hM2]
  exact (hv1.below hb).range
 obtain ⟨PP,hPP⟩:∃ PP,PP=TrG w R:=⟨_,rfl⟩
 have HPP:=V hPP
 have HVA:=V hv1
 have HB:=V hb1
 have HR:=V hR
 have HN:Hid (n=row.length):=hrw.1
 have HRW:Hid (RwAt w1 a k row):=hrw.2.below hb1
 have HW1:=V hw1
 have c0:w1.cell? ⟨w.heap.size,0,none⟩=some (.int .i64 E.1.kind):=(U HVA).range 0 _ hkd
 obtain ⟨kd,hkde⟩:∃ kd,kd=E.1.kind:=⟨_,rfl⟩
 rw [← hkde] at c0 hk0
 have e0:(kd == 0)=false:=beq_eq_false_iff_ne.2 hk0
 rw [← hPP]
 clear hPP hb1 hw1 hv1 hx1 hR h hok hsim hrow hrw hkd hkde hk0
 go_enter Tryz.func12,Tryz.ntmps12
 go_upto_region 1 with fail
 rw [← U HW1]
 go_upto_region 3 with fail
 clear c0 e0
 refine wp_region_list ?_
 refine lt 12 (.slice a n k) ?_
 refine lt 13 (.agg #[.slice a n k,.bool false,.slice none 0 0]) ?_
 simp only[put,sA,sB,sC]
 refine list_run (d:=14) (v:=.pointer (some ⟨w1.heap.size,0,none⟩)) (w':=w1.alloc (.cells #[.slice a n k,.bool false,.slice none 0 0] 92)) rfl rfl (by rfl) ?_
 simp only[put,sA,sB,sC]
 have hb3:Below w1.heap.size w1 (w1.alloc (.cells #[.slice a n k,.bool false,.slice none 0 0] 92)):=alX (Below.refl _ _) _
 have HGR:Hid (GrAt (w1.alloc (.cells #[.slice a n k,.bool false,.slice none 0 0] 92)) w1.heap.size row):=by
  have hn:=heap_alloc_new w1 (.cells #[.slice a n k,.bool false,.slice none 0 0] 92)
  exact ⟨a,k,by rw [← U HN];exact cellX hn 0,cellX hn 1,(U HRW).below hb3⟩
 obtain ⟨w3,hw3⟩:∃ w3,w3=w1.alloc (.cells #[.slice a n k,.bool false,.slice none 0 0] 92):=⟨_,rfl⟩
 rw [← hw3] at hb3 HGR
 rw [← hw3]
 clear hw3
 have HB:=V (trX (U HB) hb3)
 have HB13:=V hb3
 clear hb3
 refine list_call rfl (some 15) rfl 28 #[.pointer (some ⟨w1.heap.size,0,none⟩),.pointer (some ⟨w.heap.size,0,none⟩)] (by kernel_rfl) (U HEV w3 w1.heap.size (U HB13) (U HGR)) ?_
 rintro e q ⟨rfl,hb⟩
 refine ⟨_,rfl,?_⟩
 simp only[put,sA,sB,sC]
 have HB:=V (trX (U HB) hb)
 clear hb
 refine lt 11 (.tuple #[R.1.agg,errG R.2]) ?_
 refine lt 16 (.agg (gvC R.1).toArray) ?_
 refine lt 17 (errG R.2) ?_
 simp only[put,sA,sB,sC]
 refine list_new rfl 26 rfl (gvC nullG).toArray (zero_of_info zeroV).1 ?_
 simp only[put,sA,sB,sC]
 refine wpList_store_mid rfl 26 (.tmp 6) (.tmp 16) rfl q.heap.size 0 (gvC R.1).toArray rfl rfl (VV.new q nullG).there sizeV (all_oneCell_toArray (gvC_one _)) ?_
 show wpList _ _ _ _ _ ((q.alloc (.cells (gvC nullG).toArray 26)).setCells q.heap.size 0 (gvC R.1))
 rw [setV_new q R.1]
 refine lt 7 (errG R.2) ?_
 simp only[put,sA,sB,sC]
 have HX:=V (VV.new q R.1)
 have hb:Below q.heap.size q (q.alloc (.cells (gvC R.1).toArray 26)):=alX (Below.refl _ _) _
 have HB:=V (trX (U HB) hb)
 obtain ⟨bX,hb9⟩:∃ bX,bX=q.heap.size:=⟨_,rfl⟩
 obtain ⟨w2,hw9⟩:∃ w2,w2=q.alloc (.cells (gvC R.1).toArray 26):=⟨_,rfl⟩
 rw [← hw9] at HB HX
 rw [← hw9]
 rw [← hb9] at HX
 rw [← hb9]
 clear hb hw9 hb9
 go_upto_region 4 with fail
 rcases hval with hg | hg | hg
 · rw [hg] at HX
   as_aux_lemma=>
    refine wp_region_held_drew (S:=fun w'=>VV w' bX nullG) (by kernel_rfl) ((U HX).below (Below.refl w2.heap.size w2).drew) (fun hHeld=>?_)
    refine hu 0 18 (.agg (gvC nullG).toArray) rfl (yieldsIf_load_mid (by rfl) 26 (.tmp 6) rfl bX 0 rfl (gvC nullG) _ (fun w' hw=>hw.range) Tryz.underlying26 rfl sizeV) hHeld ?_
    simp only[put,sA,sB,sC]
    refine ht 3 21 (errG R.2) hHeld ?_
    simp only[put,sA,sB,sC]
    refine wpAnyH_ready (rs:=[1]) (by kernel_rfl) (by simp) ?_
    refine AllReadyH.cons rfl (fun K hK=>?_) AllReadyH.nil
    rw [if_pos (by rfl)]
    refine op_call (some 19) rfl 29 #[.int .i64 1] (by kernel_rfl) (ofTruth_any 1 w2.drew) ?_
    rintro e w9 ⟨rfl,hb⟩
    refine ⟨_,rfl,?_⟩
    have HB:=V (trX ((U HB).drew) hb)
    have HX:=V (((U HX).below (Below.refl w2.heap.size w2).drew).below hb)
    refine hK.out _ _ (U HX) (fun hHeld2=>?_)
    clear hK K hHeld
    have hHeld:=hHeld2
    clear hHeld2
    try simp only[put,sA,sB,sC]
    refine ht 2 20 (.bool false) hHeld ?_
    simp only[put,sA,sB,sC]
    refine ht 4 4 (.bool false) hHeld ?_
    simp only[put,sA,sB,sC]
    refine ht 5 5 (errG R.2) hHeld ?_
    simp only[put,sA,sB,sC]
    refine wpAnyH_done (by kernel_rfl) ?_ _
    go_wp2_with fail
    rw [U HPP]
    exact ⟨by rw [hg];rfl,U HB⟩
 · rw [hg] at HX
   as_aux_lemma=>
    refine wp_region_held_drew (S:=fun w'=>VV w' bX (ofTruthG 0)) (by kernel_rfl) ((U HX).below (Below.refl w2.heap.size w2).drew) (fun hHeld=>?_)
    refine hu 0 18 (.agg (gvC (ofTruthG 0)).toArray) rfl (yieldsIf_load_mid (by rfl) 26 (.tmp 6) rfl bX 0 rfl (gvC (ofTruthG 0)) _ (fun w' hw=>hw.range) Tryz.underlying26 rfl sizeV) hHeld ?_
    simp only[put,sA,sB,sC]
    refine ht 3 21 (errG R.2) hHeld ?_
    simp only[put,sA,sB,sC]
    refine wpAnyH_ready (rs:=[1]) (by kernel_rfl) (by simp) ?_
    refine AllReadyH.cons rfl (fun K hK=>?_) AllReadyH.nil
    rw [if_pos (by rfl)]
    refine op_call (some 19) rfl 29 #[.int .i64 1] (by kernel_rfl) (ofTruth_any 1 w2.drew) ?_
    rintro e w9 ⟨rfl,hb⟩
    refine ⟨_,rfl,?_⟩
    have HB:=V (trX ((U HB).drew) hb)
    have HX:=V (((U HX).below (Below.refl w2.heap.size w2).drew).below hb)
    refine hK.out _ _ (U HX) (fun hHeld2=>?_)
    clear hK K hHeld
    have hHeld:=hHeld2
    clear hHeld2
    try simp only[put,sA,sB,sC]
    refine ht 2 20 (.bool false) hHeld ?_
    simp only[put,sA,sB,sC]
    refine ht 4 4 (.bool false) hHeld ?_
    simp only[put,sA,sB,sC]
    refine ht 5 5 (errG R.2) hHeld ?_
    simp only[put,sA,sB,sC]
    refine wpAnyH_done (by kernel_rfl) ?_ _
    go_wp2_with fail
    rw [U HPP]
    exact ⟨by rw [hg];rfl,U HB⟩
 · rw [hg] at HX
   as_aux_lemma=>
    refine wp_region_held_drew (S:=fun w'=>VV w' bX (ofTruthG 1)) (by kernel_rfl) ((U HX).below (Below.refl w2.heap.size w2).drew) (fun hHeld=>?_)
    refine hu 0 18 (.agg (gvC (ofTruthG 1)).toArray) rfl (yieldsIf_load_mid (by rfl) 26 (.tmp 6) rfl bX 0 rfl (gvC (ofTruthG 1)) _ (fun w' hw=>hw.range) Tryz.underlying26 rfl sizeV) hHeld ?_
    simp only[put,sA,sB,sC]
    refine ht 3 21 (errG R.2) hHeld ?_
    simp only[put,sA,sB,sC]
    refine wpAnyH_ready (rs:=[1]) (by kernel_rfl) (by simp) ?_
    refine AllReadyH.cons rfl (fun K hK=>?_) AllReadyH.nil
    rw [if_pos (by rfl)]
    refine op_call (some 19) rfl 29 #[.int .i64 1] (by kernel_rfl) (ofTruth_any 1 w2.drew) ?_
    rintro e w9 ⟨rfl,hb⟩
    refine ⟨_,rfl,?_⟩
    have HB:=V (trX ((U HB).drew) hb)
    have HX:=V (((U HX).below (Below.refl w2.heap.size w2).drew).below hb)
    refine hK.out _ _ (U HX) (fun hHeld2=>?_)
    clear hK K hHeld
    have hHeld:=hHeld2
    clear hHeld2
    try simp only[put,sA,sB,sC]
    refine ht 2 20 (.bool true) hHeld ?_
    simp only[put,sA,sB,sC]
    refine ht 4 4 (.bool true) hHeld ?_
    simp only[put,sA,sB,sC]
    refine ht 5 5 (errG R.2) hHeld ?_
    simp only[put,sA,sB,sC]
    refine wpAnyH_done (by kernel_rfl) ?_ _
    go_wp2_with fail
    rw [U HPP]
    exact ⟨by rw [hg];rfl,U HB⟩
theorem pTruth_zero (w:World) (v:Value):Calls Tryz.prog 12 #[.agg zL.toArray,v] w fun e w'=>e=.returned (.tuple #[.bool true,.nilIface])∧Below w.heap.size w w':=by
 have HB:Hid (Below w.heap.size w (w.alloc (.cells zL.toArray 29))):=alX (Below.refl _ _) _
 unfold zL at HB
 unfold zL
 go_enter Tryz.func12,Tryz.ntmps12
 go_wp2_with fail
 first
  | exact ⟨rfl,U HB⟩
  | (go_ret2;exact ⟨rfl,U HB⟩)
end Go.Proofs.YtpnonhjmpnbmcaaGreatDoor
