/- Two texts read, resolved, reckoned by the kernel. -/
import Derived.Test.YtpnonhjmpnbmcaaGreatDoorJXEv9CShelfXEv7
namespace Go.Proofs.YtpnonhjmpnbmcaaGreatDoor
open Go.RowKit Go.Lib
open Act (put)
set_option linter.unusedSimpArgs false
set_option linter.unusedVariables false
set_option maxHeartbeats 12800000
set_option maxRecDepth 20000
def ndB (n:Nd):Bool:=decide (-9223372036854775808 ≤ n.vi) && (decide (n.vi < 9223372036854775808) && (decide (n.vt.length ≤ 3000) && (decide (n.tab.length ≤ 3000) && decide (n.nam.length ≤ 3000))))
def foB:Fo→Bool
 | .nil=>true
 | .node _ _ a kids rest=>(ndB a && foB kids) && foB rest
def exB (E:Ex):Bool:=ndB E.1 && foB E.2
theorem ndB_ok {n:Nd} (h:ndB n=true):ndOk n:=by
 simp only[ndB,Bool.and_eq_true,decide_eq_true_eq] at h
 exact ⟨h.1,h.2.1,h.2.2.1,h.2.2.2.1,h.2.2.2.2⟩
theorem foB_ok:∀ F:Fo,foB F=true→foOk F
 | .nil,_=>trivial
 | .node _ _ a kids rest,h=>by
  simp only[foB,Bool.and_eq_true] at h
  exact ⟨⟨ndB_ok h.1.1,foB_ok kids h.1.2⟩,foB_ok rest h.2⟩
theorem exB_ok {E:Ex} (h:exB E=true):exOk E:=by
 simp only[exB,Bool.and_eq_true] at h
 exact ⟨ndB_ok h.1,foB_ok _ h.2⟩
def aL:List UInt8:=[70,65,76,83,69,32,65,78,68,32,49,32,47,32,48,32,61,32,49]
def bL:List UInt8:=[49,32,73,78,32,40,78,85,76,76,44,32,49,32,47,32,48,41]
def whole (l:List UInt8) (g:GV × Int):Bool:=
 (exB (condL l) && simE (condL l)) && (match typL l with
 | .ok E=>(exB E && simE E) && (((evE [] E).1.kind == g.1.kind && (evE [] E).1.int == g.1.int) && ((evE [] E).1.text.data.toList == g.1.text.data.toList && (evE [] E).2 == g.2))
 | .error _=>false)
theorem whole_a:whole aL (⟨1,0,⟨#[]⟩⟩,0)=true:=by kernel_rfl
theorem whole_b:whole bL (nullG,7)=true:=by kernel_rfl
theorem whole_ok {l:List UInt8} {g:GV × Int} (h:whole l g=true):exOk (condL l)∧simE (condL l)=true∧∃ E,typL l=.ok E∧exOk E∧simE E=true∧evE [] E=g:=by
 simp only[whole,Bool.and_eq_true] at h
 obtain ⟨⟨h1,h2⟩,h3⟩:=h
 refine ⟨exB_ok h1,h2,?_⟩
 cases hT:typL l with
 | error c=>rw [hT] at h3;exact absurd (show false=true from h3) Bool.false_ne_true
 | ok E=>
  rw [hT] at h3
  simp only[Bool.and_eq_true,beq_iff_eq] at h3
  refine ⟨E,rfl,exB_ok h3.1.1,h3.1.2,?_⟩
  obtain ⟨⟨hk,hi⟩,ht,hc⟩:=h3.2
  revert hk hi ht hc
  generalize evE [] E=r
  obtain ⟨⟨k,i,t⟩,c⟩:=r
  obtain ⟨⟨k',i',t'⟩,c'⟩:=g
  intro hk hi ht hc
  have h1:k=k':=hk
  have h2:i=i':=hi
  have h3:t=t':=ByteArray.ext (Array.ext' ht)
  have h4:c=c':=hc
  rw [h1,h2,h3,h4]
def oneF:GV:=⟨1,0,⟨#[]⟩⟩
theorem of_false (w:World):Calls Tryz.prog 17 #[.int .i64 0] w fun e w'=>e=.returned oneF.agg∧Below w.heap.size w w':=by
 go_enter Tryz.func17,Tryz.ntmps17
 go_upto_region 5 with fail
 obtain ⟨w0,hw0⟩:∃ w0,w0=w.alloc (.cells (gvC nullG).toArray 26):=⟨_,rfl⟩
 have HV:=V (show VV w0 w.heap.size nullG by rw [hw0];exact VV.new w nullG)
 have HB:=V (show Below w.heap.size w w0 by rw [hw0];exact alX (Below.refl _ _) _)
 unfold gvC nullG at hw0
 rw [← hw0]
 clear hw0
 refine wp_region_list ?_
 refine lt 9 (.agg (gvC oneF).toArray) ?_
 simp only[put,sA,sB,sC]
 refine wpList_store_mid rfl 26 (.tmp 2) (.tmp 9) rfl w.heap.size 0 (gvC oneF).toArray rfl rfl (U HV).there sizeV (all_oneCell_toArray (gvC_one _)) ?_
 show wpList _ _ _ _ _ (w0.setCells w.heap.size 0 (gvC oneF))
 simp only[put,sA,sB,sC]
 go_wp2_with fail
 exact bodyPost_ret (((U HV).set oneF).result rfl _ rfl) rfl ⟨rfl,VV.below_set (U HB) _⟩
theorem xknown_any (w:World) (hE:ET w):Calls Tryz.prog 6 #[] w fun e w'=>e=.returned (.bool true)∧Below w.heap.size w w':=by
 obtain ⟨hoa,hsa,Ea,hta,hoka,hsia,heva⟩:=whole_ok whole_a
 obtain ⟨hob,hsb,Eb,htb,hokb,hsib,hevb⟩:=whole_ok whole_b
 have HTa:Hid (∀ W,Calls Tryz.prog 8 #[sv aL,.bool false] W (Ty14 aL W)):=fun W=>typed14_any aL W (by decide) hoa
 have HTb:Hid (∀ W,Calls Tryz.prog 8 #[sv bL,.bool false] W (Ty14 bL W)):=fun W=>typed14_any bL W (by decide) hob
 have HTYa:=V hta
 have HTYb:=V htb
 have HOKa:=V hoka
 have HOKb:=V hokb
 have HSIa:=V hsia
 have HSIb:=V hsib
 have HEVa:=V heva
 have HEVb:=V hevb
 clear hoa hsa hta hoka hsia heva hob hsb htb hokb hsib hevb
 have HB:Hid (Below w.heap.size w w):=Below.refl _ _
 go_enter Tryz.func6,Tryz.ntmps6
 as_aux_lemma=>
  go_upto_region 1 with fail
  refine wp_region_list ?_
  refine list_call rfl (some 10) rfl 8 #[sv aL,.bool false] (by kernel_rfl) (U HTa w) ?_
  rintro e q ⟨hb,hpost⟩
  rw [U HTYa] at hpost
  obtain ⟨Na,rfl,hxN⟩:=hpost
  refine ⟨_,rfl,?_⟩
  simp only[put,sA,sB,sC]
  have HB:=V (trX (U HB) hb)
  clear hb
  refine lt 9 (.tuple #[.agg Na.toArray,.bool true]) ?_
  refine lt 11 (.agg Na.toArray) ?_
  refine lt 12 (.bool true) ?_
  simp only[put,sA,sB,sC]
  have hza:Na.toArray.size=10:=by simpa using hxN.len
  have hla:Na.length=10:=hxN.len
  have hvn:=VrX.new q (M:=zL) rfl
  have hal:Below q.heap.size q (q.alloc (.cells Na.toArray 29)):=alX (Below.refl _ _) _
  refine list_new rfl 29 rfl zL.toArray (zero_of_info zeroEx).1 ?_
  simp only[put,sA,sB,sC]
  refine wpList_store_mid rfl 29 (.tmp 1) (.tmp 11) rfl q.heap.size 0 Na.toArray rfl rfl (by rw [hza];exact hvn.there) (by rw [hza];exact sizeEx) (all_oneCell_toArray hxN.one) ?_
  show wpList _ _ _ _ _ ((q.alloc (.cells zL.toArray 29)).setCells q.heap.size 0 Na)
  rw [setCells_new q _ _ _ (by rw [hla];rfl)]
  refine lt 2 (.bool true) ?_
  simp only[put,sA,sB,sC]
  have HB:=V (trX (U HB) hal)
  have HVa:=V (VrX.new q hla)
  have HXa:=V (hxN.below hal)
  obtain ⟨ba,hb9⟩:∃ ba,ba=q.heap.size:=⟨_,rfl⟩
  obtain ⟨w1,hw9⟩:∃ w1,w1=q.alloc (.cells Na.toArray 29):=⟨_,rfl⟩
  rw [← hw9] at HB HVa HXa 
  rw [← hw9]
  rw [← hb9] at HVa
  rw [← hb9]
  clear hw9 hb9 hal hvn hxN
  as_aux_lemma=>
   go_upto_region 2 with fail
   refine wp_region_list ?_
   refine list_call rfl (some 14) rfl 8 #[sv bL,.bool false] (by kernel_rfl) (U HTb w1) ?_
   rintro e q ⟨hb,hpost⟩
   rw [U HTYb] at hpost
   obtain ⟨Nb,rfl,hxN⟩:=hpost
   refine ⟨_,rfl,?_⟩
   simp only[put,sA,sB,sC]
   have HB:=V (trX (U HB) hb)
   have HVa:=V ((U HVa).below hb)
   have HXa:=V ((U HXa).below hb)
   clear hb
   refine lt 13 (.tuple #[.agg Nb.toArray,.bool true]) ?_
   refine lt 15 (.agg Nb.toArray) ?_
   refine lt 16 (.bool true) ?_
   simp only[put,sA,sB,sC]
   have hzb:Nb.toArray.size=10:=by simpa using hxN.len
   have hlb:Nb.length=10:=hxN.len
   have hvn:=VrX.new q (M:=zL) rfl
   have hal:Below q.heap.size q (q.alloc (.cells Nb.toArray 29)):=alX (Below.refl _ _) _
   refine list_new rfl 29 rfl zL.toArray (zero_of_info zeroEx).1 ?_
   simp only[put,sA,sB,sC]
   refine wpList_store_mid rfl 29 (.tmp 3) (.tmp 15) rfl q.heap.size 0 Nb.toArray rfl rfl (by rw [hzb];exact hvn.there) (by rw [hzb];exact sizeEx) (all_oneCell_toArray hxN.one) ?_
   show wpList _ _ _ _ _ ((q.alloc (.cells zL.toArray 29)).setCells q.heap.size 0 Nb)
   rw [setCells_new q _ _ _ (by rw [hlb];rfl)]
   refine lt 4 (.bool true) ?_
   simp only[put,sA,sB,sC]
   have HB:=V (trX (U HB) hal)
   have HVa:=V ((U HVa).below hal)
   have HXa:=V ((U HXa).below hal)
   have HVb:=V (VrX.new q hlb)
   have HXb:=V (hxN.below hal)
   obtain ⟨bb,hb9⟩:∃ bb,bb=q.heap.size:=⟨_,rfl⟩
   obtain ⟨w2,hw9⟩:∃ w2,w2=q.alloc (.cells Nb.toArray 29):=⟨_,rfl⟩
   rw [← hw9] at HB HVb HXb HVa HXa
   rw [← hw9]
   rw [← hb9] at HVb
   rw [← hb9]
   clear hw9 hb9 hal hvn hxN
   as_aux_lemma=>
    go_upto_region 3 with fail
    refine wp_region_list ?_
    refine wpList_load_mid rfl 29 (.tmp 1) rfl ba 0 rfl Na _ (U HVa).range Tryz.underlying29 rfl (by rw [hla];exact sizeEx) ?_
    refine list_call rfl (some 19) rfl 9 #[.agg Na.toArray,.slice none 0 0] (by kernel_rfl) (evalp_any [] (fun _ h=>absurd h (by simp)) w2 _ Na Ea none 0 0 ⟨rfl,rwAt_nil⟩ (U HXa) (U HOKa) (U HSIa) (by rw [U HEVa];decide)) ?_
    rw [U HEVa]
    rintro e q ⟨rfl,hb⟩
    refine ⟨_,rfl,?_⟩
    simp only[put,sA,sB,sC]
    have HB:=V (trX (U HB) hb)
    have HVb:=V ((U HVb).below hb)
    have HXb:=V ((U HXb).below hb)
    clear hb
    refine lt 17 (.tuple #[.agg (gvC oneF).toArray,errG 0]) ?_
    refine lt 20 (.agg (gvC oneF).toArray) ?_
    refine lt 21 (errG 0) ?_
    simp only[put,sA,sB,sC]
    refine list_new rfl 26 rfl (gvC nullG).toArray (zero_of_info zeroV).1 ?_
    simp only[put,sA,sB,sC]
    refine wpList_store_mid rfl 26 (.tmp 5) (.tmp 20) rfl q.heap.size 0 (gvC oneF).toArray rfl rfl (VV.new q nullG).there sizeV (all_oneCell_toArray (gvC_one _)) ?_
    show wpList _ _ _ _ _ ((q.alloc (.cells (gvC nullG).toArray 26)).setCells q.heap.size 0 (gvC oneF))
    rw [setV_new q oneF]
    refine lt 6 (errG 0) ?_
    simp only[put,sA,sB,sC]
    have HGa:=V (VV.new q oneF)
    have hb:Below q.heap.size q (q.alloc (.cells (gvC oneF).toArray 26)):=alX (Below.refl _ _) _
    have HB:=V (trX (U HB) hb)
    have HVb:=V ((U HVb).below hb)
    have HXb:=V ((U HXb).below hb)
    obtain ⟨ga,hb9⟩:∃ ga,ga=q.heap.size:=⟨_,rfl⟩
    obtain ⟨w3,hw9⟩:∃ w3,w3=q.alloc (.cells (gvC oneF).toArray 26):=⟨_,rfl⟩
    rw [← hw9] at HB HGa HVb HXb
    rw [← hw9]
    rw [← hb9] at HGa
    rw [← hb9]
    clear hb hw9 hb9
    as_aux_lemma=>
     go_upto_region 4 with fail
     refine wp_region_list ?_
     refine wpList_load_mid rfl 29 (.tmp 3) rfl bb 0 rfl Nb _ (U HVb).range Tryz.underlying29 rfl (by rw [hlb];exact sizeEx) ?_
     refine list_call rfl (some 24) rfl 9 #[.agg Nb.toArray,.slice none 0 0] (by kernel_rfl) (evalp_any [] (fun _ h=>absurd h (by simp)) w3 _ Nb Eb none 0 0 ⟨rfl,rwAt_nil⟩ (U HXb) (U HOKb) (U HSIb) (by rw [U HEVb];decide)) ?_
     rw [U HEVb]
     rintro e q ⟨rfl,hb⟩
     refine ⟨_,rfl,?_⟩
     simp only[put,sA,sB,sC]
     have HB:=V (trX (U HB) hb)
     have HGa:=V ((U HGa).below hb)
     clear hb
     refine lt 22 (.tuple #[.agg (gvC nullG).toArray,errG 7]) ?_
     refine lt 25 (.agg (gvC nullG).toArray) ?_
     refine lt 26 (errG 7) ?_
     simp only[put,sA,sB,sC]
     refine list_new rfl 26 rfl (gvC nullG).toArray (zero_of_info zeroV).1 ?_
     simp only[put,sA,sB,sC]
     refine wpList_store_mid rfl 26 (.tmp 7) (.tmp 25) rfl q.heap.size 0 (gvC nullG).toArray rfl rfl (VV.new q nullG).there sizeV (all_oneCell_toArray (gvC_one _)) ?_
     show wpList _ _ _ _ _ ((q.alloc (.cells (gvC nullG).toArray 26)).setCells q.heap.size 0 (gvC nullG))
     rw [setV_new q nullG]
     refine lt 8 (errG 7) ?_
     simp only[put,sA,sB,sC]
     have HGb:=V (VV.new q nullG)
     have hb:Below q.heap.size q (q.alloc (.cells (gvC nullG).toArray 26)):=alX (Below.refl _ _) _
     have HB:=V (trX (U HB) hb)
     have HGa:=V ((U HGa).below hb)
     obtain ⟨gb,hb9⟩:∃ gb,gb=q.heap.size:=⟨_,rfl⟩
     obtain ⟨w4,hw9⟩:∃ w4,w4=q.alloc (.cells (gvC nullG).toArray 26):=⟨_,rfl⟩
     rw [← hw9] at HB HGb HGa
     rw [← hw9]
     rw [← hb9] at HGb
     rw [← hb9]
     clear hb hw9 hb9
     as_aux_lemma=>
      go_upto_region 5 with fail
      have HGd:=V ((U HGa).below (Below.refl _ _).drew)
      have HBd:=V (trX (U HB) (Below.refl _ _).drew)
      refine wp_region_held_drew (S:=fun w'=>VV w' ga oneF) (by kernel_rfl) (U HGd) (fun hHeld=>?_)
      refine ht 0 27 (.bool true) hHeld ?_
      simp only[put,sA,sB,sC]
      refine ht 1 28 (.bool true) hHeld ?_
      simp only[put,sA,sB,sC]
      refine ht 2 29 (.bool true) hHeld ?_
      simp only[put,sA,sB,sC]
      refine ht 3 30 (.bool true) hHeld ?_
      simp only[put,sA,sB,sC]
      refine ht 4 31 (.bool true) hHeld ?_
      simp only[put,sA,sB,sC]
      refine ht 5 32 (.nilIface) hHeld ?_
      simp only[put,sA,sB,sC]
      refine ht 6 33 (.bool true) hHeld ?_
      simp only[put,sA,sB,sC]
      refine ht 7 34 (.bool true) hHeld ?_
      simp only[put,sA,sB,sC]
      refine ht 8 35 (.bool true) hHeld ?_
      simp only[put,sA,sB,sC]
      refine hu 9 36 (.agg (gvC oneF).toArray) rfl (yieldsIf_load_mid (by rfl) 26 (.tmp 5) rfl ga 0 rfl (gvC oneF) _ (fun w hw=>hw.range) Tryz.underlying26 rfl sizeV) hHeld ?_
      simp only[put,sA,sB,sC]
      refine wpAnyH_ready (rs:=[10]) (by kernel_rfl) (by simp) ?_
      refine AllReadyH.cons rfl (fun K hK=>?_) AllReadyH.nil
      rw [if_pos (by rfl)]
      refine op_call (some 37) rfl 17 #[.int .i64 0] (by kernel_rfl) (of_false _) ?_
      rintro e w6 ⟨rfl,hb⟩
      refine ⟨_,rfl,?_⟩
      have HG6:=V ((U HGd).below hb)
      have HB6:=V (trX (U HBd) hb)
      clear hb
      refine hK.out _ _ (U HG6) (fun hHeld2=>?_)
      clear hK K hHeld
      have hHeld:=hHeld2
      clear hHeld2
      try simp only[put,sA,sB,sC]
      refine ht 11 38 (.bool true) hHeld ?_
      simp only[put,sA,sB,sC]
      refine ht 12 39 (.bool true) hHeld ?_
      simp only[put,sA,sB,sC]
      refine ht 13 40 (.bool true) hHeld ?_
      simp only[put,sA,sB,sC]
      refine ht 14 41 (.iface 95 (.int .i64 7)) hHeld ?_
      simp only[put,sA,sB,sC]
      refine wpAnyH_ready (rs:=[15]) (by kernel_rfl) (by simp) ?_
      refine AllReadyH.cons rfl (fun K hK=>?_) AllReadyH.nil
      rw [if_pos (by rfl)]
      refine op_call (some 42) rfl 11 #[.iface 95 (.int .i64 7)] (by kernel_rfl) (class_g 7 w6 (hE.below (U HB6) hE.lt)) ?_
      rintro e w7 ⟨rfl,hb⟩
      refine ⟨_,rfl,?_⟩
      have HG7:=V ((U HG6).below hb)
      have HB7:=V (trX (U HB6) hb)
      clear hb
      refine hK.out _ _ (U HG7) (fun hHeld2=>?_)
      clear hK K hHeld
      have hHeld:=hHeld2
      clear hHeld2
      try simp only[put,sA,sB,sC]
      refine ht 16 43 (.bool true) hHeld ?_
      simp only[put,sA,sB,sC]
      refine ht 17 44 (.bool true) hHeld ?_
      simp only[put,sA,sB,sC]
      refine ht 18 0 (.bool true) hHeld ?_
      simp only[put,sA,sB,sC]
      refine wpAnyH_done (by kernel_rfl) ?_ _
      go_wp2_with fail
      go_ret
      exact ⟨rfl,U HB7⟩
end Go.Proofs.YtpnonhjmpnbmcaaGreatDoor
