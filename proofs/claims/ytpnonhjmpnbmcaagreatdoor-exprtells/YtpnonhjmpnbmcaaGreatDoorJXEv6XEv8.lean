/- Package expr: eval. -/
import Derived.Test.YtpnonhjmpnbmcaaGreatDoorXEv5
namespace Go.Proofs.YtpnonhjmpnbmcaaGreatDoor
open Go.RowKit Go.Lib
open Act (put)
set_option linter.unusedSimpArgs false
set_option linter.unusedVariables false
set_option maxHeartbeats 6400000
set_option maxRecDepth 20000
theorem binary_l17 (w:World) (pg be oe:Nat) (R:GV × Int) (c1:w.cell? ⟨be,oe+1,none⟩=some (.int .i64 17)) (hin:∀ W,Below w.heap.size w W→Calls Tryz.prog 116 #[.pointer (some ⟨pg,0,none⟩),.pointer (some ⟨be,oe,none⟩)] W (GeP W R)):Calls Tryz.prog 64 #[.pointer (some ⟨pg,0,none⟩),.pointer (some ⟨be,oe,none⟩)] w (GeP w R):=by
 have HC1:Hid (w.cell? ⟨be,oe+1,none⟩=some (.int .i64 17)):=c1
 have HBE:Hid (be < w.heap.size):=World.block_lt_of_cell? w _ c1
 have HIN:=V hin
 clear c1 hin
 obtain ⟨PP,hPP⟩:∃ PP,PP=GeP w R:=⟨_,rfl⟩
 have HPP:=V hPP
 rw [← hPP]
 clear hPP
 go_enter Tryz.func64,Tryz.ntmps64
 go_upto_region 1 with fail
 obtain ⟨w0,hw0⟩:∃ w0,w0=w.alloc (.cells (gvC nullG).toArray 26):=⟨_,rfl⟩
 have hb0:Below w.heap.size w w0:=by rw [hw0];exact alX (Below.refl _ _) _
 have HV:=V (show VV w0 w.heap.size nullG by rw [hw0];exact VV.new w nullG)
 have HB:=V hb0
 rw [show (gvC nullG).toArray=#[.int .i64 0,.int .i64 0,.string ⟨#[]⟩] from rfl] at hw0
 rw [← hw0]
 clear hw0 hb0
 have HC1:=V (((U HB).cell (p:=⟨be,oe+1,none⟩) (U HBE)).trans (U HC1))
 refine wp_region_list ?_
 have c1:=U HC1
 refine lt 9 (.pointer (some ⟨be,oe,none⟩)) ?_
 refine lt 10 (.pointer (some ⟨be,oe,none⟩)) ?_
 refine lt 11 (.pointer (some ⟨be,oe+1,none⟩)) ?_
 simp only[put,sA,sB,sC]
 refine list_to (d:=12) (v:=.int .i64 17) rfl rfl (by go_simp) ?_
 simp only[put,sA,sB,sC]
 clear c1
 refine lt 13 (.bool true) ?_
 refine lt 14 (.bool true) ?_
 simp only[put,sA,sB,sC]
 refine list_skip (d:=15) rfl (by kernel_rfl) ?_
 simp only[put,sA,sB,sC]
 refine list_skip (d:=16) rfl (by kernel_rfl) ?_
 simp only[put,sA,sB,sC]
 refine list_skip (d:=17) rfl (by kernel_rfl) ?_
 simp only[put,sA,sB,sC]
 refine list_skip (d:=18) rfl (by kernel_rfl) ?_
 simp only[put,sA,sB,sC]
 refine list_skip (d:=19) rfl (by kernel_rfl) ?_
 refine lt 20 (.bool true) ?_
 simp only[put,sA,sB,sC]
 as_aux_lemma=>
  go_upto_region 2 with fail
  refine wp_region_list ?_
  refine lt 21 (.pointer (some ⟨pg,0,none⟩)) ?_
  refine lt 22 (.pointer (some ⟨be,oe,none⟩)) ?_
  refine list_call rfl (some 23) rfl 116 #[.pointer (some ⟨pg,0,none⟩),.pointer (some ⟨be,oe,none⟩)] (by kernel_rfl) (U HIN w0 (U HB)) ?_
  rintro e w5 ⟨rfl,hb⟩
  refine ⟨_,rfl,?_⟩
  simp only[put,sA,sB,sC]
  have HB:=V (trX (U HB) hb)
  have HV:=V ((U HV).below hb)
  clear hb
  refine lt 24 (.agg (gvC R.1).toArray) ?_
  refine lt 25 (errG R.2) ?_
  simp only[put,sA,sB,sC]
  refine wpList_store_mid rfl 26 (.tmp 4) (.tmp 24) rfl w.heap.size 0 (gvC R.1).toArray rfl rfl (U HV).there sizeV (all_oneCell_toArray (gvC_one _)) ?_
  show wpList _ _ _ _ _ (w5.setCells w.heap.size 0 (gvC R.1))
  refine lt 5 (errG R.2) ?_
  simp only[put,sA,sB,sC]
  go_wp2_with fail
  refine bodyPost_ret (((U HV).set R.1).result2 rfl _ rfl) rfl ?_
  rw [U HPP]
  exact ⟨rfl,below_setCells0 (U HB) (Nat.le_refl _) _⟩
theorem binary_l18 (w:World) (pg be oe:Nat) (R:GV × Int) (c1:w.cell? ⟨be,oe+1,none⟩=some (.int .i64 18)) (hin:∀ W,Below w.heap.size w W→Calls Tryz.prog 116 #[.pointer (some ⟨pg,0,none⟩),.pointer (some ⟨be,oe,none⟩)] W (GeP W R)):Calls Tryz.prog 64 #[.pointer (some ⟨pg,0,none⟩),.pointer (some ⟨be,oe,none⟩)] w (GeP w R):=by
 have HC1:Hid (w.cell? ⟨be,oe+1,none⟩=some (.int .i64 18)):=c1
 have HBE:Hid (be < w.heap.size):=World.block_lt_of_cell? w _ c1
 have HIN:=V hin
 clear c1 hin
 obtain ⟨PP,hPP⟩:∃ PP,PP=GeP w R:=⟨_,rfl⟩
 have HPP:=V hPP
 rw [← hPP]
 clear hPP
 go_enter Tryz.func64,Tryz.ntmps64
 go_upto_region 1 with fail
 obtain ⟨w0,hw0⟩:∃ w0,w0=w.alloc (.cells (gvC nullG).toArray 26):=⟨_,rfl⟩
 have hb0:Below w.heap.size w w0:=by rw [hw0];exact alX (Below.refl _ _) _
 have HV:=V (show VV w0 w.heap.size nullG by rw [hw0];exact VV.new w nullG)
 have HB:=V hb0
 rw [show (gvC nullG).toArray=#[.int .i64 0,.int .i64 0,.string ⟨#[]⟩] from rfl] at hw0
 rw [← hw0]
 clear hw0 hb0
 have HC1:=V (((U HB).cell (p:=⟨be,oe+1,none⟩) (U HBE)).trans (U HC1))
 refine wp_region_list ?_
 have c1:=U HC1
 refine lt 9 (.pointer (some ⟨be,oe,none⟩)) ?_
 refine lt 10 (.pointer (some ⟨be,oe,none⟩)) ?_
 refine lt 11 (.pointer (some ⟨be,oe+1,none⟩)) ?_
 simp only[put,sA,sB,sC]
 refine list_to (d:=12) (v:=.int .i64 18) rfl rfl (by go_simp) ?_
 simp only[put,sA,sB,sC]
 clear c1
 refine lt 13 (.bool false) ?_
 refine lt 14 (.bool false) ?_
 simp only[put,sA,sB,sC]
 refine list_want (d:=15) (v:=.pointer (some ⟨be,oe,none⟩)) rfl (by kernel_rfl) (by kernel_rfl) ?_
 simp only[put,sA,sB,sC]
 refine list_want (d:=16) (v:=.pointer (some ⟨be,oe,none⟩)) rfl (by kernel_rfl) (by kernel_rfl) ?_
 simp only[put,sA,sB,sC]
 refine list_want (d:=17) (v:=.pointer (some ⟨be,oe+1,none⟩)) rfl (by kernel_rfl) (by kernel_rfl) ?_
 simp only[put,sA,sB,sC]
 have c1:=U HC1
 refine list_want (d:=18) (v:=.int .i64 18) rfl (by kernel_rfl) (by go_simp) ?_
 simp only[put,sA,sB,sC]
 clear c1
 refine list_want (d:=19) (v:=.bool true) rfl (by kernel_rfl) (by kernel_rfl) ?_
 refine lt 20 (.bool true) ?_
 simp only[put,sA,sB,sC]
 as_aux_lemma=>
  go_upto_region 2 with fail
  refine wp_region_list ?_
  refine lt 21 (.pointer (some ⟨pg,0,none⟩)) ?_
  refine lt 22 (.pointer (some ⟨be,oe,none⟩)) ?_
  refine list_call rfl (some 23) rfl 116 #[.pointer (some ⟨pg,0,none⟩),.pointer (some ⟨be,oe,none⟩)] (by kernel_rfl) (U HIN w0 (U HB)) ?_
  rintro e w5 ⟨rfl,hb⟩
  refine ⟨_,rfl,?_⟩
  simp only[put,sA,sB,sC]
  have HB:=V (trX (U HB) hb)
  have HV:=V ((U HV).below hb)
  clear hb
  refine lt 24 (.agg (gvC R.1).toArray) ?_
  refine lt 25 (errG R.2) ?_
  simp only[put,sA,sB,sC]
  refine wpList_store_mid rfl 26 (.tmp 4) (.tmp 24) rfl w.heap.size 0 (gvC R.1).toArray rfl rfl (U HV).there sizeV (all_oneCell_toArray (gvC_one _)) ?_
  show wpList _ _ _ _ _ (w5.setCells w.heap.size 0 (gvC R.1))
  refine lt 5 (errG R.2) ?_
  simp only[put,sA,sB,sC]
  go_wp2_with fail
  refine bodyPost_ret (((U HV).set R.1).result2 rfl _ rfl) rfl ?_
  rw [U HPP]
  exact ⟨rfl,below_setCells0 (U HB) (Nat.le_refl _) _⟩
theorem nullG_ok:nullG.ok:=by refine ⟨by decide,by decide,Nat.zero_le _⟩
theorem ofTruthG_ok {n:Int} (h0:0 ≤ n) (h2:n ≤ 2):(ofTruthG n).ok:=by
 unfold ofTruthG
 by_cases h:n=2
 · rw [if_pos h];exact nullG_ok
 · rw [if_neg h]
   exact ⟨by show (_:Int) ≤ n;omega,by show n < _;omega,Nat.zero_le _⟩
theorem notG_two (n:Int):0 ≤ notG n∧notG n ≤ 2:=by unfold notG;split <;> (try split) <;> omega
theorem andG_two (a b:Int):0 ≤ andG a b∧andG a b ≤ 2:=by unfold andG;split <;> (try split) <;> (try split) <;> omega
theorem orG_two (a b:Int):0 ≤ orG a b∧orG a b ≤ 2:=by
 unfold orG
 split
 · omega
 · exact notG_two _
theorem testG_two (op:Int) (a b:GV):0 ≤ (testG op a b).1∧(testG op a b).1 ≤ 2:=by
 unfold testG
 split
 · exact ⟨by decide,by decide⟩
 split
 · exact ⟨by decide,by decide⟩
 split
 · exact ⟨by decide,by decide⟩
 split <;> exact ⟨by decide,by decide⟩
theorem recG_ok {g:GV} {c:Int} (h:g.ok):(recG g c).1.ok:=by
 unfold recG
 split
 · exact nullG_ok
 · exact h
theorem testedG_ok {n c:Int} (h:c=0→0 ≤ n∧n ≤ 2):(testedG n c).1.ok:=by
 unfold testedG
 split
 · rename_i hc
   exact ofTruthG_ok (h hc).1 (h hc).2
 · exact recG_ok nullG_ok
theorem soundE_ok {g:GV} (h:g.ok):(soundE g).1.ok:=by
 unfold soundE
 split
 · exact h
 · exact nullG_ok
theorem fitG_ok (n:Int) (h:(fitG n).2=0):-9223372036854775808 ≤ (fitG n).1∧(fitG n).1 < 9223372036854775808:=by
 unfold fitG at h ⊢
 split
 · rename_i hn;exact hn
 · rename_i hn;rw [if_neg hn] at h;exact absurd h (by decide)
theorem tmod_ok {a b:Int} (h1:-9223372036854775808 ≤ a) (h2:a < 9223372036854775808):-9223372036854775808 ≤ a.tmod b∧a.tmod b < 9223372036854775808:=by
 have hn:(a.tmod b).natAbs ≤ a.natAbs:=by rw [Int.natAbs_tmod];exact Nat.mod_le _ _
 by_cases h:0 ≤ a
 · have:=Int.tmod_nonneg b h
   omega
 · have h3:=Int.tmod_nonneg b (show 0 ≤ -a by omega)
   rw [Int.neg_tmod] at h3
   omega
theorem reckG_ok {op a b:Int} (h1:-9223372036854775808 ≤ a) (h2:a < 9223372036854775808) (h:(reckG op a b).2=0):-9223372036854775808 ≤ (reckG op a b).1∧(reckG op a b).1 < 9223372036854775808:=by
 revert h
 unfold reckG
 split
 · exact fitG_ok _
 split
 · exact fitG_ok _
 split
 · exact fitG_ok _
 split
 · exact fitG_ok _
 split
 · intro h;exact absurd h (by decide)
 split
 · intro _;exact tmod_ok h1 h2
 · exact fitG_ok _
theorem doG_ok {op:Int} {a b:GV} (h:a.ok):(doG op a b).1.ok:=by
 unfold doG
 simp only[]
 generalize (if op=1 then a else b)=b'
 split
 · exact nullG_ok
 split
 · exact nullG_ok
 split
 · exact nullG_ok
 split
 · unfold joinG
   split
   · exact nullG_ok
   · rename_i hj
     refine ⟨by show (_:Int) ≤ 0;decide,by show (0:Int) < _;decide,?_⟩
     show (a.text ++ _:ByteArray).size ≤ maxLen
     rw [ByteArray.size_append]
     unfold maxLen
     omega
 split
 · rename_i hr
   have:=reckG_ok h.1 h.2.1 hr
   exact ⟨this.1,this.2,Nat.zero_le _⟩
 · exact nullG_ok
theorem unaryG_ok {op:Int} {x:GV × Int} (h:x.1.ok):(unaryG op x).1.ok:=by
 unfold unaryG
 split
 · exact nullG_ok
 split
 · exact recG_ok (doG_ok h)
 split
 · exact testedG_ok fun _=>notG_two _
 split
 · exact ofTruthG_ok (by split <;> decide) (by split <;> decide)
 split
 · exact ofTruthG_ok (by split <;> decide) (by split <;> decide)
 · exact nullG_ok
theorem logicG_ok {op:Int} {x y:GV × Int}:(logicG op x y).1.ok:=by
 unfold logicG
 by_cases h:(trE x).2 ≠ 0 ∨ (trE x).1=(if op=18 then 1 else 0)
 · rw [if_pos h]
   refine testedG_ok fun hc=>?_
   have:=h.resolve_left (fun q=>q hc)
   rw [this]
   split <;> exact ⟨by decide,by decide⟩
 · rw [if_neg h]
   refine testedG_ok fun _=>?_
   split
   · exact orG_two _ _
   · exact andG_two _ _
theorem binaryG_ok {op:Int} {x y:GV × Int} (h:x.1.ok):(binaryG op x y).1.ok:=by
 unfold binaryG
 split
 · exact logicG_ok
 split
 · exact nullG_ok
 split
 · exact nullG_ok
 split
 · exact testedG_ok fun _=>testG_two _ _ _
 split
 · exact recG_ok (doG_ok h)
 · exact nullG_ok
theorem amongG_ok {x:GV}:∀ (l:List (GV × Int)) (found:Int),0 ≤ found→found ≤ 2→(amongG x found l).1.ok
 | [],found,h0,h2=>ofTruthG_ok h0 h2
 | r :: l,found,h0,h2=>by
  unfold amongG
  split
  · exact ofTruthG_ok h0 h2
  split
  · exact nullG_ok
  split
  · exact testedG_ok fun _=>testG_two _ _ _
  · exact amongG_ok l _ (orG_two _ _).1 (orG_two _ _).2
theorem choiceG_ok:∀ l:List (GV × Int),(∀ r ∈ l,r.1.ok)→(choiceG l).1.ok
 | [],_=>nullG_ok
 | [v],h=>h v (List.mem_cons_self ..)
 | c :: v :: l,h=>by
  unfold choiceG
  split
  · exact nullG_ok
  split
  · exact h v (List.mem_cons_of_mem _ (List.mem_cons_self ..))
  · exact choiceG_ok l fun r hr=>h r (List.mem_cons_of_mem _ (List.mem_cons_of_mem _ hr))
theorem gvN_ok {n:Nd} (h:ndOk n):(gvN n).ok:=by
 refine ⟨h.1,h.2.1,?_⟩
 show n.vt.toArray.size ≤ maxLen
 have:=h.2.2.1
 rw [List.size_toArray]
 unfold maxLen
 omega
theorem evN_ok {row:List GV} (hrow:∀ g ∈ row,g.ok) {a:Nd} (ha:ndOk a) (L:List (GV × Int)) (h:∀ r ∈ L,r.1.ok):(evN row a L).1.ok:=by
 unfold evN
 split
 · exact nullG_ok
 split
 · exact soundE_ok (gvN_ok ha)
 split
 · split
   · rename_i g hg
     split
     · exact nullG_ok
     · exact soundE_ok (hrow g (List.mem_of_getElem? hg))
   · exact nullG_ok
 · split
   · exact unaryG_ok (h _ (List.mem_cons_self ..))
   · exact binaryG_ok (h _ (List.mem_cons_self ..))
   · split
     · exact nullG_ok
     · exact amongG_ok _ _ (by decide) (by decide)
   · exact choiceG_ok _ h
   · exact nullG_ok
theorem evL_ok {row:List GV} (hrow:∀ g ∈ row,g.ok):∀ F:Fo,foOk F→∀ r ∈ evL row F,r.1.ok
 | .nil,_,r,h=>by simp [evL] at h
 | .node _ _ a kids rest,hok,r,h=>by
  rw [evL] at h
  rcases List.mem_cons.1 h with rfl | h
  · exact evN_ok hrow hok.1.1 _ (evL_ok hrow kids hok.1.2)
  · exact evL_ok hrow rest hok.2 r h
theorem evE_ok {row:List GV} (hrow:∀ g ∈ row,g.ok) {E:Ex} (hok:exOk E):(evE row E).1.ok:=evN_ok hrow hok.1 _ (evL_ok hrow E.2 hok.2)
theorem evN1 {row:List GV} {a:Nd} {L:List (GV × Int)} (hc:¬ ((L.length:Int) < (argK a.kind a.op).1 ∨ (argK a.kind a.op).2 < (L.length:Int))) (hk:a.kind=1):evN row a L=soundE (gvN a):=by
 unfold evN;rw [if_neg hc,if_pos hk]
theorem evN3 {row:List GV} {a:Nd} {x:GV × Int} (hc:¬ (([x].length:Int) < (argK a.kind a.op).1 ∨ (argK a.kind a.op).2 < ([x].length:Int))) (hk:a.kind=3):evN row a [x]=unaryG a.op x:=by
 unfold evN;rw [if_neg hc,if_neg (by rw [hk];decide),if_neg (by rw [hk];decide),hk]
 rfl
theorem evN4 {row:List GV} {a:Nd} {x y:GV × Int} (hc:¬ (([x,y].length:Int) < (argK a.kind a.op).1 ∨ (argK a.kind a.op).2 < ([x,y].length:Int))) (hk:a.kind=4):evN row a [x,y]=binaryG a.op x y:=by
 unfold evN;rw [if_neg hc,if_neg (by rw [hk];decide),if_neg (by rw [hk];decide),hk]
 rfl
theorem evN5 {row:List GV} {a:Nd} {x:GV × Int} {l:List (GV × Int)} (hc:¬ (((x :: l).length:Int) < (argK a.kind a.op).1 ∨ (argK a.kind a.op).2 < ((x :: l).length:Int))) (hk:a.kind=5):evN row a (x :: l)=amongR x l:=by
 unfold evN;rw [if_neg hc,if_neg (by rw [hk];decide),if_neg (by rw [hk];decide),hk]
 rfl
theorem EvAt.mono {w W:World} {pg b o:Nat} {r:GV × Int} (h:EvAt w pg b o r) (hb:Below w.heap.size w W):EvAt W pg b o r:=fun W' hb'=>h W' (trX hb hb')
theorem choice_of (w:World) (pg ba oa k:Nat) (l:List (GV × Int)) (hl:l.length ≤ 1000) (hk:l.length ≤ k) (hkm:k ≤ maxLen) (hev:∀ i r,l[i]?=some r→EvAt w pg ba (oa+10 * i) r):Calls Tryz.prog 66 #[.pointer (some ⟨pg,0,none⟩),.slice (some ⟨ba,oa,none⟩) l.length k] w (GeP w (choiceG l)):=by
 have HEVL:Hid (∀ i r,l[i]?=some r→EvAt w pg ba (oa+10 * i) r):=hev
 have hlI:(l.length:Int) ≤ 1000:=by omega
 obtain ⟨R,hR⟩:∃ R,R=choiceG l:=⟨_,rfl⟩
 obtain ⟨PP,hPP⟩:∃ PP,PP=GeP w R:=⟨_,rfl⟩
 have HPP:=V hPP
 rw [← hR,← hPP]
 have HRL:=V hR
 clear hPP hev hR
 go_enter Tryz.func66,Tryz.ntmps66
 go_upto_region 1 with fail
 obtain ⟨w0,hw0⟩:∃ w0,w0=w.alloc (.cells (gvC nullG).toArray 26):=⟨_,rfl⟩
 have hb0:Below w.heap.size w w0:=by rw [hw0];exact alX (Below.refl _ _) _
 have HV:=V (show VV w0 w.heap.size nullG by rw [hw0];exact VV.new w nullG)
 have HB:=V hb0
 rw [show (gvC nullG).toArray=#[.int .i64 0,.int .i64 0,.string ⟨#[]⟩] from rfl] at hw0
 rw [← hw0]
 clear hw0 hb0
 have HG0:Hid (R=choiceG (l.drop 0)∧VV w0 w.heap.size nullG∧Below w.heap.size w w0):=⟨by rw [U HRL,List.drop_zero],U HV,U HB⟩
 clear HV HB
 go_loopg [1,6,7] l.length (fun g s1 s6 s7 wr=>∃ (j m k':Nat) (ad:Addr),g=m∧s1=.slice (some ad) m k'∧m=(l.drop j).length∧m ≤ k'∧k' ≤ maxLen∧(m ≠ 0→ad=⟨ba,oa+10 * j,none⟩)∧Hid (R=choiceG (l.drop j)∧VV wr w.heap.size nullG∧Below w.heap.size w wr))
 case atStart=>exact ⟨0,l.length,k,_,rfl,rfl,by rw [List.drop_zero],hk,hkm,fun _=>rfl,HG0⟩
 case round=>
  obtain ⟨j,m,k',ad,hgm,rfl,hm,hmk0,hkm',had,HG⟩:=hrel
  clear HG0
  have HRG:=V (U HG).1
  have HV:=V (U HG).2.1
  have HB:=V (U HG).2.2
  clear HG
  have hmI:(m:Int) ≤ 9223372036854775807:=by unfold maxLen at hkm';omega
  rcases Nat.lt_or_ge m 2 with hm2 | hm2
  · rcases Nat.lt_or_ge m 1 with hm1 | hm1
    · have hm0:m=0:=by omega
      as_aux_lemma=>
       have hdr:l.drop j=[]:=List.length_eq_zero_iff.1 (by rw [← hm];exact hm0)
       have HR:Hid (R=(nullG,0)):=by show R=_;rw [U HRG,hdr];rfl
       have hm2I:¬ (2:Int) ≤ (m:Int):=by omega
       obtain rfl:=hm0
       clear hdr HRG hm
       obtain ⟨w5,hw5⟩:∃ w5,w5=wr:=⟨_,rfl⟩
       rw [← hw5] at HV HB
       rw [← hw5]
       clear hw5
       go_upto_region 9 with fail
       refine wp_region_list ?_
       refine lt 37 (.agg (gvC nullG).toArray) ?_
       simp only[put,sA,sB,sC]
       refine wpList_store_mid rfl 26 (.tmp 4) (.tmp 37) rfl w.heap.size 0 (gvC nullG).toArray rfl rfl (U HV).there sizeV (all_oneCell_toArray (gvC_one _)) ?_
       show wpList _ _ _ _ _ (w5.setCells w.heap.size 0 (gvC nullG))
       refine lt 5 (errG 0) ?_
       simp only[put,sA,sB,sC]
       go_wp2_with fail
       refine bodyPost_ret (((U HV).set nullG).result2 rfl _ rfl) rfl ?_
       rw [U HPP,U HR]
       exact ⟨rfl,below_setCells0 (U HB) (Nat.le_refl _) _⟩
    · have hm1:m=1:=by omega
      as_aux_lemma=>
       obtain ⟨v,hdr⟩:∃ v,l.drop j=[v]:=List.length_eq_one_iff.1 (by rw [← hm];exact hm1)
       obtain rfl:=had (by omega)
       have hjv:l[j]?=some v:=by rw [← List.head?_drop,hdr];rfl
       have HEV:Hid (EvAt w pg ba (oa+10 * j) v):=U HEVL j v hjv
       have HR:Hid (R=v):=by show R=v;rw [U HRG,hdr];rfl
       have hmk:m ≤ k':=by omega
       have hm2I:¬ (2:Int) ≤ (m:Int):=by omega
       obtain rfl:=hm1
       clear hjv hdr HRG hm
       obtain ⟨w5,hw5⟩:∃ w5,w5=wr:=⟨_,rfl⟩
       rw [← hw5] at HV HB
       rw [← hw5]
       clear hw5
       go_upto_region 10 with fail
       refine wp_region_list ?_
       refine lt 38 (.pointer (some ⟨pg,0,none⟩)) ?_
       refine lt 39 (.slice (some ⟨ba,oa+10 * j,none⟩) 1 k') ?_
       simp only[put,sA,sB,sC]
       refine list_to (d:=40) (v:=.pointer (some ⟨ba,oa+10 * j,none⟩)) rfl rfl (by go_simp) ?_
       refine list_call rfl (some 41) rfl 28 #[.pointer (some ⟨pg,0,none⟩),.pointer (some ⟨ba,oa+10 * j,none⟩)] (by kernel_rfl) (U HEV w5 (U HB)) ?_
       rintro e w7 ⟨rfl,hb⟩
       refine ⟨_,rfl,?_⟩
       simp only[put,sA,sB,sC]
       have HB:=V (trX (U HB) hb)
       have HV:=V ((U HV).below hb)
       clear hb
       refine lt 42 (.agg (gvC v.1).toArray) ?_
       refine lt 43 (errG v.2) ?_
       simp only[put,sA,sB,sC]
       refine wpList_store_mid rfl 26 (.tmp 4) (.tmp 42) rfl w.heap.size 0 (gvC v.1).toArray rfl rfl (U HV).there sizeV (all_oneCell_toArray (gvC_one _)) ?_
       show wpList _ _ _ _ _ (w7.setCells w.heap.size 0 (gvC v.1))
       refine lt 5 (errG v.2) ?_
       simp only[put,sA,sB,sC]
       go_wp2_with fail
       refine bodyPost_ret (((U HV).set v.1).result2 rfl _ rfl) rfl ?_
       rw [U HPP,U HR]
       exact ⟨rfl,below_setCells0 (U HB) (Nat.le_refl _) _⟩
  · skip
    as_aux_lemma=>
     obtain ⟨c,v,l',hdr⟩:∃ c v l',l.drop j=c :: v :: l':=by
      match hd:l.drop j,hm2 with
      | [],h=>exact absurd h (by rw [hd] at hm;simp at hm;omega)
      | [_],h=>exact absurd h (by rw [hd] at hm;simp at hm;omega)
      | c :: v :: l',_=>exact ⟨c,v,l',rfl⟩
     obtain rfl:=had (by omega)
     have hjc:l[j]?=some c:=by rw [← List.head?_drop,hdr];rfl
     have hjv:l[j+1]?=some v:=by
      have:(l.drop j)[1]?=some v:=by rw [hdr];rfl
      rwa [List.getElem?_drop] at this
     have hd2:l.drop (j+2)=l':=by
      have:(l.drop j).drop 2=l':=by rw [hdr];rfl
      rwa [List.drop_drop] at this
     have HC:Hid (EvAt wr pg ba (oa+10 * j) c):=V ((U HEVL j c hjc).mono (U HB))
     have HEV:Hid (EvAt w pg ba (oa+10 * j+10) v):=U HEVL (j+1) v hjv
     have hR:R=choiceG (c :: v :: l'):=by rw [U HRG,hdr]
     rw [choiceG] at hR
     have HD2:=V hd2
     have hm2I:(2:Int) ≤ (m:Int):=by omega
     have hm0f:(m=0)=False:=by simp;omega
     have hm1I:(1:Int) < (m:Int):=by omega
     have hmk:m ≤ k':=by omega
     have hk2:2 ≤ k':=by omega
     have HM:=V hm
     clear hjc hjv hd2 hdr HRG hm
     obtain ⟨w5,hw5⟩:∃ w5,w5=wr:=⟨_,rfl⟩
     rw [← hw5] at HC HV HB
     rw [← hw5]
     clear hw5
     go_upto_region 3 with fail
     refine wp_region_list ?_
     refine lt 14 (.pointer (some ⟨pg,0,none⟩)) ?_
     refine lt 15 (.slice (some ⟨ba,oa+10 * j,none⟩) m k') ?_
     simp only[put,sA,sB,sC]
     refine list_to (d:=16) (v:=.pointer (some ⟨ba,oa+10 * j,none⟩)) rfl rfl (by go_simp) ?_
     refine list_call rfl (some 17) rfl 119 #[.pointer (some ⟨pg,0,none⟩),.pointer (some ⟨ba,oa+10 * j,none⟩)] (by kernel_rfl) (truth_of w5 pg ba (oa+10 * j) c (U HC)) ?_
     rintro e w6 ⟨rfl,hb⟩
     refine ⟨_,rfl,?_⟩
     simp only[put,sA,sB,sC]
     have HB:=V (trX (U HB) hb)
     have HV:=V ((U HV).below hb)
     clear hb
     refine lt 13 (.tuple #[.int .i64 (trE c).1,errG (trE c).2]) ?_
     refine lt 18 (.int .i64 (trE c).1) ?_
     refine lt 19 (errG (trE c).2) ?_
     refine lt 6 (.int .i64 (trE c).1) ?_
     refine lt 7 (errG (trE c).2) ?_
     simp only[put,sA,sB,sC]
     clear HC
     by_cases he:(trE c).2=0
     · rw [if_neg (fun h=>h he)] at hR
       rw [he]
       clear he
       go_upto_region 4 with fail
       refine wp_region_list ?_
       refine lt 21 (errG 0) ?_
       refine lt 22 (.bool false) ?_
       refine lt 20 (.bool false) ?_
       simp only[put,sA,sB,sC]
       by_cases h1:(trE c).1=1
       · rw [if_pos h1] at hR
         have HR:=V hR
         rw [h1]
         clear hR h1
         go_upto_region 6 with fail
         refine wp_region_list ?_
         refine lt 26 (.int .i64 1) ?_
         refine lt 27 (.bool true) ?_
         refine lt 25 (.bool true) ?_
         simp only[put,sA,sB,sC]
         go_upto_region 7 with fail
         refine wp_region_list ?_
         refine lt 28 (.pointer (some ⟨pg,0,none⟩)) ?_
         refine lt 29 (.slice (some ⟨ba,oa+10 * j,none⟩) m k') ?_
         simp only[put,sA,sB,sC]
         refine list_to (d:=30) (v:=.pointer (some ⟨ba,oa+10 * j+10,none⟩)) rfl rfl (by go_simp) ?_
         refine list_call rfl (some 31) rfl 28 #[.pointer (some ⟨pg,0,none⟩),.pointer (some ⟨ba,oa+10 * j+10,none⟩)] (by kernel_rfl) (U HEV w6 (U HB)) ?_
         rintro e w7 ⟨rfl,hb⟩
         refine ⟨_,rfl,?_⟩
         simp only[put,sA,sB,sC]
         have HB:=V (trX (U HB) hb)
         have HV:=V ((U HV).below hb)
         clear hb
         refine lt 32 (.agg (gvC v.1).toArray) ?_
         refine lt 33 (errG v.2) ?_
         simp only[put,sA,sB,sC]
         refine wpList_store_mid rfl 26 (.tmp 4) (.tmp 32) rfl w.heap.size 0 (gvC v.1).toArray rfl rfl (U HV).there sizeV (all_oneCell_toArray (gvC_one _)) ?_
         show wpList _ _ _ _ _ (w7.setCells w.heap.size 0 (gvC v.1))
         refine lt 5 (errG v.2) ?_
         simp only[put,sA,sB,sC]
         go_wp2_with fail
         refine bodyPost_ret (((U HV).set v.1).result2 rfl _ rfl) rfl ?_
         rw [U HPP,U HR]
         exact ⟨rfl,below_setCells0 (U HB) (Nat.le_refl _) _⟩
       · rw [if_neg h1] at hR
         have e1:((trE c).1 == 1)=false:=beq_eq_false_iff_ne.2 h1
         have HRN:Hid (R=choiceG (l.drop (j+2))):=by show R=_;rw [U HD2];exact hR
         have HNX:Hid (R=choiceG (l.drop (j+2))∧VV w6 w.heap.size nullG∧Below w.heap.size w w6):=⟨U HRN,U HV,U HB⟩
         clear hR h1
         go_upto_region 6 with fail
         refine wp_region_list ?_
         refine lt 26 (.int .i64 (trE c).1) ?_
         refine lt 27 (.bool ((trE c).1 == 1)) ?_
         simp only[put,sA,sB,sC]
         rw [e1]
         refine lt 25 (.bool false) ?_
         simp only[put,sA,sB,sC]
         go_wp2_with fail
         · go_roundg (m - 2)
           case rel=>exact ⟨j+2,m - 2,0,_,rfl,rfl,by have:=U HM;rw [List.length_drop] at this ⊢;omega,by omega,Nat.zero_le _,fun h=>absurd h (by omega),HNX⟩
           case measure=>omega
         · go_roundg (m - 2)
           case rel=>exact ⟨j+2,m - 2,k' - 2,_,rfl,rfl,by have:=U HM;rw [List.length_drop] at this ⊢;omega,by omega,by omega,fun _=>by rw [show oa+10 * (j+2)=oa+10 * j+20 by omega],HNX⟩
           case measure=>omega
     · have HR:=V (hR.trans (if_pos he))
       have HERR:=V (errG_some he)
       rw [errG_some he]
       clear hR
       go_upto_region 4 with fail
       refine wp_region_list ?_
       refine lt 21 (.iface 95 (.int .i64 (trE c).2)) ?_
       refine lt 22 (.bool true) ?_
       refine lt 20 (.bool true) ?_
       simp only[put,sA,sB,sC]
       go_upto_region 5 with fail
       refine wp_region_list ?_
       refine lt 23 (.agg (gvC nullG).toArray) ?_
       refine lt 24 (.iface 95 (.int .i64 (trE c).2)) ?_
       simp only[put,sA,sB,sC]
       refine wpList_store_mid rfl 26 (.tmp 4) (.tmp 23) rfl w.heap.size 0 (gvC nullG).toArray rfl rfl (U HV).there sizeV (all_oneCell_toArray (gvC_one _)) ?_
       show wpList _ _ _ _ _ (w6.setCells w.heap.size 0 (gvC nullG))
       refine lt 5 (.iface 95 (.int .i64 (trE c).2)) ?_
       simp only[put,sA,sB,sC]
       go_wp2_with fail
       refine bodyPost_ret (((U HV).set nullG).result2 rfl _ rfl) rfl ?_
       rw [U HPP,U HR]
       exact ⟨by (rw [show errG ((nullG,(trE c).2):GV × Int).2=_ from U HERR]) <;> rfl,below_setCells0 (U HB) (Nat.le_refl _) _⟩
theorem eval_k6 (w:World) (pg be oe n k:Nat) (av:Option Addr) (lo hi:Int) (R:GV × Int) (c0:w.cell? ⟨be,oe,none⟩=some (.int .i64 6)) (c7:w.cell? ⟨be,oe+7,none⟩=some (.slice av n k)) (har:∀ W,Below w.heap.size w W→Calls Tryz.prog 60 #[.pointer (some ⟨be,oe,none⟩)] W fun e w'=>e=.returned (.tuple #[.int .i64 lo,.int .i64 hi])∧w'=W) (h1:¬ (n:Int) < lo) (h2:¬ hi < (n:Int)) (hin:∀ W,Below w.heap.size w W→Calls Tryz.prog 66 #[.pointer (some ⟨pg,0,none⟩),.slice av n k] W (GeP W R)):Calls Tryz.prog 28 #[.pointer (some ⟨pg,0,none⟩),.pointer (some ⟨be,oe,none⟩)] w (GeP w R):=by
 have HIN:=V hin
 clear hin
 have HC0:Hid (w.cell? ⟨be,oe,none⟩=some (.int .i64 6)):=c0
 have HBE:Hid (be < w.heap.size):=World.block_lt_of_cell? w _ c0
 have HC7:Hid (w.cell? ⟨be,oe+7,none⟩=some (.slice av n k)):=c7
 have HAR:=V har
 clear c0 c7 har
 obtain ⟨PP,hPP⟩:∃ PP,PP=GeP w R:=⟨_,rfl⟩
 have HPP:=V hPP
 rw [← hPP]
 clear hPP
 go_enter Tryz.func28,Tryz.ntmps28
 go_upto_region 1 with fail
 obtain ⟨w0,hw0⟩:∃ w0,w0=w.alloc (.cells (gvC nullG).toArray 26):=⟨_,rfl⟩
 have hb0:Below w.heap.size w w0:=by rw [hw0];exact alX (Below.refl _ _) _
 have HV:=V (show VV w0 w.heap.size nullG by rw [hw0];exact VV.new w nullG)
 have HB:=V hb0
 rw [show (gvC nullG).toArray=#[.int .i64 0,.int .i64 0,.string ⟨#[]⟩] from rfl] at hw0
 rw [← hw0]
 clear hw0 hb0
 have HC0:=V (((U HB).cell (p:=⟨be,oe,none⟩) (U HBE)).trans (U HC0))
 have HC7:=V (((U HB).cell (p:=⟨be,oe+7,none⟩) (U HBE)).trans (U HC7))
 refine wp_region_list ?_
 refine lt 9 (.pointer (some ⟨be,oe,none⟩)) ?_
 refine list_call rfl (some 10) rfl 60 #[.pointer (some ⟨be,oe,none⟩)] (by kernel_rfl) (U HAR w0 (U HB)) ?_
 rintro e w9 ⟨rfl,hw9⟩
 refine ⟨_,rfl,?_⟩
 simp only[put,sA,sB,sC]
 rw [hw9]
 clear hw9 w9
 refine lt 8 (.tuple #[.int .i64 lo,.int .i64 hi]) ?_
 refine lt 11 (.int .i64 lo) ?_
 refine lt 12 (.int .i64 hi) ?_
 refine lt 6 (.int .i64 lo) ?_
 refine lt 7 (.int .i64 hi) ?_
 simp only[put,sA,sB,sC]
 go_upto_region 2 with fail
 refine wp_region_list ?_
 have c7:=U HC7
 refine lt 13 (.pointer (some ⟨be,oe,none⟩)) ?_
 refine lt 14 (.pointer (some ⟨be,oe,none⟩)) ?_
 refine lt 15 (.pointer (some ⟨be,oe+7,none⟩)) ?_
 simp only[put,sA,sB,sC]
 refine list_to (d:=16) (v:=.slice av n k) rfl rfl (by go_simp) ?_
 simp only[put,sA,sB,sC]
 clear c7
 refine lt 17 (.int .i64 (n:Int)) ?_
 refine lt 18 (.int .i64 lo) ?_
 simp only[put,sA,sB,sC]
 refine list_to (d:=19) (v:=.bool (decide ((n:Int) < lo))) rfl rfl (by go_simp) ?_
 simp only[put,sA,sB,sC]
 have e1:decide ((n:Int) < lo)=false:=decide_eq_false h1
 have e2:decide (hi < (n:Int))=false:=decide_eq_false h2
 rw [e1]
 refine lt 20 (.bool false) ?_
 simp only[put,sA,sB,sC]
 have c7:=U HC7
 refine list_want (d:=21) (v:=.pointer (some ⟨be,oe,none⟩)) rfl (by kernel_rfl) (by kernel_rfl) ?_
 simp only[put,sA,sB,sC]
 refine list_want (d:=22) (v:=.pointer (some ⟨be,oe,none⟩)) rfl (by kernel_rfl) (by kernel_rfl) ?_
 simp only[put,sA,sB,sC]
 refine list_want (d:=23) (v:=.pointer (some ⟨be,oe+7,none⟩)) rfl (by kernel_rfl) (by kernel_rfl) ?_
 simp only[put,sA,sB,sC]
 refine list_want (d:=24) (v:=.slice av n k) rfl (by kernel_rfl) (by go_simp) ?_
 simp only[put,sA,sB,sC]
 clear c7
 refine list_want (d:=25) (v:=.int .i64 (n:Int)) rfl (by kernel_rfl) (by kernel_rfl) ?_
 simp only[put,sA,sB,sC]
 refine list_want (d:=26) (v:=.int .i64 hi) rfl (by kernel_rfl) (by kernel_rfl) ?_
 simp only[put,sA,sB,sC]
 refine list_want (d:=27) (v:=.bool (decide (hi < (n:Int)))) rfl (by kernel_rfl) (by go_simp) ?_
 simp only[put,sA,sB,sC]
 rw [e2]
 refine lt 28 (.bool false) ?_
 simp only[put,sA,sB,sC]
 go_upto_region 4 with fail
 refine wp_region_list ?_
 have c0:=U HC0
 refine lt 31 (.pointer (some ⟨be,oe,none⟩)) ?_
 refine lt 32 (.pointer (some ⟨be,oe,none⟩)) ?_
 refine lt 33 (.pointer (some ⟨be,oe,none⟩)) ?_
 simp only[put,sA,sB,sC]
 refine list_to (d:=34) (v:=.int .i64 6) rfl rfl (by go_simp) ?_
 simp only[put,sA,sB,sC]
 clear c0
 as_aux_lemma=>
  go_upto_region 16 with fail
  refine wp_region_list ?_
  refine lt 80 (.pointer (some ⟨pg,0,none⟩)) ?_
  refine lt 81 (.pointer (some ⟨be,oe,none⟩)) ?_
  refine lt 82 (.pointer (some ⟨be,oe,none⟩)) ?_
  refine lt 83 (.pointer (some ⟨be,oe+7,none⟩)) ?_
  simp only[put,sA,sB,sC]
  have c7:=U HC7
  refine list_to (d:=84) (v:=.slice av n k) rfl rfl (by go_simp) ?_
  simp only[put,sA,sB,sC]
  clear c7
  refine list_call rfl (some 85) rfl 66 #[.pointer (some ⟨pg,0,none⟩),.slice av n k] (by kernel_rfl) (U HIN w0 (U HB)) ?_
  rintro e w5 ⟨rfl,hb⟩
  refine ⟨_,rfl,?_⟩
  simp only[put,sA,sB,sC]
  have HB:=V (trX (U HB) hb)
  have HV:=V ((U HV).below hb)
  clear hb
  refine lt 86 (.agg (gvC R.1).toArray) ?_
  refine lt 87 (errG R.2) ?_
  simp only[put,sA,sB,sC]
  refine wpList_store_mid rfl 26 (.tmp 4) (.tmp 86) rfl w.heap.size 0 (gvC R.1).toArray rfl rfl (U HV).there sizeV (all_oneCell_toArray (gvC_one _)) ?_
  show wpList _ _ _ _ _ (w5.setCells w.heap.size 0 (gvC R.1))
  refine lt 5 (errG R.2) ?_
  simp only[put,sA,sB,sC]
  go_wp2_with fail
  refine bodyPost_ret (((U HV).set R.1).result2 rfl _ rfl) rfl ?_
  rw [U HPP]
  exact ⟨rfl,below_setCells0 (U HB) (Nat.le_refl _) _⟩
theorem evN6 {row:List GV} {a:Nd} {L:List (GV × Int)} (hc:¬ ((L.length:Int) < (argK a.kind a.op).1 ∨ (argK a.kind a.op).2 < (L.length:Int))) (hk:a.kind=6):evN row a L=choiceG L:=by
 unfold evN;rw [if_neg hc,if_neg (by rw [hk];decide),if_neg (by rw [hk];decide),hk]
 rfl
end Go.Proofs.YtpnonhjmpnbmcaaGreatDoor
