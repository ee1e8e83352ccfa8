/- Typed expressions: the document's reckoning and the program's are the same. -/
import Derived.Test.YtpnonhjmpnbmcaaGreatDoorJXShortVRefTestXR6KMathXWt
import Derived.Test.YtpnonhjmpnbmcaaGreatDoorVRefDo
namespace Go.Proofs.YtpnonhjmpnbmcaaGreatDoor
open Go.RowKit Go.Lib
open Act (put)
set_option linter.unusedSimpArgs false
set_option linter.unusedVariables false
set_option maxHeartbeats 6400000
set_option maxRecDepth 20000
theorem tested_ok (n:Int):testedG n 0=(ofTruthG n,0):=if_pos rfl
theorem tested_err {c n:Int} (h:c ≠ 0) (h2:c=0 ∨ c=6 ∨ c=7):testedG n c=(nullG,c):=by
 rw [testedG,if_neg h]
 exact if_neg (by omega)
theorem logic_same {op:Int} {x y:GV × Int} (hl:op=17 ∨ op=18) (hx:GoodV x 1) (hy:GoodV y 1):rBi op x y=logicG op x y∧GoodV (rBi op x y) 1:=by
 have tx:=trE_same hx
 have ty:=trE_same hy
 unfold rBi logicG
 by_cases hc:x.2 ≠ 0
 · rw [if_pos hc,if_pos (.inl (by rw [tx.2 hc];exact hc)),tx.2 hc]
   exact ⟨(tested_err hc hx.2.2.2).symm,good_null _ hx.2.2.2⟩
 have hc0:x.2=0:=Decidable.not_not.1 hc
 rw [if_neg hc,tx.1 hc0]
 dsimp only
 have h01:(if op=18 then (1:Int) else 0)=rtG x.1 ↔ (op=17∧rtG x.1=0) ∨ (op=18∧rtG x.1=1):=by
  rcases hl with rfl | rfl
  · rw [if_neg (by decide)];constructor
    · intro h;exact .inl ⟨rfl,h.symm⟩
    · intro h;rcases h with h | h;exact h.2.symm;exact absurd h.1 (by decide)
  · rw [if_pos rfl];constructor
    · intro h;exact .inr ⟨rfl,h.symm⟩
    · intro h;rcases h with h | h;exact absurd h.1 (by decide);exact h.2.symm
 by_cases hs:(op=17∧rtG x.1=0) ∨ (op=18∧rtG x.1=1)
 · rw [if_pos hs,if_pos (.inr (h01.2 hs).symm),tested_ok]
   exact ⟨rfl,good_of (rtG_two _)⟩
 rw [if_neg hs,if_neg (show ¬ ((0:Int) ≠ 0 ∨ rtG x.1=if op=18 then 1 else 0) from fun h=>h.elim (fun h=>h rfl) (fun h=>hs (h01.1 h.symm)))]
 by_cases hd:y.2 ≠ 0
 · rw [if_pos hd,ty.2 hd]
   exact ⟨(tested_err hd hy.2.2.2).symm,good_null _ hy.2.2.2⟩
 have hd0:y.2=0:=Decidable.not_not.1 hd
 rw [if_neg hd,ty.1 hd0]
 dsimp only
 rw [tested_ok]
 rcases hl with rfl | rfl
 · rw [if_pos rfl,if_neg (by decide)]
   exact ⟨rfl,good_of (andG_two _ _)⟩
 · rw [if_neg (by decide),if_pos rfl,if_pos rfl]
   exact ⟨rfl,good_of (orG_two _ _)⟩
theorem bi_good {op tx ty:Int} {x y:GV × Int} (h5:5 ≤ op) (h18:op ≤ 18) (hx:GoodV x tx) (hy:GoodV y ty) (T:Int)
 (hc:op ≤ 10→(tx=0 ∨ tx=T)∧(ty=0 ∨ ty=T)) (hn:11 ≤ op→op ≤ 15→(tx=0 ∨ tx=2)∧(ty=0 ∨ ty=2)) (hj:op=16→(tx=0 ∨ tx=3)∧(ty=0 ∨ ty=3)) (hb:17 ≤ op→(tx=0 ∨ tx=1)∧(ty=0 ∨ ty=1)) :
 rBi op x y=binaryG op x y∧GoodV (rBi op x y) (if op ≤ 10 then 1 else if op ≤ 15 then 2 else if op=16 then 3 else 1):=by
 by_cases hl:op=17 ∨ op=18
 · have hb:=hb (by omega)
   have h:=logic_same hl (hx.to hb.1) (hy.to hb.2)
   rw [if_neg (by omega),if_neg (by omega),if_neg (by omega)]
   refine ⟨?_,h.2⟩
   unfold binaryG
   rw [if_pos hl]
   exact h.1
 · unfold rBi binaryG
   rw [if_neg hl]
   by_cases hcx:x.2 ≠ 0
   · rw [if_pos hcx,if_pos hcx]
     exact ⟨rfl,good_null _ hx.2.2.2⟩
   rw [if_neg hcx,if_neg hcx,if_neg (by omega)]
   by_cases hcy:y.2 ≠ 0
   · rw [if_pos hcy,if_pos hcy]
     exact ⟨rfl,good_null _ hy.2.2.2⟩
   rw [if_neg hcy,if_neg hcy,if_neg (by omega),if_neg (by omega)]
   by_cases h10:op ≤ 10
   · rw [if_pos h10,if_pos h10,if_pos ⟨h5,h10⟩]
     have hc:=hc h10
     have e:=test_same (op:=op) (T:=T) h5 h10 hx.1 hy.1 (hx.to hc.1).2.1 (hy.to hc.2).2.1
     rw [e,tested_ok]
     exact ⟨rfl,good_of (testG_two _ _ _)⟩
   rw [if_neg h10,if_neg h10,if_neg (by omega),if_pos (by omega)]
   by_cases h15:op ≤ 15
   · rw [if_pos h15]
     have hn:=hn (by omega) h15
     have hd:=do_good (op:=op) (x:=x.1) (y:=y.1) 2 (by unfold operG;rw [if_pos (.inr ⟨by omega,h15⟩)]) (by decide) hx.1 hy.1 (hx.to hn.1).2.1 (.inr (hy.to hn.2).2.1)
     exact ⟨(recG_same hd.2).symm,hd.1⟩
   · have e16:op=16:=by omega
     subst e16
     rw [if_neg h15,if_pos rfl]
     have hj:=hj rfl
     have hd:=do_good (op:=16) (x:=x.1) (y:=y.1) 3 rfl (by decide) hx.1 hy.1 (hx.to hj.1).2.1 (.inr (hy.to hj.2).2.1)
     exact ⟨(recG_same hd.2).symm,hd.1⟩
/-- IN, as the document has it. -/
def rAm (x:GV):Int→List (GV × Int)→GV × Int
 | t,[]=>(ofTruthG t,0)
 | t,y :: l=>if y.2 ≠ 0 then (nullG,y.2) else if (testG 5 x y.1).1=1 then (ofTruthG 1,0) else rAm x (orG t (testG 5 x y.1).1) l
theorem am_good {x:GV} {T:Int} (hx:x.may=true) (hk:x.kind=0 ∨ x.kind=T):∀ (l:List (GV × Int)) (t:Int),(t=0 ∨ t=2)→(∀ y ∈ l,GoodV y T)→rAm x t l=amongG x t l∧GoodV (rAm x t l) 1
 | [],t,ht,_=>⟨rfl,good_of (by omega)⟩
 | y :: l,t,ht,h=>by
  have hy:=h y (List.mem_cons_self ..)
  rw [rAm,amongG,if_neg (show ¬ t=1 by omega)]
  by_cases hc:y.2 ≠ 0
  · rw [if_pos hc,if_pos hc]
    exact ⟨rfl,good_null _ hy.2.2.2⟩
  rw [if_neg hc,if_neg hc,if_neg (show ¬ (testG 5 x y.1).2 ≠ 0 from fun h=>h (test_same (T:=T) (by decide) (by decide) hx hy.1 hk hy.2.1))]
  by_cases h1:(testG 5 x y.1).1=1
  · rw [if_pos h1,h1]
    have e:orG t 1=1:=by rcases ht with rfl | rfl <;> rfl
    rw [e,amongG_one]
    exact ⟨rfl,good_of (by decide)⟩
  rw [if_neg h1]
  refine am_good hx hk l _ ?_ (fun z hz=>h z (List.mem_cons_of_mem _ hz))
  have h2:=testG_two 5 x y.1
  have h3:(testG 5 x y.1).1=0 ∨ (testG 5 x y.1).1=2:=by omega
  rcases h3 with h3 | h3 <;> rcases ht with rfl | rfl <;> (rw [h3];first | exact .inl rfl | exact .inr rfl)
/-- CASE, as the document has it. -/
def rCh:List (GV × Int)→GV × Int
 | []=>(nullG,0)
 | [v]=>v
 | c :: v :: l=>if c.2 ≠ 0 then (nullG,c.2) else if rtG c.1=1 then v else rCh l
theorem ch_good (g:Ex→GV × Int) (T:Int):∀ l:List Ex,(∀ x ∈ l,GoodV (g x) x.1.ty)→(∀ c ∈ (pairsL l).1,c.1.ty=0 ∨ c.1.ty=1)→(∀ v ∈ (pairsL l).2,v.1.ty=0 ∨ v.1.ty=T)→rCh (l.map g)=choiceG (l.map g)∧GoodV (rCh (l.map g)) T
 | [],_,_,_=>⟨rfl,good_null _ (.inl rfl)⟩
 | [v],h,_,hv=>⟨rfl,(h v (List.mem_cons_self ..)).to (hv v (List.mem_cons_self ..))⟩
 | c :: v :: l,h,hc,hv=>by
  have h1:=(h c (List.mem_cons_self ..)).to (hc c (List.mem_cons_self ..))
  have h2:=(h v (List.mem_cons_of_mem _ (List.mem_cons_self ..))).to (hv v (List.mem_cons_self ..))
  have ih:=ch_good g T l (fun x hx=>h x (List.mem_cons_of_mem _ (List.mem_cons_of_mem _ hx))) (fun x hx=>hc x (List.mem_cons_of_mem _ hx)) (fun x hx=>hv x (List.mem_cons_of_mem _ hx))
  have t:=trE_same h1
  rw [List.map_cons,List.map_cons,rCh,choiceG]
  by_cases he:(g c).2 ≠ 0
  · rw [if_pos he,t.2 he,if_pos he]
    exact ⟨rfl,good_null _ h1.2.2.2⟩
  · rw [if_neg he,t.1 (Decidable.not_not.1 he)]
    dsimp only
    rw [if_neg (show ¬ (0:Int) ≠ 0 from fun h=>h rfl)]
    by_cases h3:rtG (g c).1=1
    · rw [if_pos h3,if_pos h3]
      exact ⟨rfl,h2⟩
    · rw [if_neg h3,if_neg h3]
      exact ih
theorem one_all:∀ (l:List Ex) (t T:Int),oneL t l=(T,true)→(t=0 ∨ t=T)∧∀ x ∈ l,x.1.ty=0 ∨ x.1.ty=T
 | [],t,T,h=>by
  injection h with h1 h2
  exact ⟨.inr h1,fun x hx=>by cases hx⟩
 | x :: l,t,T,h=>by
  rw [oneL] at h
  by_cases hf:fitB x.1.ty t=true
  · rw [if_pos hf] at h
    obtain ⟨h1,h2⟩:=one_all l _ T h
    by_cases ht:t=0
    · rw [if_pos ht] at h1
      refine ⟨.inl ht,fun y hy=>?_⟩
      rcases List.mem_cons.1 hy with rfl | hy
      · exact h1
      · exact h2 y hy
    · rw [if_neg ht] at h1
      have e:t=T:=h1.resolve_left ht
      refine ⟨.inr e,fun y hy=>?_⟩
      rcases List.mem_cons.1 hy with rfl | hy
      · rw [← e];exact fitB_or hf ht
      · exact h2 y hy
  · rw [if_neg hf] at h
    injection h with h1 h2
    cases h2
theorem all_or {s:Int} (hs:s ≠ 0) {l:List Ex} (h:allB s l=true):∀ x ∈ l,x.1.ty=0 ∨ x.1.ty=s:=fun x hx=>fitB_or (List.all_eq_true.1 h x hx) hs
/-- A row of the statements' columns. -/
def RowTy (row:List GV):Prop:=row.length=5∧∀ (i:Nat) (c:CT),fiveC[i]?=some c→∃ g:GV,row[i]?=some g∧g.may=true∧(g.kind=0 ∨ g.kind=c.ty)
/-- A node, its arguments reckoned, as the document has it. -/
def rvN (row:List GV) (a:Nd) (L:List (GV × Int)):GV × Int:=
 if a.kind=1 then (gvN a,0)
 else if a.kind=2 then ((row[a.at'.toNat]?).getD nullG,0)
 else match a.kind,L with
  | 3,[x]=>rUn a.op x
  | 4,[x,y]=>rBi a.op x y
  | 5,x :: l=>if x.2 ≠ 0 ∨ x.1.kind=0 then (nullG,x.2) else rAm x.1 0 l
  | 6,L=>rCh L
  | _,_=>(nullG,0)
def rvL (row:List GV):Fo→List (GV × Int)
 | .nil=>[]
 | .node _ _ a kids rest=>rvN row a (rvL row kids) :: rvL row rest
def rvE (row:List GV) (E:Ex):GV × Int:=rvN row E.1 (rvL row E.2)
theorem evL_map (row:List GV):∀ F:Fo,evL row F=(toL F).map (evE row)
 | .nil=>rfl
 | .node _ _ a kids rest=>by
  rw [evL,evL_map row rest]
  rfl
/-- A resolved expression: what its nodes are. -/
def ndT (a:Nd) (G:Fo):Prop:=
 (a.kind=1∧G=.nil∧(gvN a).may=true∧a.ty=a.vk) ∨
 (a.kind=2∧G=.nil∧∃ c,0 ≤ a.at'∧fiveC[a.at'.toNat]?=some c∧a.ty=c.ty) ∨
 (a.kind=3∧1 ≤ a.op∧a.op ≤ 4∧cnt G=1∧(tyK (a,G)).1=true∧a.ty=(tyK (a,G)).2) ∨
 (a.kind=4∧5 ≤ a.op∧a.op ≤ 18∧cnt G=2∧(tyK (a,G)).1=true∧a.ty=(tyK (a,G)).2) ∨
 (a.kind=5∧2 ≤ cnt G∧cnt G ≤ 11∧(tyK (a,G)).1=true∧a.ty=(tyK (a,G)).2) ∨
 (a.kind=6∧2 ≤ cnt G∧cnt G ≤ 21∧(tyK (a,G)).1=true∧a.ty=(tyK (a,G)).2)
def foT:Fo→Prop
 | .nil=>True
 | .node _ _ a kids rest=>(ndT a kids∧foT kids)∧foT rest
def exT (E:Ex):Prop:=ndT E.1 E.2∧foT E.2
theorem colOf_ok {tab nam:List UInt8} {p:Nat × Int} (h:colOf tab nam=.ok p):∃ c,fiveC[p.1]?=some c∧p.2=c.ty:=by
 unfold colOf at h
 repeat' split at h
 all_goals first
  | (cases h;done)
  | (injection h with h;subst h;exact ⟨_,rfl,rfl⟩)
theorem ndR_ok {a:Nd} {kids:Fo} {K:Except Int Fo} {x:Ex} (h:ndR a kids K=.ok x) (hi:isNd a (cnt kids)=true) (hK:∀ G,K=.ok G→foT G∧cnt G=cnt kids) (ha:ndOk a) (hok:∀ G,K=.ok G→foOk G) :
 exT x∧exOk x∧(a.kind ≠ 7→simK x.1.kind=true)∧a.kind ≠ 7:=by
 unfold isNd at hi
 rw [Bool.and_eq_true] at hi
 have hi2:=hi.2
 unfold ndR at h
 by_cases h1:a.kind=1
 · rw [if_pos h1] at h hi2
   injection h with h
   subst h
   simp only[Bool.and_eq_true,beq_iff_eq] at hi2
   have hn:kids=.nil:=by
    cases kids with
    | nil=>rfl
    | node _ _ _ _ _=>exact absurd hi2.2.1 (Nat.succ_ne_zero _)
   subst hn
   refine ⟨⟨.inl ⟨h1,rfl,hi2.2.2,rfl⟩,trivial⟩,⟨ha,trivial⟩,fun _=>?_,by omega⟩
   show simK a.kind=true
   rw [h1];rfl
 rw [if_neg h1] at h hi2
 by_cases h2:a.kind=2
 · rw [if_pos h2] at h hi2
   simp only[Bool.and_eq_true,beq_iff_eq] at hi2
   have hn:kids=.nil:=by
    cases kids with
    | nil=>rfl
    | node _ _ _ _ _=>exact absurd hi2.2.1 (Nat.succ_ne_zero _)
   subst hn
   cases hc:colOf a.tab a.nam with
   | error c=>rw [hc] at h;cases h
   | ok p=>
    rw [hc] at h
    injection h with h
    subst h
    obtain ⟨c,hc1,hc2⟩:=colOf_ok hc
    refine ⟨⟨.inr (.inl ⟨h2,rfl,c,Int.natCast_nonneg _,by show fiveC[((p.1:Int)).toNat]?=_;rw [Int.toNat_natCast];exact hc1,hc2⟩),trivial⟩,⟨ha,trivial⟩,fun _=>?_,by omega⟩
    show simK a.kind=true
    rw [h2];rfl
 rw [if_neg h2] at h hi2
 by_cases h7:a.kind=7
 · rw [if_pos h7] at h
   cases h
 rw [if_neg h7] at h
 cases hG:K with
 | error c=>rw [hG] at h;cases h
 | ok G=>
  rw [hG] at h
  obtain ⟨hT,hcn⟩:=hK G hG
  have hO:=hok G hG
  have h:typedS (a,G)=.ok x:=h
  unfold typedS at h
  by_cases ht:(tyK (a,G)).1=true
  · rw [if_pos ht] at h
    injection h with h
    subst h
    rw [← hcn] at hi2
    have e:∀ t,tyK ({ a with ty:=t },G)=tyK (a,G):=fun _=>rfl
    by_cases h3:a.kind=3
    · rw [if_pos h3] at hi2
      simp only[Bool.and_eq_true,beq_iff_eq,decide_eq_true_eq] at hi2
      refine ⟨⟨.inr (.inr (.inl ⟨h3,hi2.1,hi2.2.1,hi2.2.2,ht,rfl⟩)),hT⟩,⟨ha,hO⟩,fun _=>?_,h7⟩
      show simK a.kind=true
      rw [h3];rfl
    rw [if_neg h3] at hi2
    by_cases h4:a.kind=4
    · rw [if_pos h4] at hi2
      simp only[Bool.and_eq_true,beq_iff_eq,decide_eq_true_eq] at hi2
      refine ⟨⟨.inr (.inr (.inr (.inl ⟨h4,hi2.1,hi2.2.1,hi2.2.2,ht,rfl⟩))),hT⟩,⟨ha,hO⟩,fun _=>?_,h7⟩
      show simK a.kind=true
      rw [h4];rfl
    rw [if_neg h4] at hi2
    by_cases h5:a.kind=5
    · rw [if_pos h5] at hi2
      simp only[Bool.and_eq_true,beq_iff_eq,decide_eq_true_eq] at hi2
      refine ⟨⟨.inr (.inr (.inr (.inr (.inl ⟨h5,hi2.2.1,hi2.2.2,ht,rfl⟩)))),hT⟩,⟨ha,hO⟩,fun _=>?_,h7⟩
      show simK a.kind=true
      rw [h5];rfl
    rw [if_neg h5] at hi2
    by_cases h6:a.kind=6
    · rw [if_pos h6] at hi2
      simp only[Bool.and_eq_true,beq_iff_eq,decide_eq_true_eq] at hi2
      refine ⟨⟨.inr (.inr (.inr (.inr (.inr ⟨h6,hi2.2.1,hi2.2.2,ht,rfl⟩)))),hT⟩,⟨ha,hO⟩,fun _=>?_,h7⟩
      show simK a.kind=true
      rw [h6];rfl
    rw [if_neg h6,if_neg h7] at hi2
    cases hi2
  · rw [if_neg ht] at h
    cases h
theorem resF_ok:∀ (F G:Fo),isF F=true→foOk F→resF F=.ok G→foT G∧cnt G=cnt F∧foOk G∧simF G=true
 | .nil,G,_,_,h=>by
  injection h with h
  subst h
  exact ⟨trivial,rfl,trivial,rfl⟩
 | .node _ _ a kids rest,G,hi,ho,h=>by
  simp only[isF,Bool.and_eq_true] at hi
  obtain ⟨⟨ha,hk⟩,hr⟩:=ho
  rw [resF] at h
  cases h1:ndR a kids (resF kids) with
  | error c=>rw [h1] at h;cases h
  | ok x=>
   rw [h1] at h
   dsimp only at h
   have hx:=ndR_ok h1 hi.1.2 (fun G hG=>⟨(resF_ok kids G hi.1.1 hk hG).1,(resF_ok kids G hi.1.1 hk hG).2.1⟩) ha (fun G hG=>(resF_ok kids G hi.1.1 hk hG).2.2.1)
   have hsx:simE x=true:=by
    unfold simE
    rw [hx.2.2.1 hx.2.2.2,Bool.true_and]
    unfold ndR at h1
    split at h1
    · injection h1 with h1
      subst h1
      have hn:=hi.1.2
      rename_i hk1
      unfold isNd at hn
      rw [if_pos hk1] at hn
      simp only[Bool.and_eq_true,beq_iff_eq] at hn
      cases kids with
      | nil=>rfl
      | node _ _ _ _ _=>exact absurd hn.2.2.1 (Nat.succ_ne_zero _)
    · split at h1
      · rename_i hk1 hk2
        have hn:=hi.1.2
        unfold isNd at hn
        rw [if_neg hk1,if_pos hk2] at hn
        simp only[Bool.and_eq_true,beq_iff_eq] at hn
        have hkn:kids=.nil:=by
         cases kids with
         | nil=>rfl
         | node _ _ _ _ _=>exact absurd hn.2.2.1 (Nat.succ_ne_zero _)
        subst hkn
        split at h1
        · cases h1
        · injection h1 with h1
          subst h1
          rfl
      · split at h1
        · cases h1
        · cases hG:resF kids with
          | error c=>rw [hG] at h1;cases h1
          | ok K=>
           rw [hG] at h1
           have h1:typedS (a,K)=.ok x:=h1
           unfold typedS at h1
           split at h1
           · injection h1 with h1
             subst h1
             exact (resF_ok kids K hi.1.1 hk hG).2.2.2
           · cases h1
   cases h2:resF rest with
   | error c=>rw [h2] at h;cases h
   | ok R=>
    rw [h2] at h
    injection h with h
    subst h
    obtain ⟨r1,r2,r3,r4⟩:=resF_ok rest R hi.2 hr h2
    refine ⟨⟨hx.1,r1⟩,?_,⟨hx.2.1,r3⟩,?_⟩
    · show cnt R+1=cnt rest+1
      rw [r2]
    · show ((simK x.1.kind && simF x.2) && simF R)=true
      unfold simE at hsx
      rw [hsx,r4]
      rfl
theorem len_map {row:List GV} {G:Fo}:(evL row G).length=cnt G:=evL_len row G
theorem cnt_len:∀ G:Fo,(toL G).length=cnt G
 | .nil=>rfl
 | .node _ _ a kids rest=>by
  show (toL rest).length+1=cnt rest+1
  rw [cnt_len rest]
theorem one_of {l:List Ex} (h:l.length=1):∃ x,l=[x]:=by
 match l,h with
 | [x],_=>exact ⟨x,rfl⟩
theorem two_of {l:List Ex} (h:l.length=2):∃ x y,l=[x,y]:=by
 match l,h with
 | [x,y],_=>exact ⟨x,y,rfl⟩
theorem tyK3 {a:Nd} {G:Fo} (h:a.kind=3):tyK (a,G)=if a.op=1 then (allB 2 (toL G),2) else if a.op=2 then (allB 1 (toL G),1) else (true,1):=if_pos h
theorem tyK4 {a:Nd} {G:Fo} (h:a.kind=4):tyK (a,G)=if a.op ≤ 10 then ((oneL 0 (toL G)).2,1) else if a.op ≤ 15 then (allB 2 (toL G),2) else if a.op=16 then (allB 3 (toL G),3) else (allB 1 (toL G),1):=
 (if_neg (show ¬ a.kind=3 by omega)).trans (if_pos h)
theorem tyK5 {a:Nd} {G:Fo} (h:a.kind=5):tyK (a,G)=((oneL 0 (toL G)).2,1):=
 (if_neg (show ¬ a.kind=3 by omega)).trans ((if_neg (show ¬ a.kind=4 by omega)).trans (if_pos h))
theorem tyK6 {a:Nd} {G:Fo} (h:a.kind=6):tyK (a,G)=((oneL 0 (pairsL (toL G)).2).2 && allB 1 (pairsL (toL G)).1,(oneL 0 (pairsL (toL G)).2).1):=
 (if_neg (show ¬ a.kind=3 by omega)).trans ((if_neg (show ¬ a.kind=4 by omega)).trans ((if_neg (show ¬ a.kind=5 by omega)).trans (if_pos h)))
theorem nd_good {row:List GV} (hrow:RowTy row) {a:Nd} {G:Fo} (h:ndT a G) (hg:∀ x ∈ toL G,GoodV (evE row x) x.1.ty) (hrv:rvL row G=evL row G) :
 rvN row a (rvL row G)=evN row a (evL row G)∧GoodV (evN row a (evL row G)) a.ty:=by
 have hl:(evL row G).length=(toL G).length:=by rw [len_map,cnt_len]
 have hc:=cnt_len G
 rw [hrv]
 rcases h with ⟨h1,hn,hm,ht⟩ | ⟨h2,hn,c,h0,hc5,ht⟩ | ⟨h3,ho1,ho4,hk,hf,ht⟩ | ⟨h4,ho5,ho18,hk,hf,ht⟩ | ⟨h5,hk2,hk11,hf,ht⟩ | ⟨h6,hk2,hk21,hf,ht⟩
 · subst hn
   have e:evN row a (evL row .nil)=(gvN a,0):=by
    rw [evN1 (by rw [h1];show ¬ ((0:Int) < 0 ∨ (0:Int) < 0);omega) h1]
    exact if_pos hm
   rw [e]
   refine ⟨if_pos h1,hm,.inr ht.symm,fun h=>absurd rfl h,.inl rfl⟩
 · subst hn
   obtain ⟨g,hg1,hg2,hg3⟩:=hrow.2 _ _ hc5
   have e:evN row a (evL row .nil)=(g,0):=by
    rw [evN2 (by rw [h2];show ¬ ((0:Int) < 0 ∨ (0:Int) < 0);omega) h2]
    unfold colG
    rw [hg1]
    show (if a.at' < 0 then _ else soundE g)=_
    rw [if_neg (by omega)]
    exact if_pos hg2
   rw [e]
   refine ⟨?_,hg2,by rw [ht];exact hg3,fun h=>absurd rfl h,.inl rfl⟩
   unfold rvN
   rw [if_neg (by omega),if_pos h2,hg1]
   rfl
 · obtain ⟨x,hx⟩:=one_of (hc.trans hk)
   rw [evL_map,hx]
   have hgx:=hg x (by rw [hx];exact List.mem_cons_self ..)
   rw [tyK3 h3] at hf ht
   show rvN row a [evE row x]=evN row a [evE row x]∧GoodV (evN row a [evE row x]) a.ty
   rw [evN3 (by rw [h3];show ¬ ((1:Int) < 1 ∨ (1:Int) < 1);omega) h3]
   have e:rvN row a [evE row x]=rUn a.op (evE row x):=by
    unfold rvN
    rw [if_neg (by omega),if_neg (by omega),h3]
    rfl
   rw [e]
   have hu:=un_good ho1 ho4 hgx (fun e1=>?_) (fun e2=>?_)
   · refine ⟨hu.1,?_⟩
     rw [← hu.1]
     have et:a.ty=if a.op=1 then 2 else 1:=by
      rw [ht]
      by_cases e1:a.op=1
      · rw [if_pos e1,if_pos e1]
      · rw [if_neg e1,if_neg e1]
        split <;> rfl
     rw [et]
     exact hu.2
   · rw [if_pos e1] at hf
     exact all_or (by decide) hf x (by rw [hx];exact List.mem_cons_self ..)
   · rw [if_neg (by omega),if_pos e2] at hf
     exact all_or (by decide) hf x (by rw [hx];exact List.mem_cons_self ..)
 · obtain ⟨x,y,hx⟩:=two_of (hc.trans hk)
   have mx:x ∈ toL G:=by rw [hx];exact List.mem_cons_self ..
   have my:y ∈ toL G:=by rw [hx];exact List.mem_cons_of_mem _ (List.mem_cons_self ..)
   rw [evL_map,hx]
   have hgx:=hg x mx
   have hgy:=hg y my
   rw [tyK4 h4] at hf ht
   show rvN row a [evE row x,evE row y]=evN row a [evE row x,evE row y]∧GoodV (evN row a [evE row x,evE row y]) a.ty
   rw [evN4 (by rw [h4];show ¬ ((2:Int) < 2 ∨ (2:Int) < 2);omega) h4]
   have e:rvN row a [evE row x,evE row y]=rBi a.op (evE row x) (evE row y):=by
    unfold rvN
    rw [if_neg (by omega),if_neg (by omega),h4]
    rfl
   rw [e]
   have hb:=bi_good (op:=a.op) ho5 ho18 hgx hgy (oneL 0 (toL G)).1 (fun h10=>?_) (fun h11 h15=>?_) (fun h16=>?_) (fun h17=>?_)
   · refine ⟨hb.1,?_⟩
     rw [← hb.1]
     have et:a.ty=if a.op ≤ 10 then 1 else if a.op ≤ 15 then 2 else if a.op=16 then 3 else 1:=by
      rw [ht]
      by_cases e1:a.op ≤ 10
      · rw [if_pos e1,if_pos e1]
      · rw [if_neg e1,if_neg e1]
        by_cases e2:a.op ≤ 15
        · rw [if_pos e2,if_pos e2]
        · rw [if_neg e2,if_neg e2]
          by_cases e3:a.op=16
          · rw [if_pos e3,if_pos e3]
          · rw [if_neg e3,if_neg e3]
     rw [et]
     exact hb.2
   · rw [if_pos h10] at hf
     have h:=(one_all (toL G) 0 (oneL 0 (toL G)).1 (Prod.ext rfl hf)).2
     exact ⟨h x mx,h y my⟩
   · rw [if_neg (by omega),if_pos h15] at hf
     exact ⟨all_or (by decide) hf x mx,all_or (by decide) hf y my⟩
   · rw [if_neg (by omega),if_neg (by omega),if_pos h16] at hf
     exact ⟨all_or (by decide) hf x mx,all_or (by decide) hf y my⟩
   · rw [if_neg (by omega),if_neg (by omega),if_neg (by omega)] at hf
     exact ⟨all_or (by decide) hf x mx,all_or (by decide) hf y my⟩
 · rw [tyK5 h5] at hf ht
   dsimp only at hf ht
   have hone:=(one_all (toL G) 0 (oneL 0 (toL G)).1 (Prod.ext rfl hf)).2
   rw [ht]
   obtain ⟨x,l,hx⟩:∃ x l,toL G=x :: l:=by
    match hh:toL G,hc with
    | [],h=>exact absurd h (by rw [hh] at hc;simp at hc;omega)
    | x :: l,_=>exact ⟨x,l,rfl⟩
   have hlen:l.length+1=cnt G:=by rw [← hc,hx];rfl
   rw [hx] at hone hg
   rw [evL_map,hx]
   show rvN row a (evE row x :: l.map (evE row))=evN row a (evE row x :: l.map (evE row))∧GoodV (evN row a (evE row x :: l.map (evE row))) 1
   have hgx:=(hg x (List.mem_cons_self ..)).to (hone x (List.mem_cons_self ..))
   have hgl:∀ r ∈ l.map (evE row),GoodV r (oneL 0 (x :: l)).1:=fun r hr=>by
    obtain ⟨y,hy,rfl⟩:=List.mem_map.1 hr
    exact (hg y (List.mem_cons_of_mem _ hy)).to (hone y (List.mem_cons_of_mem _ hy))
   rw [evN5 (by rw [h5];show ¬ (((evE row x :: l.map (evE row)).length:Int) < 2 ∨ (11:Int) < ((evE row x :: l.map (evE row)).length:Int));rw [List.length_cons,List.length_map];omega) h5]
   have e:rvN row a (evE row x :: l.map (evE row))=if (evE row x).2 ≠ 0 ∨ (evE row x).1.kind=0 then (nullG,(evE row x).2) else rAm (evE row x).1 0 (l.map (evE row)):=by
    unfold rvN
    rw [if_neg (by omega),if_neg (by omega),h5]
    rfl
   rw [e]
   unfold amongR
   by_cases hn:(evE row x).2 ≠ 0 ∨ (evE row x).1.kind=0
   · rw [if_pos hn,if_pos hn]
     exact ⟨rfl,good_null _ hgx.2.2.2⟩
   · rw [if_neg hn,if_neg hn]
     have ha:=am_good hgx.1 hgx.2.1 (l.map (evE row)) 0 (.inl rfl) hgl
     exact ⟨ha.1,by rw [← ha.1];exact ha.2⟩
 · rw [tyK6 h6] at hf ht
   dsimp only at hf ht
   rw [Bool.and_eq_true] at hf
   have hone:=(one_all (pairsL (toL G)).2 0 (oneL 0 (pairsL (toL G)).2).1 (Prod.ext rfl hf.1)).2
   have hch:=ch_good (evE row) _ (toL G) hg (all_or (by decide) hf.2) hone
   rw [evN6 (by rw [h6,len_map];show ¬ ((cnt G:Int) < 2 ∨ (21:Int) < (cnt G:Int));omega) h6]
   have e:rvN row a (evL row G)=rCh (evL row G):=by
    unfold rvN
    rw [if_neg (by omega),if_neg (by omega),h6]
    rfl
   rw [e,evL_map,ht]
   exact ⟨hch.1,by rw [← hch.1];exact hch.2⟩
theorem fo_good {row:List GV} (hrow:RowTy row):∀ F:Fo,foT F→(∀ x ∈ toL F,GoodV (evE row x) x.1.ty)∧rvL row F=evL row F
 | .nil,_=>⟨fun x hx=>(by cases hx),rfl⟩
 | .node _ _ a kids rest,h=>by
  obtain ⟨k1,k2⟩:=fo_good hrow kids h.1.2
  obtain ⟨r1,r2⟩:=fo_good hrow rest h.2
  have hn:=nd_good hrow h.1.1 k1 k2
  refine ⟨fun x hx=>?_,?_⟩
  · have hx:x ∈ (a,kids) :: toL rest:=hx
    rcases List.mem_cons.1 hx with rfl | hx
    · exact hn.2
    · exact r1 x hx
  · rw [rvL,evL,r2,hn.1]
/-- The document's value of a resolved expression is the program's, of its type, and it may be. -/
theorem ex_good {row:List GV} (hrow:RowTy row) {E:Ex} (h:exT E):rvE row E=evE row E∧GoodV (evE row E) E.1.ty:=by
 obtain ⟨k1,k2⟩:=fo_good hrow E.2 h.2
 exact nd_good hrow h.1 k1 k2
theorem res_ok {E X:Ex} (h:resE E=.ok X) (hi:isE E=true) (ho:exOk E):exT X∧exOk X∧simE X=true:=by
 obtain ⟨a,kids⟩:=E
 have h2:resF (.node 0 0 a kids .nil)=.ok (Fo.cons X.1 X.2 .nil):=by
  show (match resE (a,kids) with | .error c=>(.error c:Except Int Fo) | .ok x=>_)=_
  rw [h]
  rfl
 have hi2:isF (.node 0 0 a kids .nil)=true:=by
  show (_ && true)=true
  rw [Bool.and_true]
  exact hi
 have hr:=resF_ok _ _ hi2 ⟨ho,trivial⟩ h2
 refine ⟨hr.1.1,hr.2.2.1.1,?_⟩
 have:=hr.2.2.2
 simp only[simF,Bool.and_eq_true] at this
 unfold simE
 rw [Bool.and_eq_true]
 exact this.1
/-- What the document's eval tells: a value, a class. -/
def RvP (w:World) (r:GV × Int) (e:Ending) (w':World):Prop:=e=.returned (.tuple #[r.1.agg,.int .i64 r.2])∧Below w.heap.size w w'
theorem reval_k1 (w:World) (n:Nd) (M:List Value) (av:Option Addr) (c k:Nat) (hM:M=ndC n (.slice av c k)) (ra:Option Addr) (rn rk:Nat) (R:GV × Int) (hk:n.kind=1) (hR:R=(gvN n,0)):Calls Tryz.prog 25 #[.agg M.toArray,.slice ra rn rk,.slice none 0 0,.bool false] w (RvP w R):=by
 as_aux_lemma=>
  have hlM:M.length=10:=by rw [hM];rfl
  obtain ⟨w1,hw1⟩:∃ w1,w1=w.alloc (.cells M.toArray 29):=⟨_,rfl⟩
  have HW1:=V hw1
  have hv1:VrX w1 w.heap.size M:=by rw [hw1];exact VrX.new w hlM
  have hb1:Below w.heap.size w w1:=by rw [hw1];exact alX (Below.refl _ _) _
  have HZ1:Hid (w1.heap.size=w.heap.size+1):=by show w1.heap.size=w.heap.size+1;rw [hw1];simp
  have HVA:=V hv1
  have HB1:=V hb1
  obtain ⟨PP,hPP⟩:∃ PP,PP=RvP w R:=⟨_,rfl⟩
  have HPP:=V hPP
  rw [← hPP]
  clear hPP hv1 hb1 hw1
  have HM:=V hM
  clear hM
  go_enter Tryz.func25,Tryz.ntmps25
  go_upto_region 1 with fail
  rw [← U HW1]
  obtain ⟨w0,hw0⟩:∃ w0,w0=w1.alloc (.cells (gvC nullG).toArray 26):=⟨_,rfl⟩
  have hb0:Below w1.heap.size w1 w0:=by rw [hw0];exact alX (Below.refl _ _) _
  have HV:=V (show VV w0 (w.heap.size+1) nullG by rw [← U HZ1,hw0];exact VV.new w1 nullG)
  have HB:=V (trX (U HB1) hb0)
  have HVA:=V ((U HVA).below hb0)
  rw [show (gvC nullG).toArray=#[.int .i64 0,.int .i64 0,.string ⟨#[]⟩] from rfl] at hw0
  rw [← hw0]
  clear hw0 hb0 HB1 HZ1 HW1
  have HVN:Hid (VrX w0 w.heap.size (ndC n (.slice av c k))):=by
   have h:=U HVA
   rwa [U HM] at h
  have c0:w0.cell? ⟨w.heap.size,0,none⟩=some (.int .i64 n.kind):=cellX (U HVN).1 0
  rw [hk] at c0
  have HC1:Hid (w0.cell? ⟨w.heap.size,1,none⟩=some (.int .i64 n.op)):=cellX (U HVN).1 1
  have HC7:Hid (w0.cell? ⟨w.heap.size,7,none⟩=some (.slice av c k)):=cellX (U HVN).1 7
  have HC8:Hid (w0.cell? ⟨w.heap.size,8,none⟩=some (.int .i64 n.at')):=cellX (U HVN).1 8
  have HR:Hid (R=(gvN n,0)):=V hR
  have HRG:Hid (w0.rangeAt w.heap.size 2 (gvC (gvN n))):=range_val (U HVN).range
  clear hR
  go_upto_region 3 with fail
  refine wp_region_list ?_
  refine lt 32 (.pointer (some ⟨w.heap.size,2,none⟩)) ?_
  simp only[put,sA,sB,sC]
  refine wpList_load_mid rfl 26 (.tmp 32) rfl w.heap.size 2 rfl (gvC (gvN n)) _ (U HRG) Tryz.underlying26 rfl sizeV ?_
  simp only[put,sA,sB,sC]
  refine wpList_store_mid rfl 26 (.tmp 8) (.tmp 33) rfl (w.heap.size+1) 0 (gvC (gvN n)).toArray rfl rfl (U HV).there sizeV (all_oneCell_toArray (gvC_one _)) ?_
  show wpList _ _ _ _ _ (w0.setCells (w.heap.size+1) 0 (gvC (gvN n)))
  refine lt 9 (.int .i64 0) ?_
  simp only[put,sA,sB,sC]
  go_wp2_with fail
  refine bodyPost_ret (((U HV).set (gvN n)).result2 rfl _ rfl) rfl ?_
  rw [U HPP,U HR]
  exact ⟨rfl,below_setCells0 (U HB) (Nat.le_succ _) _⟩
theorem reval_k2 (w:World) (n:Nd) (M:List Value) (av:Option Addr) (c k:Nat) (hM:M=ndC n (.slice av c k)) (rb ro:Nat) (rn rk:Nat) (R:GV × Int) (hk:n.kind=2) (i:Nat) (hat:n.at'=(i:Int)) (hi:i < rn) (hrn:rn ≤ 1000) (hrk:rn ≤ rk) (hrkm:rk ≤ maxLen) (g:GV) (hg:w.rangeAt rb (ro+3 * i) (gvC g)) (hR:R=(g,0)):Calls Tryz.prog 25 #[.agg M.toArray,.slice (some ⟨rb,ro,none⟩) rn rk,.slice none 0 0,.bool false] w (RvP w R):=by
 as_aux_lemma=>
  have hlM:M.length=10:=by rw [hM];rfl
  obtain ⟨w1,hw1⟩:∃ w1,w1=w.alloc (.cells M.toArray 29):=⟨_,rfl⟩
  have HW1:=V hw1
  have hv1:VrX w1 w.heap.size M:=by rw [hw1];exact VrX.new w hlM
  have hb1:Below w.heap.size w w1:=by rw [hw1];exact alX (Below.refl _ _) _
  have HZ1:Hid (w1.heap.size=w.heap.size+1):=by show w1.heap.size=w.heap.size+1;rw [hw1];simp
  have HVA:=V hv1
  have HB1:=V hb1
  obtain ⟨PP,hPP⟩:∃ PP,PP=RvP w R:=⟨_,rfl⟩
  have HPP:=V hPP
  rw [← hPP]
  clear hPP hv1 hb1 hw1
  have HM:=V hM
  clear hM
  go_enter Tryz.func25,Tryz.ntmps25
  go_upto_region 1 with fail
  rw [← U HW1]
  obtain ⟨w0,hw0⟩:∃ w0,w0=w1.alloc (.cells (gvC nullG).toArray 26):=⟨_,rfl⟩
  have hb0:Below w1.heap.size w1 w0:=by rw [hw0];exact alX (Below.refl _ _) _
  have HV:=V (show VV w0 (w.heap.size+1) nullG by rw [← U HZ1,hw0];exact VV.new w1 nullG)
  have HB:=V (trX (U HB1) hb0)
  have HVA:=V ((U HVA).below hb0)
  rw [show (gvC nullG).toArray=#[.int .i64 0,.int .i64 0,.string ⟨#[]⟩] from rfl] at hw0
  rw [← hw0]
  clear hw0 hb0 HB1 HZ1 HW1
  have HVN:Hid (VrX w0 w.heap.size (ndC n (.slice av c k))):=by
   have h:=U HVA
   rwa [U HM] at h
  have c0:w0.cell? ⟨w.heap.size,0,none⟩=some (.int .i64 n.kind):=cellX (U HVN).1 0
  rw [hk] at c0
  have HC1:Hid (w0.cell? ⟨w.heap.size,1,none⟩=some (.int .i64 n.op)):=cellX (U HVN).1 1
  have HC7:Hid (w0.cell? ⟨w.heap.size,7,none⟩=some (.slice av c k)):=cellX (U HVN).1 7
  have HC8:Hid (w0.cell? ⟨w.heap.size,8,none⟩=some (.int .i64 n.at')):=cellX (U HVN).1 8
  have HR:Hid (R=(g,0)):=V hR
  have HRG:Hid (w0.rangeAt rb (ro+3 * i) (gvC g)):=fun j v hj=>by
   have hc:=hg j v hj
   exact ((U HB).cell (p:=⟨rb,ro+3 * i+j,none⟩) (World.block_lt_of_cell? w _ hc)).trans hc
  clear hR hg
  have hiI:(i:Int) < (rn:Int):=by omega
  have hi0:(0:Int) ≤ (i:Int):=by omega
  have c8:=U HC8
  rw [hat] at c8
  have hrnI:(rn:Int) ≤ 1000:=by omega
  go_upto_region 5 with fail
  refine wp_region_list ?_
  refine lt 36 (.slice (some ⟨rb,ro,none⟩) rn rk) ?_
  refine lt 37 (.pointer (some ⟨w.heap.size,8,none⟩)) ?_
  simp only[put,sA,sB,sC]
  refine list_to (d:=38) (v:=.int .i64 (i:Int)) rfl rfl (by go_simp) ?_
  simp only[put,sA,sB,sC]
  refine list_to (d:=39) (v:=.pointer (some ⟨rb,ro+3 * i,none⟩)) rfl rfl (by go_simp) ?_
  simp only[put,sA,sB,sC]
  refine wpList_load_mid rfl 26 (.tmp 39) rfl rb (ro+3 * i) rfl (gvC g) _ (U HRG) Tryz.underlying26 rfl sizeV ?_
  simp only[put,sA,sB,sC]
  refine wpList_store_mid rfl 26 (.tmp 8) (.tmp 40) rfl (w.heap.size+1) 0 (gvC g).toArray rfl rfl (U HV).there sizeV (all_oneCell_toArray (gvC_one _)) ?_
  show wpList _ _ _ _ _ (w0.setCells (w.heap.size+1) 0 (gvC g))
  refine lt 9 (.int .i64 0) ?_
  simp only[put,sA,sB,sC]
  go_wp2_with fail
  refine bodyPost_ret (((U HV).set g).result2 rfl _ rfl) rfl ?_
  rw [U HPP,U HR]
  exact ⟨rfl,below_setCells0 (U HB) (Nat.le_succ _) _⟩
end Go.Proofs.YtpnonhjmpnbmcaaGreatDoor
