/- The statement's fits. -/
import Derived.Test.YtpnonhjmpnbmcaaGreatDoorJXRv6XTrXTr2
import Derived.Test.YtpnonhjmpnbmcaaGreatDoorKRefKey
import Derived.Test.YtpnonhjmpnbmcaaGreatDoorJXPar9XPar10XPar11XApp2
namespace Go.Proofs.YtpnonhjmpnbmcaaGreatDoor
open Go.RowKit Go.Lib
open Act (put)
set_option linter.unusedSimpArgs false
set_option linter.unusedVariables false
set_option maxHeartbeats 6400000
set_option maxRecDepth 20000
/-- A slice of values that came in, however long. -/
def RVk (w:World) (a:Option Addr) (n k:Nat) (gs:List GV):Prop:=
 n=gs.length∧n ≤ k∧k ≤ maxLen∧(∀ g ∈ gs,g.ok)∧(gs=[] ∨ ∃ b o,a=some ⟨b,o,none⟩∧b < w.heap.size∧∀ i g,gs[i]?=some g→w.rangeAt b (o+3 * i) (gvC g))
theorem RVk.below {w w':World} {a:Option Addr} {n k:Nat} {gs:List GV} (h:RVk w a n k gs) (hb:Below w.heap.size w w'):RVk w' a n k gs:=by
 obtain ⟨h1,h2,h3,h4,h5⟩:=h
 refine ⟨h1,h2,h3,h4,?_⟩
 rcases h5 with h5 | ⟨b,o,ha,hbb,h5⟩
 · exact .inl h5
 · refine .inr ⟨b,o,ha,Nat.lt_of_lt_of_le hbb hb.size,fun i g hg j v hj=>?_⟩
   exact (hb.cell (p:=⟨b,o+3 * i+j,none⟩) hbb).trans (h5 i g hg j v hj)
theorem RVk.row {w:World} {a:Option Addr} {n k:Nat} {gs:List GV} (h:RVk w a n k gs) (hl:gs.length=5):RwAt w a k gs:=by
 obtain ⟨h1,h2,h3,h4,h5⟩:=h
 refine ⟨by omega,?_⟩
 rcases h5 with h5 | ⟨b,o,ha,hbb,h5⟩
 · exact .inl h5
 · exact .inr ⟨b,o,ha,by omega,h3,h5⟩
theorem RVk.one {w:World} {b o n k i:Nat} {gs:List GV} {g:GV} (h:RVk w (some ⟨b,o,none⟩) n k gs) (hg:gs[i]?=some g) (c:Nat):RVu w w.heap.size (.slice (some ⟨b,o+3 * i,none⟩) 1 c) [g]:=by
 obtain ⟨h1,h2,h3,h4,h5⟩:=h
 refine ⟨by show (1:Nat) ≤ maxLen;decide,fun x hx=>?_,.inr ?_⟩
 · rw [List.mem_singleton] at hx
   subst hx
   exact h4 x (List.mem_of_getElem? hg)
 · rcases h5 with h5 | ⟨b',o',ha,hbb,h5⟩
   · subst h5;cases hg
   · injection ha with ha
     injection ha with e1 e2 _
     subst e1 e2
     refine ⟨b,o+3 * i,c,hbb,rfl,fun j x hx=>?_⟩
     match j,hx with
     | 0,hx=>
      injection hx with hx
      subst hx
      have h:=h5 i g hg
      exact ⟨h 0 _ rfl,h 1 _ rfl,h 2 _ rfl⟩
     | j+1,hx=>cases hx
/-- A value fits its column. -/
def fitsC (g:GV) (c:CT):Prop:=g.may=true∧(g.kind=0 ∨ g.kind=c.ty)
def FitI (gs:List GV) (i:Nat):Prop:=∀ (j:Nat) (c:CT) (g:GV),j < i→fiveC[j]?=some c→gs[j]?=some g→fitsC g c
theorem FitI.step {gs:List GV} {i:Nat} {c:CT} {g:GV} (h:FitI gs i) (hc:fiveC[i]?=some c) (hg:gs[i]?=some g) (hf:fitsC g c):FitI gs (i+1):=by
 intro j c' g' hj hc' hg'
 by_cases he:j=i
 · subst he
   rw [hc] at hc'
   rw [hg] at hg'
   injection hc' with hc'
   injection hg' with hg'
   subst hc' hg'
   exact hf
 · exact h j c' g' (by omega) hc' hg'
theorem FitI.done {gs:List GV} (h:FitI gs 5) (hl:gs.length=5):RowTy gs:=by
 refine ⟨hl,fun i c hc=>?_⟩
 have hi:i < 5:=(List.getElem?_eq_some_iff.1 hc).1
 obtain ⟨g,hg⟩:∃ g,gs[i]?=some g:=⟨_,List.getElem?_eq_getElem (by omega)⟩
 have hf:=h i c g hi hc hg
 exact ⟨g,hg,hf.1,hf.2⟩
theorem op_val {P:Program} {o:Oper} {a:Act} {w:World} {K:Act→World→Prop} {Q:Exit→Act→World→Prop} {d:Nat} {v:Value} (hd:o.dst=some d) (hrun:(execOp a.eval o).run P w=.ok (.value v) w) (h:K (a.put (some d) v) w):o.wp P a w K Q:=by
 unfold Oper.wp
 rw [hrun]
 show K (a.put o.dst v) w
 rw [hd]
 exact h
theorem fits_any (w:World) (a:Option Addr) (n k:Nat) (gs:List GV) (h:RVk w a n k gs):Calls Tryz.prog 7 #[.slice a n k] w fun e w'=>∃ bb:Bool,e=.returned (.bool bb)∧Below w.heap.size w w'∧(bb=true→RowTy gs):=by
 have HK:=V h
 have hnI:(n:Int) ≤ 9223372036854775807:=by
  obtain ⟨_,h2,h3,_⟩:=h
  unfold maxLen at h3
  omega
 obtain ⟨PP,hPP⟩:∃ PP:Ending→World→Prop,PP=fun e w'=>∃ bb:Bool,e=.returned (.bool bb)∧Below w.heap.size w w'∧(bb=true→RowTy gs):=⟨_,rfl⟩
 have HPP:=V hPP
 rw [← hPP]
 clear h hPP
 have HG0:Hid (FitI gs 0∧Below w.heap.size w w):=⟨fun j c g hj=>absurd hj (Nat.not_lt_zero _),Below.refl _ _⟩
 go_enter Tryz.func7,Tryz.ntmps7
 go_wp2_with fail
 go_loopg [3,4,5] 5 (fun g s3 s4 s5 wr=>∃ i:Nat,g=5 - i∧s3=.int .i64 (i:Int)∧i ≤ n∧i ≤ 5∧Hid (FitI gs i∧Below w.heap.size w wr))
 case atStart=>exact ⟨0,rfl,rfl,Nat.zero_le _,by omega,HG0⟩
 case round=>
  obtain ⟨i,hgi,rfl,hin,hi5,HG⟩:=hrel
  clear HG0
  have HFI:=V (U HG).1
  have HB:=V (U HG).2
  clear HG
  have hi0:(0:Int) ≤ (i:Int):=by omega
  by_cases hlt:i < n
  · have hiI:(i:Int) < (n:Int):=by omega
    by_cases h5:i < 5
    · have h5I:(i:Int) < 5:=by omega
      obtain ⟨g,hg⟩:∃ g,gs[i]?=some g:=⟨_,List.getElem?_eq_getElem (by have:=(U HK).1;omega)⟩
      obtain ⟨c,hc⟩:∃ c,fiveC[i]?=some c:=⟨_,List.getElem?_eq_getElem (by show i < 5;exact h5)⟩
      obtain ⟨b,o,hab,hrg⟩:∃ b o,a=some ⟨b,o,none⟩∧w.rangeAt b (o+3 * i) (gvC g):=by
       rcases (U HK).2.2.2.2 with h | ⟨b,o,h1,_,h2⟩
       · rw [h] at hg;cases hg
       · exact ⟨b,o,h1,h2 i g hg⟩
      subst hab
      have HRG:=V hrg
      have hkb:=(U HK).2.1
      have hkm:=(U HK).2.2.1
      have hkI:(k:Int) ≤ 9223372036854775807:=by unfold maxLen at hkm;omega
      have hkk:(i:Int)+1 ≤ (k:Int):=by omega
      have hki:¬ k=i:=by omega
      have h01:(0:Int) ≤ (i:Int)+1:=by omega
      have hwi:IntKind.i64.wrap ((i:Int)+1)=(i:Int)+1:=by rw [IntKind.wrap_i64];omega
      have HKY:Hid (∀ c,Calls Tryz.prog 18 #[.slice (some ⟨b,o+i * 3,none⟩) 1 c] wr fun e w'=>RKeyPost [g] wr e w'):=fun c=>by rw [Nat.mul_comm i 3];exact rkey_any _ [g] wr (((U HK).below (U HB)).one hg c)
      obtain ⟨kc,hkc⟩:∃ kc,kc=k - i:=⟨_,rfl⟩
      clear hrg hkb hkm
      go_upto_region 4 with fail
      refine wp_region_list ?_
      refine lt 17 (.slice (some ⟨b,o,none⟩) n k) ?_
      refine lt 18 (.int .i64 (i:Int)) ?_
      refine lt 19 (.int .i64 (i:Int)) ?_
      simp only[put,sA,sB,sC]
      refine list_to (d:=20) (v:=.int .i64 ((i:Int)+1)) rfl rfl (by go_simp) ?_
      simp only[put,sA,sB,sC]
      refine list_to (d:=21) (v:=.slice (some ⟨b,o+i * 3,none⟩) 1 (k - i)) rfl rfl (by go_simp) ?_
      refine list_call rfl (some 22) rfl 18 #[.slice (some ⟨b,o+i * 3,none⟩) 1 (k - i)] (by kernel_rfl) (U HKY (k - i)) ?_
      rintro e w5 ⟨hb,⟨_,hm,av,kv,rfl,_⟩ | ⟨_,rfl⟩⟩
      · refine ⟨_,rfl,?_⟩
        simp only[put,sA,sB,sC]
        have HB:=V (trX (U HB) hb)
        have hmg:g.may=true:=hm g (List.mem_singleton.2 rfl)
        clear hb hm
        refine lt 16 (.tuple #[.slice av (keyG [g]).length kv,.int .i64 0]) ?_
        refine lt 23 (.slice av (keyG [g]).length kv) ?_
        refine lt 24 (.int .i64 0) ?_
        refine lt 4 (.slice av (keyG [g]).length kv) ?_
        refine lt 5 (.int .i64 0) ?_
        simp only[put,sA,sB,sC]
        by_cases hz:g.kind=0
        · skip
          as_aux_lemma=>
           have hz0:(g.kind != 0)=false:=by simpa using hz
           have HZ:=V hz
           clear hz
           go_upto_region 5 with fail
           refine wp_region_held_drew (S:=fun w'=>w'.rangeAt b (o+3 * i) (gvC g)) (by kernel_rfl) (fun j v hj=>((U HB).cell (p:=⟨b,o+3 * i+j,none⟩) (World.block_lt_of_cell? w _ (U HRG j v hj))).trans (U HRG j v hj)) (fun hHeld=>?_)
           refine ht 0 25 (.int .i64 0) hHeld ?_
           simp only[put,sA,sB,sC]
           refine ht 1 26 (.bool false) hHeld ?_
           simp only[put,sA,sB,sC]
           refine ht 2 27 (.bool false) hHeld ?_
           simp only[put,sA,sB,sC]
           refine ht 3 28 (.slice (some ⟨b,o,none⟩) n k) hHeld ?_
           simp only[put,sA,sB,sC]
           refine ht 4 29 (.int .i64 (i:Int)) hHeld ?_
           simp only[put,sA,sB,sC]
           refine hand_to (i:=5) (d:=30) (v:=.pointer (some ⟨b,o+3 * i,none⟩)) rfl rfl (by kernel_rfl) (by kernel_rfl) (by kernel_rfl) (fun _ _ _ h=>h) (Or.inl ⟨by rfl,?_⟩) hHeld ?_
           · (intro w' hSw;go_simp)
           simp only[put,sA,sB,sC]
           refine ht 6 31 (.pointer (some ⟨b,o+3 * i,none⟩)) hHeld ?_
           simp only[put,sA,sB,sC]
           refine hand_to (i:=7) (d:=32) (v:=.int .i64 g.kind) rfl rfl (by kernel_rfl) (by kernel_rfl) (by kernel_rfl) (fun _ _ _ h=>h) (Or.inl ⟨by rfl,?_⟩) hHeld ?_
           · (intro w' hSw;(have hg0:w'.cell? ⟨b,o+3 * i,none⟩=some (.int .i64 g.kind):=hSw 0 _ rfl;go_simp))
           simp only[put,sA,sB,sC]
           refine ht 8 33 (.bool (g.kind != 0)) hHeld ?_
           simp only[put,sA,sB,sC]
           rw [hz0]
           refine ht 9 34 (.bool false) hHeld ?_
           simp only[put,sA,sB,sC]
           refine hk 10 35 hHeld ?_
           simp only[put,sA,sB,sC]
           refine hk 11 36 hHeld ?_
           simp only[put,sA,sB,sC]
           refine hk 12 37 hHeld ?_
           simp only[put,sA,sB,sC]
           refine hk 13 38 hHeld ?_
           simp only[put,sA,sB,sC]
           refine hk 14 39 hHeld ?_
           simp only[put,sA,sB,sC]
           refine hk 15 40 hHeld ?_
           simp only[put,sA,sB,sC]
           refine hk 16 41 hHeld ?_
           simp only[put,sA,sB,sC]
           refine hk 17 42 hHeld ?_
           simp only[put,sA,sB,sC]
           refine hk 18 43 hHeld ?_
           simp only[put,sA,sB,sC]
           refine hk 19 44 hHeld ?_
           simp only[put,sA,sB,sC]
           refine hk 20 45 hHeld ?_
           simp only[put,sA,sB,sC]
           refine ht 21 46 (.bool false) hHeld ?_
           simp only[put,sA,sB,sC]
           refine ht 22 47 (.bool false) hHeld ?_
           simp only[put,sA,sB,sC]
           refine wpAnyH_done (by kernel_rfl) ?_ _
           have HB:=V ((U HB).drew)
           have HNX:Hid (FitI gs (i+1)∧Below w.heap.size w w5.drew):=⟨(U HFI).step hc hg ⟨hmg,.inl (U HZ)⟩,U HB⟩
           go_wp2_with fail
           go_roundg (5 - (i+1))
           case rel=>exact ⟨i+1,rfl,by rw [show ((i+1:Nat):Int)=(i:Int)+1 from rfl],by omega,by omega,HNX⟩
           case measure=>omega
        · skip
          have hz0:(g.kind != 0)=true:=by simpa using hz
          clear hz
          go_upto_region 5 with fail
          refine wp_region_held_drew (S:=fun w'=>w'.rangeAt b (o+3 * i) (gvC g)) (by kernel_rfl) (fun j v hj=>((U HB).cell (p:=⟨b,o+3 * i+j,none⟩) (World.block_lt_of_cell? w _ (U HRG j v hj))).trans (U HRG j v hj)) (fun hHeld=>?_)
          refine ht 0 25 (.int .i64 0) hHeld ?_
          simp only[put,sA,sB,sC]
          refine ht 1 26 (.bool false) hHeld ?_
          simp only[put,sA,sB,sC]
          refine ht 2 27 (.bool false) hHeld ?_
          simp only[put,sA,sB,sC]
          refine ht 3 28 (.slice (some ⟨b,o,none⟩) n k) hHeld ?_
          simp only[put,sA,sB,sC]
          refine ht 4 29 (.int .i64 (i:Int)) hHeld ?_
          simp only[put,sA,sB,sC]
          refine hand_to (i:=5) (d:=30) (v:=.pointer (some ⟨b,o+3 * i,none⟩)) rfl rfl (by kernel_rfl) (by kernel_rfl) (by kernel_rfl) (fun _ _ _ h=>h) (Or.inl ⟨by rfl,?_⟩) hHeld ?_
          · (intro w' hSw;go_simp)
          simp only[put,sA,sB,sC]
          refine ht 6 31 (.pointer (some ⟨b,o+3 * i,none⟩)) hHeld ?_
          simp only[put,sA,sB,sC]
          refine hand_to (i:=7) (d:=32) (v:=.int .i64 g.kind) rfl rfl (by kernel_rfl) (by kernel_rfl) (by kernel_rfl) (fun _ _ _ h=>h) (Or.inl ⟨by rfl,?_⟩) hHeld ?_
          · (intro w' hSw;(have hg0:w'.cell? ⟨b,o+3 * i,none⟩=some (.int .i64 g.kind):=hSw 0 _ rfl;go_simp))
          simp only[put,sA,sB,sC]
          refine ht 8 33 (.bool (g.kind != 0)) hHeld ?_
          simp only[put,sA,sB,sC]
          rw [hz0]
          refine ht 9 34 (.bool true) hHeld ?_
          simp only[put,sA,sB,sC]
          refine ht 10 35 (.slice (some ⟨b,o,none⟩) n k) hHeld ?_
          simp only[put,sA,sB,sC]
          refine ht 11 36 (.int .i64 (i:Int)) hHeld ?_
          simp only[put,sA,sB,sC]
          refine hand_to (i:=12) (d:=37) (v:=.pointer (some ⟨b,o+3 * i,none⟩)) rfl rfl (by kernel_rfl) (by kernel_rfl) (by kernel_rfl) (fun _ _ _ h=>h) (Or.inl ⟨by rfl,?_⟩) hHeld ?_
          · (intro w' hSw;go_simp)
          simp only[put,sA,sB,sC]
          refine ht 13 38 (.pointer (some ⟨b,o+3 * i,none⟩)) hHeld ?_
          simp only[put,sA,sB,sC]
          refine hand_to (i:=14) (d:=39) (v:=.int .i64 g.kind) rfl rfl (by kernel_rfl) (by kernel_rfl) (by kernel_rfl) (fun _ _ _ h=>h) (Or.inl ⟨by rfl,?_⟩) hHeld ?_
          · (intro w' hSw;(have hg0:w'.cell? ⟨b,o+3 * i,none⟩=some (.int .i64 g.kind):=hSw 0 _ rfl;go_simp))
          simp only[put,sA,sB,sC]
          refine ht 16 41 (.int .i64 (i:Int)) hHeld ?_
          simp only[put,sA,sB,sC]
          refine wpAnyH_ready (rs:=[15]) (by kernel_rfl) (by simp) ?_
          refine AllReadyH.cons rfl (fun K hK=>?_) AllReadyH.nil
          rw [if_pos (by rfl)]
          refine op_call (some 40) rfl 19 #[] (by kernel_rfl) (cols_any w5.drew) ?_
          rintro e w6 ⟨rfl,hct,hb⟩
          refine ⟨_,rfl,?_⟩
          have HB:=V (trX ((U HB).drew) hb)
          have c44:w6.cell? ⟨w5.drew.heap.size,i * 3+1,none⟩=some (.int .i64 c.ty):=hct i c hc 1 _ rfl
          obtain ⟨bc,hbc⟩:∃ bc,bc=w5.drew.heap.size:=⟨_,rfl⟩
          rw [← hbc] at c44
          rw [← hbc]
          clear hct hb hbc
          refine hK.out _ _ (fun j v hj=>((U HB).cell (p:=⟨b,o+3 * i+j,none⟩) (World.block_lt_of_cell? w _ (U HRG j v hj))).trans (U HRG j v hj)) (fun hHeld2=>?_)
          clear hK K hHeld
          have hHeld:=hHeld2
          clear hHeld2
          try simp only[put,sA,sB,sC]
          refine hand_to (i:=17) (d:=42) (v:=.pointer (some ⟨bc,3 * i,none⟩)) rfl rfl (by kernel_rfl) (by kernel_rfl) (by kernel_rfl) (fun _ _ _ h=>h) (Or.inl ⟨by rfl,?_⟩) hHeld ?_
          · (intro w' hSw;go_simp)
          simp only[put,sA,sB,sC]
          refine ht 18 43 (.pointer (some ⟨bc,3 * i+1,none⟩)) hHeld ?_
          simp only[put,sA,sB,sC]
          refine wpAnyH_ready (rs:=[19]) (by kernel_rfl) (by simp) ?_
          refine AllReadyH.cons rfl (fun K hK=>?_) AllReadyH.nil
          rw [if_pos (by rfl)]
          rw [show i * 3+1=3 * i+1 by omega] at c44
          refine op_val (d:=44) (v:=.int .i64 c.ty) rfl (by go_simp) ?_
          refine hK.out _ _ (fun j v hj=>((U HB).cell (p:=⟨b,o+3 * i+j,none⟩) (World.block_lt_of_cell? w _ (U HRG j v hj))).trans (U HRG j v hj)) (fun hHeld2=>?_)
          clear hK K hHeld
          have hHeld:=hHeld2
          clear hHeld2
          try simp only[put,sA,sB,sC]
          refine ht 20 45 (.bool (g.kind != c.ty)) hHeld ?_
          simp only[put,sA,sB,sC]
          by_cases hy:g.kind=c.ty
          · skip
            as_aux_lemma=>
             have hy0:(g.kind != c.ty)=false:=by simpa using hy
             rw [hy0]
             refine ht 21 46 (.bool false) hHeld ?_
             simp only[put,sA,sB,sC]
             refine ht 22 47 (.bool false) hHeld ?_
             simp only[put,sA,sB,sC]
             refine wpAnyH_done (by kernel_rfl) ?_ _
             have HNX:Hid (FitI gs (i+1)∧Below w.heap.size w w6):=⟨(U HFI).step hc hg ⟨hmg,.inr hy⟩,U HB⟩
             clear c44
             go_wp2_with fail
             go_roundg (5 - (i+1))
             case rel=>exact ⟨i+1,rfl,by rw [show ((i+1:Nat):Int)=(i:Int)+1 from rfl],by omega,by omega,HNX⟩
             case measure=>omega
          · skip
            as_aux_lemma=>
             have hy0:(g.kind != c.ty)=true:=by simpa using hy
             rw [hy0]
             refine ht 21 46 (.bool true) hHeld ?_
             simp only[put,sA,sB,sC]
             refine ht 22 47 (.bool true) hHeld ?_
             simp only[put,sA,sB,sC]
             refine wpAnyH_done (by kernel_rfl) ?_ _
             clear c44
             go_upto_region 6 with fail
             go_wp2_with fail
             rw [U HPP]
             exact ⟨false,rfl,U HB,fun h=>by cases h⟩
      · refine ⟨_,rfl,?_⟩
        simp only[put,sA,sB,sC]
        have HB:=V (trX (U HB) hb)
        clear hb
        refine lt 16 (.tuple #[.slice none 0 0,.int .i64 20]) ?_
        refine lt 23 (.slice none 0 0) ?_
        refine lt 24 (.int .i64 20) ?_
        refine lt 4 (.slice none 0 0) ?_
        refine lt 5 (.int .i64 20) ?_
        simp only[put,sA,sB,sC]
        as_aux_lemma=>
         go_upto_region 5 with fail
         refine wp_region_held_drew (S:=fun w'=>w'.rangeAt b (o+3 * i) (gvC g)) (by kernel_rfl) (fun j v hj=>((U HB).cell (p:=⟨b,o+3 * i+j,none⟩) (World.block_lt_of_cell? w _ (U HRG j v hj))).trans (U HRG j v hj)) (fun hHeld=>?_)
         refine ht 0 25 (.int .i64 20) hHeld ?_
         simp only[put,sA,sB,sC]
         refine ht 1 26 (.bool true) hHeld ?_
         simp only[put,sA,sB,sC]
         refine ht 2 27 (.bool true) hHeld ?_
         simp only[put,sA,sB,sC]
         refine hk 3 28 hHeld ?_
         simp only[put,sA,sB,sC]
         refine hk 4 29 hHeld ?_
         simp only[put,sA,sB,sC]
         refine hk 5 30 hHeld ?_
         simp only[put,sA,sB,sC]
         refine hk 6 31 hHeld ?_
         simp only[put,sA,sB,sC]
         refine hk 7 32 hHeld ?_
         simp only[put,sA,sB,sC]
         refine hk 8 33 hHeld ?_
         simp only[put,sA,sB,sC]
         refine hk 9 34 hHeld ?_
         simp only[put,sA,sB,sC]
         refine hk 10 35 hHeld ?_
         simp only[put,sA,sB,sC]
         refine hk 11 36 hHeld ?_
         simp only[put,sA,sB,sC]
         refine hk 12 37 hHeld ?_
         simp only[put,sA,sB,sC]
         refine hk 13 38 hHeld ?_
         simp only[put,sA,sB,sC]
         refine hk 14 39 hHeld ?_
         simp only[put,sA,sB,sC]
         refine hk 15 40 hHeld ?_
         simp only[put,sA,sB,sC]
         refine hk 16 41 hHeld ?_
         simp only[put,sA,sB,sC]
         refine hk 17 42 hHeld ?_
         simp only[put,sA,sB,sC]
         refine hk 18 43 hHeld ?_
         simp only[put,sA,sB,sC]
         refine hk 19 44 hHeld ?_
         simp only[put,sA,sB,sC]
         refine hk 20 45 hHeld ?_
         simp only[put,sA,sB,sC]
         refine hk 21 46 hHeld ?_
         simp only[put,sA,sB,sC]
         refine ht 22 47 (.bool true) hHeld ?_
         simp only[put,sA,sB,sC]
         refine wpAnyH_done (by kernel_rfl) ?_ _
         have HB:=V ((U HB).drew)
         go_upto_region 6 with fail
         go_wp2_with fail
         rw [U HPP]
         exact ⟨false,rfl,U HB,fun h=>by cases h⟩
    · have h5I:¬ (i:Int) < 5:=by omega
      as_aux_lemma=>
       have HFI2:Hid (n=5→RowTy gs):=fun h=>by
        have hn:=(U HK).1
        have hi5:i=5:=by omega
        have h1:=U HFI
        rw [hi5] at h1
        exact h1.done (by omega)
       go_wp2_with fail
       rw [U HPP]
       exact ⟨decide (n=5),by first | rfl | (have:((n:Int) == 5)=decide (n=5):=by rw [Bool.eq_iff_iff];simp;omega
                                             rw [← this]),U HB,fun h=>U HFI2 (of_decide_eq_true h)⟩
  · have hiI:¬ (i:Int) < (n:Int):=by omega
    as_aux_lemma=>
     have HFI2:Hid (n=5→RowTy gs):=fun h=>by
      have hn:=(U HK).1
      have hi5:i=5:=by omega
      have h1:=U HFI
      rw [hi5] at h1
      exact h1.done (by omega)
     go_wp2_with fail
     rw [U HPP]
     exact ⟨decide (n=5),by first | rfl | (have:((n:Int) == 5)=decide (n=5):=by rw [Bool.eq_iff_iff];simp;omega
                                           rw [← this]),U HB,fun h=>U HFI2 (of_decide_eq_true h)⟩
theorem infoVa:(Tryz.prog.info? 26).map (fun i=>(i.zero,i.size,i.bytes))=some (some (.agg (gvC nullG).toArray),3,32):=by kernel_rfl
theorem vals_len:∀ gs:List GV,(gs.flatMap gvC).length=gs.length * 3
 | []=>rfl
 | g :: l=>by
  rw [List.flatMap_cons,List.length_append,vals_len l,List.length_cons]
  show 3+_=_
  omega
theorem vals_nth:∀ (gs:List GV) (i:Nat) (g:GV) (j:Nat) (v:Value),gs[i]?=some g→(gvC g)[j]?=some v→(gs.flatMap gvC)[3 * i+j]?=some v
 | [],i,g,j,v,h,_=>by cases h
 | x :: l,0,g,j,v,h,hj=>by
  injection h with h
  subst h
  have hl:j < (gvC x).length:=(List.getElem?_eq_some_iff.1 hj).1
  rw [List.flatMap_cons,Nat.mul_zero,Nat.zero_add,List.getElem?_append_left hl]
  exact hj
 | x :: l,i+1,g,j,v,h,hj=>by
  have h:l[i]?=some g:=by simpa using h
  rw [List.flatMap_cons,List.getElem?_append_right (by show 3 ≤ _;omega)]
  have e:3 * (i+1)+j - (gvC x).length=3 * i+j:=by show 3 * (i+1)+j - 3=_;omega
  rw [e]
  exact vals_nth l i g j v h hj
theorem vals_back:∀ (gs:List GV) (q:Nat) (v:Value),(gs.flatMap gvC)[q]?=some v→∃ i g j,gs[i]?=some g∧(gvC g)[j]?=some v∧q=3 * i+j
 | [],q,v,h=>by cases h
 | x :: l,q,v,h=>by
  rw [List.flatMap_cons] at h
  by_cases hq:q < 3
  · rw [List.getElem?_append_left (by show q < 3;exact hq)] at h
    exact ⟨0,x,q,rfl,h,by omega⟩
  · rw [List.getElem?_append_right (by show 3 ≤ q;omega)] at h
    obtain ⟨i,g,j,h1,h2,h3⟩:=vals_back l _ v h
    have h3:q - 3=3 * i+j:=h3
    exact ⟨i+1,g,j,by simpa using h1,h2,by omega⟩
theorem copy_op {o:Oper} {act:Act} {Q':Exit→Act→World→Prop} {K:Act→World→Prop} {W:World} (d:Option Tmp) (hd:o.dst=d) (s x:Operand)
 (ho:o.op=.call { callee:=.builtin .append,args:=#[s,x],argTypes:=#[22,22] }) (hs:act.eval s=.slice none 0 0)
 (gs:List GV) (h5:gs.length=5) (a:Option Addr) (k:Nat) (hev:act.eval x=.slice a 5 k) (hr:RwAt W a k gs)
 (hK:∀ ad k' w',RwAt w' ad k' gs→Below W.heap.size W w'→K (act.put d (.slice ad 5 k')) w'):o.wp Tryz.prog act W K Q':=by
 subst hd
 obtain ⟨_,hn | ⟨b,oo,rfl,hk,hkm,hrg⟩⟩:=hr
 · rw [hn] at h5;cases h5
 obtain ⟨i0,hi,hz0,hz1,hz2⟩:=info_parts infoVa
 have hown:W.ownsRow W.heap.size 26 3 (.slice none 0 0) 0 []:=⟨rfl,.inl ⟨rfl,rfl⟩⟩
 obtain ⟨v',w',hrun,ho',hg,_,hob⟩:=run_append_own_at (P:=Tryz.prog) W W.heap.size 22 o.type 26 i0 _ 3 32 Tryz.underlying22 hi hz0 hz1 hz2 rfl (by decide) _ 0 [] hown ⟨b,oo,none⟩ 5 k (gs.flatMap gvC) (by rw [vals_len,h5])
  (fun j u hj=>by
   obtain ⟨i,g,jj,h1,h2,h3⟩:=vals_back gs j u hj
   rw [Go.WideShapes.add_plain,h3]
   have:=hrg i g h1 jj u h2
   rwa [Nat.add_assoc] at this)
  (fun u hu=>by
   obtain ⟨g,_,hu⟩:=List.mem_flatMap.1 hu
   exact gvC_one g u hu) (by unfold maxLen;omega) (by omega) (Nat.le_refl _)
 obtain ⟨ad,k',rfl⟩:=ownSX ho'
 refine Lib.wp_append_run W s x 22 22 ho _ _ hs hev _ w' hrun (hK ad k' w' ?_ ⟨?_,?_,?_,?_,fun b hb=>hg.block b hb (fun e=>by cases e)⟩)
 · refine ⟨by omega,.inr ?_⟩
   rcases ho'.2 with ⟨_,h0⟩ | ⟨g,cap,cur,e,hb,hc,h1,h2,h3,h4⟩
   · exact absurd h0 (by decide)
   · injection e with e1 _ e3
     subst e1 e3
     refine ⟨g,0,rfl,by omega,h2,fun i x hx j v hj=>?_⟩
     rw [cellX hc]
     have hv:=vals_nth gs i x j v hx hj
     have hlt:3 * i+j < 15:=by
      have:=(List.getElem?_eq_some_iff.1 hv).1
      rw [vals_len,h5] at this
      exact this
     have h4:cur.toList.take ((0+5) * 3)=gs.flatMap gvC:=by simpa using h4
     rw [← h4,List.getElem?_take_of_lt (by omega)] at hv
     rw [Nat.zero_add]
     simpa using hv
 · exact hg.os
 · exact hg.tape
 · exact hg.output
 · exact hg.size
end Go.Proofs.YtpnonhjmpnbmcaaGreatDoor
