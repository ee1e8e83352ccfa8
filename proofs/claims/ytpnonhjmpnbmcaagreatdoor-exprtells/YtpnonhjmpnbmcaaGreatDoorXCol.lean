/- The document's column of a name: scope.col. -/
import Derived.Test.YtpnonhjmpnbmcaaGreatDoorXRx
import Derived.Deep.LoopGhost
import Derived.Deep.QuietTactic
import Derived.BigQuiet
namespace Go.Proofs.YtpnonhjmpnbmcaaGreatDoor
open Go.RowKit Go.Lib
open Act (put)
set_option linter.unusedSimpArgs false
set_option linter.unusedVariables false
set_option maxHeartbeats 12800000
set_option maxRecDepth 100000
structure CT where
 nm:List UInt8
 ty:Int
 nn:Bool
def ctC (c:CT):List Value:=[sv c.nm,.int .i64 c.ty,.bool c.nn]
def coC (tab:List UInt8) (c:CT):List Value:=[sv tab,sv c.nm,.int .i64 c.ty,.bool c.nn]
def fiveC:List CT:=[⟨[97],2,false⟩,⟨[98],2,false⟩,⟨[99],1,false⟩,⟨[100],3,false⟩,⟨[101],3,false⟩]
/-- The statements' five columns as a scope has them. -/
def CoAt (w:World) (v:Value):Prop:=∃ b k,v=.slice (some ⟨b,0,none⟩) 5 k∧b < w.heap.size∧∀ i c,fiveC[i]?=some c→w.rangeAt b (i * 4) (coC [] c)
theorem CoAt.below {w w':World} {v:Value} (h:CoAt w v) (hb:Below w.heap.size w w'):CoAt w' v:=by
 obtain ⟨b,k,rfl,h1,h2⟩:=h
 exact ⟨b,k,rfl,Nat.lt_of_lt_of_le h1 hb.size,fun i c hc j u hj=>(hb.cell (p:=⟨b,i * 4+j,none⟩) h1).trans (h2 i c hc j u hj)⟩
/-- How many of the first columns have this name, and the last of them. -/
def colSt (tab nam:List UInt8):Nat→Int × Int
 | 0=>(0,0)
 | i+1=>if tab=[]∧nam=(fiveC.getD i ⟨[],0,false⟩).nm then ((i:Int),(colSt tab nam i).2+1) else colSt tab nam i
theorem colSt_five (tab nam:List UInt8):colOf tab nam=if (colSt tab nam 5).2=1 then .ok ((colSt tab nam 5).1.toNat,(fiveC.getD (colSt tab nam 5).1.toNat ⟨[],0,false⟩).ty) else .error 3:=by
 by_cases ht:tab=[]
 · subst ht
   by_cases h0:nam=[97]
   · subst h0;rfl
   · by_cases h1:nam=[98]
     · subst h1;rfl
     · by_cases h2:nam=[99]
       · subst h2;rfl
       · by_cases h3:nam=[100]
         · subst h3;rfl
         · by_cases h4:nam=[101]
           · subst h4;rfl
           · unfold colOf
             rw [if_neg (by simp),if_neg h0,if_neg h1,if_neg h2,if_neg h3,if_neg h4]
             have e0:¬ (([]:List UInt8)=[]∧nam=(fiveC.getD 0 ⟨[],0,false⟩).nm):=fun h=>h0 h.2
             have e1:¬ (([]:List UInt8)=[]∧nam=(fiveC.getD 1 ⟨[],0,false⟩).nm):=fun h=>h1 h.2
             have e2:¬ (([]:List UInt8)=[]∧nam=(fiveC.getD 2 ⟨[],0,false⟩).nm):=fun h=>h2 h.2
             have e3:¬ (([]:List UInt8)=[]∧nam=(fiveC.getD 3 ⟨[],0,false⟩).nm):=fun h=>h3 h.2
             have e4:¬ (([]:List UInt8)=[]∧nam=(fiveC.getD 4 ⟨[],0,false⟩).nm):=fun h=>h4 h.2
             have s5:colSt [] nam 5=(0,0):=by
              rw [colSt,if_neg e4,colSt,if_neg e3,colSt,if_neg e2,colSt,if_neg e1,colSt,if_neg e0]
              rfl
             rw [s5]
             rfl
 · have e:∀ i,colSt tab nam i=(0,0):=by
    intro i
    induction i with
    | zero=>rfl
    | succ i ih=>rw [colSt,if_neg (fun h=>ht h.1),ih]
   rw [e 5]
   unfold colOf
   rw [if_pos ht]
   rfl
theorem colSt_in (tab nam:List UInt8):∀ i,0 ≤ (colSt tab nam i).1∧(colSt tab nam i).1 ≤ i∧0 ≤ (colSt tab nam i).2∧(colSt tab nam i).2 ≤ i
 | 0=>⟨Int.le_refl 0,Int.le_refl 0,Int.le_refl 0,Int.le_refl 0⟩
 | i+1=>by
  obtain ⟨h1,h2,h3,h4⟩:=colSt_in tab nam i
  rw [colSt]
  split
  · refine ⟨?_,?_,?_,?_⟩ <;> dsimp only <;> omega
  · refine ⟨h1,?_,h3,?_⟩ <;> omega
theorem col_any (w:World) (M:List Value) (E:Ex) (v0 v3:Value) (hv3:v3.oneCell'=true) (h:ExM w (fun b=>b < w.heap.size) M E) (hco:CoAt w v0) (hk:E.1.kind=2) (hF:E.2=.nil) :
 Calls Tryz.prog 99 #[.agg #[v0,.bool false,.bool false,v3,.bool true],.agg M.toArray] w (ReP (fun b=>w.heap.size ≤ b) w (resE E)):=by
 have hlM:=h.len
 obtain ⟨args,rfl,hs⟩:=h
 obtain ⟨n,F⟩:=E
 dsimp only at hs hlM hk hF ⊢
 subst hF
 obtain ⟨a,k,rfl⟩:=slAt_slice hs
 obtain ⟨bc,kc,rfl,hbc,hcc⟩:=hco
 have HX0:=V (RX.new (v0:=.slice (some ⟨bc,0,none⟩) 5 kc) (v3:=v3) (n:=n) hs)
 have HCC:=V hcc
 obtain ⟨M,hM⟩:∃ M,M=ndC n (.slice a (cnt .nil) k):=⟨_,rfl⟩
 obtain ⟨PP,hPP⟩:∃ PP,PP=ReP (fun b=>w.heap.size ≤ b) w (resE (n,.nil)):=⟨_,rfl⟩
 have HPP:=V hPP
 have HMM:=V hM
 rw [← hM] at hlM HX0 ⊢
 rw [← hPP]
 clear hM hs hPP hcc
 unfold zL at HX0
 go_enter Tryz.func99,Tryz.ntmps99
 go_upto_region 2 with fail
 obtain ⟨w1,hw1⟩:∃ w1,w1=((w.alloc (.cells #[.slice (some ⟨bc,0,none⟩) 5 kc,.bool false,.bool false,v3,.bool true] 119)).alloc (.cells M.toArray 29)).alloc (.cells zL.toArray 29):=⟨_,rfl⟩
 unfold zL at hw1
 rw [← hw1] at HX0
 rw [← hw1]
 clear hw1
 have hz2:w.heap.size+1+1=w.heap.size+2:=rfl
 try rw [hz2]
 obtain ⟨nm,hnm⟩:∃ nm,nm=n.nam:=⟨_,rfl⟩
 obtain ⟨tb,htb⟩:∃ tb,tb=n.tab:=⟨_,rfl⟩
 have HNM:=V hnm
 have HTB:=V htb
 clear hnm htb
 go_wp2_with fail
 go_loopg [6,7,8] 5 (fun g s6 s7 s8 wr=>∃ i:Nat,i ≤ 5∧g=5 - i∧s6=.int .i64 (colSt tb nm i).1∧s7=.int .i64 (colSt tb nm i).2∧s8=.int .i64 (i:Int)∧Hid (RX w wr w.heap.size (w.heap.size+1) (w.heap.size+2) (.slice (some ⟨bc,0,none⟩) 5 kc) v3 n .nil a k))
 case atStart=>exact ⟨0,by omega,rfl,rfl,rfl,rfl,HX0⟩
 case round=>
  obtain ⟨i,hi,hg,rfl,rfl,rfl,HX⟩:=hrel
  clear HX0
  have s0:wr.cell? ⟨w.heap.size,0,none⟩=some (.slice (some ⟨bc,0,none⟩) 5 kc):=cellX (U HX).sc 0
  have s4:wr.cell? ⟨w.heap.size,4,none⟩=some (.bool true):=cellX (U HX).sc 4
  have c5:wr.cell? ⟨w.heap.size+1,5,none⟩=some (.string ⟨tb.toArray⟩):=by rw [U HTB];exact cellX (U HX).va.1 5
  have c6:wr.cell? ⟨w.heap.size+1,6,none⟩=some (.string ⟨nm.toArray⟩):=by rw [U HNM];exact cellX (U HX).va.1 6
  obtain rfl | rfl | rfl | rfl | rfl | rfl:i=0 ∨ i=1 ∨ i=2 ∨ i=3 ∨ i=4 ∨ i=5:=by omega
  · skip
    as_aux_lemma=>
     have q0:wr.cell? ⟨bc,0,none⟩=some (.string ⟨#[]⟩):=((U HX).low.cell (p:=⟨bc,0,none⟩) hbc).trans ((U HCC) 0 _ rfl 0 _ rfl)
     have q1:wr.cell? ⟨bc,1,none⟩=some (.string ⟨#[97]⟩):=((U HX).low.cell (p:=⟨bc,1,none⟩) hbc).trans ((U HCC) 0 _ rfl 1 _ rfl)
     by_cases hn:nm=[97]
     · have HS:=V hn
       rw [hn] at c6
       by_cases ht:tb=[]
       · rw [ht] at c5
         have HE:Hid (colSt tb nm 1=(0,(colSt tb nm 0).2+1)):=if_pos ⟨ht,hn⟩
         have hw:wrap64 ((colSt tb nm 0).2+1)=(colSt tb nm 0).2+1:=by
          obtain ⟨_,_,h3,h4⟩:=colSt_in tb nm 0
          unfold wrap64
          omega
         clear hn ht
         go_upto_region 5 with fail
         go_quiet (fail)
         go_wp2_with fail
         go_roundg 4
         case rel=>exact ⟨1,by omega,rfl,(by rw [U HE];rfl),(by rw [hw,U HE]),rfl,V ((U HX).below (below_drewN (Below.refl _ _) _))⟩
         case measure=>omega
       · have HE:Hid (colSt tb nm 1=colSt tb nm 0):=if_neg (fun h=>ht h.1)
         have hz:tb.isEmpty=false:=by cases tb with | nil=>exact absurd rfl ht | cons _ _=>rfl
         have hz2:(tb == [])=false:=beq_eq_false_iff_ne.2 ht
         clear hn ht
         go_upto_region 5 with fail
         go_quiet (fail)
         go_wp2_with fail
         go_roundg 4
         case rel=>exact ⟨1,by omega,rfl,(by rw [U HE]),(by rw [U HE]),rfl,V ((U HX).below (below_drewN (Below.refl _ _) _))⟩
         case measure=>omega
     · have HE:Hid (colSt tb nm 1=colSt tb nm 0):=if_neg (fun h=>hn h.2)
       have hz:([97] == nm)=false:=beq_eq_false_iff_ne.2 (fun e=>hn e.symm)
       clear hn
       go_upto_region 5 with fail
       go_quiet (fail)
       go_wp2_with fail
       go_roundg 4
       case rel=>exact ⟨1,by omega,rfl,(by rw [U HE]),(by rw [U HE]),rfl,V ((U HX).below (below_drewN (Below.refl _ _) _))⟩
       case measure=>omega
  · skip
    as_aux_lemma=>
     have q0:wr.cell? ⟨bc,4,none⟩=some (.string ⟨#[]⟩):=((U HX).low.cell (p:=⟨bc,4,none⟩) hbc).trans ((U HCC) 1 _ rfl 0 _ rfl)
     have q1:wr.cell? ⟨bc,5,none⟩=some (.string ⟨#[98]⟩):=((U HX).low.cell (p:=⟨bc,5,none⟩) hbc).trans ((U HCC) 1 _ rfl 1 _ rfl)
     by_cases hn:nm=[98]
     · have HS:=V hn
       rw [hn] at c6
       by_cases ht:tb=[]
       · rw [ht] at c5
         have HE:Hid (colSt tb nm 2=(1,(colSt tb nm 1).2+1)):=if_pos ⟨ht,hn⟩
         have hw:wrap64 ((colSt tb nm 1).2+1)=(colSt tb nm 1).2+1:=by
          obtain ⟨_,_,h3,h4⟩:=colSt_in tb nm 1
          unfold wrap64
          omega
         clear hn ht
         go_upto_region 5 with fail
         go_quiet (fail)
         go_wp2_with fail
         go_roundg 3
         case rel=>exact ⟨2,by omega,rfl,(by rw [U HE];rfl),(by rw [hw,U HE]),rfl,V ((U HX).below (below_drewN (Below.refl _ _) _))⟩
         case measure=>omega
       · have HE:Hid (colSt tb nm 2=colSt tb nm 1):=if_neg (fun h=>ht h.1)
         have hz:tb.isEmpty=false:=by cases tb with | nil=>exact absurd rfl ht | cons _ _=>rfl
         have hz2:(tb == [])=false:=beq_eq_false_iff_ne.2 ht
         clear hn ht
         go_upto_region 5 with fail
         go_quiet (fail)
         go_wp2_with fail
         go_roundg 3
         case rel=>exact ⟨2,by omega,rfl,(by rw [U HE]),(by rw [U HE]),rfl,V ((U HX).below (below_drewN (Below.refl _ _) _))⟩
         case measure=>omega
     · have HE:Hid (colSt tb nm 2=colSt tb nm 1):=if_neg (fun h=>hn h.2)
       have hz:([98] == nm)=false:=beq_eq_false_iff_ne.2 (fun e=>hn e.symm)
       clear hn
       go_upto_region 5 with fail
       go_quiet (fail)
       go_wp2_with fail
       go_roundg 3
       case rel=>exact ⟨2,by omega,rfl,(by rw [U HE]),(by rw [U HE]),rfl,V ((U HX).below (below_drewN (Below.refl _ _) _))⟩
       case measure=>omega
  · skip
    as_aux_lemma=>
     have q0:wr.cell? ⟨bc,8,none⟩=some (.string ⟨#[]⟩):=((U HX).low.cell (p:=⟨bc,8,none⟩) hbc).trans ((U HCC) 2 _ rfl 0 _ rfl)
     have q1:wr.cell? ⟨bc,9,none⟩=some (.string ⟨#[99]⟩):=((U HX).low.cell (p:=⟨bc,9,none⟩) hbc).trans ((U HCC) 2 _ rfl 1 _ rfl)
     by_cases hn:nm=[99]
     · have HS:=V hn
       rw [hn] at c6
       by_cases ht:tb=[]
       · rw [ht] at c5
         have HE:Hid (colSt tb nm 3=(2,(colSt tb nm 2).2+1)):=if_pos ⟨ht,hn⟩
         have hw:wrap64 ((colSt tb nm 2).2+1)=(colSt tb nm 2).2+1:=by
          obtain ⟨_,_,h3,h4⟩:=colSt_in tb nm 2
          unfold wrap64
          omega
         clear hn ht
         go_upto_region 5 with fail
         go_quiet (fail)
         go_wp2_with fail
         go_roundg 2
         case rel=>exact ⟨3,by omega,rfl,(by rw [U HE];rfl),(by rw [hw,U HE]),rfl,V ((U HX).below (below_drewN (Below.refl _ _) _))⟩
         case measure=>omega
       · have HE:Hid (colSt tb nm 3=colSt tb nm 2):=if_neg (fun h=>ht h.1)
         have hz:tb.isEmpty=false:=by cases tb with | nil=>exact absurd rfl ht | cons _ _=>rfl
         have hz2:(tb == [])=false:=beq_eq_false_iff_ne.2 ht
         clear hn ht
         go_upto_region 5 with fail
         go_quiet (fail)
         go_wp2_with fail
         go_roundg 2
         case rel=>exact ⟨3,by omega,rfl,(by rw [U HE]),(by rw [U HE]),rfl,V ((U HX).below (below_drewN (Below.refl _ _) _))⟩
         case measure=>omega
     · have HE:Hid (colSt tb nm 3=colSt tb nm 2):=if_neg (fun h=>hn h.2)
       have hz:([99] == nm)=false:=beq_eq_false_iff_ne.2 (fun e=>hn e.symm)
       clear hn
       go_upto_region 5 with fail
       go_quiet (fail)
       go_wp2_with fail
       go_roundg 2
       case rel=>exact ⟨3,by omega,rfl,(by rw [U HE]),(by rw [U HE]),rfl,V ((U HX).below (below_drewN (Below.refl _ _) _))⟩
       case measure=>omega
  · skip
    as_aux_lemma=>
     have q0:wr.cell? ⟨bc,12,none⟩=some (.string ⟨#[]⟩):=((U HX).low.cell (p:=⟨bc,12,none⟩) hbc).trans ((U HCC) 3 _ rfl 0 _ rfl)
     have q1:wr.cell? ⟨bc,13,none⟩=some (.string ⟨#[100]⟩):=((U HX).low.cell (p:=⟨bc,13,none⟩) hbc).trans ((U HCC) 3 _ rfl 1 _ rfl)
     by_cases hn:nm=[100]
     · have HS:=V hn
       rw [hn] at c6
       by_cases ht:tb=[]
       · rw [ht] at c5
         have HE:Hid (colSt tb nm 4=(3,(colSt tb nm 3).2+1)):=if_pos ⟨ht,hn⟩
         have hw:wrap64 ((colSt tb nm 3).2+1)=(colSt tb nm 3).2+1:=by
          obtain ⟨_,_,h3,h4⟩:=colSt_in tb nm 3
          unfold wrap64
          omega
         clear hn ht
         go_upto_region 5 with fail
         go_quiet (fail)
         go_wp2_with fail
         go_roundg 1
         case rel=>exact ⟨4,by omega,rfl,(by rw [U HE];rfl),(by rw [hw,U HE]),rfl,V ((U HX).below (below_drewN (Below.refl _ _) _))⟩
         case measure=>omega
       · have HE:Hid (colSt tb nm 4=colSt tb nm 3):=if_neg (fun h=>ht h.1)
         have hz:tb.isEmpty=false:=by cases tb with | nil=>exact absurd rfl ht | cons _ _=>rfl
         have hz2:(tb == [])=false:=beq_eq_false_iff_ne.2 ht
         clear hn ht
         go_upto_region 5 with fail
         go_quiet (fail)
         go_wp2_with fail
         go_roundg 1
         case rel=>exact ⟨4,by omega,rfl,(by rw [U HE]),(by rw [U HE]),rfl,V ((U HX).below (below_drewN (Below.refl _ _) _))⟩
         case measure=>omega
     · have HE:Hid (colSt tb nm 4=colSt tb nm 3):=if_neg (fun h=>hn h.2)
       have hz:([100] == nm)=false:=beq_eq_false_iff_ne.2 (fun e=>hn e.symm)
       clear hn
       go_upto_region 5 with fail
       go_quiet (fail)
       go_wp2_with fail
       go_roundg 1
       case rel=>exact ⟨4,by omega,rfl,(by rw [U HE]),(by rw [U HE]),rfl,V ((U HX).below (below_drewN (Below.refl _ _) _))⟩
       case measure=>omega
  · skip
    as_aux_lemma=>
     have q0:wr.cell? ⟨bc,16,none⟩=some (.string ⟨#[]⟩):=((U HX).low.cell (p:=⟨bc,16,none⟩) hbc).trans ((U HCC) 4 _ rfl 0 _ rfl)
     have q1:wr.cell? ⟨bc,17,none⟩=some (.string ⟨#[101]⟩):=((U HX).low.cell (p:=⟨bc,17,none⟩) hbc).trans ((U HCC) 4 _ rfl 1 _ rfl)
     by_cases hn:nm=[101]
     · have HS:=V hn
       rw [hn] at c6
       by_cases ht:tb=[]
       · rw [ht] at c5
         have HE:Hid (colSt tb nm 5=(4,(colSt tb nm 4).2+1)):=if_pos ⟨ht,hn⟩
         have hw:wrap64 ((colSt tb nm 4).2+1)=(colSt tb nm 4).2+1:=by
          obtain ⟨_,_,h3,h4⟩:=colSt_in tb nm 4
          unfold wrap64
          omega
         clear hn ht
         go_upto_region 5 with fail
         go_quiet (fail)
         go_wp2_with fail
         go_roundg 0
         case rel=>exact ⟨5,by omega,rfl,(by rw [U HE];rfl),(by rw [hw,U HE]),rfl,V ((U HX).below (below_drewN (Below.refl _ _) _))⟩
         case measure=>omega
       · have HE:Hid (colSt tb nm 5=colSt tb nm 4):=if_neg (fun h=>ht h.1)
         have hz:tb.isEmpty=false:=by cases tb with | nil=>exact absurd rfl ht | cons _ _=>rfl
         have hz2:(tb == [])=false:=beq_eq_false_iff_ne.2 ht
         clear hn ht
         go_upto_region 5 with fail
         go_quiet (fail)
         go_wp2_with fail
         go_roundg 0
         case rel=>exact ⟨5,by omega,rfl,(by rw [U HE]),(by rw [U HE]),rfl,V ((U HX).below (below_drewN (Below.refl _ _) _))⟩
         case measure=>omega
     · have HE:Hid (colSt tb nm 5=colSt tb nm 4):=if_neg (fun h=>hn h.2)
       have hz:([101] == nm)=false:=beq_eq_false_iff_ne.2 (fun e=>hn e.symm)
       clear hn
       go_upto_region 5 with fail
       go_quiet (fail)
       go_wp2_with fail
       go_roundg 0
       case rel=>exact ⟨5,by omega,rfl,(by rw [U HE]),(by rw [U HE]),rfl,V ((U HX).below (below_drewN (Below.refl _ _) _))⟩
       case measure=>omega
  · skip
    have s2:wr.cell? ⟨w.heap.size,2,none⟩=some (.bool false):=cellX (U HX).sc 2
    clear c5 c6 s4
    by_cases h1:(colSt tb nm 5).2=1
    · obtain ⟨g1,g2,_,_⟩:=colSt_in tb nm 5
      have g3:(colSt tb nm 5).1 ≠ 5:=by
       intro h5
       have:(colSt tb nm 5).1 ≤ 4:=by
        have h4:=(colSt_in tb nm 4).2.1
        rw [colSt]
        split
        · show (4:Int) ≤ 4;exact Int.le_refl 4
        · exact h4
       omega
      have g4:(colSt tb nm 5).1=0 ∨ (colSt tb nm 5).1=1 ∨ (colSt tb nm 5).1=2 ∨ (colSt tb nm 5).1=3 ∨ (colSt tb nm 5).1=4:=by
       have:((5:Nat):Int)=5:=rfl
       omega
      clear g1 g2 g3
      rcases g4 with hj | hj | hj | hj | hj
      · skip
        as_aux_lemma=>
         have HR:Hid (resE (n,.nil)=.ok ({ n with at':=0,ty:=2 },.nil)):=by
          show ndR n .nil _=_
          unfold ndR
          rw [if_neg (by rw [hk];decide),if_pos hk,← U HTB,← U HNM,colSt_five,if_pos h1,hj]
          rfl
         have q0:wr.cell? ⟨bc,2,none⟩=some (.int .i64 2):=((U HX).low.cell (p:=⟨bc,2,none⟩) hbc).trans ((U HCC) 0 _ rfl 2 _ rfl)
         have c8:=cellX (U HX).va.1 8
         have c9:=cellX (U HX).va.1 9
         have f8:wr.frozen? ⟨w.heap.size+1,8,none⟩=false:=frzX (U HX).va.1 8
         have f9:wr.frozen? ⟨w.heap.size+1,9,none⟩=false:=frzX (U HX).va.1 9
         have c8':wr.cell? ⟨w.heap.size+1,8,none⟩=some (.int .i64 n.at'):=c8
         have c9':wr.cell? ⟨w.heap.size+1,9,none⟩=some (.int .i64 n.ty):=c9
         have hne:bc ≠ w.heap.size+1:=by omega
         have hne2:w.heap.size ≠ w.heap.size+1:=by omega
         have hb:((colSt tb nm 5).2 == 1)=true:=by rw [h1];rfl
         rw [hj]
         clear h1 hj c8 c9
         go_upto_region 18 with fail
         go_region
         obtain ⟨w2,hw2⟩:∃ w2,w2=((wr.setCell ⟨w.heap.size+1,8,none⟩ (.int .i64 0)).setCell ⟨w.heap.size+1,9,none⟩ (.int .i64 2)).drew:=⟨_,rfl⟩
         have hva:VrX w2 (w.heap.size+1) (ndC { n with at':=0,ty:=2 } (.slice a (cnt .nil) k)):=by
          rw [hw2]
          exact ⟨(setX (setX (U HX).va.1 8 (.int .i64 0)) 9 (.int .i64 2)).trans rfl,rfl⟩
         have hout:VrX w2 (w.heap.size+2) zL:=by
          rw [hw2]
          exact (U HX).out.keep ((Below.heap_setCell _ ⟨w.heap.size+1,9,none⟩ _ (w.heap.size+2) (by show w.heap.size+2 ≠ w.heap.size+1;omega)).trans (Below.heap_setCell _ ⟨w.heap.size+1,8,none⟩ _ (w.heap.size+2) (by show w.heap.size+2 ≠ w.heap.size+1;omega)))
         have hlow:Below w.heap.size w w2:=by
          rw [hw2]
          exact (((U HX).low.setCell (p:=⟨w.heap.size+1,8,none⟩) (by show w.heap.size ≤ w.heap.size+1;omega) _).setCell (p:=⟨w.heap.size+1,9,none⟩) (by show w.heap.size ≤ w.heap.size+1;omega) _).drew
         have HVA:=V hva
         have HOUT:=V hout
         have HLOW:=V hlow
         rw [← hw2]
         clear hw2 hva hout hlow c8' c9' f8 f9 q0 s0 s2
         go_upto_region 19 with fail
         refine wp_region_list ?_
         refine wpList_load_mid rfl 29 (.tmp 3) rfl (w.heap.size+1) 0 rfl (ndC { n with at':=0,ty:=2 } (.slice a (cnt .nil) k)) _ (U HVA).range Tryz.underlying29 rfl sizeEx ?_
         simp only[put,sA,sB,sC]
         refine wpList_store_mid rfl 29 (.tmp 4) (.tmp 87) rfl (w.heap.size+2) 0 (ndC { n with at':=0,ty:=2 } (.slice a (cnt .nil) k)).toArray rfl rfl (U HOUT).there sizeEx (all_oneCell_toArray (ndC_one rfl)) ?_
         show wpList _ _ _ _ _ (w2.setCells (w.heap.size+2) 0 (ndC { n with at':=0,ty:=2 } (.slice a (cnt .nil) k)))
         refine lt 5 (.int .i64 0) ?_
         simp only[put,sA,sB,sC]
         go_wp2_with fail
         have hs:=(U HOUT).set (M':=ndC { n with at':=0,ty:=2 } (.slice a (cnt .nil) k)) rfl
         refine bodyPost_ret (hs.result2 rfl _ rfl) rfl ?_
         rw [U HPP,U HR]
         exact ⟨below_setCells (U HLOW) (by omega) 0 _,_,rfl,_,rfl,slAt_nil (U HX).sl⟩
      · skip
        as_aux_lemma=>
         have HR:Hid (resE (n,.nil)=.ok ({ n with at':=1,ty:=2 },.nil)):=by
          show ndR n .nil _=_
          unfold ndR
          rw [if_neg (by rw [hk];decide),if_pos hk,← U HTB,← U HNM,colSt_five,if_pos h1,hj]
          rfl
         have q0:wr.cell? ⟨bc,6,none⟩=some (.int .i64 2):=((U HX).low.cell (p:=⟨bc,6,none⟩) hbc).trans ((U HCC) 1 _ rfl 2 _ rfl)
         have c8:=cellX (U HX).va.1 8
         have c9:=cellX (U HX).va.1 9
         have f8:wr.frozen? ⟨w.heap.size+1,8,none⟩=false:=frzX (U HX).va.1 8
         have f9:wr.frozen? ⟨w.heap.size+1,9,none⟩=false:=frzX (U HX).va.1 9
         have c8':wr.cell? ⟨w.heap.size+1,8,none⟩=some (.int .i64 n.at'):=c8
         have c9':wr.cell? ⟨w.heap.size+1,9,none⟩=some (.int .i64 n.ty):=c9
         have hne:bc ≠ w.heap.size+1:=by omega
         have hne2:w.heap.size ≠ w.heap.size+1:=by omega
         have hb:((colSt tb nm 5).2 == 1)=true:=by rw [h1];rfl
         rw [hj]
         clear h1 hj c8 c9
         go_upto_region 18 with fail
         go_region
         obtain ⟨w2,hw2⟩:∃ w2,w2=((wr.setCell ⟨w.heap.size+1,8,none⟩ (.int .i64 1)).setCell ⟨w.heap.size+1,9,none⟩ (.int .i64 2)).drew:=⟨_,rfl⟩
         have hva:VrX w2 (w.heap.size+1) (ndC { n with at':=1,ty:=2 } (.slice a (cnt .nil) k)):=by
          rw [hw2]
          exact ⟨(setX (setX (U HX).va.1 8 (.int .i64 1)) 9 (.int .i64 2)).trans rfl,rfl⟩
         have hout:VrX w2 (w.heap.size+2) zL:=by
          rw [hw2]
          exact (U HX).out.keep ((Below.heap_setCell _ ⟨w.heap.size+1,9,none⟩ _ (w.heap.size+2) (by show w.heap.size+2 ≠ w.heap.size+1;omega)).trans (Below.heap_setCell _ ⟨w.heap.size+1,8,none⟩ _ (w.heap.size+2) (by show w.heap.size+2 ≠ w.heap.size+1;omega)))
         have hlow:Below w.heap.size w w2:=by
          rw [hw2]
          exact (((U HX).low.setCell (p:=⟨w.heap.size+1,8,none⟩) (by show w.heap.size ≤ w.heap.size+1;omega) _).setCell (p:=⟨w.heap.size+1,9,none⟩) (by show w.heap.size ≤ w.heap.size+1;omega) _).drew
         have HVA:=V hva
         have HOUT:=V hout
         have HLOW:=V hlow
         rw [← hw2]
         clear hw2 hva hout hlow c8' c9' f8 f9 q0 s0 s2
         go_upto_region 19 with fail
         refine wp_region_list ?_
         refine wpList_load_mid rfl 29 (.tmp 3) rfl (w.heap.size+1) 0 rfl (ndC { n with at':=1,ty:=2 } (.slice a (cnt .nil) k)) _ (U HVA).range Tryz.underlying29 rfl sizeEx ?_
         simp only[put,sA,sB,sC]
         refine wpList_store_mid rfl 29 (.tmp 4) (.tmp 87) rfl (w.heap.size+2) 0 (ndC { n with at':=1,ty:=2 } (.slice a (cnt .nil) k)).toArray rfl rfl (U HOUT).there sizeEx (all_oneCell_toArray (ndC_one rfl)) ?_
         show wpList _ _ _ _ _ (w2.setCells (w.heap.size+2) 0 (ndC { n with at':=1,ty:=2 } (.slice a (cnt .nil) k)))
         refine lt 5 (.int .i64 0) ?_
         simp only[put,sA,sB,sC]
         go_wp2_with fail
         have hs:=(U HOUT).set (M':=ndC { n with at':=1,ty:=2 } (.slice a (cnt .nil) k)) rfl
         refine bodyPost_ret (hs.result2 rfl _ rfl) rfl ?_
         rw [U HPP,U HR]
         exact ⟨below_setCells (U HLOW) (by omega) 0 _,_,rfl,_,rfl,slAt_nil (U HX).sl⟩
      · skip
        as_aux_lemma=>
         have HR:Hid (resE (n,.nil)=.ok ({ n with at':=2,ty:=1 },.nil)):=by
          show ndR n .nil _=_
          unfold ndR
          rw [if_neg (by rw [hk];decide),if_pos hk,← U HTB,← U HNM,colSt_five,if_pos h1,hj]
          rfl
         have q0:wr.cell? ⟨bc,10,none⟩=some (.int .i64 1):=((U HX).low.cell (p:=⟨bc,10,none⟩) hbc).trans ((U HCC) 2 _ rfl 2 _ rfl)
         have c8:=cellX (U HX).va.1 8
         have c9:=cellX (U HX).va.1 9
         have f8:wr.frozen? ⟨w.heap.size+1,8,none⟩=false:=frzX (U HX).va.1 8
         have f9:wr.frozen? ⟨w.heap.size+1,9,none⟩=false:=frzX (U HX).va.1 9
         have c8':wr.cell? ⟨w.heap.size+1,8,none⟩=some (.int .i64 n.at'):=c8
         have c9':wr.cell? ⟨w.heap.size+1,9,none⟩=some (.int .i64 n.ty):=c9
         have hne:bc ≠ w.heap.size+1:=by omega
         have hne2:w.heap.size ≠ w.heap.size+1:=by omega
         have hb:((colSt tb nm 5).2 == 1)=true:=by rw [h1];rfl
         rw [hj]
         clear h1 hj c8 c9
         go_upto_region 18 with fail
         go_region
         obtain ⟨w2,hw2⟩:∃ w2,w2=((wr.setCell ⟨w.heap.size+1,8,none⟩ (.int .i64 2)).setCell ⟨w.heap.size+1,9,none⟩ (.int .i64 1)).drew:=⟨_,rfl⟩
         have hva:VrX w2 (w.heap.size+1) (ndC { n with at':=2,ty:=1 } (.slice a (cnt .nil) k)):=by
          rw [hw2]
          exact ⟨(setX (setX (U HX).va.1 8 (.int .i64 2)) 9 (.int .i64 1)).trans rfl,rfl⟩
         have hout:VrX w2 (w.heap.size+2) zL:=by
          rw [hw2]
          exact (U HX).out.keep ((Below.heap_setCell _ ⟨w.heap.size+1,9,none⟩ _ (w.heap.size+2) (by show w.heap.size+2 ≠ w.heap.size+1;omega)).trans (Below.heap_setCell _ ⟨w.heap.size+1,8,none⟩ _ (w.heap.size+2) (by show w.heap.size+2 ≠ w.heap.size+1;omega)))
         have hlow:Below w.heap.size w w2:=by
          rw [hw2]
          exact (((U HX).low.setCell (p:=⟨w.heap.size+1,8,none⟩) (by show w.heap.size ≤ w.heap.size+1;omega) _).setCell (p:=⟨w.heap.size+1,9,none⟩) (by show w.heap.size ≤ w.heap.size+1;omega) _).drew
         have HVA:=V hva
         have HOUT:=V hout
         have HLOW:=V hlow
         rw [← hw2]
         clear hw2 hva hout hlow c8' c9' f8 f9 q0 s0 s2
         go_upto_region 19 with fail
         refine wp_region_list ?_
         refine wpList_load_mid rfl 29 (.tmp 3) rfl (w.heap.size+1) 0 rfl (ndC { n with at':=2,ty:=1 } (.slice a (cnt .nil) k)) _ (U HVA).range Tryz.underlying29 rfl sizeEx ?_
         simp only[put,sA,sB,sC]
         refine wpList_store_mid rfl 29 (.tmp 4) (.tmp 87) rfl (w.heap.size+2) 0 (ndC { n with at':=2,ty:=1 } (.slice a (cnt .nil) k)).toArray rfl rfl (U HOUT).there sizeEx (all_oneCell_toArray (ndC_one rfl)) ?_
         show wpList _ _ _ _ _ (w2.setCells (w.heap.size+2) 0 (ndC { n with at':=2,ty:=1 } (.slice a (cnt .nil) k)))
         refine lt 5 (.int .i64 0) ?_
         simp only[put,sA,sB,sC]
         go_wp2_with fail
         have hs:=(U HOUT).set (M':=ndC { n with at':=2,ty:=1 } (.slice a (cnt .nil) k)) rfl
         refine bodyPost_ret (hs.result2 rfl _ rfl) rfl ?_
         rw [U HPP,U HR]
         exact ⟨below_setCells (U HLOW) (by omega) 0 _,_,rfl,_,rfl,slAt_nil (U HX).sl⟩
      · skip
        as_aux_lemma=>
         have HR:Hid (resE (n,.nil)=.ok ({ n with at':=3,ty:=3 },.nil)):=by
          show ndR n .nil _=_
          unfold ndR
          rw [if_neg (by rw [hk];decide),if_pos hk,← U HTB,← U HNM,colSt_five,if_pos h1,hj]
          rfl
         have q0:wr.cell? ⟨bc,14,none⟩=some (.int .i64 3):=((U HX).low.cell (p:=⟨bc,14,none⟩) hbc).trans ((U HCC) 3 _ rfl 2 _ rfl)
         have c8:=cellX (U HX).va.1 8
         have c9:=cellX (U HX).va.1 9
         have f8:wr.frozen? ⟨w.heap.size+1,8,none⟩=false:=frzX (U HX).va.1 8
         have f9:wr.frozen? ⟨w.heap.size+1,9,none⟩=false:=frzX (U HX).va.1 9
         have c8':wr.cell? ⟨w.heap.size+1,8,none⟩=some (.int .i64 n.at'):=c8
         have c9':wr.cell? ⟨w.heap.size+1,9,none⟩=some (.int .i64 n.ty):=c9
         have hne:bc ≠ w.heap.size+1:=by omega
         have hne2:w.heap.size ≠ w.heap.size+1:=by omega
         have hb:((colSt tb nm 5).2 == 1)=true:=by rw [h1];rfl
         rw [hj]
         clear h1 hj c8 c9
         go_upto_region 18 with fail
         go_region
         obtain ⟨w2,hw2⟩:∃ w2,w2=((wr.setCell ⟨w.heap.size+1,8,none⟩ (.int .i64 3)).setCell ⟨w.heap.size+1,9,none⟩ (.int .i64 3)).drew:=⟨_,rfl⟩
         have hva:VrX w2 (w.heap.size+1) (ndC { n with at':=3,ty:=3 } (.slice a (cnt .nil) k)):=by
          rw [hw2]
          exact ⟨(setX (setX (U HX).va.1 8 (.int .i64 3)) 9 (.int .i64 3)).trans rfl,rfl⟩
         have hout:VrX w2 (w.heap.size+2) zL:=by
          rw [hw2]
          exact (U HX).out.keep ((Below.heap_setCell _ ⟨w.heap.size+1,9,none⟩ _ (w.heap.size+2) (by show w.heap.size+2 ≠ w.heap.size+1;omega)).trans (Below.heap_setCell _ ⟨w.heap.size+1,8,none⟩ _ (w.heap.size+2) (by show w.heap.size+2 ≠ w.heap.size+1;omega)))
         have hlow:Below w.heap.size w w2:=by
          rw [hw2]
          exact (((U HX).low.setCell (p:=⟨w.heap.size+1,8,none⟩) (by show w.heap.size ≤ w.heap.size+1;omega) _).setCell (p:=⟨w.heap.size+1,9,none⟩) (by show w.heap.size ≤ w.heap.size+1;omega) _).drew
         have HVA:=V hva
         have HOUT:=V hout
         have HLOW:=V hlow
         rw [← hw2]
         clear hw2 hva hout hlow c8' c9' f8 f9 q0 s0 s2
         go_upto_region 19 with fail
         refine wp_region_list ?_
         refine wpList_load_mid rfl 29 (.tmp 3) rfl (w.heap.size+1) 0 rfl (ndC { n with at':=3,ty:=3 } (.slice a (cnt .nil) k)) _ (U HVA).range Tryz.underlying29 rfl sizeEx ?_
         simp only[put,sA,sB,sC]
         refine wpList_store_mid rfl 29 (.tmp 4) (.tmp 87) rfl (w.heap.size+2) 0 (ndC { n with at':=3,ty:=3 } (.slice a (cnt .nil) k)).toArray rfl rfl (U HOUT).there sizeEx (all_oneCell_toArray (ndC_one rfl)) ?_
         show wpList _ _ _ _ _ (w2.setCells (w.heap.size+2) 0 (ndC { n with at':=3,ty:=3 } (.slice a (cnt .nil) k)))
         refine lt 5 (.int .i64 0) ?_
         simp only[put,sA,sB,sC]
         go_wp2_with fail
         have hs:=(U HOUT).set (M':=ndC { n with at':=3,ty:=3 } (.slice a (cnt .nil) k)) rfl
         refine bodyPost_ret (hs.result2 rfl _ rfl) rfl ?_
         rw [U HPP,U HR]
         exact ⟨below_setCells (U HLOW) (by omega) 0 _,_,rfl,_,rfl,slAt_nil (U HX).sl⟩
      · skip
        as_aux_lemma=>
         have HR:Hid (resE (n,.nil)=.ok ({ n with at':=4,ty:=3 },.nil)):=by
          show ndR n .nil _=_
          unfold ndR
          rw [if_neg (by rw [hk];decide),if_pos hk,← U HTB,← U HNM,colSt_five,if_pos h1,hj]
          rfl
         have q0:wr.cell? ⟨bc,18,none⟩=some (.int .i64 3):=((U HX).low.cell (p:=⟨bc,18,none⟩) hbc).trans ((U HCC) 4 _ rfl 2 _ rfl)
         have c8:=cellX (U HX).va.1 8
         have c9:=cellX (U HX).va.1 9
         have f8:wr.frozen? ⟨w.heap.size+1,8,none⟩=false:=frzX (U HX).va.1 8
         have f9:wr.frozen? ⟨w.heap.size+1,9,none⟩=false:=frzX (U HX).va.1 9
         have c8':wr.cell? ⟨w.heap.size+1,8,none⟩=some (.int .i64 n.at'):=c8
         have c9':wr.cell? ⟨w.heap.size+1,9,none⟩=some (.int .i64 n.ty):=c9
         have hne:bc ≠ w.heap.size+1:=by omega
         have hne2:w.heap.size ≠ w.heap.size+1:=by omega
         have hb:((colSt tb nm 5).2 == 1)=true:=by rw [h1];rfl
         rw [hj]
         clear h1 hj c8 c9
         go_upto_region 18 with fail
         go_region
         obtain ⟨w2,hw2⟩:∃ w2,w2=((wr.setCell ⟨w.heap.size+1,8,none⟩ (.int .i64 4)).setCell ⟨w.heap.size+1,9,none⟩ (.int .i64 3)).drew:=⟨_,rfl⟩
         have hva:VrX w2 (w.heap.size+1) (ndC { n with at':=4,ty:=3 } (.slice a (cnt .nil) k)):=by
          rw [hw2]
          exact ⟨(setX (setX (U HX).va.1 8 (.int .i64 4)) 9 (.int .i64 3)).trans rfl,rfl⟩
         have hout:VrX w2 (w.heap.size+2) zL:=by
          rw [hw2]
          exact (U HX).out.keep ((Below.heap_setCell _ ⟨w.heap.size+1,9,none⟩ _ (w.heap.size+2) (by show w.heap.size+2 ≠ w.heap.size+1;omega)).trans (Below.heap_setCell _ ⟨w.heap.size+1,8,none⟩ _ (w.heap.size+2) (by show w.heap.size+2 ≠ w.heap.size+1;omega)))
         have hlow:Below w.heap.size w w2:=by
          rw [hw2]
          exact (((U HX).low.setCell (p:=⟨w.heap.size+1,8,none⟩) (by show w.heap.size ≤ w.heap.size+1;omega) _).setCell (p:=⟨w.heap.size+1,9,none⟩) (by show w.heap.size ≤ w.heap.size+1;omega) _).drew
         have HVA:=V hva
         have HOUT:=V hout
         have HLOW:=V hlow
         rw [← hw2]
         clear hw2 hva hout hlow c8' c9' f8 f9 q0 s0 s2
         go_upto_region 19 with fail
         refine wp_region_list ?_
         refine wpList_load_mid rfl 29 (.tmp 3) rfl (w.heap.size+1) 0 rfl (ndC { n with at':=4,ty:=3 } (.slice a (cnt .nil) k)) _ (U HVA).range Tryz.underlying29 rfl sizeEx ?_
         simp only[put,sA,sB,sC]
         refine wpList_store_mid rfl 29 (.tmp 4) (.tmp 87) rfl (w.heap.size+2) 0 (ndC { n with at':=4,ty:=3 } (.slice a (cnt .nil) k)).toArray rfl rfl (U HOUT).there sizeEx (all_oneCell_toArray (ndC_one rfl)) ?_
         show wpList _ _ _ _ _ (w2.setCells (w.heap.size+2) 0 (ndC { n with at':=4,ty:=3 } (.slice a (cnt .nil) k)))
         refine lt 5 (.int .i64 0) ?_
         simp only[put,sA,sB,sC]
         go_wp2_with fail
         have hs:=(U HOUT).set (M':=ndC { n with at':=4,ty:=3 } (.slice a (cnt .nil) k)) rfl
         refine bodyPost_ret (hs.result2 rfl _ rfl) rfl ?_
         rw [U HPP,U HR]
         exact ⟨below_setCells (U HLOW) (by omega) 0 _,_,rfl,_,rfl,slAt_nil (U HX).sl⟩
    · skip
      as_aux_lemma=>
       have hb:((colSt tb nm 5).2 == 1)=false:=beq_eq_false_iff_ne.2 h1
       have hb2:((colSt tb nm 5).2=1)=False:=by simp;exact h1
       have HR:Hid (resE (n,.nil)=.error 3):=by
        show ndR n .nil _=_
        unfold ndR
        rw [if_neg (by rw [hk];decide),if_pos hk,← U HTB,← U HNM,colSt_five,if_neg h1]
       clear h1
       go_upto_region 9 with fail
       refine wp_region_list ?_
       refine lt 54 (.agg zL.toArray) ?_
       simp only[put,sA,sB,sC]
       refine wpList_store_mid rfl 29 (.tmp 4) (.tmp 54) rfl (w.heap.size+2) 0 zL.toArray rfl rfl (U HX).out.there sizeEx (all_oneCell_toArray (by decide)) ?_
       show wpList _ _ _ _ _ (wr.setCells (w.heap.size+2) 0 zL)
       refine lt 5 (.int .i64 3) ?_
       simp only[put,sA,sB,sC]
       go_wp2_with fail
       have hs:=(U HX).out.set (M':=zL) rfl
       refine bodyPost_ret (hs.result2 rfl _ rfl) rfl ?_
       rw [U HPP,U HR]
       exact ⟨below_setCells (U HX).low (by omega) 0 zL,rfl⟩
end Go.Proofs.YtpnonhjmpnbmcaaGreatDoor
