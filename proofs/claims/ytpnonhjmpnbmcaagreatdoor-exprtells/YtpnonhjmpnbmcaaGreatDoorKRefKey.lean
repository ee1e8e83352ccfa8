/- Contract of the document's Key. -/
import Derived.Test.YtpnonhjmpnbmcaaGreatDoorKRef
import Derived.Test.YtpnonhjmpnbmcaaGreatDoorJKAppKApp2KKey
namespace Go.Proofs.YtpnonhjmpnbmcaaGreatDoor
open Go.RowKit Go.Lib
open Act (put)
set_option maxHeartbeats 12800000
set_option maxRecDepth 100000
/-- What the document's Key tells. -/
def RKeyPost (gs:List GV) (w:World) (e:Ending) (w':World):Prop:=
 Below w.heap.size w w'∧((gs.length ≤ 16∧(∀ g ∈ gs,g.may=true)∧∃ a k,e=.returned (.tuple #[.slice a (keyG gs).length k,.int .i64 0])∧w'.ownsRow w.heap.size 5 1 (.slice a (keyG gs).length k) (keyG gs).length (byteCells (keyG gs))) ∨
  ((16 < gs.length ∨ ∃ g ∈ gs,g.may=false)∧e=.returned (.tuple #[.slice none 0 0,.int .i64 20])))
theorem rkey_ok {gs:List GV} {w w':World} {v:Value} (hb:Below w.heap.size w w') (hl:gs.length ≤ 16) (hm:∀ g ∈ gs,g.may=true) (ho:w'.ownsRow w.heap.size 5 1 v (keyG gs).length (byteCells (keyG gs))):RKeyPost gs w (.returned (.tuple #[v,.int .i64 0])) w':=by
 obtain ⟨a,k,rfl⟩:=own_is ho
 exact ⟨hb,.inl ⟨hl,hm,a,k,rfl,ho⟩⟩
/-- What stands at the head of its loop. -/
def RK (gs:List GV) (w:World) (j:Nat) (r:Value) (wr:World):Prop:=
 (∀ g ∈ gs.take j,g.may=true)∧wr.ownsRow w.heap.size 5 1 r (keyG (gs.take j)).length (byteCells (keyG (gs.take j)))∧Below w.heap.size w wr
theorem RK.next {gs:List GV} {w wr w':World} {j n:Nat} {r r':Value} {g:GV} {xs:List Value} (h:RK gs w j r wr) (hg:gs[j]?=some g) (hm:g.may=true) (hn:n=(keyG (gs.take j)).length+(keyV g).length) (hx:xs=byteCells (keyG (gs.take j)) ++ byteCells (keyV g)) (ho:w'.ownsRow w.heap.size 5 1 r' n xs) (hb:Below w.heap.size w w'):RK gs w (j+1) r' w':=by
 refine ⟨fun x hx=>?_,?_,hb⟩
 · rw [List.take_add_one,hg] at hx
   rcases List.mem_append.1 hx with hx | hx
   · exact h.1 x hx
   · simp at hx;subst hx;exact hm
 · rw [keyG_snoc _ _ _ hg]
   exact own_cast ho (by rw [hn];simp) (by rw [hx];simp [byteCells])
theorem rkey_any (v:Value) (gs:List GV) (w:World) (h:RVu w w.heap.size v gs):Calls Tryz.prog 18 #[v] w fun e w'=>RKeyPost gs w e w':=by
 obtain ⟨i0,hi,hz0,hz1,hz2⟩:=info_parts Tryz.infoB
 obtain ⟨h1,h2,⟨rfl,rfl⟩ | ⟨b,off,cap,hbB,rfl,hc⟩⟩:=h
 · clear h1 h2
   go_enter Tryz.func18,Tryz.ntmps18
   go_wp2
   refine wp_loop_rounds 1 ?_
   rw [rounds_succ]
   go_wp2
   go_ret2
   exact rkey_ok (Below.refl _ _) (by simp) (by simp) (World.ownsRow_nil _ _ _ _)
 · have hl':(gs.length:Int) ≤ 9223372036854775807:=by unfold maxLen at h1;omega
   by_cases h16:16 < gs.length
   · have h16':(16:Int) < (gs.length:Int):=by omega
     clear hc h2
     go_enter Tryz.func18,Tryz.ntmps18
     go_wp2
     go_ret2
     exact ⟨Below.refl _ _,.inr ⟨.inl h16,rfl⟩⟩
   · have h16':((16:Int) < (gs.length:Int))=False:=by simp;omega
     have HC:=V hc
     have HO:=V h2
     have HL:=V h16
     clear hc h1 h2 h16
     go_enter Tryz.func18,Tryz.ntmps18
     go_wp2
     go_loopw [4,5] (fun r i wr=>∃ j:Nat,j ≤ gs.length∧i=.int .i64 j∧Hid (RK gs w j r wr)) (fun _ i _=>gs.length - (RowKit.intOf i).toNat)
     case atStart=>exact ⟨0,by omega,rfl,by intro g hg;simp at hg,World.ownsRow_nil _ _ _ _,Below.refl _ _⟩
     case round=>
      obtain ⟨j,hj,rfl,HR⟩:=hrel
      have hbw:=(U HR).2.2
      have hsz:=hbw.size
      by_cases hlt:j < gs.length
      · obtain ⟨g,hgk⟩:∃ g,gs[j]?=some g:=⟨gs[j],List.getElem?_eq_getElem hlt⟩
        obtain ⟨q0,q1,q2⟩:=U HC j g hgk
        have c0:=(hbw.cell (p:=⟨b,off+j * 3,none⟩) hbB).trans q0
        have c1:=(hbw.cell (p:=⟨b,off+j * 3+1,none⟩) hbB).trans q1
        have c2:=(hbw.cell (p:=⟨b,off+j * 3+2,none⟩) hbB).trans q2
        have hgo:=U HO g (List.mem_of_getElem? hgk)
        have HG:=V hgk
        have HI:=V (refIs_any g wr hgo)
        have HB:=V hbw
        have hji:(j:Int) < (gs.length:Int):=by omega
        have HLT:=V hlt
        clear hlt HC HO
        cases hm:g.may with
        | false=>
         rw [hm] at HI
         have HM:=V hm
         clear hgo hgk hbw hm q0 q1 q2
         obtain ⟨k,n,t⟩:=g
         rw [GV.agg_eq] at HI
         dsimp only at c0 c1 c2 HI
         go_wp2_with (first | (go_at_call 31;refine (U HI).mono ?_;clear HI;rintro e w1 ⟨rfl,rfl⟩))
         go_ret2
         exact ⟨one_new' (U HB) _,.inr ⟨.inr ⟨_,List.mem_of_getElem? (U HG),U HM⟩,rfl⟩⟩
        | true=>
         rw [hm] at HI
         have HM:=V hm
         have hm0:(keyG (gs.take j)).length ≤ 800:=by
          have h3:=keyG_len (gs.take j) (U HR).1
          have h4:(gs.take j).length ≤ 16:=by have:=U HL;have:=U HLT;simp;omega
          omega
         have hown:=(U HR).2.1
         have HNX:=V (fun (n:Nat) (xs:List Value) (r':Value) (w':World) (hn:n=(keyG (gs.take j)).length+(keyV g).length) (hx:xs=byteCells (keyG (gs.take j)) ++ byteCells (keyV g)) (ho:w'.ownsRow w.heap.size 5 1 r' n xs) (hb:Below w.heap.size w w')=>(U HR).next hgk hm hn hx ho hb)
         have HQ:=V (And.intro q0 (And.intro q1 q2))
         have hkk:=may_kind' hm
         generalize (keyG (gs.take j)).length=m at *
         generalize byteCells (keyG (gs.take j))=xs at *
         have hk0:=hm
         clear hgk hm q0 q1 q2
         obtain ⟨k,n,t⟩:=g
         rw [GV.agg_eq] at HI
         dsimp only at c0 c1 c2 HI HQ hkk
         have HK0:=V hk0
         clear hk0
         rcases hkk with rfl | rfl | rfl | rfl
         · obtain ⟨rfl,rfl⟩:=may_0 (U HK0)
           as_aux_lemma=>
            go_wp2_with (first
             | (go_at_call 31;refine (U HI).mono ?_;clear HI;rintro e w1 ⟨rfl,rfl⟩;have e0:=(World.cell?_alloc_lt wr (.cells #[.int .i64 0,.int .i64 0,.string ⟨#[]⟩] 26) ⟨b,off+j * 3,none⟩ (Nat.lt_of_lt_of_le hbB hsz)).trans c0)
             | (at_builtin;refine wpList_append_own _ rfl (.tmp 23) (.tmp 30) 52 rfl w.heap.size 5 i0 (.int .u8 0) 1 1 Tryz.underlying52 hi hz0 hz1 hz2 rfl (by decide) _ _ _ rfl ((hown.alloc (.cells #[.int .i64 0,.int .i64 0,.string ⟨#[]⟩] 26)).alloc _) ⟨wr.heap.size+1,0,none⟩ 1 1 [_] rfl rfl (one_new2 _ _ _ (by simp)) one_cell (by unfold maxLen;omega) (by omega) (by simp;omega) ?_))
            intro v1 w1 hown1 hg _
            have hb1:Below w.heap.size w w1:=((hbw.alloc hsz (.cells #[.int .i64 0,.int .i64 0,.string ⟨#[]⟩] 26)).alloc (by simp;omega) _).grown hg (by simp;omega) (own_block_ge hown)
            clear hg hown c0 c1 c2 e0
            have z1:=hb1.size
            have c0:=(hb1.cell (p:=⟨b,off+j * 3,none⟩) hbB).trans (U HQ).1
            have c1:=(hb1.cell (p:=⟨b,off+j * 3+1,none⟩) hbB).trans (U HQ).2.1
            have c2:=(hb1.cell (p:=⟨b,off+j * 3+2,none⟩) hbB).trans (U HQ).2.2
            go_wp2
            go_roundw
            case rel=>exact ⟨j+1,by have:=U HLT;omega,by go_num,U HNX _ _ _ _ (rfl) (rfl) hown1 hb1⟩
            case measure=>have:=U HLT;simp [RowKit.intOf];omega
         · obtain ⟨hn,rfl⟩:=may_1 (U HK0)
           rcases hn with rfl | rfl
           · as_aux_lemma=>
              go_wp2_with (first
               | (go_at_call 31;refine (U HI).mono ?_;clear HI;rintro e w1 ⟨rfl,rfl⟩;have e0:=(World.cell?_alloc_lt wr (.cells #[.int .i64 1,.int .i64 0,.string ⟨#[]⟩] 26) ⟨b,off+j * 3,none⟩ (Nat.lt_of_lt_of_le hbB hsz)).trans c0)
               | (at_builtin;refine wpList_append_own _ rfl (.tmp 23) (.tmp 30) 52 rfl w.heap.size 5 i0 (.int .u8 0) 1 1 Tryz.underlying52 hi hz0 hz1 hz2 rfl (by decide) _ _ _ rfl ((hown.alloc (.cells #[.int .i64 1,.int .i64 0,.string ⟨#[]⟩] 26)).alloc _) ⟨wr.heap.size+1,0,none⟩ 1 1 [_] rfl rfl (one_new2 _ _ _ (by simp)) one_cell (by unfold maxLen;omega) (by omega) (by simp;omega) ?_))
              intro v1 w1 hown1 hg _
              have hb1:Below w.heap.size w w1:=((hbw.alloc hsz (.cells #[.int .i64 1,.int .i64 0,.string ⟨#[]⟩] 26)).alloc (by simp;omega) _).grown hg (by simp;omega) (own_block_ge hown)
              clear hg hown c0 c1 c2 e0
              have z1:=hb1.size
              have c0:=(hb1.cell (p:=⟨b,off+j * 3,none⟩) hbB).trans (U HQ).1
              have c1:=(hb1.cell (p:=⟨b,off+j * 3+1,none⟩) hbB).trans (U HQ).2.1
              have c2:=(hb1.cell (p:=⟨b,off+j * 3+2,none⟩) hbB).trans (U HQ).2.2
              go_wp2_with (first | (at_builtin;refine wpList_append_own _ rfl (.tmp 39) (.tmp 46) 52 rfl w.heap.size 5 i0 (.int .u8 0) 1 1 Tryz.underlying52 hi hz0 hz1 hz2 rfl (by decide) _ _ _ rfl (hown1.alloc _) ⟨w1.heap.size,0,none⟩ 1 1 [_] rfl rfl (one_new _ _ _) one_cell (by unfold maxLen;omega) (by omega) (by simp;omega) ?_))
              intro v2 w2 hown2 hg _
              have hb2:Below w.heap.size w w2:=(hb1.alloc (by omega) _).grown hg (by simp;omega) (own_block_ge hown1)
              clear hg hown1
              go_wp2
              go_roundw
              case rel=>exact ⟨j+1,by have:=U HLT;omega,by go_num,U HNX _ _ _ _ (rfl) (by first | rfl | (rw [List.append_assoc];rfl)) hown2 hb2⟩
              case measure=>have:=U HLT;simp [RowKit.intOf];omega
           · as_aux_lemma=>
              go_wp2_with (first
               | (go_at_call 31;refine (U HI).mono ?_;clear HI;rintro e w1 ⟨rfl,rfl⟩;have e0:=(World.cell?_alloc_lt wr (.cells #[.int .i64 1,.int .i64 1,.string ⟨#[]⟩] 26) ⟨b,off+j * 3,none⟩ (Nat.lt_of_lt_of_le hbB hsz)).trans c0)
               | (at_builtin;refine wpList_append_own _ rfl (.tmp 23) (.tmp 30) 52 rfl w.heap.size 5 i0 (.int .u8 0) 1 1 Tryz.underlying52 hi hz0 hz1 hz2 rfl (by decide) _ _ _ rfl ((hown.alloc (.cells #[.int .i64 1,.int .i64 1,.string ⟨#[]⟩] 26)).alloc _) ⟨wr.heap.size+1,0,none⟩ 1 1 [_] rfl rfl (one_new2 _ _ _ (by simp)) one_cell (by unfold maxLen;omega) (by omega) (by simp;omega) ?_))
              intro v1 w1 hown1 hg _
              have hb1:Below w.heap.size w w1:=((hbw.alloc hsz (.cells #[.int .i64 1,.int .i64 1,.string ⟨#[]⟩] 26)).alloc (by simp;omega) _).grown hg (by simp;omega) (own_block_ge hown)
              clear hg hown c0 c1 c2 e0
              have z1:=hb1.size
              have c0:=(hb1.cell (p:=⟨b,off+j * 3,none⟩) hbB).trans (U HQ).1
              have c1:=(hb1.cell (p:=⟨b,off+j * 3+1,none⟩) hbB).trans (U HQ).2.1
              have c2:=(hb1.cell (p:=⟨b,off+j * 3+2,none⟩) hbB).trans (U HQ).2.2
              go_wp2_with (first | (at_builtin;refine wpList_append_own _ rfl (.tmp 39) (.tmp 46) 52 rfl w.heap.size 5 i0 (.int .u8 0) 1 1 Tryz.underlying52 hi hz0 hz1 hz2 rfl (by decide) _ _ _ rfl (hown1.alloc _) ⟨w1.heap.size,0,none⟩ 1 1 [_] rfl rfl (one_new _ _ _) one_cell (by unfold maxLen;omega) (by omega) (by simp;omega) ?_))
              intro v2 w2 hown2 hg _
              have hb2:Below w.heap.size w w2:=(hb1.alloc (by omega) _).grown hg (by simp;omega) (own_block_ge hown1)
              clear hg hown1
              go_wp2
              go_roundw
              case rel=>exact ⟨j+1,by have:=U HLT;omega,by go_num,U HNX _ _ _ _ (rfl) (by first | rfl | (rw [List.append_assoc];rfl)) hown2 hb2⟩
              case measure=>have:=U HLT;simp [RowKit.intOf];omega
         · obtain rfl:=may_2 (U HK0)
           as_aux_lemma=>
            go_wp2_with (first
             | (go_at_call 31;refine (U HI).mono ?_;clear HI;rintro e w1 ⟨rfl,rfl⟩;have e0:=(World.cell?_alloc_lt wr (.cells #[.int .i64 2,.int .i64 n,.string ⟨#[]⟩] 26) ⟨b,off+j * 3,none⟩ (Nat.lt_of_lt_of_le hbB hsz)).trans c0)
             | (at_builtin;refine wpList_append_own _ rfl (.tmp 23) (.tmp 30) 52 rfl w.heap.size 5 i0 (.int .u8 0) 1 1 Tryz.underlying52 hi hz0 hz1 hz2 rfl (by decide) _ _ _ rfl ((hown.alloc (.cells #[.int .i64 2,.int .i64 n,.string ⟨#[]⟩] 26)).alloc _) ⟨wr.heap.size+1,0,none⟩ 1 1 [_] rfl rfl (one_new2 _ _ _ (by simp)) one_cell (by unfold maxLen;omega) (by omega) (by simp;omega) ?_))
            intro v1 w1 hown1 hg _
            have hb1:Below w.heap.size w w1:=((hbw.alloc hsz (.cells #[.int .i64 2,.int .i64 n,.string ⟨#[]⟩] 26)).alloc (by simp;omega) _).grown hg (by simp;omega) (own_block_ge hown)
            clear hg hown c0 c1 c2 e0
            have z1:=hb1.size
            have c0:=(hb1.cell (p:=⟨b,off+j * 3,none⟩) hbB).trans (U HQ).1
            have c1:=(hb1.cell (p:=⟨b,off+j * 3+1,none⟩) hbB).trans (U HQ).2.1
            have c2:=(hb1.cell (p:=⟨b,off+j * 3+2,none⟩) hbB).trans (U HQ).2.2
            obtain ⟨L,hL⟩:∃ L:Nat,n+9223372036854775808=(L:Int):=⟨(n+9223372036854775808).toNat,by have:=hgo.1;dsimp only at this;omega⟩
            have hLb:L < 18446744073709551616:=by have:=hgo.2.1;dsimp only at this;omega
            have hw1:IntKind.u64.wrap (IntKind.u64.wrap n+9223372036854775808)=(L:Int):=by rw [IntKind.wrap_u64,IntKind.wrap_u64];have:=hgo.1;have:=hgo.2.1;dsimp only at *;omega
            have HCC:=V (be8_cells hLb)
            have HLL:=V hL
            have hLi:(L:Int) < 18446744073709551616:=by omega
            clear hL hgo
            go_wp2
            refine wp_loop_rounds 9 ?_
            rw [rounds_succ]
            go_wp2_with (first | (at_builtin;refine wpList_append_own _ rfl (.tmp 61) (.tmp 67) 52 rfl w.heap.size 5 i0 (.int .u8 0) 1 1 Tryz.underlying52 hi hz0 hz1 hz2 rfl (by decide) _ _ _ rfl (hown1.alloc _) ⟨w1.heap.size,0,none⟩ 1 1 [_] rfl rfl (one_new _ _ _) one_cell (by unfold maxLen;omega) (by omega) (by have:=hb1.size;simp;omega) ?_))
            intro v2 w2 hown2 hg _
            have hb2:Below w.heap.size w w2:=(hb1.alloc hb1.size _).grown hg (by have:=hb1.size;simp;omega) (own_block_ge hown1)
            clear hg hown1
            go_wp2
            rw [rounds_succ]
            go_wp2_with (first | (at_builtin;refine wpList_append_own _ rfl (.tmp 61) (.tmp 67) 52 rfl w.heap.size 5 i0 (.int .u8 0) 1 1 Tryz.underlying52 hi hz0 hz1 hz2 rfl (by decide) _ _ _ rfl (hown2.alloc _) ⟨w2.heap.size,0,none⟩ 1 1 [_] rfl rfl (one_new _ _ _) one_cell (by unfold maxLen;omega) (by omega) (by have:=hb2.size;simp;omega) ?_))
            intro v3 w3 hown3 hg _
            have hb3:Below w.heap.size w w3:=(hb2.alloc hb2.size _).grown hg (by have:=hb2.size;simp;omega) (own_block_ge hown2)
            clear hg hown2
            go_wp2
            rw [rounds_succ]
            go_wp2_with (first | (at_builtin;refine wpList_append_own _ rfl (.tmp 61) (.tmp 67) 52 rfl w.heap.size 5 i0 (.int .u8 0) 1 1 Tryz.underlying52 hi hz0 hz1 hz2 rfl (by decide) _ _ _ rfl (hown3.alloc _) ⟨w3.heap.size,0,none⟩ 1 1 [_] rfl rfl (one_new _ _ _) one_cell (by unfold maxLen;omega) (by omega) (by have:=hb3.size;simp;omega) ?_))
            intro v4 w4 hown4 hg _
            have hb4:Below w.heap.size w w4:=(hb3.alloc hb3.size _).grown hg (by have:=hb3.size;simp;omega) (own_block_ge hown3)
            clear hg hown3
            go_wp2
            rw [rounds_succ]
            go_wp2_with (first | (at_builtin;refine wpList_append_own _ rfl (.tmp 61) (.tmp 67) 52 rfl w.heap.size 5 i0 (.int .u8 0) 1 1 Tryz.underlying52 hi hz0 hz1 hz2 rfl (by decide) _ _ _ rfl (hown4.alloc _) ⟨w4.heap.size,0,none⟩ 1 1 [_] rfl rfl (one_new _ _ _) one_cell (by unfold maxLen;omega) (by omega) (by have:=hb4.size;simp;omega) ?_))
            intro v5 w5 hown5 hg _
            have hb5:Below w.heap.size w w5:=(hb4.alloc hb4.size _).grown hg (by have:=hb4.size;simp;omega) (own_block_ge hown4)
            clear hg hown4
            go_wp2
            rw [rounds_succ]
            go_wp2_with (first | (at_builtin;refine wpList_append_own _ rfl (.tmp 61) (.tmp 67) 52 rfl w.heap.size 5 i0 (.int .u8 0) 1 1 Tryz.underlying52 hi hz0 hz1 hz2 rfl (by decide) _ _ _ rfl (hown5.alloc _) ⟨w5.heap.size,0,none⟩ 1 1 [_] rfl rfl (one_new _ _ _) one_cell (by unfold maxLen;omega) (by omega) (by have:=hb5.size;simp;omega) ?_))
            intro v6 w6 hown6 hg _
            have hb6:Below w.heap.size w w6:=(hb5.alloc hb5.size _).grown hg (by have:=hb5.size;simp;omega) (own_block_ge hown5)
            clear hg hown5
            go_wp2
            rw [rounds_succ]
            go_wp2_with (first | (at_builtin;refine wpList_append_own _ rfl (.tmp 61) (.tmp 67) 52 rfl w.heap.size 5 i0 (.int .u8 0) 1 1 Tryz.underlying52 hi hz0 hz1 hz2 rfl (by decide) _ _ _ rfl (hown6.alloc _) ⟨w6.heap.size,0,none⟩ 1 1 [_] rfl rfl (one_new _ _ _) one_cell (by unfold maxLen;omega) (by omega) (by have:=hb6.size;simp;omega) ?_))
            intro v7 w7 hown7 hg _
            have hb7:Below w.heap.size w w7:=(hb6.alloc hb6.size _).grown hg (by have:=hb6.size;simp;omega) (own_block_ge hown6)
            clear hg hown6
            go_wp2
            rw [rounds_succ]
            go_wp2_with (first | (at_builtin;refine wpList_append_own _ rfl (.tmp 61) (.tmp 67) 52 rfl w.heap.size 5 i0 (.int .u8 0) 1 1 Tryz.underlying52 hi hz0 hz1 hz2 rfl (by decide) _ _ _ rfl (hown7.alloc _) ⟨w7.heap.size,0,none⟩ 1 1 [_] rfl rfl (one_new _ _ _) one_cell (by unfold maxLen;omega) (by omega) (by have:=hb7.size;simp;omega) ?_))
            intro v8 w8 hown8 hg _
            have hb8:Below w.heap.size w w8:=(hb7.alloc hb7.size _).grown hg (by have:=hb7.size;simp;omega) (own_block_ge hown7)
            clear hg hown7
            go_wp2
            rw [rounds_succ]
            go_wp2_with (first | (at_builtin;refine wpList_append_own _ rfl (.tmp 61) (.tmp 67) 52 rfl w.heap.size 5 i0 (.int .u8 0) 1 1 Tryz.underlying52 hi hz0 hz1 hz2 rfl (by decide) _ _ _ rfl (hown8.alloc _) ⟨w8.heap.size,0,none⟩ 1 1 [_] rfl rfl (one_new _ _ _) one_cell (by unfold maxLen;omega) (by omega) (by have:=hb8.size;simp;omega) ?_))
            intro v9 w9 hown9 hg _
            have hb9:Below w.heap.size w w9:=(hb8.alloc hb8.size _).grown hg (by have:=hb8.size;simp;omega) (own_block_ge hown8)
            clear hg hown8
            go_wp2
            rw [rounds_succ]
            go_wp2_with fail
            go_roundw
            case rel=>exact ⟨j+1,by have:=U HLT;omega,by go_num,U HNX _ _ _ _ (by show _=m+(2 :: beN 8 _).length;rw [List.length_cons,beN_length]) (by show _=xs ++ byteCells (2 :: beN 8 (n+9223372036854775808).toNat);rw [U HLL,Int.toNat_natCast];show _=xs ++ (.int .u8 2 :: byteCells (beN 8 L));rw [U HCC]) hown9 hb9⟩
            case measure=>have:=U HLT;simp [RowKit.intOf];omega
         · obtain ⟨rfl,_,_⟩:=may_3 (U HK0)
           as_aux_lemma=>
            go_wp2_with (first
             | (go_at_call 31;refine (U HI).mono ?_;clear HI;rintro e w1 ⟨rfl,rfl⟩;have e0:=(World.cell?_alloc_lt wr (.cells #[.int .i64 3,.int .i64 0,.string t] 26) ⟨b,off+j * 3,none⟩ (Nat.lt_of_lt_of_le hbB hsz)).trans c0)
             | (at_builtin;refine wpList_append_own _ rfl (.tmp 23) (.tmp 30) 52 rfl w.heap.size 5 i0 (.int .u8 0) 1 1 Tryz.underlying52 hi hz0 hz1 hz2 rfl (by decide) _ _ _ rfl ((hown.alloc (.cells #[.int .i64 3,.int .i64 0,.string t] 26)).alloc _) ⟨wr.heap.size+1,0,none⟩ 1 1 [_] rfl rfl (one_new2 _ _ _ (by simp)) one_cell (by unfold maxLen;omega) (by omega) (by simp;omega) ?_))
            intro v1 w1 hown1 hg _
            have hb1:Below w.heap.size w w1:=((hbw.alloc hsz (.cells #[.int .i64 3,.int .i64 0,.string t] 26)).alloc (by simp;omega) _).grown hg (by simp;omega) (own_block_ge hown)
            clear hg hown c0 c1 c2 e0
            have z1:=hb1.size
            have c0:=(hb1.cell (p:=⟨b,off+j * 3,none⟩) hbB).trans (U HQ).1
            have c1:=(hb1.cell (p:=⟨b,off+j * 3+1,none⟩) hbB).trans (U HQ).2.1
            have c2:=(hb1.cell (p:=⟨b,off+j * 3+2,none⟩) hbB).trans (U HQ).2.2
            have htI:t.size ≤ 40:=(may_3 (U HK0)).2.1
            go_wp2_with (first | (at_builtin;refine wpList_append_own_string _ rfl (.tmp 71) (.tmp 76) 52 9 rfl w.heap.size 5 i0 Tryz.underlying52 Tryz.underlying9 hi hz0 hz1 hz2 _ _ _ rfl hown1 t rfl (by unfold maxLen;omega) (by omega) (by omega) ?_))
            intro v2 w2 hown2 hg _
            have hb2:Below w.heap.size w w2:=hb1.grown hg (by omega) (own_block_ge hown1)
            clear hg hown1
            have z2:=hb2.size
            go_wp2_with (first | (at_builtin;refine wpList_append_own _ rfl (.tmp 77) (.tmp 78) 52 rfl w.heap.size 5 i0 (.int .u8 0) 1 1 Tryz.underlying52 hi hz0 hz1 hz2 rfl (by decide) _ _ _ rfl (hown2.alloc _) ⟨w2.heap.size,0,none⟩ 1 1 [_] rfl rfl (one_new _ _ _) one_cell (by unfold maxLen;omega) (by omega) (by simp;omega) ?_))
            intro v3 w3 hown3 hg _
            have hb3:Below w.heap.size w w3:=(hb2.alloc z2 _).grown hg (by simp;omega) (own_block_ge hown2)
            clear hg hown2
            go_wp2
            go_roundw
            case rel=>exact ⟨j+1,by have:=U HLT;omega,by go_num,U HNX _ _ _ _ (by show m+1+t.size+1=m+(3 :: (t.data.toList ++ [0])).length;simp;omega) (by show _=xs ++ byteCells (3 :: (t.data.toList ++ [0]));simp [byteCells,strCells_eq]) hown3 hb3⟩
            case measure=>have:=U HLT;simp [RowKit.intOf];omega
      · have hj':j=gs.length:=by omega
        have hall:gs.take j=gs:=List.take_of_length_le (by omega)
        have hL:=U HL
        clear HC HO hbw
        go_wp2
        go_ret2
        have hr:=U HR
        unfold RK at hr
        rw [hall] at hr
        exact rkey_ok hr.2.2 (by omega) hr.1 hr.2.1
end Go.Proofs.YtpnonhjmpnbmcaaGreatDoor
