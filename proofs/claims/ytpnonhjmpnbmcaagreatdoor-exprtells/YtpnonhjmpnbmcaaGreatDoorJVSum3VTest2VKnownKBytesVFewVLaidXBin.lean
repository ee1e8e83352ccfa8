/- Contract of value.Do. -/
import Derived.Test.YtpnonhjmpnbmcaaGreatDoorVSum2
import Derived.Test.YtpnonhjmpnbmcaaGreatDoorJVOrdVIsVSum1VTest
import Derived.Test.YtpnonhjmpnbmcaaGreatDoorJErrsAsNumsDecFaultsWriterVErr
import Derived.Laws.BytesArg
import Derived.Lib.IndexLaws
import Derived.Lib.BytesEntry
import Derived.Lib.EndianBits
import Derived.Test.YtpnonhjmpnbmcaaGreatDoorRows
import Derived.ProofKit
import Derived.LaidMore
import Derived.LaidHandle
import Derived.LaidLaws
import Derived.OpenShut
import Derived.Stop.Joined
import Derived.Carry
namespace Go.Proofs.YtpnonhjmpnbmcaaGreatDoor
open Go.RowKit Go.Lib
open Act (put)
set_option maxHeartbeats 6400000
theorem do_neg (a b:GV) (w:World) (ha:a.ok) :
 Calls Tryz.prog 111 #[.int .i64 1,a.agg,b.agg] w fun e w'=>e=.returned (.tuple #[(doG 1 a b).1.agg,errG (doG 1 a b).2])∧Below w.heap.size w w':=by
 have HA:=V (fun W=>is_any a W ha)
 have HB:=V (fun W=>is_any a W ha)
 have HO:=V (fun W=>oper_any 1 W)
 have HK:=V (fun W=>reck_any 1 a.int a.int W ⟨ha.1,ha.2.1⟩ ⟨ha.1,ha.2.1⟩ rfl)
 have HT:Hid (∀ p:GV × Int,doG 1 a b=p→∀ e:Ending,e=.returned (.tuple #[p.1.agg,errG p.2])→e=.returned (.tuple #[(doG 1 a b).1.agg,errG (doG 1 a b).2])):=by
  intro p hp e he
  rw [hp];exact he
 clear ha
 obtain ⟨r,hr⟩:∃ r,r=doG 1 a b:=⟨_,rfl⟩
 rw [← hr] at HT ⊢
 unfold doG at hr
 rw [if_pos rfl] at hr
 obtain ⟨k,n,t⟩:=a
 obtain ⟨k',n',t'⟩:=b
 rw [GV.agg_eq] at HA
 rw [GV.agg_eq] at HB
 rw [GV.agg_eq,GV.agg_eq]
 dsimp only at hr HK
 rw [show operG 1=2 from rfl] at *
 generalize GV.may ⟨k,n,t⟩=ma at *
 cases ma with
 | false=>
  rw [if_pos (.inr (.inl rfl))] at hr
  have HR:=V hr
  clear hr
  go_enter Tryz.func111,Tryz.ntmps111
  go_wp2_with (first
   | (go_at_call 161;refine (U HO _).mono ?_;clear HO;rintro e w0 ⟨rfl,rfl⟩)
   | (go_at_call 109;refine (U HA _).mono ?_;clear HA;rintro e w1 ⟨rfl,hb1⟩;have BA:=V ((((B3.new w w.heap.size k n t rfl).alloc _).alloc _).after hb1);have BB:=V (((B3.new _ (w.heap.size+1) k n t (by simp)).alloc _).after hb1);have BZ:=V ((B3.new _ (w.heap.size+1+1) 0 0 _ (by simp)).after hb1);obtain ⟨c0,c1,c2,_,_,_⟩:=U BA;obtain ⟨d0,d1,d2,_,_,_⟩:=U BB;obtain ⟨z0,z1,z2,g0,g1,g2⟩:=U BZ))
  refine bodyPost_ret (v:=.tuple #[.agg #[.int .i64 0,.int .i64 0,.string ⟨#[]⟩],.iface 95 (.int .i64 20)]) ?_ rfl ⟨U HT _ (U HR) _ rfl,?_⟩
  · rw [results_cell_tmp rfl]
    go_simp
  · have q0:Below w.heap.size w w1:=three_below hb1
    repeat' (first | exact q0 | refine Below.setCell ?_ (by first | omega | (simp;done) | (simp;omega)) _)
 | true=>
  rw [if_neg (by simp)] at hr
  by_cases k0:k=0
  · subst k0
    rw [if_pos (.inl rfl)] at hr
    have HR:=V hr
    clear hr
    go_enter Tryz.func111,Tryz.ntmps111
    go_wp2_with (first
     | (go_at_call 161;refine (U HO _).mono ?_;clear HO;rintro e w0 ⟨rfl,rfl⟩)
     | (go_at_call 109;refine (U HA _).mono ?_;clear HA;rintro e w1 ⟨rfl,hb1⟩;have BA:=V ((((B3.new w w.heap.size 0 n t rfl).alloc _).alloc _).after hb1);have BB:=V (((B3.new _ (w.heap.size+1) 0 n t (by simp)).alloc _).after hb1);have BZ:=V ((B3.new _ (w.heap.size+1+1) 0 0 _ (by simp)).after hb1);obtain ⟨c0,c1,c2,_,_,_⟩:=U BA;obtain ⟨d0,d1,d2,_,_,_⟩:=U BB;obtain ⟨z0,z1,z2,g0,g1,g2⟩:=U BZ)
     | (go_at_call 109;refine (U HB _).mono ?_;clear HB;clear c0 c1 c2 d0 d1 d2 z0 z1 z2 g0 g1 g2;rintro e w2 ⟨rfl,hb2⟩;obtain ⟨c0,c1,c2,_,_,_⟩:=(U BA).after hb2;obtain ⟨d0,d1,d2,_,_,_⟩:=(U BB).after hb2;have BZ2:=V ((U BZ).after hb2);obtain ⟨z0,z1,z2,g0,g1,g2⟩:=U BZ2))
    refine bodyPost_ret (v:=.tuple #[.agg #[.int .i64 0,.int .i64 0,.string ⟨#[]⟩],.nilIface]) ?_ rfl ⟨U HT _ (U HR) _ rfl,?_⟩
    · rw [results_cell_tmp rfl]
      go_simp
    · have q0:Below w.heap.size w w2:=(three_below hb1).trans (hb2.mono (three_below hb1).size)
      repeat' (first | exact q0 | refine Below.setCell ?_ (by first | omega | (simp;done) | (simp;omega)) _)
  rw [if_neg (by omega)] at hr
  have e0:(k == 0)=false:=by simpa using k0
  by_cases kK:k=2
  · subst kK
    rw [if_neg (by simp),if_neg (by decide)] at hr
    generalize reckG 1 n n=J at *
    obtain ⟨jn,jc⟩:=J
    have HK2:=HK
    clear HK
    dsimp only at hr HK2
    by_cases hc:jc=0
    · subst hc
      rw [if_pos rfl] at hr
      rw [errG_nil] at HK2
      have HR:=V hr
      clear hr
      go_enter Tryz.func111,Tryz.ntmps111
      go_wp2_with (first
       | (go_at_call 161;refine (U HO _).mono ?_;clear HO;rintro e w0 ⟨rfl,rfl⟩)
       | (go_at_call 109;refine (U HA _).mono ?_;clear HA;rintro e w1 ⟨rfl,hb1⟩;have BA:=V ((((B3.new w w.heap.size 2 n t rfl).alloc _).alloc _).after hb1);have BB:=V (((B3.new _ (w.heap.size+1) 2 n t (by simp)).alloc _).after hb1);have BZ:=V ((B3.new _ (w.heap.size+1+1) 0 0 _ (by simp)).after hb1);obtain ⟨c0,c1,c2,_,_,_⟩:=U BA;obtain ⟨d0,d1,d2,_,_,_⟩:=U BB;obtain ⟨z0,z1,z2,g0,g1,g2⟩:=U BZ)
       | (go_at_call 109;refine (U HB _).mono ?_;clear HB;clear c0 c1 c2 d0 d1 d2 z0 z1 z2 g0 g1 g2;rintro e w2 ⟨rfl,hb2⟩;obtain ⟨c0,c1,c2,_,_,_⟩:=(U BA).after hb2;obtain ⟨d0,d1,d2,_,_,_⟩:=(U BB).after hb2;have BZ2:=V ((U BZ).after hb2);obtain ⟨z0,z1,z2,g0,g1,g2⟩:=U BZ2)
       | (go_at_call 163;refine (U HK2 _).mono ?_;clear HK2;rintro e w3 ⟨rfl,rfl⟩))
      refine bodyPost_ret (v:=.tuple #[.agg #[.int .i64 2,.int .i64 jn,.string ⟨#[]⟩],.nilIface]) ?_ rfl ⟨U HT _ (U HR) _ rfl,?_⟩
      · rw [results_cell_tmp rfl]
        go_simp
      · have q0:Below w.heap.size w w3:=(three_below hb1).trans (hb2.mono (three_below hb1).size)
        repeat' (first | exact q0 | refine Below.setCell ?_ (by first | omega | (simp;done) | (simp;omega)) _)
    · rw [if_neg hc] at hr
      rw [errG_some hc] at HK2
      have HT':Hid (∀ e:Ending,e=.returned (.tuple #[nullG.agg,.iface 95 (.int .i64 jc)])→e=.returned (.tuple #[r.1.agg,errG r.2])):=fun e he=>U HT _ hr _ (by rw [he];dsimp only;rw [errG_some hc])
      clear hc HT
      have HR:=V hr
      clear hr
      go_enter Tryz.func111,Tryz.ntmps111
      clear HR
      go_wp2_with (first
       | (go_at_call 161;refine (U HO _).mono ?_;clear HO;rintro e w0 ⟨rfl,rfl⟩)
       | (go_at_call 109;refine (U HA _).mono ?_;clear HA;rintro e w1 ⟨rfl,hb1⟩;have BA:=V ((((B3.new w w.heap.size 2 n t rfl).alloc _).alloc _).after hb1);have BB:=V (((B3.new _ (w.heap.size+1) 2 n t (by simp)).alloc _).after hb1);have BZ:=V ((B3.new _ (w.heap.size+1+1) 0 0 _ (by simp)).after hb1);obtain ⟨c0,c1,c2,_,_,_⟩:=U BA;obtain ⟨d0,d1,d2,_,_,_⟩:=U BB;obtain ⟨z0,z1,z2,g0,g1,g2⟩:=U BZ)
       | (go_at_call 109;refine (U HB _).mono ?_;clear HB;clear c0 c1 c2 d0 d1 d2 z0 z1 z2 g0 g1 g2;rintro e w2 ⟨rfl,hb2⟩;obtain ⟨c0,c1,c2,_,_,_⟩:=(U BA).after hb2;obtain ⟨d0,d1,d2,_,_,_⟩:=(U BB).after hb2;have BZ2:=V ((U BZ).after hb2);obtain ⟨z0,z1,z2,g0,g1,g2⟩:=U BZ2)
       | (go_at_call 163;refine (U HK2 _).mono ?_;clear HK2;rintro e w3 ⟨rfl,rfl⟩))
      refine bodyPost_ret (v:=.tuple #[.agg #[.int .i64 0,.int .i64 0,.string ⟨#[]⟩],.iface 95 (.int .i64 jc)]) ?_ rfl ⟨U HT' _ rfl,?_⟩
      · rw [results_cell_tmp rfl]
        go_simp
      · have q0:Below w.heap.size w w3:=(three_below hb1).trans (hb2.mono (three_below hb1).size)
        repeat' (first | exact q0 | refine Below.setCell ?_ (by first | omega | (simp;done) | (simp;omega)) _)
  · rw [if_pos (.inl kK)] at hr
    have eK:(k != 2)=true:=by simpa using kK
    have HR:=V hr
    clear hr
    go_enter Tryz.func111,Tryz.ntmps111
    go_wp2_with (first
     | (go_at_call 161;refine (U HO _).mono ?_;clear HO;rintro e w0 ⟨rfl,rfl⟩)
     | (go_at_call 109;refine (U HA _).mono ?_;clear HA;rintro e w1 ⟨rfl,hb1⟩;have BA:=V ((((B3.new w w.heap.size k n t rfl).alloc _).alloc _).after hb1);have BB:=V (((B3.new _ (w.heap.size+1) k n t (by simp)).alloc _).after hb1);have BZ:=V ((B3.new _ (w.heap.size+1+1) 0 0 _ (by simp)).after hb1);obtain ⟨c0,c1,c2,_,_,_⟩:=U BA;obtain ⟨d0,d1,d2,_,_,_⟩:=U BB;obtain ⟨z0,z1,z2,g0,g1,g2⟩:=U BZ)
     | (go_at_call 109;refine (U HB _).mono ?_;clear HB;clear c0 c1 c2 d0 d1 d2 z0 z1 z2 g0 g1 g2;rintro e w2 ⟨rfl,hb2⟩;obtain ⟨c0,c1,c2,_,_,_⟩:=(U BA).after hb2;obtain ⟨d0,d1,d2,_,_,_⟩:=(U BB).after hb2;have BZ2:=V ((U BZ).after hb2);obtain ⟨z0,z1,z2,g0,g1,g2⟩:=U BZ2))
    refine bodyPost_ret (v:=.tuple #[.agg #[.int .i64 0,.int .i64 0,.string ⟨#[]⟩],.iface 95 (.int .i64 4)]) ?_ rfl ⟨U HT _ (U HR) _ rfl,?_⟩
    · rw [results_cell_tmp rfl]
      go_simp
    · have q0:Below w.heap.size w w2:=(three_below hb1).trans (hb2.mono (three_below hb1).size)
      repeat' (first | exact q0 | refine Below.setCell ?_ (by first | omega | (simp;done) | (simp;omega)) _)
theorem do_any (op:Int) (a b:GV) (w:World) (ha:a.ok) (hb:op=1 ∨ b.ok) :
 Calls Tryz.prog 111 #[.int .i64 op,a.agg,b.agg] w fun e w'=>e=.returned (.tuple #[(doG op a b).1.agg,errG (doG op a b).2])∧Below w.heap.size w w':=by
 by_cases h:op=1
 · subst h;exact do_neg a b w ha
 · exact do_two op a b w ha (hb.resolve_left h) h
theorem two_below2 {w w1:World} {o o':Obj} (h:Below ((w.alloc o).alloc o').heap.size ((w.alloc o).alloc o') w1):Below w.heap.size w w1:=
 (((Below.refl _ _).alloc (Nat.le_refl _) _).alloc (by simp) _).trans (h.mono (by simp <;> omega))
theorem two_only {w:World} {o o':Obj}:Below w.heap.size w ((w.alloc o).alloc o'):=((Below.refl _ _).alloc (Nat.le_refl _) _).alloc (by simp) _
theorem test_any (op:Int) (a b:GV) (w:World) (ha:a.ok) (hb:b.ok) :
 Calls Tryz.prog 117 #[.int .i64 op,a.agg,b.agg] w fun e w'=>e=.returned (.tuple #[.int .i64 (testG op a b).1,errG (testG op a b).2])∧Below w.heap.size w w':=by
 have HA:=V (fun W=>is_any a W ha)
 have HB:=V (fun W=>is_any b W hb)
 have HC:=V (fun W=>csound_any a b W)
 have HH:=V (fun W=>holds_any op (cmpG a b) W (cmpG_cmp.range a b))
 have HT:Hid (∀ p:Int × Int,testG op a b=p→∀ e:Ending,e=.returned (.tuple #[.int .i64 p.1,errG p.2])→e=.returned (.tuple #[.int .i64 (testG op a b).1,errG (testG op a b).2])):=by
  intro p hp e he
  rw [hp];exact he
 clear ha hb
 obtain ⟨r,hr⟩:∃ r,r=testG op a b:=⟨_,rfl⟩
 rw [← hr] at HT ⊢
 unfold testG at hr
 generalize cmpG a b=c at *
 obtain ⟨k,n,t⟩:=a
 obtain ⟨k',n',t'⟩:=b
 rw [GV.agg_eq] at HA
 rw [GV.agg_eq] at HB
 rw [GV.agg_eq,GV.agg_eq] at HC ⊢
 dsimp only at hr
 generalize GV.may ⟨k,n,t⟩=ma at *
 generalize GV.may ⟨k',n',t'⟩=mb at *
 generalize holdsG op c=hh at *
 by_cases h5:op < 5
 · rw [if_pos (.inl h5)] at hr
   have HR:=V hr
   clear hr
   go_enter Tryz.func117,Tryz.ntmps117
   go_wp2
   go_ret2
   exact ⟨U HT _ (U HR) _ rfl,two_only⟩
 by_cases h10:10 < op
 · rw [if_pos (.inr (.inl h10))] at hr
   have HR:=V hr
   clear hr
   go_enter Tryz.func117,Tryz.ntmps117
   go_wp2
   go_ret2
   exact ⟨U HT _ (U HR) _ rfl,two_only⟩
 cases ma with
 | false=>
  rw [if_pos (.inr (.inr (.inl rfl)))] at hr
  have HR:=V hr
  clear hr
  go_enter Tryz.func117,Tryz.ntmps117
  go_wp2_with (first
   | (go_at_call 109;refine (U HA _).mono ?_;clear HA;rintro e w1 ⟨rfl,hb1⟩))
  go_ret2
  exact ⟨U HT _ (U HR) _ rfl,two_below2 hb1⟩
 | true=>
  cases mb with
  | false=>
   rw [if_pos (.inr (.inr (.inr rfl)))] at hr
   have HR:=V hr
   clear hr
   go_enter Tryz.func117,Tryz.ntmps117
   go_wp2_with (first
    | (go_at_call 109;refine (U HA _).mono ?_;clear HA;rintro e w1 ⟨rfl,hb1⟩;obtain ⟨d0,d1,d2,_,_,_⟩:=(B3.new _ (w.heap.size+1) k' n' t' (by simp)).after hb1)
    | (go_at_call 109;refine (U HB _).mono ?_;rintro e w2 ⟨rfl,hb2⟩))
   go_ret2
   have q1:=two_below2 hb1
   exact ⟨U HT _ (U HR) _ rfl,q1.trans (hb2.mono q1.size)⟩
  | true=>
   rw [if_neg (by simp;omega)] at hr
   by_cases k0:k=0
   · subst k0
     rw [if_pos (.inl rfl)] at hr
     have HR:=V hr
     clear hr
     go_enter Tryz.func117,Tryz.ntmps117
     go_wp2_with (first
      | (go_at_call 109;refine (U HA _).mono ?_;clear HA;rintro e w1 ⟨rfl,hb1⟩;have BA:=V (((B3.new w w.heap.size 0 n t rfl).alloc _).after hb1);have BB:=V ((B3.new _ (w.heap.size+1) k' n' t' (by simp)).after hb1);obtain ⟨d0,d1,d2,_,_,_⟩:=U BB)
      | (go_at_call 109;refine (U HB _).mono ?_;rintro e w2 ⟨rfl,hb2⟩;obtain ⟨x0,x1,x2,_,_,_⟩:=(U BA).after hb2;obtain ⟨y0,y1,y2,_,_,_⟩:=(U BB).after hb2))
     go_ret2
     have q1:=two_below2 hb1
     exact ⟨U HT _ (U HR) _ rfl,q1.trans (hb2.mono q1.size)⟩
   by_cases k0':k'=0
   · subst k0'
     rw [if_pos (.inr rfl)] at hr
     have e0:(k == 0)=false:=by simpa using k0
     have HR:=V hr
     clear hr
     go_enter Tryz.func117,Tryz.ntmps117
     go_wp2_with (first
      | (go_at_call 109;refine (U HA _).mono ?_;clear HA;rintro e w1 ⟨rfl,hb1⟩;have BA:=V (((B3.new w w.heap.size k n t rfl).alloc _).after hb1);have BB:=V ((B3.new _ (w.heap.size+1) 0 n' t' (by simp)).after hb1);obtain ⟨d0,d1,d2,_,_,_⟩:=U BB)
      | (go_at_call 109;refine (U HB _).mono ?_;rintro e w2 ⟨rfl,hb2⟩;obtain ⟨x0,x1,x2,_,_,_⟩:=(U BA).after hb2;obtain ⟨y0,y1,y2,_,_,_⟩:=(U BB).after hb2))
     go_ret2
     have q1:=two_below2 hb1
     exact ⟨U HT _ (U HR) _ rfl,q1.trans (hb2.mono q1.size)⟩
   rw [if_neg (by omega)] at hr
   have e0:(k == 0)=false:=by simpa using k0
   have e0':(k' == 0)=false:=by simpa using k0'
   by_cases hk:k=k'
   · subst hk
     rw [if_neg (by simp)] at hr
     have en:(k != k)=false:=by simp
     cases hh with
     | true=>
      rw [if_pos rfl] at hr
      have HR:=V hr
      clear hr
      go_enter Tryz.func117,Tryz.ntmps117
      go_wp2_with (first
       | (go_at_call 109;refine (U HA _).mono ?_;clear HA;rintro e w1 ⟨rfl,hb1⟩;have BA:=V (((B3.new w w.heap.size k n t rfl).alloc _).after hb1);have BB:=V ((B3.new _ (w.heap.size+1) k n' t' (by simp)).after hb1);obtain ⟨d0,d1,d2,_,_,_⟩:=U BB)
       | (go_at_call 109;refine (U HB _).mono ?_;rintro e w2 ⟨rfl,hb2⟩;obtain ⟨x0,x1,x2,_,_,_⟩:=(U BA).after hb2;obtain ⟨y0,y1,y2,_,_,_⟩:=(U BB).after hb2)
       | (go_at_call 166;refine (U HC _).mono ?_;rintro e w3 ⟨rfl,hb3⟩)
       | (go_at_call 165;refine (U HH _).mono ?_;rintro e w4 ⟨rfl,rfl⟩))
      go_ret2
      have q1:=two_below2 hb1
      have q2:=q1.trans (hb2.mono q1.size)
      exact ⟨U HT _ (U HR) _ rfl,q2.trans (hb3.mono q2.size)⟩
     | false=>
      rw [if_neg (by simp)] at hr
      have HR:=V hr
      clear hr
      go_enter Tryz.func117,Tryz.ntmps117
      go_wp2_with (first
       | (go_at_call 109;refine (U HA _).mono ?_;clear HA;rintro e w1 ⟨rfl,hb1⟩;have BA:=V (((B3.new w w.heap.size k n t rfl).alloc _).after hb1);have BB:=V ((B3.new _ (w.heap.size+1) k n' t' (by simp)).after hb1);obtain ⟨d0,d1,d2,_,_,_⟩:=U BB)
       | (go_at_call 109;refine (U HB _).mono ?_;rintro e w2 ⟨rfl,hb2⟩;obtain ⟨x0,x1,x2,_,_,_⟩:=(U BA).after hb2;obtain ⟨y0,y1,y2,_,_,_⟩:=(U BB).after hb2)
       | (go_at_call 166;refine (U HC _).mono ?_;rintro e w3 ⟨rfl,hb3⟩)
       | (go_at_call 165;refine (U HH _).mono ?_;rintro e w4 ⟨rfl,rfl⟩))
      go_ret2
      have q1:=two_below2 hb1
      have q2:=q1.trans (hb2.mono q1.size)
      exact ⟨U HT _ (U HR) _ rfl,q2.trans (hb3.mono q2.size)⟩
   · rw [if_pos hk] at hr
     have en:(k != k')=true:=by simpa using hk
     have HR:=V hr
     clear hr
     go_enter Tryz.func117,Tryz.ntmps117
     go_wp2_with (first
      | (go_at_call 109;refine (U HA _).mono ?_;clear HA;rintro e w1 ⟨rfl,hb1⟩;have BA:=V (((B3.new w w.heap.size k n t rfl).alloc _).after hb1);have BB:=V ((B3.new _ (w.heap.size+1) k' n' t' (by simp)).after hb1);obtain ⟨d0,d1,d2,_,_,_⟩:=U BB)
      | (go_at_call 109;refine (U HB _).mono ?_;rintro e w2 ⟨rfl,hb2⟩;obtain ⟨x0,x1,x2,_,_,_⟩:=(U BA).after hb2;obtain ⟨y0,y1,y2,_,_,_⟩:=(U BB).after hb2))
     go_ret2
     have q1:=two_below2 hb1
     exact ⟨U HT _ (U HR) _ rfl,q1.trans (hb2.mono q1.size)⟩
theorem num_any (n:Int) (w:World):Calls Tryz.prog 16 #[.int .i64 n] w fun e w'=>e=.returned (.agg #[.int .i64 2,.int .i64 n,.string ⟨#[]⟩])∧w'=w.alloc (.cells #[.int .i64 2,.int .i64 n,.string ⟨#[]⟩] 26):=by
 go_enter Tryz.func16,Tryz.ntmps16
 go_wp2
 refine bodyPost_ret (v:=.agg #[.int .i64 2,.int .i64 n,.string ⟨#[]⟩]) ?_ rfl ⟨rfl,rfl⟩
 rw [results_cell1 rfl]
 go_simp
theorem one_step {w a b:World} (h:Below w.heap.size w a) (h':Below a.heap.size a b):Below w.heap.size w b:=h.trans (h'.mono h.size)
theorem one_new' {w a:World} (h:Below w.heap.size w a) (o:Obj):Below w.heap.size w (a.alloc o):=h.alloc h.size o
/-- A slice's value that reads as these bytes, in blocks below B. -/
def RBp (w:World) (B:Nat) (v:Value) (l:List UInt8):Prop:=
 l.length ≤ 1000000000000∧((v=.slice none 0 0∧l=[]) ∨
  ∃ b off cap,b < B∧l.length ≤ cap∧cap ≤ maxLen∧v=.slice (some ⟨b,off,none⟩) l.length cap∧∀ i,i < l.length→w.cell? ⟨b,off+i,none⟩=some (.int .u8 ((l.getD i 0).toNat:Int)))
theorem RBp.below {w w':World} {B B':Nat} {v:Value} {l:List UInt8} (h:RBp w B v l) (hb:Below B' w w') (hB:B ≤ B'):RBp w' B v l:=by
 obtain ⟨h1,h2 | ⟨b,off,cap,hbB,hc,hm,rfl,hcell⟩⟩:=h
 · exact ⟨h1,.inl h2⟩
 · exact ⟨h1,.inr ⟨b,off,cap,hbB,hc,hm,rfl,fun i hi=>(hb.cell (p:=⟨b,off+i,none⟩) (Nat.lt_of_lt_of_le hbB hB)).trans (hcell i hi)⟩⟩
theorem nums_eq (l:List UInt8):strOfNums (l.map fun c=>(c.toNat:Int))=⟨l.toArray⟩:=by
 apply ByteArray.ext
 apply Array.ext'
 have e:((fun n:Int=>UInt8.ofNat n.toNat) ∘ fun c:UInt8=>(c.toNat:Int))=id:=by funext c;simp
 rw [strOfNums_data,List.map_map,e,List.map_id]
theorem conv_any (v:Value) (B:Nat) (l:List UInt8) (w:World) (hv:RBp w B v l):(convert 52 9 v).run Tryz.prog w=.ok (.string ⟨l.toArray⟩) w:=by
 obtain ⟨hlen,⟨rfl,rfl⟩ | ⟨b,off,cap,hbB,hcap,hm,rfl,hcell⟩⟩:=hv
 · exact run_convert_bytes_nil w _ _ Tryz.underlying52 Tryz.underlying5 0 0 _ Tryz.underlying9
 · have h:=run_convert_bytes_arg (P:=Tryz.prog) w 52 5 Tryz.underlying52 Tryz.underlying5 b off l.length cap (l.map fun c=>(c.toNat:Int)) (by simp) (fun i hi=>by
    rw [hcell i hi];simp [hi]) 9 Tryz.underlying9
   rw [h,nums_eq]
theorem rb_own {w:World} {B:Nat} {v:Value} {l:List UInt8} (h:w.ownsRow B 5 1 v l.length (byteCells l)) (hl:l.length ≤ 1000000000000):RBp w w.heap.size v l:=by
 have hh:=h
 obtain ⟨h1,⟨h2,h2'⟩ | ⟨g,cap,cur,h3,h4,h5,h6,h7,h8,h9⟩⟩:=h
 · exact ⟨hl,.inl ⟨h2,List.eq_nil_of_length_eq_zero h2'⟩⟩
 · have hg:g < w.heap.size:=by
    rcases Nat.lt_or_ge g w.heap.size with h' | h'
    · exact h'
    · rw [Array.getElem?_eq_none h'] at h5;cases h5
   refine ⟨hl,.inr ⟨g,0,cap,hg,h6,h7,h3,fun i hi=>?_⟩⟩
   have e2:(byteCells l)[i]?=some (.int .u8 ((l.getD i 0).toNat:Int)):=by
    simp [byteCells,hi]
   have:=hh.cells (g:=g) (by rw [h3];rfl) i _ e2
   have e3:(⟨g,0,none⟩:Addr).add i=⟨g,0+i,none⟩:=by unfold Addr.add;split <;> simp_all
   rw [e3] at this;exact this
/-- A row of values, whatever its length. -/
def RVu (w:World) (B:Nat) (v:Value) (gs:List GV):Prop:=
 gs.length ≤ maxLen∧(∀ g ∈ gs,g.ok)∧((v=.slice none 0 0∧gs=[]) ∨
  ∃ b off cap,b < B∧v=.slice (some ⟨b,off,none⟩) gs.length cap∧∀ i g,gs[i]?=some g→w.cell? ⟨b,off+i * 3,none⟩=some (.int .i64 g.kind)∧w.cell? ⟨b,off+i * 3+1,none⟩=some (.int .i64 g.int)∧w.cell? ⟨b,off+i * 3+2,none⟩=some (.string g.text))
theorem RVu.later {w w':World} {B B':Nat} {v:Value} {gs:List GV} (h:RVu w B v gs) (hb:Below B w w') (hB:B ≤ B'):RVu w' B' v gs:=by
 obtain ⟨h1,h2,h3 | ⟨b,off,cap,hbB,rfl,hc⟩⟩:=h
 · exact ⟨h1,h2,.inl h3⟩
 · refine ⟨h1,h2,.inr ⟨b,off,cap,by omega,rfl,fun i g hg=>?_⟩⟩
   obtain ⟨c0,c1,c2⟩:=hc i g hg
   exact ⟨(hb.cell (p:=⟨b,off+i * 3,none⟩) hbB).trans c0,(hb.cell (p:=⟨b,off+i * 3+1,none⟩) hbB).trans c1,(hb.cell (p:=⟨b,off+i * 3+2,none⟩) hbB).trans c2⟩
end Go.Proofs.YtpnonhjmpnbmcaaGreatDoor
namespace Go.Proofs.YtpnonhjmpnbmcaaGreatDoor
open Go.ChangeShapes Go.WideShapes Go.RowKit Go.Lib
open Act (put)
set_option maxHeartbeats 6400000
abbrev laid1 : List (String × DataW Unit) := [("errors.errorType", Rows.laid_errors_errorType)]
theorem Tryz.own:ownKnob Tryz.prog.godebug=none:=by kernel_rfl
theorem Tryz.et : Tryz.prog.globalNamed "errors.errorType" = some 0 := by kernel_rfl
theorem Tryz.rt : (Tryz.prog.cutTypes.find? (·.1 == "internal/reflectlite.rtype")).map (·.2) = some 203 := by kernel_rfl
theorem Tryz.oneRow:((List.range 341).filter fun t=>Tryz.prog.rowNamed t [101,114,114,111,114])=[33]:=by kernel_rfl
theorem Tryz.size:Tryz.prog.types.size=341:=by kernel_rfl
theorem handle_of_laid {W:World} (h:laidMetH Tryz.prog laid1 W):ET W:=by
 have h' : laidMet Tryz.prog [] W ∧ handlesMet Tryz.prog [("errors.errorType", Rows.laid_errors_errorType)] W := h
 obtain ⟨name,u,ty,e1,e2,e3,e4,e5⟩:=h'.2 _ (List.mem_singleton.2 rfl)
 have en:name=[101,114,114,111,114]:=(Option.some.inj e1).symm
 subst en
 obtain rfl:=Option.some.inj (Tryz.rt.symm.trans e2)
 have hm:ty ∈ (List.range 341).filter fun t=>Tryz.prog.rowNamed t [101,114,114,111,114]:=List.mem_filter.2 ⟨List.mem_range.2 (by rw [← Tryz.size];exact e3),e4⟩
 rw [Tryz.oneRow] at hm
 obtain rfl:=List.mem_singleton.1 hm
 have hh:typeHandle Tryz.prog 33=.pointer (some ⟨2,33,none⟩):=by kernel_rfl
 rw [hh] at e5
 unfold ET
 simpa using World.var?_cell Tryz.et e5 0
/-- The door's own heap meets the condition. -/
theorem door_met (os:Os) (args:Array Value):laidMetH Tryz.prog laid1 ((World.doorLaid Tryz.prog 400 os).forCall (fun _ _=>0) ⟨#[],args,[]⟩).memory:=
 laidMetH_of_parts3 (fuel:=8) (laidMet_of_run' 8 (by kernel_rfl) (by kernel_rfl)) (by kernel_rfl) (by kernel_rfl)
end Go.Proofs.YtpnonhjmpnbmcaaGreatDoor
namespace Go.Proofs.YtpnonhjmpnbmcaaGreatDoor
open Go.ChangeShapes Go.WideShapes Go.ChangeAt Go.RowKit Go.Lib
open Act (put)
set_option maxHeartbeats 6400000
theorem Tryz.laidOut:laidOutB Tryz.prog=true:=by kernel_rfl
end Go.Proofs.YtpnonhjmpnbmcaaGreatDoor
