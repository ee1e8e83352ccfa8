/- Contracts of value.joined and value.Do. -/
import Derived.Test.YtpnonhjmpnbmcaaGreatDoorJVOrdVIsVSum1VTest
import Derived.Laws.ResultCell
namespace Go.Proofs.YtpnonhjmpnbmcaaGreatDoor
open Go.RowKit Go.Lib
open Act (put)
set_option maxHeartbeats 6400000
/-- What Do tells of two texts. -/
def joinG (a b:ByteArray):GV × Int:=if 40 < a.size+b.size then (nullG,6) else (⟨3,0,a ++ b⟩,0)
/-- What Do tells: a value, a class (P6.3). -/
def doG (op:Int) (a b0:GV):GV × Int:=
 let b:=if op=1 then a else b0
 if operG op=0 ∨ a.may=false ∨ b.may=false then (nullG,20)
 else if a.kind=0 ∨ b.kind=0 then (nullG,0)
 else if a.kind ≠ operG op ∨ b.kind ≠ operG op then (nullG,4)
 else if operG op=3 then joinG a.text b.text
 else if (reckG op a.int b.int).2=0 then (⟨2,(reckG op a.int b.int).1,⟨#[]⟩⟩,0) else (nullG,(reckG op a.int b.int).2)
theorem ret_gc {p q:GV × Int} (h:p=q) {v:Value} (hv:v=errG q.2) {u:Value} (hu:u=q.1.agg):Ending.returned (.tuple #[u,v])=.returned (.tuple #[p.1.agg,errG p.2]):=by
 subst h hv hu
 rfl
theorem join_any (a b:ByteArray) (w:World) (ha:a.size ≤ 1000) (hb:b.size ≤ 1000) :
 Calls Tryz.prog 162 #[.string a,.string b] w fun e w'=>e=.returned (.tuple #[(joinG a b).1.agg,errG (joinG a b).2])∧Below w.heap.size w w':=by
 have hw:wrap64 ((a.size:Int)+(b.size:Int))=(a.size:Int)+(b.size:Int):=wrap64_in (by omega) (by omega)
 have h1:(a.size:Int) ≤ 1000:=by omega
 have h2:(b.size:Int) ≤ 1000:=by omega
 by_cases h:40 < a.size+b.size
 · have hr:Hid (joinG a b=(nullG,6)):=by unfold joinG;rw [if_pos h];rfl
   have h':(40:Int) < (a.size:Int)+(b.size:Int):=by omega
   generalize joinG a b=r at *
   clear ha hb h
   go_enter Tryz.func162,Tryz.ntmps162
   go_wp2
   refine bodyPost_ret (v:=.tuple #[.agg #[.int .i64 0,.int .i64 0,.string ⟨#[]⟩],.iface 95 (.int .i64 6)]) ?_ rfl ⟨ret_gc (U hr) rfl rfl,?_⟩
   · rw [results_cell_tmp rfl]
     go_simp
   · repeat' (first | exact (Below.refl _ _).alloc (Nat.le_refl _) _ | refine Below.setCell ?_ (by simp) _)
 · have hr:Hid (joinG a b=(⟨3,0,a ++ b⟩,0)):=by unfold joinG;rw [if_neg h];rfl
   have h':((40:Int) < (a.size:Int)+(b.size:Int))=False:=by simp;omega
   generalize joinG a b=r at *
   clear ha hb h
   go_enter Tryz.func162,Tryz.ntmps162
   go_wp2
   refine bodyPost_ret (v:=.tuple #[.agg #[.int .i64 3,.int .i64 0,.string (a ++ b)],.nilIface]) ?_ rfl ⟨ret_gc (U hr) rfl rfl,?_⟩
   · rw [results_cell_tmp rfl]
     go_simp
   · repeat' (first | exact (Below.refl _ _).alloc (Nat.le_refl _) _ | refine Below.setCell ?_ (by simp) _)
theorem three_below {w w1:World} {o o' o'':Obj} (h:Below (((w.alloc o).alloc o').alloc o'').heap.size (((w.alloc o).alloc o').alloc o'') w1):Below w.heap.size w w1:=
 ((((Below.refl _ _).alloc (Nat.le_refl _) _).alloc (by simp) _).alloc (by simp <;> omega) _).trans (h.mono (by simp <;> omega))
theorem three_only {w:World} {o o' o'':Obj}:Below w.heap.size w (((w.alloc o).alloc o').alloc o''):=(((Below.refl _ _).alloc (Nat.le_refl _) _).alloc (by simp) _).alloc (by simp <;> omega) _
theorem may_text {g:GV} (h:g.may=true):g.text.size ≤ 1000:=by
 obtain ⟨k,n,t⟩:=g
 simp [GV.may] at h
 dsimp only
 have e:t.toList=[]→t.size=0:=fun h0=>by
  have:=congrArg List.length h0
  simpa [ByteArray.toList_eq] using this
 rcases h with ((⟨_,h⟩ | ⟨_,h⟩) | ⟨_,h⟩) | ⟨⟨_,h⟩,_⟩
 · have:=e h;omega
 · have:=e h;omega
 · have:=e h;omega
 · omega
theorem do_two (op:Int) (a b:GV) (w:World) (ha:a.ok) (hb:b.ok) (h1:op ≠ 1) :
 Calls Tryz.prog 111 #[.int .i64 op,a.agg,b.agg] w fun e w'=>e=.returned (.tuple #[(doG op a b).1.agg,errG (doG op a b).2])∧Below w.heap.size w w':=by
 have HA:=V (fun W=>is_any a W ha)
 have HB:=V (fun W=>is_any b W hb)
 have HO:=V (fun W=>oper_any op W)
 have HJ:=V (fun (h:a.text.size ≤ 1000∧b.text.size ≤ 1000) W=>join_any a.text b.text W h.1 h.2)
 have HK:=V (fun (h:operG op=2) W=>reck_any op a.int b.int W ⟨ha.1,ha.2.1⟩ ⟨hb.1,hb.2.1⟩ h)
 have HM:Hid (∀ g:GV,g.may=true→g.text.size ≤ 1000):=fun g h=>may_text h
 have HT:Hid (∀ p:GV × Int,doG op a b=p→∀ e:Ending,e=.returned (.tuple #[p.1.agg,errG p.2])→e=.returned (.tuple #[(doG op a b).1.agg,errG (doG op a b).2])):=by
  intro p hp e he
  rw [hp];exact he
 clear ha hb
 obtain ⟨r,hr⟩:∃ r,r=doG op a b:=⟨_,rfl⟩
 rw [← hr] at HT ⊢
 unfold doG at hr
 rw [if_neg h1] at hr
 have hK:operG op=0 ∨ operG op=2 ∨ operG op=3:=by unfold operG;split <;> (try split) <;> simp
 have e1:(op == 1)=false:=by simpa using h1
 clear h1
 obtain ⟨k,n,t⟩:=a
 obtain ⟨k',n',t'⟩:=b
 have HM1:=V (U HM ⟨k,n,t⟩)
 have HM2:=V (U HM ⟨k',n',t'⟩)
 clear HM
 rw [GV.agg_eq] at HA
 rw [GV.agg_eq] at HB
 rw [GV.agg_eq,GV.agg_eq]
 dsimp only at hr HJ HK
 generalize GV.may ⟨k,n,t⟩=ma at *
 generalize GV.may ⟨k',n',t'⟩=mb at *
 generalize operG op=K at *
 rcases hK with rfl | rfl | rfl
 · rw [if_pos (.inl rfl)] at hr
   have HR:=V hr
   clear hr
   go_enter Tryz.func111,Tryz.ntmps111
   go_wp2_with (first
    | (go_at_call 161;refine (U HO _).mono ?_;clear HO;rintro e w0 ⟨rfl,rfl⟩))
   refine bodyPost_ret (v:=.tuple #[.agg #[.int .i64 0,.int .i64 0,.string ⟨#[]⟩],.iface 95 (.int .i64 20)]) ?_ rfl ⟨U HT _ (U HR) _ rfl,?_⟩
   · rw [results_cell_tmp rfl]
     go_simp
   · skip
     repeat' (first | exact three_only | refine Below.setCell ?_ (by first | omega | (simp;done) | (simp;omega)) _)
 · cases ma with
   | false=>
    rw [if_pos (.inr (.inl rfl))] at hr
    have HR:=V hr
    clear hr
    go_enter Tryz.func111,Tryz.ntmps111
    go_wp2_with (first
     | (go_at_call 161;refine (U HO _).mono ?_;clear HO;rintro e w0 ⟨rfl,rfl⟩)
     | (go_at_call 109;refine (U HA _).mono ?_;clear HA;rintro e w1 ⟨rfl,hb1⟩;have BA:=V ((((B3.new w w.heap.size k n t rfl).alloc _).alloc _).after hb1);have BB:=V (((B3.new _ (w.heap.size+1) k' n' t' (by simp)).alloc _).after hb1);have BZ:=V ((B3.new _ (w.heap.size+1+1) 0 0 _ (by simp)).after hb1);obtain ⟨c0,c1,c2,_,_,_⟩:=U BA;obtain ⟨d0,d1,d2,_,_,_⟩:=U BB;obtain ⟨z0,z1,z2,g0,g1,g2⟩:=U BZ))
    refine bodyPost_ret (v:=.tuple #[.agg #[.int .i64 0,.int .i64 0,.string ⟨#[]⟩],.iface 95 (.int .i64 20)]) ?_ rfl ⟨U HT _ (U HR) _ rfl,?_⟩
    · rw [results_cell_tmp rfl]
      go_simp
    · have q0:Below w.heap.size w w1:=three_below hb1
      repeat' (first | exact q0 | refine Below.setCell ?_ (by first | omega | (simp;done) | (simp;omega)) _)
   | true=>
    cases mb with
    | false=>
     rw [if_pos (.inr (.inr rfl))] at hr
     have HR:=V hr
     clear hr
     go_enter Tryz.func111,Tryz.ntmps111
     go_wp2_with (first
      | (go_at_call 161;refine (U HO _).mono ?_;clear HO;rintro e w0 ⟨rfl,rfl⟩)
      | (go_at_call 109;refine (U HA _).mono ?_;clear HA;rintro e w1 ⟨rfl,hb1⟩;have BA:=V ((((B3.new w w.heap.size k n t rfl).alloc _).alloc _).after hb1);have BB:=V (((B3.new _ (w.heap.size+1) k' n' t' (by simp)).alloc _).after hb1);have BZ:=V ((B3.new _ (w.heap.size+1+1) 0 0 _ (by simp)).after hb1);obtain ⟨c0,c1,c2,_,_,_⟩:=U BA;obtain ⟨d0,d1,d2,_,_,_⟩:=U BB;obtain ⟨z0,z1,z2,g0,g1,g2⟩:=U BZ)
      | (go_at_call 109;refine (U HB _).mono ?_;clear HB;clear c0 c1 c2 d0 d1 d2 z0 z1 z2 g0 g1 g2;rintro e w2 ⟨rfl,hb2⟩;obtain ⟨c0,c1,c2,_,_,_⟩:=(U BA).after hb2;obtain ⟨d0,d1,d2,_,_,_⟩:=(U BB).after hb2;have BZ2:=V ((U BZ).after hb2);obtain ⟨z0,z1,z2,g0,g1,g2⟩:=U BZ2))
     refine bodyPost_ret (v:=.tuple #[.agg #[.int .i64 0,.int .i64 0,.string ⟨#[]⟩],.iface 95 (.int .i64 20)]) ?_ rfl ⟨U HT _ (U HR) _ rfl,?_⟩
     · rw [results_cell_tmp rfl]
       go_simp
     · have q0:Below w.heap.size w w2:=(three_below hb1).trans (hb2.mono (three_below hb1).size)
       repeat' (first | exact q0 | refine Below.setCell ?_ (by first | omega | (simp;done) | (simp;omega)) _)
    | true=>
     rw [if_neg (by simp)] at hr
     by_cases k0:k=0
     · subst k0
       rw [if_pos (.inl rfl)] at hr
       have HR:=V hr
       clear hr
       go_enter Tryz.func111,Tryz.ntmps111
       go_wp2_with (first
        | (go_at_call 161;refine (U HO _).mono ?_;clear HO;rintro e w0 ⟨rfl,rfl⟩)
        | (go_at_call 109;refine (U HA _).mono ?_;clear HA;rintro e w1 ⟨rfl,hb1⟩;have BA:=V ((((B3.new w w.heap.size 0 n t rfl).alloc _).alloc _).after hb1);have BB:=V (((B3.new _ (w.heap.size+1) k' n' t' (by simp)).alloc _).after hb1);have BZ:=V ((B3.new _ (w.heap.size+1+1) 0 0 _ (by simp)).after hb1);obtain ⟨c0,c1,c2,_,_,_⟩:=U BA;obtain ⟨d0,d1,d2,_,_,_⟩:=U BB;obtain ⟨z0,z1,z2,g0,g1,g2⟩:=U BZ)
        | (go_at_call 109;refine (U HB _).mono ?_;clear HB;clear c0 c1 c2 d0 d1 d2 z0 z1 z2 g0 g1 g2;rintro e w2 ⟨rfl,hb2⟩;obtain ⟨c0,c1,c2,_,_,_⟩:=(U BA).after hb2;obtain ⟨d0,d1,d2,_,_,_⟩:=(U BB).after hb2;have BZ2:=V ((U BZ).after hb2);obtain ⟨z0,z1,z2,g0,g1,g2⟩:=U BZ2))
       refine bodyPost_ret (v:=.tuple #[.agg #[.int .i64 0,.int .i64 0,.string ⟨#[]⟩],.nilIface]) ?_ rfl ⟨U HT _ (U HR) _ rfl,?_⟩
       · rw [results_cell_tmp rfl]
         go_simp
       · have q0:Below w.heap.size w w2:=(three_below hb1).trans (hb2.mono (three_below hb1).size)
         repeat' (first | exact q0 | refine Below.setCell ?_ (by first | omega | (simp;done) | (simp;omega)) _)
     by_cases k0':k'=0
     · subst k0'
       rw [if_pos (.inr rfl)] at hr
       have e0:(k == 0)=false:=by simpa using k0
       have HR:=V hr
       clear hr
       go_enter Tryz.func111,Tryz.ntmps111
       go_wp2_with (first
        | (go_at_call 161;refine (U HO _).mono ?_;clear HO;rintro e w0 ⟨rfl,rfl⟩)
        | (go_at_call 109;refine (U HA _).mono ?_;clear HA;rintro e w1 ⟨rfl,hb1⟩;have BA:=V ((((B3.new w w.heap.size k n t rfl).alloc _).alloc _).after hb1);have BB:=V (((B3.new _ (w.heap.size+1) 0 n' t' (by simp)).alloc _).after hb1);have BZ:=V ((B3.new _ (w.heap.size+1+1) 0 0 _ (by simp)).after hb1);obtain ⟨c0,c1,c2,_,_,_⟩:=U BA;obtain ⟨d0,d1,d2,_,_,_⟩:=U BB;obtain ⟨z0,z1,z2,g0,g1,g2⟩:=U BZ)
        | (go_at_call 109;refine (U HB _).mono ?_;clear HB;clear c0 c1 c2 d0 d1 d2 z0 z1 z2 g0 g1 g2;rintro e w2 ⟨rfl,hb2⟩;obtain ⟨c0,c1,c2,_,_,_⟩:=(U BA).after hb2;obtain ⟨d0,d1,d2,_,_,_⟩:=(U BB).after hb2;have BZ2:=V ((U BZ).after hb2);obtain ⟨z0,z1,z2,g0,g1,g2⟩:=U BZ2))
       refine bodyPost_ret (v:=.tuple #[.agg #[.int .i64 0,.int .i64 0,.string ⟨#[]⟩],.nilIface]) ?_ rfl ⟨U HT _ (U HR) _ rfl,?_⟩
       · rw [results_cell_tmp rfl]
         go_simp
       · have q0:Below w.heap.size w w2:=(three_below hb1).trans (hb2.mono (three_below hb1).size)
         repeat' (first | exact q0 | refine Below.setCell ?_ (by first | omega | (simp;done) | (simp;omega)) _)
     rw [if_neg (by omega)] at hr
     have e0:(k == 0)=false:=by simpa using k0
     have e0':(k' == 0)=false:=by simpa using k0'
     by_cases kK:k=2
     · subst kK
       by_cases kK':k'=2
       · subst kK'
         rw [if_neg (by simp)] at hr
         rw [if_neg (by decide)] at hr
         have HK2:=V (U HK rfl)
         clear HK
         generalize reckG op n n'=J at *
         obtain ⟨jn,jc⟩:=J
         dsimp only at hr HK2
         by_cases hc:jc=0
         · subst hc
           rw [if_pos rfl] at hr
           rw [errG_nil] at HK2
           have HR:=V hr
           clear hr
           go_enter Tryz.func111,Tryz.ntmps111
           go_wp2_with (first
            | (go_at_call 161;refine (U HO _).mono ?_;clear HO;rintro e w0 ⟨rfl,rfl⟩)
            | (go_at_call 109;refine (U HA _).mono ?_;clear HA;rintro e w1 ⟨rfl,hb1⟩;have BA:=V ((((B3.new w w.heap.size 2 n t rfl).alloc _).alloc _).after hb1);have BB:=V (((B3.new _ (w.heap.size+1) 2 n' t' (by simp)).alloc _).after hb1);have BZ:=V ((B3.new _ (w.heap.size+1+1) 0 0 _ (by simp)).after hb1);obtain ⟨c0,c1,c2,_,_,_⟩:=U BA;obtain ⟨d0,d1,d2,_,_,_⟩:=U BB;obtain ⟨z0,z1,z2,g0,g1,g2⟩:=U BZ)
            | (go_at_call 109;refine (U HB _).mono ?_;clear HB;clear c0 c1 c2 d0 d1 d2 z0 z1 z2 g0 g1 g2;rintro e w2 ⟨rfl,hb2⟩;obtain ⟨c0,c1,c2,_,_,_⟩:=(U BA).after hb2;obtain ⟨d0,d1,d2,_,_,_⟩:=(U BB).after hb2;have BZ2:=V ((U BZ).after hb2);obtain ⟨z0,z1,z2,g0,g1,g2⟩:=U BZ2)
            | (go_at_call 163;refine (U HK2 _).mono ?_;clear HK2;rintro e w3 ⟨rfl,rfl⟩))
           refine bodyPost_ret (v:=.tuple #[.agg #[.int .i64 2,.int .i64 jn,.string ⟨#[]⟩],.nilIface]) ?_ rfl ⟨U HT _ (U HR) _ rfl,?_⟩
           · rw [results_cell_tmp rfl]
             go_simp
           · have q0:Below w.heap.size w w3:=(three_below hb1).trans (hb2.mono (three_below hb1).size)
             repeat' (first | exact q0 | refine Below.setCell ?_ (by first | omega | (simp;done) | (simp;omega)) _)
         · rw [if_neg hc] at hr
           rw [errG_some hc] at HK2
           have HT':Hid (∀ e:Ending,e=.returned (.tuple #[nullG.agg,.iface 95 (.int .i64 jc)])→e=.returned (.tuple #[r.1.agg,errG r.2])):=fun e he=>U HT _ hr _ (by rw [he];dsimp only;rw [errG_some hc])
           clear hc HT
           have HR:=V hr
           clear hr
           go_enter Tryz.func111,Tryz.ntmps111
           clear HR
           go_wp2_with (first
            | (go_at_call 161;refine (U HO _).mono ?_;clear HO;rintro e w0 ⟨rfl,rfl⟩)
            | (go_at_call 109;refine (U HA _).mono ?_;clear HA;rintro e w1 ⟨rfl,hb1⟩;have BA:=V ((((B3.new w w.heap.size 2 n t rfl).alloc _).alloc _).after hb1);have BB:=V (((B3.new _ (w.heap.size+1) 2 n' t' (by simp)).alloc _).after hb1);have BZ:=V ((B3.new _ (w.heap.size+1+1) 0 0 _ (by simp)).after hb1);obtain ⟨c0,c1,c2,_,_,_⟩:=U BA;obtain ⟨d0,d1,d2,_,_,_⟩:=U BB;obtain ⟨z0,z1,z2,g0,g1,g2⟩:=U BZ)
            | (go_at_call 109;refine (U HB _).mono ?_;clear HB;clear c0 c1 c2 d0 d1 d2 z0 z1 z2 g0 g1 g2;rintro e w2 ⟨rfl,hb2⟩;obtain ⟨c0,c1,c2,_,_,_⟩:=(U BA).after hb2;obtain ⟨d0,d1,d2,_,_,_⟩:=(U BB).after hb2;have BZ2:=V ((U BZ).after hb2);obtain ⟨z0,z1,z2,g0,g1,g2⟩:=U BZ2)
            | (go_at_call 163;refine (U HK2 _).mono ?_;clear HK2;rintro e w3 ⟨rfl,rfl⟩))
           refine bodyPost_ret (v:=.tuple #[.agg #[.int .i64 0,.int .i64 0,.string ⟨#[]⟩],.iface 95 (.int .i64 jc)]) ?_ rfl ⟨U HT' _ rfl,?_⟩
           · rw [results_cell_tmp rfl]
             go_simp
           · have q0:Below w.heap.size w w3:=(three_below hb1).trans (hb2.mono (three_below hb1).size)
             repeat' (first | exact q0 | refine Below.setCell ?_ (by first | omega | (simp;done) | (simp;omega)) _)
       · rw [if_pos (.inr kK')] at hr
         have eK:(k' != 2)=true:=by simpa using kK'
         have HR:=V hr
         clear hr
         go_enter Tryz.func111,Tryz.ntmps111
         go_wp2_with (first
          | (go_at_call 161;refine (U HO _).mono ?_;clear HO;rintro e w0 ⟨rfl,rfl⟩)
          | (go_at_call 109;refine (U HA _).mono ?_;clear HA;rintro e w1 ⟨rfl,hb1⟩;have BA:=V ((((B3.new w w.heap.size 2 n t rfl).alloc _).alloc _).after hb1);have BB:=V (((B3.new _ (w.heap.size+1) k' n' t' (by simp)).alloc _).after hb1);have BZ:=V ((B3.new _ (w.heap.size+1+1) 0 0 _ (by simp)).after hb1);obtain ⟨c0,c1,c2,_,_,_⟩:=U BA;obtain ⟨d0,d1,d2,_,_,_⟩:=U BB;obtain ⟨z0,z1,z2,g0,g1,g2⟩:=U BZ)
          | (go_at_call 109;refine (U HB _).mono ?_;clear HB;clear c0 c1 c2 d0 d1 d2 z0 z1 z2 g0 g1 g2;rintro e w2 ⟨rfl,hb2⟩;obtain ⟨c0,c1,c2,_,_,_⟩:=(U BA).after hb2;obtain ⟨d0,d1,d2,_,_,_⟩:=(U BB).after hb2;have BZ2:=V ((U BZ).after hb2);obtain ⟨z0,z1,z2,g0,g1,g2⟩:=U BZ2))
         refine bodyPost_ret (v:=.tuple #[.agg #[.int .i64 0,.int .i64 0,.string ⟨#[]⟩],.iface 95 (.int .i64 4)]) ?_ rfl ⟨U HT _ (U HR) _ rfl,?_⟩
         · rw [results_cell_tmp rfl]
           go_simp
         · have q0:Below w.heap.size w w2:=(three_below hb1).trans (hb2.mono (three_below hb1).size)
           repeat' (first | exact q0 | refine Below.setCell ?_ (by first | omega | (simp;done) | (simp;omega)) _)
     · rw [if_pos (.inl kK)] at hr
       have eK:(k != 2)=true:=by simpa using kK
       have HR:=V hr
       clear hr
       go_enter Tryz.func111,Tryz.ntmps111
       go_wp2_with (first
        | (go_at_call 161;refine (U HO _).mono ?_;clear HO;rintro e w0 ⟨rfl,rfl⟩)
        | (go_at_call 109;refine (U HA _).mono ?_;clear HA;rintro e w1 ⟨rfl,hb1⟩;have BA:=V ((((B3.new w w.heap.size k n t rfl).alloc _).alloc _).after hb1);have BB:=V (((B3.new _ (w.heap.size+1) k' n' t' (by simp)).alloc _).after hb1);have BZ:=V ((B3.new _ (w.heap.size+1+1) 0 0 _ (by simp)).after hb1);obtain ⟨c0,c1,c2,_,_,_⟩:=U BA;obtain ⟨d0,d1,d2,_,_,_⟩:=U BB;obtain ⟨z0,z1,z2,g0,g1,g2⟩:=U BZ)
        | (go_at_call 109;refine (U HB _).mono ?_;clear HB;clear c0 c1 c2 d0 d1 d2 z0 z1 z2 g0 g1 g2;rintro e w2 ⟨rfl,hb2⟩;obtain ⟨c0,c1,c2,_,_,_⟩:=(U BA).after hb2;obtain ⟨d0,d1,d2,_,_,_⟩:=(U BB).after hb2;have BZ2:=V ((U BZ).after hb2);obtain ⟨z0,z1,z2,g0,g1,g2⟩:=U BZ2))
       refine bodyPost_ret (v:=.tuple #[.agg #[.int .i64 0,.int .i64 0,.string ⟨#[]⟩],.iface 95 (.int .i64 4)]) ?_ rfl ⟨U HT _ (U HR) _ rfl,?_⟩
       · rw [results_cell_tmp rfl]
         go_simp
       · have q0:Below w.heap.size w w2:=(three_below hb1).trans (hb2.mono (three_below hb1).size)
         repeat' (first | exact q0 | refine Below.setCell ?_ (by first | omega | (simp;done) | (simp;omega)) _)
 · cases ma with
   | false=>
    rw [if_pos (.inr (.inl rfl))] at hr
    have HR:=V hr
    clear hr
    go_enter Tryz.func111,Tryz.ntmps111
    go_wp2_with (first
     | (go_at_call 161;refine (U HO _).mono ?_;clear HO;rintro e w0 ⟨rfl,rfl⟩)
     | (go_at_call 109;refine (U HA _).mono ?_;clear HA;rintro e w1 ⟨rfl,hb1⟩;have BA:=V ((((B3.new w w.heap.size k n t rfl).alloc _).alloc _).after hb1);have BB:=V (((B3.new _ (w.heap.size+1) k' n' t' (by simp)).alloc _).after hb1);have BZ:=V ((B3.new _ (w.heap.size+1+1) 0 0 _ (by simp)).after hb1);obtain ⟨c0,c1,c2,_,_,_⟩:=U BA;obtain ⟨d0,d1,d2,_,_,_⟩:=U BB;obtain ⟨z0,z1,z2,g0,g1,g2⟩:=U BZ))
    refine bodyPost_ret (v:=.tuple #[.agg #[.int .i64 0,.int .i64 0,.string ⟨#[]⟩],.iface 95 (.int .i64 20)]) ?_ rfl ⟨U HT _ (U HR) _ rfl,?_⟩
    · rw [results_cell_tmp rfl]
      go_simp
    · have q0:Below w.heap.size w w1:=three_below hb1
      repeat' (first | exact q0 | refine Below.setCell ?_ (by first | omega | (simp;done) | (simp;omega)) _)
   | true=>
    cases mb with
    | false=>
     rw [if_pos (.inr (.inr rfl))] at hr
     have HR:=V hr
     clear hr
     go_enter Tryz.func111,Tryz.ntmps111
     go_wp2_with (first
      | (go_at_call 161;refine (U HO _).mono ?_;clear HO;rintro e w0 ⟨rfl,rfl⟩)
      | (go_at_call 109;refine (U HA _).mono ?_;clear HA;rintro e w1 ⟨rfl,hb1⟩;have BA:=V ((((B3.new w w.heap.size k n t rfl).alloc _).alloc _).after hb1);have BB:=V (((B3.new _ (w.heap.size+1) k' n' t' (by simp)).alloc _).after hb1);have BZ:=V ((B3.new _ (w.heap.size+1+1) 0 0 _ (by simp)).after hb1);obtain ⟨c0,c1,c2,_,_,_⟩:=U BA;obtain ⟨d0,d1,d2,_,_,_⟩:=U BB;obtain ⟨z0,z1,z2,g0,g1,g2⟩:=U BZ)
      | (go_at_call 109;refine (U HB _).mono ?_;clear HB;clear c0 c1 c2 d0 d1 d2 z0 z1 z2 g0 g1 g2;rintro e w2 ⟨rfl,hb2⟩;obtain ⟨c0,c1,c2,_,_,_⟩:=(U BA).after hb2;obtain ⟨d0,d1,d2,_,_,_⟩:=(U BB).after hb2;have BZ2:=V ((U BZ).after hb2);obtain ⟨z0,z1,z2,g0,g1,g2⟩:=U BZ2))
     refine bodyPost_ret (v:=.tuple #[.agg #[.int .i64 0,.int .i64 0,.string ⟨#[]⟩],.iface 95 (.int .i64 20)]) ?_ rfl ⟨U HT _ (U HR) _ rfl,?_⟩
     · rw [results_cell_tmp rfl]
       go_simp
     · have q0:Below w.heap.size w w2:=(three_below hb1).trans (hb2.mono (three_below hb1).size)
       repeat' (first | exact q0 | refine Below.setCell ?_ (by first | omega | (simp;done) | (simp;omega)) _)
    | true=>
     rw [if_neg (by simp)] at hr
     by_cases k0:k=0
     · subst k0
       rw [if_pos (.inl rfl)] at hr
       have HR:=V hr
       clear hr
       go_enter Tryz.func111,Tryz.ntmps111
       go_wp2_with (first
        | (go_at_call 161;refine (U HO _).mono ?_;clear HO;rintro e w0 ⟨rfl,rfl⟩)
        | (go_at_call 109;refine (U HA _).mono ?_;clear HA;rintro e w1 ⟨rfl,hb1⟩;have BA:=V ((((B3.new w w.heap.size 0 n t rfl).alloc _).alloc _).after hb1);have BB:=V (((B3.new _ (w.heap.size+1) k' n' t' (by simp)).alloc _).after hb1);have BZ:=V ((B3.new _ (w.heap.size+1+1) 0 0 _ (by simp)).after hb1);obtain ⟨c0,c1,c2,_,_,_⟩:=U BA;obtain ⟨d0,d1,d2,_,_,_⟩:=U BB;obtain ⟨z0,z1,z2,g0,g1,g2⟩:=U BZ)
        | (go_at_call 109;refine (U HB _).mono ?_;clear HB;clear c0 c1 c2 d0 d1 d2 z0 z1 z2 g0 g1 g2;rintro e w2 ⟨rfl,hb2⟩;obtain ⟨c0,c1,c2,_,_,_⟩:=(U BA).after hb2;obtain ⟨d0,d1,d2,_,_,_⟩:=(U BB).after hb2;have BZ2:=V ((U BZ).after hb2);obtain ⟨z0,z1,z2,g0,g1,g2⟩:=U BZ2))
       refine bodyPost_ret (v:=.tuple #[.agg #[.int .i64 0,.int .i64 0,.string ⟨#[]⟩],.nilIface]) ?_ rfl ⟨U HT _ (U HR) _ rfl,?_⟩
       · rw [results_cell_tmp rfl]
         go_simp
       · have q0:Below w.heap.size w w2:=(three_below hb1).trans (hb2.mono (three_below hb1).size)
         repeat' (first | exact q0 | refine Below.setCell ?_ (by first | omega | (simp;done) | (simp;omega)) _)
     by_cases k0':k'=0
     · subst k0'
       rw [if_pos (.inr rfl)] at hr
       have e0:(k == 0)=false:=by simpa using k0
       have HR:=V hr
       clear hr
       go_enter Tryz.func111,Tryz.ntmps111
       go_wp2_with (first
        | (go_at_call 161;refine (U HO _).mono ?_;clear HO;rintro e w0 ⟨rfl,rfl⟩)
        | (go_at_call 109;refine (U HA _).mono ?_;clear HA;rintro e w1 ⟨rfl,hb1⟩;have BA:=V ((((B3.new w w.heap.size k n t rfl).alloc _).alloc _).after hb1);have BB:=V (((B3.new _ (w.heap.size+1) 0 n' t' (by simp)).alloc _).after hb1);have BZ:=V ((B3.new _ (w.heap.size+1+1) 0 0 _ (by simp)).after hb1);obtain ⟨c0,c1,c2,_,_,_⟩:=U BA;obtain ⟨d0,d1,d2,_,_,_⟩:=U BB;obtain ⟨z0,z1,z2,g0,g1,g2⟩:=U BZ)
        | (go_at_call 109;refine (U HB _).mono ?_;clear HB;clear c0 c1 c2 d0 d1 d2 z0 z1 z2 g0 g1 g2;rintro e w2 ⟨rfl,hb2⟩;obtain ⟨c0,c1,c2,_,_,_⟩:=(U BA).after hb2;obtain ⟨d0,d1,d2,_,_,_⟩:=(U BB).after hb2;have BZ2:=V ((U BZ).after hb2);obtain ⟨z0,z1,z2,g0,g1,g2⟩:=U BZ2))
       refine bodyPost_ret (v:=.tuple #[.agg #[.int .i64 0,.int .i64 0,.string ⟨#[]⟩],.nilIface]) ?_ rfl ⟨U HT _ (U HR) _ rfl,?_⟩
       · rw [results_cell_tmp rfl]
         go_simp
       · have q0:Below w.heap.size w w2:=(three_below hb1).trans (hb2.mono (three_below hb1).size)
         repeat' (first | exact q0 | refine Below.setCell ?_ (by first | omega | (simp;done) | (simp;omega)) _)
     rw [if_neg (by omega)] at hr
     have e0:(k == 0)=false:=by simpa using k0
     have e0':(k' == 0)=false:=by simpa using k0'
     by_cases kK:k=3
     · subst kK
       by_cases kK':k'=3
       · subst kK'
         rw [if_neg (by simp)] at hr
         rw [if_pos rfl] at hr
         have HJ2:=V (U HJ ⟨U HM1 rfl,U HM2 rfl⟩)
         clear HJ
         generalize hj:joinG t t'=J at *
         obtain ⟨⟨jk,jn,jt⟩,jc⟩:=J
         rw [GV.agg_eq] at HJ2
         clear hj
         have HR:=V hr
         clear hr
         go_enter Tryz.func111,Tryz.ntmps111
         go_wp2_with (first
          | (go_at_call 161;refine (U HO _).mono ?_;clear HO;rintro e w0 ⟨rfl,rfl⟩)
          | (go_at_call 109;refine (U HA _).mono ?_;clear HA;rintro e w1 ⟨rfl,hb1⟩;have BA:=V ((((B3.new w w.heap.size 3 n t rfl).alloc _).alloc _).after hb1);have BB:=V (((B3.new _ (w.heap.size+1) 3 n' t' (by simp)).alloc _).after hb1);have BZ:=V ((B3.new _ (w.heap.size+1+1) 0 0 _ (by simp)).after hb1);obtain ⟨c0,c1,c2,_,_,_⟩:=U BA;obtain ⟨d0,d1,d2,_,_,_⟩:=U BB;obtain ⟨z0,z1,z2,g0,g1,g2⟩:=U BZ)
          | (go_at_call 109;refine (U HB _).mono ?_;clear HB;clear c0 c1 c2 d0 d1 d2 z0 z1 z2 g0 g1 g2;rintro e w2 ⟨rfl,hb2⟩;obtain ⟨c0,c1,c2,_,_,_⟩:=(U BA).after hb2;obtain ⟨d0,d1,d2,_,_,_⟩:=(U BB).after hb2;have BZ2:=V ((U BZ).after hb2);obtain ⟨z0,z1,z2,g0,g1,g2⟩:=U BZ2)
          | (go_at_call 162;refine (U HJ2 _).mono ?_;clear HJ2;clear z0 z1 z2 g0 g1 g2;rintro e w3 ⟨rfl,hb3⟩;obtain ⟨z0,z1,z2,g0,g1,g2⟩:=(U BZ2).after hb3))
         refine bodyPost_ret (v:=.tuple #[.agg #[.int .i64 jk,.int .i64 jn,.string jt],errG jc]) ?_ rfl ⟨U HT _ (U HR) _ rfl,?_⟩
         · rw [results_cell_tmp rfl]
           go_simp
         · have q0:Below w.heap.size w w3:=((three_below hb1).trans (hb2.mono (three_below hb1).size)).trans (hb3.mono ((three_below hb1).trans (hb2.mono (three_below hb1).size)).size)
           repeat' (first | exact q0 | refine Below.setCell ?_ (by first | omega | (simp;done) | (simp;omega)) _)
       · rw [if_pos (.inr kK')] at hr
         have eK:(k' != 3)=true:=by simpa using kK'
         have HR:=V hr
         clear hr
         go_enter Tryz.func111,Tryz.ntmps111
         go_wp2_with (first
          | (go_at_call 161;refine (U HO _).mono ?_;clear HO;rintro e w0 ⟨rfl,rfl⟩)
          | (go_at_call 109;refine (U HA _).mono ?_;clear HA;rintro e w1 ⟨rfl,hb1⟩;have BA:=V ((((B3.new w w.heap.size 3 n t rfl).alloc _).alloc _).after hb1);have BB:=V (((B3.new _ (w.heap.size+1) k' n' t' (by simp)).alloc _).after hb1);have BZ:=V ((B3.new _ (w.heap.size+1+1) 0 0 _ (by simp)).after hb1);obtain ⟨c0,c1,c2,_,_,_⟩:=U BA;obtain ⟨d0,d1,d2,_,_,_⟩:=U BB;obtain ⟨z0,z1,z2,g0,g1,g2⟩:=U BZ)
          | (go_at_call 109;refine (U HB _).mono ?_;clear HB;clear c0 c1 c2 d0 d1 d2 z0 z1 z2 g0 g1 g2;rintro e w2 ⟨rfl,hb2⟩;obtain ⟨c0,c1,c2,_,_,_⟩:=(U BA).after hb2;obtain ⟨d0,d1,d2,_,_,_⟩:=(U BB).after hb2;have BZ2:=V ((U BZ).after hb2);obtain ⟨z0,z1,z2,g0,g1,g2⟩:=U BZ2))
         refine bodyPost_ret (v:=.tuple #[.agg #[.int .i64 0,.int .i64 0,.string ⟨#[]⟩],.iface 95 (.int .i64 4)]) ?_ rfl ⟨U HT _ (U HR) _ rfl,?_⟩
         · rw [results_cell_tmp rfl]
           go_simp
         · have q0:Below w.heap.size w w2:=(three_below hb1).trans (hb2.mono (three_below hb1).size)
           repeat' (first | exact q0 | refine Below.setCell ?_ (by first | omega | (simp;done) | (simp;omega)) _)
     · rw [if_pos (.inl kK)] at hr
       have eK:(k != 3)=true:=by simpa using kK
       have HR:=V hr
       clear hr
       go_enter Tryz.func111,Tryz.ntmps111
       go_wp2_with (first
        | (go_at_call 161;refine (U HO _).mono ?_;clear HO;rintro e w0 ⟨rfl,rfl⟩)
        | (go_at_call 109;refine (U HA _).mono ?_;clear HA;rintro e w1 ⟨rfl,hb1⟩;have BA:=V ((((B3.new w w.heap.size k n t rfl).alloc _).alloc _).after hb1);have BB:=V (((B3.new _ (w.heap.size+1) k' n' t' (by simp)).alloc _).after hb1);have BZ:=V ((B3.new _ (w.heap.size+1+1) 0 0 _ (by simp)).after hb1);obtain ⟨c0,c1,c2,_,_,_⟩:=U BA;obtain ⟨d0,d1,d2,_,_,_⟩:=U BB;obtain ⟨z0,z1,z2,g0,g1,g2⟩:=U BZ)
        | (go_at_call 109;refine (U HB _).mono ?_;clear HB;clear c0 c1 c2 d0 d1 d2 z0 z1 z2 g0 g1 g2;rintro e w2 ⟨rfl,hb2⟩;obtain ⟨c0,c1,c2,_,_,_⟩:=(U BA).after hb2;obtain ⟨d0,d1,d2,_,_,_⟩:=(U BB).after hb2;have BZ2:=V ((U BZ).after hb2);obtain ⟨z0,z1,z2,g0,g1,g2⟩:=U BZ2))
       refine bodyPost_ret (v:=.tuple #[.agg #[.int .i64 0,.int .i64 0,.string ⟨#[]⟩],.iface 95 (.int .i64 4)]) ?_ rfl ⟨U HT _ (U HR) _ rfl,?_⟩
       · rw [results_cell_tmp rfl]
         go_simp
       · have q0:Below w.heap.size w w2:=(three_below hb1).trans (hb2.mono (three_below hb1).size)
         repeat' (first | exact q0 | refine Below.setCell ?_ (by first | omega | (simp;done) | (simp;omega)) _)
end Go.Proofs.YtpnonhjmpnbmcaaGreatDoor
