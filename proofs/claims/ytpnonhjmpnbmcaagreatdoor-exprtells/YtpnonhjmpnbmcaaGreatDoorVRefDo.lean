/- Contract of the document's Do. -/
import Derived.Test.YtpnonhjmpnbmcaaGreatDoorKRef
import Derived.Test.YtpnonhjmpnbmcaaGreatDoorJVRefSumVRefDivVRefMul
namespace Go.Proofs.YtpnonhjmpnbmcaaGreatDoor
open Go.RowKit Go.Lib
open Act (put)
set_option maxHeartbeats 12800000
theorem ret_gi {p:GV × Int} {k n c:Int} {t:ByteArray} (h:p=(⟨k,n,t⟩,c)):Ending.returned (.tuple #[.agg #[.int .i64 k,.int .i64 n,.string t],.int .i64 c])=.returned (.tuple #[p.1.agg,.int .i64 p.2]):=by subst h;rfl
theorem oper_ne {op:Int} (h1:11 ≤ op) (h2:op ≤ 16):¬ operG op=0:=by
 unfold operG
 split
 · decide
 · rw [if_pos (by omega)];decide
theorem rreck_any (op a b:Int) (w:World) (ha:-9223372036854775808 ≤ a∧a < 9223372036854775808) (hb:-9223372036854775808 ≤ b∧b < 9223372036854775808) (h11:11 ≤ op) (h15:op ≤ 15) :
 Calls Tryz.prog 106 #[.int .i64 op,.int .i64 a,.int .i64 b] w fun e w'=>e=.returned (.tuple #[.int .i64 (reckG op a b).1,.int .i64 (reckG op a b).2])∧w'=w:=by
 by_cases h1:op=11
 · subst h1;rw [show reckG 11 a b=fitG (a+b) from rfl];exact rreck_add a b w ha hb
 by_cases h2:op=12
 · subst h2;rw [show reckG 12 a b=fitG (a - b) from rfl];exact rreck_sub a b w ha hb
 by_cases h3:op=13
 · subst h3;rw [show reckG 13 a b=fitG (a * b) from rfl];exact rreck_mul a b w ha hb
 exact rreck_div op a b w ha hb (by omega)
theorem rdo_two (op:Int) (a b:GV) (w:World) (ha:a.ok) (hb:b.ok) (h1:op ≠ 1) :
 Calls Tryz.prog 50 #[.int .i64 op,a.agg,b.agg] w fun e w'=>e=.returned (.tuple #[(doG op a b).1.agg,.int .i64 (doG op a b).2])∧Below w.heap.size w w':=by
 have HA:=V (fun W=>refIs_any a W ha)
 have HB:=V (fun W=>refIs_any b W hb)
 have HK:=V (fun W h11 h15=>rreck_any op a.int b.int W ⟨ha.1,ha.2.1⟩ ⟨hb.1,hb.2.1⟩ h11 h15)
 have MA:=V (fun h=>may_text (g:=a) h)
 have MB:=V (fun h=>may_text (g:=b) h)
 obtain ⟨r,hr⟩:∃ r,r=doG op a b:=⟨_,rfl⟩
 rw [← hr]
 unfold doG at hr
 rw [if_neg h1] at hr
 have b1:(op == 1)=false:=by simpa using h1
 clear ha hb
 obtain ⟨k,n,t⟩:=a
 obtain ⟨k',n',t'⟩:=b
 simp only[GV.agg_eq] at HA HB ⊢
 dsimp only at hr HK MA MB
 generalize GV.may ⟨k,n,t⟩=ma at *
 generalize GV.may ⟨k',n',t'⟩=mb at *
 by_cases ho:11 ≤ op∧op ≤ 16
 · obtain ⟨o11,o16⟩:=ho
   cases ma with
   | false=>
    rw [if_pos (.inr (.inl rfl))] at hr
    have HR:=V hr
    clear hr HK MA MB
    go_enter Tryz.func50,Tryz.ntmps50
    go_wp2_with (first
     | (go_at_call 31;refine (U HA _).mono ?_;clear HA;rintro e w1 ⟨rfl,rfl⟩))
    refine bodyPost_ret (v:=.tuple #[.agg #[.int .i64 0,.int .i64 0,.string ⟨#[]⟩],.int .i64 20]) ?_ rfl ⟨ret_gi (U HR),?_⟩
    · rw [results_cell_tmp rfl]
      go_simp
    · repeat' (first | exact Below.refl _ _ | refine Below.setCell ?_ (by first | omega | (simp;done) | (simp;omega)) _ | refine one_new' ?_ _)
   | true=>
    cases mb with
    | false=>
     rw [if_pos (.inr (.inr rfl))] at hr
     have HR:=V hr
     clear hr HK MA MB
     go_enter Tryz.func50,Tryz.ntmps50
     go_wp2_with (first
      | (go_at_call 31;refine (U HA _).mono ?_;clear HA;rintro e w1 ⟨rfl,rfl⟩)
      | (go_at_call 31;refine (U HB _).mono ?_;clear HB;rintro e w1 ⟨rfl,rfl⟩))
     refine bodyPost_ret (v:=.tuple #[.agg #[.int .i64 0,.int .i64 0,.string ⟨#[]⟩],.int .i64 20]) ?_ rfl ⟨ret_gi (U HR),?_⟩
     · rw [results_cell_tmp rfl]
       go_simp
     · repeat' (first | exact Below.refl _ _ | refine Below.setCell ?_ (by first | omega | (simp;done) | (simp;omega)) _ | refine one_new' ?_ _)
    | true=>
     rw [if_neg (fun h=>h.elim (oper_ne o11 o16) (fun h=>h.elim (fun h=>by cases h) (fun h=>by cases h)))] at hr
     by_cases k0:k=0
     · subst k0
       rw [if_pos (.inl rfl)] at hr
       have HR:=V hr
       clear hr HK MA MB
       go_enter Tryz.func50,Tryz.ntmps50
       go_wp2_with (first
        | (go_at_call 31;refine (U HA _).mono ?_;clear HA;rintro e w1 ⟨rfl,rfl⟩)
        | (go_at_call 31;refine (U HB _).mono ?_;clear HB;rintro e w1 ⟨rfl,rfl⟩))
       refine bodyPost_ret (v:=.tuple #[.agg #[.int .i64 0,.int .i64 0,.string ⟨#[]⟩],.int .i64 0]) ?_ rfl ⟨ret_gi (U HR),?_⟩
       · rw [results_cell_tmp rfl]
         go_simp
       · repeat' (first | exact Below.refl _ _ | refine Below.setCell ?_ (by first | omega | (simp;done) | (simp;omega)) _ | refine one_new' ?_ _)
     by_cases k0':k'=0
     · subst k0'
       rw [if_pos (.inr rfl)] at hr
       have e0:(k == 0)=false:=by simpa using k0
       have HR:=V hr
       clear hr HK MA MB
       go_enter Tryz.func50,Tryz.ntmps50
       go_wp2_with (first
        | (go_at_call 31;refine (U HA _).mono ?_;clear HA;rintro e w1 ⟨rfl,rfl⟩)
        | (go_at_call 31;refine (U HB _).mono ?_;clear HB;rintro e w1 ⟨rfl,rfl⟩))
       refine bodyPost_ret (v:=.tuple #[.agg #[.int .i64 0,.int .i64 0,.string ⟨#[]⟩],.int .i64 0]) ?_ rfl ⟨ret_gi (U HR),?_⟩
       · rw [results_cell_tmp rfl]
         go_simp
       · repeat' (first | exact Below.refl _ _ | refine Below.setCell ?_ (by first | omega | (simp;done) | (simp;omega)) _ | refine one_new' ?_ _)
     rw [if_neg (by omega)] at hr
     have e0:(k == 0)=false:=by simpa using k0
     have e0':(k' == 0)=false:=by simpa using k0'
     by_cases h16:op=16
     · subst h16
       rw [show operG 16=3 from rfl] at hr
       by_cases k3:k=3
       · subst k3
         by_cases k3':k'=3
         · subst k3'
           rw [if_neg (by simp),if_pos rfl] at hr
           have ht:=U MA rfl
           have ht':=U MB rfl
           unfold joinG at hr
           by_cases h40:40 < t.size+t'.size
           · rw [if_pos h40] at hr
             have h40i:(40:Int) < (t.size:Int)+(t'.size:Int):=by omega
             have HR:=V hr
             clear hr HK MA MB
             go_enter Tryz.func50,Tryz.ntmps50
             go_wp2_with (first
              | (go_at_call 31;refine (U HA _).mono ?_;clear HA;rintro e w1 ⟨rfl,rfl⟩)
              | (go_at_call 31;refine (U HB _).mono ?_;clear HB;rintro e w1 ⟨rfl,rfl⟩))
             refine bodyPost_ret (v:=.tuple #[.agg #[.int .i64 0,.int .i64 0,.string ⟨#[]⟩],.int .i64 6]) ?_ rfl ⟨ret_gi (U HR),?_⟩
             · rw [results_cell_tmp rfl]
               go_simp
             · repeat' (first | exact Below.refl _ _ | refine Below.setCell ?_ (by first | omega | (simp;done) | (simp;omega)) _ | refine one_new' ?_ _)
           · rw [if_neg h40] at hr
             have h40i:¬ (40:Int) < (t.size:Int)+(t'.size:Int):=by omega
             have HR:=V hr
             clear hr HK MA MB
             go_enter Tryz.func50,Tryz.ntmps50
             go_wp2_with (first
              | (go_at_call 31;refine (U HA _).mono ?_;clear HA;rintro e w1 ⟨rfl,rfl⟩)
              | (go_at_call 31;refine (U HB _).mono ?_;clear HB;rintro e w1 ⟨rfl,rfl⟩))
             refine bodyPost_ret (v:=.tuple #[.agg #[.int .i64 3,.int .i64 0,.string (t ++ t')],.int .i64 0]) ?_ rfl ⟨ret_gi (U HR),?_⟩
             · rw [results_cell_tmp rfl]
               go_simp
             · repeat' (first | exact Below.refl _ _ | refine Below.setCell ?_ (by first | omega | (simp;done) | (simp;omega)) _ | refine one_new' ?_ _)
         · rw [if_pos (.inr k3')] at hr
           have en:(k' != 3)=true:=by simpa using k3'
           have HR:=V hr
           clear hr HK MA MB
           go_enter Tryz.func50,Tryz.ntmps50
           go_wp2_with (first
            | (go_at_call 31;refine (U HA _).mono ?_;clear HA;rintro e w1 ⟨rfl,rfl⟩)
            | (go_at_call 31;refine (U HB _).mono ?_;clear HB;rintro e w1 ⟨rfl,rfl⟩))
           refine bodyPost_ret (v:=.tuple #[.agg #[.int .i64 0,.int .i64 0,.string ⟨#[]⟩],.int .i64 4]) ?_ rfl ⟨ret_gi (U HR),?_⟩
           · rw [results_cell_tmp rfl]
             go_simp
           · repeat' (first | exact Below.refl _ _ | refine Below.setCell ?_ (by first | omega | (simp;done) | (simp;omega)) _ | refine one_new' ?_ _)
       · rw [if_pos (.inl k3)] at hr
         have en:(k != 3)=true:=by simpa using k3
         have HR:=V hr
         clear hr HK MA MB
         go_enter Tryz.func50,Tryz.ntmps50
         go_wp2_with (first
          | (go_at_call 31;refine (U HA _).mono ?_;clear HA;rintro e w1 ⟨rfl,rfl⟩)
          | (go_at_call 31;refine (U HB _).mono ?_;clear HB;rintro e w1 ⟨rfl,rfl⟩))
         refine bodyPost_ret (v:=.tuple #[.agg #[.int .i64 0,.int .i64 0,.string ⟨#[]⟩],.int .i64 4]) ?_ rfl ⟨ret_gi (U HR),?_⟩
         · rw [results_cell_tmp rfl]
           go_simp
         · repeat' (first | exact Below.refl _ _ | refine Below.setCell ?_ (by first | omega | (simp;done) | (simp;omega)) _ | refine one_new' ?_ _)
     · have b16:(op == 16)=false:=by simpa using h16
       have o15:op ≤ 15:=by omega
       have e2:operG op=2:=by unfold operG;rw [if_pos (.inr ⟨o11,o15⟩)]
       rw [e2] at hr
       clear e2
       by_cases k2:k=2
       · subst k2
         by_cases k2':k'=2
         · subst k2'
           rw [if_neg (by simp),if_neg (by decide)] at hr
           have HK2:=V (fun W=>U HK W o11 o15)
           generalize reckG op n n'=J at *
           obtain ⟨jn,jc⟩:=J
           dsimp only at hr HK2
           by_cases hc:jc=0
           · subst hc
             rw [if_pos rfl] at hr
             have HR:=V hr
             clear hr HK MA MB
             go_enter Tryz.func50,Tryz.ntmps50
             go_wp2_with (first
              | (go_at_call 31;refine (U HA _).mono ?_;clear HA;rintro e w1 ⟨rfl,rfl⟩)
              | (go_at_call 31;refine (U HB _).mono ?_;clear HB;rintro e w1 ⟨rfl,rfl⟩)
              | (go_at_call 106;refine (U HK2 _).mono ?_;clear HK2;rintro e w1 ⟨rfl,rfl⟩)
              | (go_at_call 16;refine (num_any _ _).mono ?_;rintro e w1 ⟨rfl,rfl⟩))
             refine bodyPost_ret (v:=.tuple #[.agg #[.int .i64 2,.int .i64 jn,.string ⟨#[]⟩],.int .i64 0]) ?_ rfl ⟨ret_gi (U HR),?_⟩
             · rw [results_cell_tmp rfl]
               go_simp
             · repeat' (first | exact Below.refl _ _ | refine Below.setCell ?_ (by first | omega | (simp;done) | (simp;omega)) _ | refine one_new' ?_ _)
           · rw [if_neg hc] at hr
             have hcn:(jc != 0)=true:=by simpa using hc
             have HR:=V hr
             clear hr HK MA MB
             go_enter Tryz.func50,Tryz.ntmps50
             go_wp2_with (first
              | (go_at_call 31;refine (U HA _).mono ?_;clear HA;rintro e w1 ⟨rfl,rfl⟩)
              | (go_at_call 31;refine (U HB _).mono ?_;clear HB;rintro e w1 ⟨rfl,rfl⟩)
              | (go_at_call 106;refine (U HK2 _).mono ?_;clear HK2;rintro e w1 ⟨rfl,rfl⟩))
             refine bodyPost_ret (v:=.tuple #[.agg #[.int .i64 0,.int .i64 0,.string ⟨#[]⟩],.int .i64 jc]) ?_ rfl ⟨ret_gi (U HR),?_⟩
             · rw [results_cell_tmp rfl]
               go_simp
             · repeat' (first | exact Below.refl _ _ | refine Below.setCell ?_ (by first | omega | (simp;done) | (simp;omega)) _ | refine one_new' ?_ _)
         · rw [if_pos (.inr k2')] at hr
           have en:(k' != 2)=true:=by simpa using k2'
           have HR:=V hr
           clear hr HK MA MB
           go_enter Tryz.func50,Tryz.ntmps50
           go_wp2_with (first
            | (go_at_call 31;refine (U HA _).mono ?_;clear HA;rintro e w1 ⟨rfl,rfl⟩)
            | (go_at_call 31;refine (U HB _).mono ?_;clear HB;rintro e w1 ⟨rfl,rfl⟩))
           refine bodyPost_ret (v:=.tuple #[.agg #[.int .i64 0,.int .i64 0,.string ⟨#[]⟩],.int .i64 4]) ?_ rfl ⟨ret_gi (U HR),?_⟩
           · rw [results_cell_tmp rfl]
             go_simp
           · repeat' (first | exact Below.refl _ _ | refine Below.setCell ?_ (by first | omega | (simp;done) | (simp;omega)) _ | refine one_new' ?_ _)
       · rw [if_pos (.inl k2)] at hr
         have en:(k != 2)=true:=by simpa using k2
         have HR:=V hr
         clear hr HK MA MB
         go_enter Tryz.func50,Tryz.ntmps50
         go_wp2_with (first
          | (go_at_call 31;refine (U HA _).mono ?_;clear HA;rintro e w1 ⟨rfl,rfl⟩)
          | (go_at_call 31;refine (U HB _).mono ?_;clear HB;rintro e w1 ⟨rfl,rfl⟩))
         refine bodyPost_ret (v:=.tuple #[.agg #[.int .i64 0,.int .i64 0,.string ⟨#[]⟩],.int .i64 4]) ?_ rfl ⟨ret_gi (U HR),?_⟩
         · rw [results_cell_tmp rfl]
           go_simp
         · repeat' (first | exact Below.refl _ _ | refine Below.setCell ?_ (by first | omega | (simp;done) | (simp;omega)) _ | refine one_new' ?_ _)
 · rw [if_pos (.inl (by unfold operG;rw [if_neg (by omega),if_neg (by omega)]))] at hr
   by_cases hlt:op < 11
   · have HR:=V hr
     clear hr HK MA MB
     go_enter Tryz.func50,Tryz.ntmps50
     go_wp2
     refine bodyPost_ret (v:=.tuple #[.agg #[.int .i64 0,.int .i64 0,.string ⟨#[]⟩],.int .i64 20]) ?_ rfl ⟨ret_gi (U HR),?_⟩
     · rw [results_cell_tmp rfl]
       go_simp
     · repeat' (first | exact Below.refl _ _ | refine Below.setCell ?_ (by first | omega | (simp;done) | (simp;omega)) _ | refine one_new' ?_ _)
   · have hgt:16 < op:=by omega
     have HR:=V hr
     clear hr HK MA MB
     go_enter Tryz.func50,Tryz.ntmps50
     go_wp2
     refine bodyPost_ret (v:=.tuple #[.agg #[.int .i64 0,.int .i64 0,.string ⟨#[]⟩],.int .i64 20]) ?_ rfl ⟨ret_gi (U HR),?_⟩
     · rw [results_cell_tmp rfl]
       go_simp
     · repeat' (first | exact Below.refl _ _ | refine Below.setCell ?_ (by first | omega | (simp;done) | (simp;omega)) _ | refine one_new' ?_ _)
theorem rdo_neg (a b:GV) (w:World) (ha:a.ok) :
 Calls Tryz.prog 50 #[.int .i64 1,a.agg,b.agg] w fun e w'=>e=.returned (.tuple #[(doG 1 a b).1.agg,.int .i64 (doG 1 a b).2])∧Below w.heap.size w w':=by
 have HA:=V (fun W=>refIs_any a W ha)
 have HK:=V (fun W=>rreck_neg a.int b.int W ⟨ha.1,ha.2.1⟩)
 obtain ⟨r,hr⟩:∃ r,r=doG 1 a b:=⟨_,rfl⟩
 rw [← hr]
 unfold doG at hr
 rw [if_pos rfl] at hr
 clear ha
 obtain ⟨k,n,t⟩:=a
 obtain ⟨k',n',t'⟩:=b
 simp only[GV.agg_eq] at HA ⊢
 dsimp only at hr HK
 rw [show operG 1=2 from rfl] at hr
 rw [show reckG 1 n n=fitG (0 - n) from rfl] at hr
 generalize GV.may ⟨k,n,t⟩=ma at *
 cases ma with
 | false=>
  rw [if_pos (.inr (.inl rfl))] at hr
  have HR:=V hr
  clear hr HK
  go_enter Tryz.func50,Tryz.ntmps50
  go_wp2_with (first
   | (go_at_call 31;refine (U HA _).mono ?_;clear HA;rintro e w1 ⟨rfl,rfl⟩))
  refine bodyPost_ret (v:=.tuple #[.agg #[.int .i64 0,.int .i64 0,.string ⟨#[]⟩],.int .i64 20]) ?_ rfl ⟨ret_gi (U HR),?_⟩
  · rw [results_cell_tmp rfl]
    go_simp
  · repeat' (first | exact Below.refl _ _ | refine Below.setCell ?_ (by first | omega | (simp;done) | (simp;omega)) _ | refine one_new' ?_ _)
 | true=>
  rw [if_neg (by simp)] at hr
  by_cases k0:k=0
  · subst k0
    rw [if_pos (.inl rfl)] at hr
    have HR:=V hr
    clear hr HK
    go_enter Tryz.func50,Tryz.ntmps50
    go_wp2_with (first
     | (go_at_call 31;refine (U HA _).mono ?_;clear HA;rintro e w1 ⟨rfl,rfl⟩))
    refine bodyPost_ret (v:=.tuple #[.agg #[.int .i64 0,.int .i64 0,.string ⟨#[]⟩],.int .i64 0]) ?_ rfl ⟨ret_gi (U HR),?_⟩
    · rw [results_cell_tmp rfl]
      go_simp
    · repeat' (first | exact Below.refl _ _ | refine Below.setCell ?_ (by first | omega | (simp;done) | (simp;omega)) _ | refine one_new' ?_ _)
  rw [if_neg (by omega)] at hr
  have e0:(k == 0)=false:=by simpa using k0
  by_cases k2:k=2
  · subst k2
    rw [if_neg (by simp),if_neg (by decide)] at hr
    have HK2:=HK
    clear HK
    generalize fitG (0 - n)=J at *
    obtain ⟨jn,jc⟩:=J
    dsimp only at hr HK2
    by_cases hc:jc=0
    · subst hc
      rw [if_pos rfl] at hr
      have HR:=V hr
      clear hr
      go_enter Tryz.func50,Tryz.ntmps50
      go_wp2_with (first
       | (go_at_call 31;refine (U HA _).mono ?_;clear HA;rintro e w1 ⟨rfl,rfl⟩)
       | (go_at_call 106;refine (U HK2 _).mono ?_;clear HK2;rintro e w1 ⟨rfl,rfl⟩)
       | (go_at_call 16;refine (num_any _ _).mono ?_;rintro e w1 ⟨rfl,rfl⟩))
      refine bodyPost_ret (v:=.tuple #[.agg #[.int .i64 2,.int .i64 jn,.string ⟨#[]⟩],.int .i64 0]) ?_ rfl ⟨ret_gi (U HR),?_⟩
      · rw [results_cell_tmp rfl]
        go_simp
      · repeat' (first | exact Below.refl _ _ | refine Below.setCell ?_ (by first | omega | (simp;done) | (simp;omega)) _ | refine one_new' ?_ _)
    · rw [if_neg hc] at hr
      have hcn:(jc != 0)=true:=by simpa using hc
      have HR:=V hr
      clear hr
      go_enter Tryz.func50,Tryz.ntmps50
      go_wp2_with (first
       | (go_at_call 31;refine (U HA _).mono ?_;clear HA;rintro e w1 ⟨rfl,rfl⟩)
       | (go_at_call 106;refine (U HK2 _).mono ?_;clear HK2;rintro e w1 ⟨rfl,rfl⟩))
      refine bodyPost_ret (v:=.tuple #[.agg #[.int .i64 0,.int .i64 0,.string ⟨#[]⟩],.int .i64 jc]) ?_ rfl ⟨ret_gi (U HR),?_⟩
      · rw [results_cell_tmp rfl]
        go_simp
      · repeat' (first | exact Below.refl _ _ | refine Below.setCell ?_ (by first | omega | (simp;done) | (simp;omega)) _ | refine one_new' ?_ _)
  · rw [if_pos (.inl k2)] at hr
    have en:(k != 2)=true:=by simpa using k2
    have HR:=V hr
    clear hr HK
    go_enter Tryz.func50,Tryz.ntmps50
    go_wp2_with (first
     | (go_at_call 31;refine (U HA _).mono ?_;clear HA;rintro e w1 ⟨rfl,rfl⟩))
    refine bodyPost_ret (v:=.tuple #[.agg #[.int .i64 0,.int .i64 0,.string ⟨#[]⟩],.int .i64 4]) ?_ rfl ⟨ret_gi (U HR),?_⟩
    · rw [results_cell_tmp rfl]
      go_simp
    · repeat' (first | exact Below.refl _ _ | refine Below.setCell ?_ (by first | omega | (simp;done) | (simp;omega)) _ | refine one_new' ?_ _)
theorem refDo_any (op:Int) (a b:GV) (w:World) (ha:a.ok) (hb:b.ok) :
 Calls Tryz.prog 50 #[.int .i64 op,a.agg,b.agg] w fun e w'=>e=.returned (.tuple #[(doG op a b).1.agg,.int .i64 (doG op a b).2])∧Below w.heap.size w w':=by
 by_cases h:op=1
 · subst h;exact rdo_neg a b w ha
 · exact rdo_two op a b w ha hb h
end Go.Proofs.YtpnonhjmpnbmcaaGreatDoor
