/- Contracts of the document's reckon: sums, differences, quotients. -/
import Derived.Test.YtpnonhjmpnbmcaaGreatDoorJVOrdVIsVSum1VTest
import Derived.Shelf.Bits.Mul64
namespace Go.Proofs.YtpnonhjmpnbmcaaGreatDoor
open Go.RowKit Go.Lib
open Act (put)
set_option maxHeartbeats 3200000
theorem ret_pi {p:Int × Int} {x c:Int} (h:p=(x,c)):Ending.returned (.tuple #[.int .i64 x,.int .i64 c])=.returned (.tuple #[.int .i64 p.1,.int .i64 p.2]):=by subst h;rfl
theorem u_add {a b:Int}:IntKind.i64.wrap (IntKind.u64.wrap (IntKind.u64.wrap a+IntKind.u64.wrap b))=wrap64 (a+b):=by
 rw [IntKind.wrap_i64,IntKind.wrap_u64,IntKind.wrap_u64,IntKind.wrap_u64];unfold wrap64;omega
theorem u_sub {a b:Int}:IntKind.i64.wrap (IntKind.u64.wrap (IntKind.u64.wrap a - IntKind.u64.wrap b))=wrap64 (a - b):=by
 rw [IntKind.wrap_i64,IntKind.wrap_u64,IntKind.wrap_u64,IntKind.wrap_u64];unfold wrap64;omega
theorem rreck_add (a b:Int) (w:World) (ha:-9223372036854775808 ≤ a∧a < 9223372036854775808) (hb:-9223372036854775808 ≤ b∧b < 9223372036854775808) :
 Calls Tryz.prog 106 #[.int .i64 11,.int .i64 a,.int .i64 b] w fun e w'=>e=.returned (.tuple #[.int .i64 (fitG (a+b)).1,.int .i64 (fitG (a+b)).2])∧w'=w:=by
 have hu:=u_add (a:=a) (b:=b)
 obtain ⟨s,hs⟩:∃ s,wrap64 (a+b)=s:=⟨_,rfl⟩
 rw [hs] at hu
 have hs':s=(a+b+9223372036854775808) % 18446744073709551616 - 9223372036854775808:=by rw [← hs];unfold wrap64;omega
 obtain ⟨r,hr⟩:∃ r,r=fitG (a+b):=⟨_,rfl⟩
 rw [← hr]
 unfold fitG at hr
 by_cases pa:a < 0 <;> by_cases pb:b < 0
 · have a1:a < 0:=pa
   have b1:b < 0:=pb
   by_cases ps:s < 0
   · have s1:s < 0:=ps
     rw [if_pos (by omega),show a+b=s by omega] at hr
     have HR:=V hr
     clear hr hs hs' ha hb pa pb ps
     go_enter Tryz.func106,Tryz.ntmps106
     go_wp2
     go_ret2
     exact ⟨ret_pi (U HR),rfl⟩
   · have s1:(s < 0)=False:=by simpa using ps
     rw [if_neg (by omega)] at hr
     have HR:=V hr
     clear hr hs hs' ha hb pa pb ps
     go_enter Tryz.func106,Tryz.ntmps106
     go_wp2
     go_ret2
     exact ⟨ret_pi (U HR),rfl⟩
 · have a1:a < 0:=pa
   have b1:(b < 0)=False:=by simpa using pb
   rw [if_pos (by omega),show a+b=s by omega] at hr
   have HR:=V hr
   clear hr hs hs' ha hb pa pb
   go_enter Tryz.func106,Tryz.ntmps106
   go_wp2
   go_ret2
   exact ⟨ret_pi (U HR),rfl⟩
 · have a1:(a < 0)=False:=by simpa using pa
   have b1:b < 0:=pb
   rw [if_pos (by omega),show a+b=s by omega] at hr
   have HR:=V hr
   clear hr hs hs' ha hb pa pb
   go_enter Tryz.func106,Tryz.ntmps106
   go_wp2
   go_ret2
   exact ⟨ret_pi (U HR),rfl⟩
 · have a1:(a < 0)=False:=by simpa using pa
   have b1:(b < 0)=False:=by simpa using pb
   by_cases ps:s < 0
   · have s1:s < 0:=ps
     rw [if_neg (by omega)] at hr
     have HR:=V hr
     clear hr hs hs' ha hb pa pb ps
     go_enter Tryz.func106,Tryz.ntmps106
     go_wp2
     go_ret2
     exact ⟨ret_pi (U HR),rfl⟩
   · have s1:(s < 0)=False:=by simpa using ps
     rw [if_pos (by omega),show a+b=s by omega] at hr
     have HR:=V hr
     clear hr hs hs' ha hb pa pb ps
     go_enter Tryz.func106,Tryz.ntmps106
     go_wp2
     go_ret2
     exact ⟨ret_pi (U HR),rfl⟩
theorem rreck_sub (a b:Int) (w:World) (ha:-9223372036854775808 ≤ a∧a < 9223372036854775808) (hb:-9223372036854775808 ≤ b∧b < 9223372036854775808) :
 Calls Tryz.prog 106 #[.int .i64 12,.int .i64 a,.int .i64 b] w fun e w'=>e=.returned (.tuple #[.int .i64 (fitG (a - b)).1,.int .i64 (fitG (a - b)).2])∧w'=w:=by
 have hu:=u_sub (a:=a) (b:=b)
 obtain ⟨s,hs⟩:∃ s,wrap64 (a - b)=s:=⟨_,rfl⟩
 rw [hs] at hu
 have hs':s=(a - b+9223372036854775808) % 18446744073709551616 - 9223372036854775808:=by rw [← hs];unfold wrap64;omega
 obtain ⟨r,hr⟩:∃ r,r=fitG (a - b):=⟨_,rfl⟩
 rw [← hr]
 unfold fitG at hr
 by_cases pa:a < 0 <;> by_cases pb:b < 0
 · have a1:a < 0:=pa
   have b1:b < 0:=pb
   rw [if_pos (by omega),show a - b=s by omega] at hr
   have HR:=V hr
   clear hr hs hs' ha hb pa pb
   go_enter Tryz.func106,Tryz.ntmps106
   go_wp2
   go_ret2
   exact ⟨ret_pi (U HR),rfl⟩
 · have a1:a < 0:=pa
   have b1:(b < 0)=False:=by simpa using pb
   by_cases ps:s < 0
   · have s1:s < 0:=ps
     rw [if_pos (by omega),show a - b=s by omega] at hr
     have HR:=V hr
     clear hr hs hs' ha hb pa pb ps
     go_enter Tryz.func106,Tryz.ntmps106
     go_wp2
     go_ret2
     exact ⟨ret_pi (U HR),rfl⟩
   · have s1:(s < 0)=False:=by simpa using ps
     rw [if_neg (by omega)] at hr
     have HR:=V hr
     clear hr hs hs' ha hb pa pb ps
     go_enter Tryz.func106,Tryz.ntmps106
     go_wp2
     go_ret2
     exact ⟨ret_pi (U HR),rfl⟩
 · have a1:(a < 0)=False:=by simpa using pa
   have b1:b < 0:=pb
   by_cases ps:s < 0
   · have s1:s < 0:=ps
     rw [if_neg (by omega)] at hr
     have HR:=V hr
     clear hr hs hs' ha hb pa pb ps
     go_enter Tryz.func106,Tryz.ntmps106
     go_wp2
     go_ret2
     exact ⟨ret_pi (U HR),rfl⟩
   · have s1:(s < 0)=False:=by simpa using ps
     rw [if_pos (by omega),show a - b=s by omega] at hr
     have HR:=V hr
     clear hr hs hs' ha hb pa pb ps
     go_enter Tryz.func106,Tryz.ntmps106
     go_wp2
     go_ret2
     exact ⟨ret_pi (U HR),rfl⟩
 · have a1:(a < 0)=False:=by simpa using pa
   have b1:(b < 0)=False:=by simpa using pb
   rw [if_pos (by omega),show a - b=s by omega] at hr
   have HR:=V hr
   clear hr hs hs' ha hb pa pb
   go_enter Tryz.func106,Tryz.ntmps106
   go_wp2
   go_ret2
   exact ⟨ret_pi (U HR),rfl⟩
theorem rreck_neg (a b:Int) (w:World) (ha:-9223372036854775808 ≤ a∧a < 9223372036854775808) :
 Calls Tryz.prog 106 #[.int .i64 1,.int .i64 a,.int .i64 b] w fun e w'=>e=.returned (.tuple #[.int .i64 (fitG (0 - a)).1,.int .i64 (fitG (0 - a)).2])∧w'=w:=by
 have HS:=V (fun W=>rreck_sub 0 a W (by decide) ha)
 generalize fitG (0 - a)=r at *
 clear ha
 go_enter Tryz.func106,Tryz.ntmps106
 go_wp2_with (go_at_call 106;refine (U HS _).mono ?_;rintro e w1 ⟨rfl,rfl⟩)
 go_ret2
 exact ⟨rfl,rfl⟩
theorem rreck_div (op a b:Int) (w:World) (ha:-9223372036854775808 ≤ a∧a < 9223372036854775808) (hb:-9223372036854775808 ≤ b∧b < 9223372036854775808) (hop:op=14 ∨ op=15) :
 Calls Tryz.prog 106 #[.int .i64 op,.int .i64 a,.int .i64 b] w fun e w'=>e=.returned (.tuple #[.int .i64 (reckG op a b).1,.int .i64 (reckG op a b).2])∧w'=w:=by
 by_cases h0:b=0
 · subst h0
   have hr:Hid (reckG op a 0=(0,7)):=by rcases hop with rfl | rfl <;> rfl
   generalize reckG op a 0=r at *
   clear ha hb
   rcases hop with rfl | rfl
   · go_enter Tryz.func106,Tryz.ntmps106
     go_wp2
     go_ret2
     exact ⟨ret_pi (U hr),rfl⟩
   · go_enter Tryz.func106,Tryz.ntmps106
     go_wp2
     go_ret2
     exact ⟨ret_pi (U hr),rfl⟩
 have e0:(b == 0)=false:=by simpa using h0
 by_cases h1:b=-1
 · subst h1
   rcases hop with rfl | rfl
   · have hr:reckG 14 a (-1)=fitG (0 - a):=by
      unfold reckG;rw [if_neg (by decide),if_neg (by decide),if_neg (by decide),if_neg (by decide),if_neg h0,if_neg (by decide),Int.tdiv_neg,Int.tdiv_one,Int.zero_sub]
     have HS:=V (fun W=>rreck_sub 0 a W (by decide) ha)
     rw [hr]
     clear hr
     generalize fitG (0 - a)=r at *
     clear ha hb h0 e0
     go_enter Tryz.func106,Tryz.ntmps106
     go_wp2_with (go_at_call 106;refine (U HS _).mono ?_;rintro e w1 ⟨rfl,rfl⟩)
     go_ret2
     exact ⟨rfl,rfl⟩
   · have hr:Hid (reckG 15 a (-1)=(0,0)):=by
      unfold reckG;rw [if_neg (by decide),if_neg (by decide),if_neg (by decide),if_neg (by decide),if_neg h0,if_pos rfl,Int.tmod_neg,Int.tmod_one];rfl
     generalize reckG 15 a (-1)=r at *
     clear ha hb h0 e0
     go_enter Tryz.func106,Tryz.ntmps106
     go_wp2
     go_ret2
     exact ⟨ret_pi (U hr),rfl⟩
 have e1:(b == -1)=false:=by simpa using h1
 rcases hop with rfl | rfl
 · have hin:-9223372036854775808 ≤ a.tdiv b∧a.tdiv b < 9223372036854775808:=tdiv_in ha hb h0 (by omega)
   have hr:Hid (reckG 14 a b=(a.tdiv b,0)):=by
    unfold reckG;rw [if_neg (by decide),if_neg (by decide),if_neg (by decide),if_neg (by decide),if_neg h0,if_neg (by decide)];unfold fitG;rw [if_pos hin];rfl
   have hw:=wrap_in hin.1 hin.2
   generalize reckG 14 a b=r at *
   clear ha hb hin
   go_enter Tryz.func106,Tryz.ntmps106
   go_wp2
   go_ret2
   exact ⟨ret_pi (U hr),rfl⟩
 · have hr:Hid (reckG 15 a b=(a.tmod b,0)):=by unfold reckG;rw [if_neg (by decide),if_neg (by decide),if_neg (by decide),if_neg (by decide),if_neg h0,if_pos rfl];rfl
   generalize reckG 15 a b=r at *
   clear ha hb
   go_enter Tryz.func106,Tryz.ntmps106
   go_wp2
   go_ret2
   exact ⟨ret_pi (U hr),rfl⟩
theorem mul64_any (x y:Nat) (hx:x < 18446744073709551616) (hy:y < 18446744073709551616) (w:World) :
 Calls Tryz.prog 159 #[.int .u64 x,.int .u64 y] w fun e w'=>e=.returned (.tuple #[.int .u64 ((x * y / 18446744073709551616:Nat):Int),.int .u64 ((x * y % 18446744073709551616:Nat):Int)])∧w'=w:=by
 obtain ⟨b1,b2,b3,hh⟩:=mul64_hi x y hx hy
 have c1:=half_mul_le (a:=x / 4294967296) (b:=y / 4294967296) (by omega) (by omega)
 have c2:=half_mul_le (a:=x / 4294967296) (b:=y % 4294967296) (by omega) (by omega)
 have c3:=half_mul_le (a:=x % 4294967296) (b:=y / 4294967296) (by omega) (by omega)
 have d1:x / 4294967296 * (y / 4294967296) < 18446744073709551616:=by omega
 have d2:x / 4294967296 * (y % 4294967296) < 18446744073709551616:=by omega
 have d3:x % 4294967296 * (y / 4294967296) < 18446744073709551616:=by omega
 have f1:x / 4294967296 * (y / 4294967296)+(x / 4294967296 * (y % 4294967296)+x % 4294967296 * (y % 4294967296) / 4294967296) / 4294967296 < 18446744073709551616:=by omega
 have f2:x / 4294967296 * (y / 4294967296)+(x / 4294967296 * (y % 4294967296)+x % 4294967296 * (y % 4294967296) / 4294967296) / 4294967296+((x / 4294967296 * (y % 4294967296)+x % 4294967296 * (y % 4294967296) / 4294967296) % 4294967296+x % 4294967296 * (y / 4294967296)) / 4294967296 < 18446744073709551616:=by omega
 go_enter Tryz.func159,Tryz.ntmps159
 go_wp2
 simp only[Mul64.maskN x hx,Mul64.maskN y hy,Mul64.divN,Mul64.mulN,Mul64.addN,Mul64.wrapN _ b1,Mul64.wrapN _ d2,Mul64.wrapN _ b2,Mul64.maskN _ b2,Mul64.wrapN _ d3,Mul64.wrapN _ b3,Mul64.wrapN _ d1,Mul64.wrapN _ f1,Mul64.wrapN _ f2,Mul64.wrapM (x * y)]
 rw [hh]
 go_ret2
 exact ⟨rfl,rfl⟩
theorem rreck_mul (a b:Int) (w:World) (ha:-9223372036854775808 ≤ a∧a < 9223372036854775808) (hb:-9223372036854775808 ≤ b∧b < 9223372036854775808) :
 Calls Tryz.prog 106 #[.int .i64 13,.int .i64 a,.int .i64 b] w fun e w'=>e=.returned (.tuple #[.int .i64 (fitG (a * b)).1,.int .i64 (fitG (a * b)).2])∧w'=w:=by
 obtain ⟨p,hp⟩:∃ p:Nat,p=a.natAbs:=⟨_,rfl⟩
 obtain ⟨q,hq⟩:∃ q:Nat,q=b.natAbs:=⟨_,rfl⟩
 have HM:=V (fun W=>mul64_any p q (by omega) (by omega) W)
 obtain ⟨m,hm⟩:∃ m:Nat,m=p * q:=⟨_,rfl⟩
 obtain ⟨r,hr⟩:∃ r,r=fitG (a * b):=⟨_,rfl⟩
 rw [← hr]
 unfold fitG at hr
 rw [← hm] at HM
 by_cases pa:a < 0 <;> by_cases pb:b < 0
 · have a1:a < 0:=pa
   have b1:b < 0:=pb
   have xa:IntKind.u64.wrap (-IntKind.u64.wrap a)=(p:Int):=by rw [IntKind.wrap_u64,IntKind.wrap_u64];omega
   have xb:IntKind.u64.wrap (-IntKind.u64.wrap b)=(q:Int):=by rw [IntKind.wrap_u64,IntKind.wrap_u64];omega
   have hab:a * b=(m:Int):=by rw [show a=-(p:Int) by omega,show b=-(q:Int) by omega,hm,Int.natCast_mul,Int.neg_mul_neg]
   rw [hab] at hr
   clear hab hm hp hq ha hb pa pb
   by_cases g1:18446744073709551616 ≤ m
   · rw [if_neg (by omega)] at hr
     obtain ⟨h,hh⟩:∃ h:Int,h=((m / 18446744073709551616:Nat):Int):=⟨_,rfl⟩
     obtain ⟨l,hl⟩:∃ l:Int,l=((m % 18446744073709551616:Nat):Int):=⟨_,rfl⟩
     rw [← hh,← hl] at HM
     have e1:(h=0)=False:=by simp only[eq_iff_iff,iff_false];omega
     have HR:=V hr
     clear hr hh hl g1
     go_enter Tryz.func106,Tryz.ntmps106
     go_wp2_with (go_at_call 159;refine (U HM _).mono ?_;rintro e w1 ⟨rfl,rfl⟩)
     go_ret2
     exact ⟨ret_pi (U HR),rfl⟩
   rw [show m / 18446744073709551616=0 by omega,show m % 18446744073709551616=m by omega] at HM
   obtain ⟨l,hl⟩:∃ l:Int,l=(m:Int):=⟨_,rfl⟩
   rw [← hl] at HM hr
   by_cases g2:l > 9223372036854775807
   · rw [if_neg (by omega)] at hr
     have e1:9223372036854775807 < l:=g2
     have HR:=V hr
     clear hr hl g1 g2
     go_enter Tryz.func106,Tryz.ntmps106
     go_wp2_with (go_at_call 159;refine (U HM _).mono ?_;rintro e w1 ⟨rfl,rfl⟩)
     go_ret2
     exact ⟨ret_pi (U HR),rfl⟩
   have e1:(9223372036854775807 < l)=False:=by simpa using g2
   rw [if_pos (by omega)] at hr
   have e2:IntKind.i64.wrap l=l:=by rw [IntKind.wrap_i64];omega
   have HR:=V hr
   clear hr hl g1 g2
   go_enter Tryz.func106,Tryz.ntmps106
   go_wp2_with (go_at_call 159;refine (U HM _).mono ?_;rintro e w1 ⟨rfl,rfl⟩)
   go_ret2
   exact ⟨ret_pi (U HR),rfl⟩
 · have a1:a < 0:=pa
   have b1:(b < 0)=False:=by simpa using pb
   have xa:IntKind.u64.wrap (-IntKind.u64.wrap a)=(p:Int):=by rw [IntKind.wrap_u64,IntKind.wrap_u64];omega
   have xb:IntKind.u64.wrap b=(q:Int):=by rw [IntKind.wrap_u64];omega
   have hab:a * b=-(m:Int):=by rw [show a=-(p:Int) by omega,show b=(q:Int) by omega,hm,Int.natCast_mul,Int.neg_mul]
   rw [hab] at hr
   clear hab hm hp hq ha hb pa pb
   by_cases g1:18446744073709551616 ≤ m
   · rw [if_neg (by omega)] at hr
     obtain ⟨h,hh⟩:∃ h:Int,h=((m / 18446744073709551616:Nat):Int):=⟨_,rfl⟩
     obtain ⟨l,hl⟩:∃ l:Int,l=((m % 18446744073709551616:Nat):Int):=⟨_,rfl⟩
     rw [← hh,← hl] at HM
     have e1:(h=0)=False:=by simp only[eq_iff_iff,iff_false];omega
     have HR:=V hr
     clear hr hh hl g1
     go_enter Tryz.func106,Tryz.ntmps106
     go_wp2_with (go_at_call 159;refine (U HM _).mono ?_;rintro e w1 ⟨rfl,rfl⟩)
     go_ret2
     exact ⟨ret_pi (U HR),rfl⟩
   rw [show m / 18446744073709551616=0 by omega,show m % 18446744073709551616=m by omega] at HM
   obtain ⟨l,hl⟩:∃ l:Int,l=(m:Int):=⟨_,rfl⟩
   rw [← hl] at HM hr
   by_cases g2:l > 9223372036854775808
   · rw [if_neg (by omega)] at hr
     have e1:9223372036854775808 < l:=g2
     have HR:=V hr
     clear hr hl g1 g2
     go_enter Tryz.func106,Tryz.ntmps106
     go_wp2_with (go_at_call 159;refine (U HM _).mono ?_;rintro e w1 ⟨rfl,rfl⟩)
     go_ret2
     exact ⟨ret_pi (U HR),rfl⟩
   have e1:(9223372036854775808 < l)=False:=by simpa using g2
   rw [if_pos (by omega)] at hr
   have e2:IntKind.i64.wrap (IntKind.u64.wrap (-l))=-l:=by rw [IntKind.wrap_i64,IntKind.wrap_u64];omega
   have HR:=V hr
   clear hr hl g1 g2
   go_enter Tryz.func106,Tryz.ntmps106
   go_wp2_with (go_at_call 159;refine (U HM _).mono ?_;rintro e w1 ⟨rfl,rfl⟩)
   go_ret2
   exact ⟨ret_pi (U HR),rfl⟩
 · have a1:(a < 0)=False:=by simpa using pa
   have b1:b < 0:=pb
   have xa:IntKind.u64.wrap a=(p:Int):=by rw [IntKind.wrap_u64];omega
   have xb:IntKind.u64.wrap (-IntKind.u64.wrap b)=(q:Int):=by rw [IntKind.wrap_u64,IntKind.wrap_u64];omega
   have hab:a * b=-(m:Int):=by rw [show a=(p:Int) by omega,show b=-(q:Int) by omega,hm,Int.natCast_mul,Int.mul_neg]
   rw [hab] at hr
   clear hab hm hp hq ha hb pa pb
   by_cases g1:18446744073709551616 ≤ m
   · rw [if_neg (by omega)] at hr
     obtain ⟨h,hh⟩:∃ h:Int,h=((m / 18446744073709551616:Nat):Int):=⟨_,rfl⟩
     obtain ⟨l,hl⟩:∃ l:Int,l=((m % 18446744073709551616:Nat):Int):=⟨_,rfl⟩
     rw [← hh,← hl] at HM
     have e1:(h=0)=False:=by simp only[eq_iff_iff,iff_false];omega
     have HR:=V hr
     clear hr hh hl g1
     go_enter Tryz.func106,Tryz.ntmps106
     go_wp2_with (go_at_call 159;refine (U HM _).mono ?_;rintro e w1 ⟨rfl,rfl⟩)
     go_ret2
     exact ⟨ret_pi (U HR),rfl⟩
   rw [show m / 18446744073709551616=0 by omega,show m % 18446744073709551616=m by omega] at HM
   obtain ⟨l,hl⟩:∃ l:Int,l=(m:Int):=⟨_,rfl⟩
   rw [← hl] at HM hr
   by_cases g2:l > 9223372036854775808
   · rw [if_neg (by omega)] at hr
     have e1:9223372036854775808 < l:=g2
     have HR:=V hr
     clear hr hl g1 g2
     go_enter Tryz.func106,Tryz.ntmps106
     go_wp2_with (go_at_call 159;refine (U HM _).mono ?_;rintro e w1 ⟨rfl,rfl⟩)
     go_ret2
     exact ⟨ret_pi (U HR),rfl⟩
   have e1:(9223372036854775808 < l)=False:=by simpa using g2
   rw [if_pos (by omega)] at hr
   have e2:IntKind.i64.wrap (IntKind.u64.wrap (-l))=-l:=by rw [IntKind.wrap_i64,IntKind.wrap_u64];omega
   have HR:=V hr
   clear hr hl g1 g2
   go_enter Tryz.func106,Tryz.ntmps106
   go_wp2_with (go_at_call 159;refine (U HM _).mono ?_;rintro e w1 ⟨rfl,rfl⟩)
   go_ret2
   exact ⟨ret_pi (U HR),rfl⟩
 · have a1:(a < 0)=False:=by simpa using pa
   have b1:(b < 0)=False:=by simpa using pb
   have xa:IntKind.u64.wrap a=(p:Int):=by rw [IntKind.wrap_u64];omega
   have xb:IntKind.u64.wrap b=(q:Int):=by rw [IntKind.wrap_u64];omega
   have hab:a * b=(m:Int):=by rw [show a=(p:Int) by omega,show b=(q:Int) by omega,hm,Int.natCast_mul]
   rw [hab] at hr
   clear hab hm hp hq ha hb pa pb
   by_cases g1:18446744073709551616 ≤ m
   · rw [if_neg (by omega)] at hr
     obtain ⟨h,hh⟩:∃ h:Int,h=((m / 18446744073709551616:Nat):Int):=⟨_,rfl⟩
     obtain ⟨l,hl⟩:∃ l:Int,l=((m % 18446744073709551616:Nat):Int):=⟨_,rfl⟩
     rw [← hh,← hl] at HM
     have e1:(h=0)=False:=by simp only[eq_iff_iff,iff_false];omega
     have HR:=V hr
     clear hr hh hl g1
     go_enter Tryz.func106,Tryz.ntmps106
     go_wp2_with (go_at_call 159;refine (U HM _).mono ?_;rintro e w1 ⟨rfl,rfl⟩)
     go_ret2
     exact ⟨ret_pi (U HR),rfl⟩
   rw [show m / 18446744073709551616=0 by omega,show m % 18446744073709551616=m by omega] at HM
   obtain ⟨l,hl⟩:∃ l:Int,l=(m:Int):=⟨_,rfl⟩
   rw [← hl] at HM hr
   by_cases g2:l > 9223372036854775807
   · rw [if_neg (by omega)] at hr
     have e1:9223372036854775807 < l:=g2
     have HR:=V hr
     clear hr hl g1 g2
     go_enter Tryz.func106,Tryz.ntmps106
     go_wp2_with (go_at_call 159;refine (U HM _).mono ?_;rintro e w1 ⟨rfl,rfl⟩)
     go_ret2
     exact ⟨ret_pi (U HR),rfl⟩
   have e1:(9223372036854775807 < l)=False:=by simpa using g2
   rw [if_pos (by omega)] at hr
   have e2:IntKind.i64.wrap l=l:=by rw [IntKind.wrap_i64];omega
   have HR:=V hr
   clear hr hl g1 g2
   go_enter Tryz.func106,Tryz.ntmps106
   go_wp2_with (go_at_call 159;refine (U HM _).mono ?_;rintro e w1 ⟨rfl,rfl⟩)
   go_ret2
   exact ⟨ret_pi (U HR),rfl⟩
end Go.Proofs.YtpnonhjmpnbmcaaGreatDoor
