/- The statement ExprShort. -/
import Derived.Test.YtpnonhjmpnbmcaaGreatDoorXKn
import Derived.Test.YtpnonhjmpnbmcaaGreatDoorKRef
import Derived.Test.YtpnonhjmpnbmcaaGreatDoorJRows2PutRowVCmpVBl
import Derived.Test.YtpnonhjmpnbmcaaGreatDoorJXEv9CShelfXEv7
namespace Go.Proofs.YtpnonhjmpnbmcaaGreatDoor
open Go.RowKit Go.Lib
open Act (put)
set_option linter.unusedSimpArgs false
set_option linter.unusedVariables false
set_option maxHeartbeats 12800000
set_option maxRecDepth 20000
def oneT:GV:=⟨1,1,⟨#[]⟩⟩
theorem of_one (w:World):Calls Tryz.prog 17 #[.int .i64 1] w fun e w'=>e=.returned oneT.agg∧Below w.heap.size w w':=by
 go_enter Tryz.func17,Tryz.ntmps17
 go_upto_region 3 with fail
 obtain ⟨w0,hw0⟩:∃ w0,w0=w.alloc (.cells (gvC nullG).toArray 26):=⟨_,rfl⟩
 have HV:=V (show VV w0 w.heap.size nullG by rw [hw0];exact VV.new w nullG)
 have HB:=V (show Below w.heap.size w w0 by rw [hw0];exact alX (Below.refl _ _) _)
 unfold gvC nullG at hw0
 rw [← hw0]
 clear hw0
 refine wp_region_list ?_
 refine lt 6 (.agg (gvC oneT).toArray) ?_
 simp only[put,sA,sB,sC]
 refine wpList_store_mid rfl 26 (.tmp 2) (.tmp 6) rfl w.heap.size 0 (gvC oneT).toArray rfl rfl (U HV).there sizeV (all_oneCell_toArray (gvC_one _)) ?_
 show wpList _ _ _ _ _ (w0.setCells w.heap.size 0 (gvC oneT))
 simp only[put,sA,sB,sC]
 go_wp2_with fail
 exact bodyPost_ret (((U HV).set oneT).result rfl _ rfl) rfl ⟨rfl,VV.below_set (U HB) _⟩
theorem of_two (w:World):Calls Tryz.prog 17 #[.int .i64 2] w fun e w'=>e=.returned nullG.agg∧Below w.heap.size w w':=by
 go_enter Tryz.func17,Tryz.ntmps17
 go_upto_region 6 with fail
 obtain ⟨w0,hw0⟩:∃ w0,w0=w.alloc (.cells (gvC nullG).toArray 26):=⟨_,rfl⟩
 have HV:=V (show VV w0 w.heap.size nullG by rw [hw0];exact VV.new w nullG)
 have HB:=V (show Below w.heap.size w w0 by rw [hw0];exact alX (Below.refl _ _) _)
 unfold gvC nullG at hw0
 rw [← hw0]
 clear hw0
 refine wp_region_list ?_
 refine lt 10 (.agg (gvC nullG).toArray) ?_
 simp only[put,sA,sB,sC]
 refine wpList_store_mid rfl 26 (.tmp 2) (.tmp 10) rfl w.heap.size 0 (gvC nullG).toArray rfl rfl (U HV).there sizeV (all_oneCell_toArray (gvC_one _)) ?_
 show wpList _ _ _ _ _ (w0.setCells w.heap.size 0 (gvC nullG))
 simp only[put,sA,sB,sC]
 go_wp2_with fail
 exact bodyPost_ret (((U HV).set nullG).result rfl _ rfl) rfl ⟨rfl,VV.below_set (U HB) _⟩
theorem ret_ii {p:Int × Int} {x c:Int} (h:p=(x,c)):Ending.returned (.tuple #[.int .i64 x,.int .i64 c])=.returned (.tuple #[.int .i64 p.1,.int .i64 p.2]):=by subst h;rfl
theorem ops_6 {op:Int} (h1:¬ op < 5) (h2:¬ 10 < op):op=5 ∨ op=6 ∨ op=7 ∨ op=8 ∨ op=9 ∨ op=10:=by omega
theorem four_below {w w1:World} {o1 o2 o3 o4:Obj} (h:Below ((((w.alloc o1).alloc o2).alloc o3).alloc o4).heap.size ((((w.alloc o1).alloc o2).alloc o3).alloc o4) w1):Below w.heap.size w w1:=one_step (one_new' (one_new' (one_new' (one_new' (Below.refl _ _) _) _) _) _) h
theorem ret_r {r x:Int} (h:r=x):Ending.returned (.tuple #[.int .i64 x,.int .i64 0])=.returned (.tuple #[.int .i64 r,.int .i64 0]):=by rw [h]
abbrev RIsI (k n:Int) (t:ByteArray):Prop:=∀ W:World,Calls Tryz.prog 31 #[.agg #[.int .i64 k,.int .i64 n,.string t]] W fun e w'=>e=.returned (.bool true)∧w'=W.alloc (.cells #[.int .i64 k,.int .i64 n,.string t] 26)
abbrev RCmpI (k n:Int) (t:ByteArray) (n':Int) (t':ByteArray) (c:Int):Prop:=∀ W:World,Calls Tryz.prog 104 #[.agg #[.int .i64 k,.int .i64 n,.string t],.agg #[.int .i64 k,.int .i64 n',.string t']] W fun e w'=>e=.returned (.int .i64 c)∧Below W.heap.size W w'
theorem refTest_o5 (k n:Int) (t:ByteArray) (n':Int) (t':ByteArray) (c:Int) (w:World) (HA:Hid (RIsI k n t)) (HB:Hid (RIsI k n' t')) (HC:Hid (RCmpI k n t n' t' c)) (e0:(k == 0)=false) (r:Int) (HR:Hid (r=if c=0 then 1 else 0)) :
 Calls Tryz.prog 48 #[.int .i64 5,.agg #[.int .i64 k,.int .i64 n,.string t],.agg #[.int .i64 k,.int .i64 n',.string t']] w fun e w'=>e=.returned (.tuple #[.int .i64 r,.int .i64 0])∧Below w.heap.size w w':=by
 have hwr:IntKind.i64.wrap 0=0:=by decide +kernel
 go_enter Tryz.func48,Tryz.ntmps48
 go_wp2_with (first
  | (go_at_call 31;refine (U HA _).mono ?_;clear HA;rintro e w1 ⟨rfl,rfl⟩)
  | (go_at_call 31;refine (U HB _).mono ?_;clear HB;rintro e w1 ⟨rfl,rfl⟩)
  | (go_at_call 104;refine (U HC _).mono ?_;clear HC;rintro e w2 ⟨rfl,hb2⟩;have Q2:=V (four_below hb2)))
 all_goals
  go_ret2
  exact ⟨ret_r ((U HR).trans (by simp_all <;> omega)),one_new' (U Q2) _⟩
theorem refTest_o6 (k n:Int) (t:ByteArray) (n':Int) (t':ByteArray) (c:Int) (w:World) (HA:Hid (RIsI k n t)) (HB:Hid (RIsI k n' t')) (HC:Hid (RCmpI k n t n' t' c)) (e0:(k == 0)=false) (r:Int) (HR:Hid (r=if c ≠ 0 then 1 else 0)) :
 Calls Tryz.prog 48 #[.int .i64 6,.agg #[.int .i64 k,.int .i64 n,.string t],.agg #[.int .i64 k,.int .i64 n',.string t']] w fun e w'=>e=.returned (.tuple #[.int .i64 r,.int .i64 0])∧Below w.heap.size w w':=by
 have hwr:IntKind.i64.wrap 1=1:=by decide +kernel
 go_enter Tryz.func48,Tryz.ntmps48
 go_wp2_with (first
  | (go_at_call 31;refine (U HA _).mono ?_;clear HA;rintro e w1 ⟨rfl,rfl⟩)
  | (go_at_call 31;refine (U HB _).mono ?_;clear HB;rintro e w1 ⟨rfl,rfl⟩)
  | (go_at_call 104;refine (U HC _).mono ?_;clear HC;rintro e w2 ⟨rfl,hb2⟩;have Q2:=V (four_below hb2)))
 all_goals
  go_ret2
  exact ⟨ret_r ((U HR).trans (by simp_all <;> omega)),one_new' (U Q2) _⟩
theorem refTest_o7 (k n:Int) (t:ByteArray) (n':Int) (t':ByteArray) (c:Int) (w:World) (HA:Hid (RIsI k n t)) (HB:Hid (RIsI k n' t')) (HC:Hid (RCmpI k n t n' t' c)) (e0:(k == 0)=false) (r:Int) (HR:Hid (r=if c < 0 then 1 else 0)) :
 Calls Tryz.prog 48 #[.int .i64 7,.agg #[.int .i64 k,.int .i64 n,.string t],.agg #[.int .i64 k,.int .i64 n',.string t']] w fun e w'=>e=.returned (.tuple #[.int .i64 r,.int .i64 0])∧Below w.heap.size w w':=by
 have hwr:IntKind.i64.wrap 2=2:=by decide +kernel
 go_enter Tryz.func48,Tryz.ntmps48
 go_wp2_with (first
  | (go_at_call 31;refine (U HA _).mono ?_;clear HA;rintro e w1 ⟨rfl,rfl⟩)
  | (go_at_call 31;refine (U HB _).mono ?_;clear HB;rintro e w1 ⟨rfl,rfl⟩)
  | (go_at_call 104;refine (U HC _).mono ?_;clear HC;rintro e w2 ⟨rfl,hb2⟩;have Q2:=V (four_below hb2)))
 all_goals
  go_ret2
  exact ⟨ret_r ((U HR).trans (by simp_all <;> omega)),one_new' (U Q2) _⟩
theorem refTest_o8 (k n:Int) (t:ByteArray) (n':Int) (t':ByteArray) (c:Int) (w:World) (HA:Hid (RIsI k n t)) (HB:Hid (RIsI k n' t')) (HC:Hid (RCmpI k n t n' t' c)) (e0:(k == 0)=false) (r:Int) (HR:Hid (r=if c ≤ 0 then 1 else 0)) :
 Calls Tryz.prog 48 #[.int .i64 8,.agg #[.int .i64 k,.int .i64 n,.string t],.agg #[.int .i64 k,.int .i64 n',.string t']] w fun e w'=>e=.returned (.tuple #[.int .i64 r,.int .i64 0])∧Below w.heap.size w w':=by
 have hwr:IntKind.i64.wrap 3=3:=by decide +kernel
 go_enter Tryz.func48,Tryz.ntmps48
 go_wp2_with (first
  | (go_at_call 31;refine (U HA _).mono ?_;clear HA;rintro e w1 ⟨rfl,rfl⟩)
  | (go_at_call 31;refine (U HB _).mono ?_;clear HB;rintro e w1 ⟨rfl,rfl⟩)
  | (go_at_call 104;refine (U HC _).mono ?_;clear HC;rintro e w2 ⟨rfl,hb2⟩;have Q2:=V (four_below hb2)))
 all_goals
  go_ret2
  exact ⟨ret_r ((U HR).trans (by simp_all <;> omega)),one_new' (U Q2) _⟩
theorem refTest_o9 (k n:Int) (t:ByteArray) (n':Int) (t':ByteArray) (c:Int) (w:World) (HA:Hid (RIsI k n t)) (HB:Hid (RIsI k n' t')) (HC:Hid (RCmpI k n t n' t' c)) (e0:(k == 0)=false) (r:Int) (HR:Hid (r=if 0 < c then 1 else 0)) :
 Calls Tryz.prog 48 #[.int .i64 9,.agg #[.int .i64 k,.int .i64 n,.string t],.agg #[.int .i64 k,.int .i64 n',.string t']] w fun e w'=>e=.returned (.tuple #[.int .i64 r,.int .i64 0])∧Below w.heap.size w w':=by
 have hwr:IntKind.i64.wrap 4=4:=by decide +kernel
 go_enter Tryz.func48,Tryz.ntmps48
 go_wp2_with (first
  | (go_at_call 31;refine (U HA _).mono ?_;clear HA;rintro e w1 ⟨rfl,rfl⟩)
  | (go_at_call 31;refine (U HB _).mono ?_;clear HB;rintro e w1 ⟨rfl,rfl⟩)
  | (go_at_call 104;refine (U HC _).mono ?_;clear HC;rintro e w2 ⟨rfl,hb2⟩;have Q2:=V (four_below hb2)))
 all_goals
  go_ret2
  exact ⟨ret_r ((U HR).trans (by simp_all <;> omega)),one_new' (U Q2) _⟩
theorem refTest_o10 (k n:Int) (t:ByteArray) (n':Int) (t':ByteArray) (c:Int) (w:World) (HA:Hid (RIsI k n t)) (HB:Hid (RIsI k n' t')) (HC:Hid (RCmpI k n t n' t' c)) (e0:(k == 0)=false) (r:Int) (HR:Hid (r=if 0 ≤ c then 1 else 0)) :
 Calls Tryz.prog 48 #[.int .i64 10,.agg #[.int .i64 k,.int .i64 n,.string t],.agg #[.int .i64 k,.int .i64 n',.string t']] w fun e w'=>e=.returned (.tuple #[.int .i64 r,.int .i64 0])∧Below w.heap.size w w':=by
 have hwr:IntKind.i64.wrap 5=5:=by decide +kernel
 go_enter Tryz.func48,Tryz.ntmps48
 go_wp2_with (first
  | (go_at_call 31;refine (U HA _).mono ?_;clear HA;rintro e w1 ⟨rfl,rfl⟩)
  | (go_at_call 31;refine (U HB _).mono ?_;clear HB;rintro e w1 ⟨rfl,rfl⟩)
  | (go_at_call 104;refine (U HC _).mono ?_;clear HC;rintro e w2 ⟨rfl,hb2⟩;have Q2:=V (four_below hb2)))
 all_goals
  go_ret2
  exact ⟨ret_r ((U HR).trans (by simp_all <;> omega)),one_new' (U Q2) _⟩
theorem holds_5 (c:Int):(if holdsG 5 c=true then ((1:Int),(0:Int)) else (0,0))=(if c=0 then 1 else 0,0):=by by_cases h:c=0 <;> simp [holdsG,h]
theorem holds_6 (c:Int):(if holdsG 6 c=true then ((1:Int),(0:Int)) else (0,0))=(if c ≠ 0 then 1 else 0,0):=by by_cases h:c ≠ 0 <;> simp [holdsG,h]
theorem holds_7 (c:Int):(if holdsG 7 c=true then ((1:Int),(0:Int)) else (0,0))=(if c < 0 then 1 else 0,0):=by by_cases h:c < 0 <;> simp [holdsG,h]
theorem holds_8 (c:Int):(if holdsG 8 c=true then ((1:Int),(0:Int)) else (0,0))=(if c ≤ 0 then 1 else 0,0):=by by_cases h:c ≤ 0 <;> simp [holdsG,h]
theorem holds_9 (c:Int):(if holdsG 9 c=true then ((1:Int),(0:Int)) else (0,0))=(if 0 < c then 1 else 0,0):=by by_cases h:0 < c <;> simp [holdsG,h]
theorem holds_10 (c:Int):(if holdsG 10 c=true then ((1:Int),(0:Int)) else (0,0))=(if 0 ≤ c then 1 else 0,0):=by by_cases h:0 ≤ c <;> simp [holdsG,h]
theorem refTest_any (op:Int) (a b:GV) (w:World) (ha:a.ok) (hb:b.ok) :
 Calls Tryz.prog 48 #[.int .i64 op,a.agg,b.agg] w fun e w'=>e=.returned (.tuple #[.int .i64 (testG op a b).1,.int .i64 (testG op a b).2])∧Below w.heap.size w w':=by
 have HA:=V (fun W=>refIs_any a W ha)
 have HB:=V (fun W=>refIs_any b W hb)
 have HC:=V (fun W=>refCompare_any a b W ha hb)
 have hcg:Hid (a.may=true→b.may=true→compareG a b=cmpG a b):=fun h1 h2=>by unfold compareG soundG;rw [if_pos h1,if_pos h2]
 clear ha hb
 obtain ⟨r,hr⟩:∃ r,r=testG op a b:=⟨_,rfl⟩
 rw [← hr]
 unfold testG at hr
 generalize compareG a b=d at *
 generalize cmpG a b=c at *
 obtain ⟨k,n,t⟩:=a
 obtain ⟨k',n',t'⟩:=b
 simp only[GV.agg_eq] at HA HB HC ⊢
 dsimp only at hr
 generalize GV.may ⟨k,n,t⟩=ma at *
 generalize GV.may ⟨k',n',t'⟩=mb at *
 by_cases h5:op < 5
 · rw [if_pos (.inl h5)] at hr
   have HR:=V hr
   clear hr hcg
   go_enter Tryz.func48,Tryz.ntmps48
   go_wp2
   go_ret2
   exact ⟨ret_ii (U HR),(one_new' (one_new' (Below.refl _ _) _) _)⟩
 by_cases h10:10 < op
 · rw [if_pos (.inr (.inl h10))] at hr
   have HR:=V hr
   clear hr hcg
   go_enter Tryz.func48,Tryz.ntmps48
   go_wp2
   go_ret2
   exact ⟨ret_ii (U HR),(one_new' (one_new' (Below.refl _ _) _) _)⟩
 cases ma with
 | false=>
  rw [if_pos (.inr (.inr (.inl rfl)))] at hr
  have HR:=V hr
  clear hr hcg
  go_enter Tryz.func48,Tryz.ntmps48
  go_wp2_with (first
   | (go_at_call 31;refine (U HA _).mono ?_;clear HA;rintro e w1 ⟨rfl,rfl⟩))
  go_ret2
  exact ⟨ret_ii (U HR),(one_new' (one_new' (one_new' (Below.refl _ _) _) _) _)⟩
 | true=>
  cases mb with
  | false=>
   rw [if_pos (.inr (.inr (.inr rfl)))] at hr
   have HR:=V hr
   clear hr hcg
   go_enter Tryz.func48,Tryz.ntmps48
   go_wp2_with (first
    | (go_at_call 31;refine (U HA _).mono ?_;clear HA;rintro e w1 ⟨rfl,rfl⟩)
    | (go_at_call 31;refine (U HB _).mono ?_;clear HB;rintro e w1 ⟨rfl,rfl⟩))
   go_ret2
   exact ⟨ret_ii (U HR),(one_new' (one_new' (one_new' (one_new' (Below.refl _ _) _) _) _) _)⟩
  | true=>
   rw [if_neg (by simp;omega)] at hr
   obtain rfl:=U hcg rfl rfl
   by_cases k0:k=0
   · subst k0
     rw [if_pos (.inl rfl)] at hr
     have HR:=V hr
     clear hr hcg
     go_enter Tryz.func48,Tryz.ntmps48
     go_wp2_with (first
      | (go_at_call 31;refine (U HA _).mono ?_;clear HA;rintro e w1 ⟨rfl,rfl⟩)
      | (go_at_call 31;refine (U HB _).mono ?_;clear HB;rintro e w1 ⟨rfl,rfl⟩))
     go_ret2
     exact ⟨ret_ii (U HR),(one_new' (one_new' (one_new' (one_new' (Below.refl _ _) _) _) _) _)⟩
   by_cases k0':k'=0
   · subst k0'
     rw [if_pos (.inr rfl)] at hr
     have e0:(k == 0)=false:=by simpa using k0
     have HR:=V hr
     clear hr hcg
     go_enter Tryz.func48,Tryz.ntmps48
     go_wp2_with (first
      | (go_at_call 31;refine (U HA _).mono ?_;clear HA;rintro e w1 ⟨rfl,rfl⟩)
      | (go_at_call 31;refine (U HB _).mono ?_;clear HB;rintro e w1 ⟨rfl,rfl⟩))
     go_ret2
     exact ⟨ret_ii (U HR),(one_new' (one_new' (one_new' (one_new' (Below.refl _ _) _) _) _) _)⟩
   rw [if_neg (by omega)] at hr
   have e0:(k == 0)=false:=by simpa using k0
   by_cases hk:k=k'
   · subst hk
     rw [if_neg (by simp)] at hr
     rcases ops_6 h5 h10 with rfl | rfl | rfl | rfl | rfl | rfl
     · rw [holds_5] at hr
       refine (refTest_o5 k n t n' t' _ w HA HB HC e0 _ (V rfl)).mono ?_
       rintro e w' ⟨rfl,hb⟩
       exact ⟨by rw [hr],hb⟩
     · rw [holds_6] at hr
       refine (refTest_o6 k n t n' t' _ w HA HB HC e0 _ (V rfl)).mono ?_
       rintro e w' ⟨rfl,hb⟩
       exact ⟨by rw [hr],hb⟩
     · rw [holds_7] at hr
       refine (refTest_o7 k n t n' t' _ w HA HB HC e0 _ (V rfl)).mono ?_
       rintro e w' ⟨rfl,hb⟩
       exact ⟨by rw [hr],hb⟩
     · rw [holds_8] at hr
       refine (refTest_o8 k n t n' t' _ w HA HB HC e0 _ (V rfl)).mono ?_
       rintro e w' ⟨rfl,hb⟩
       exact ⟨by rw [hr],hb⟩
     · rw [holds_9] at hr
       refine (refTest_o9 k n t n' t' _ w HA HB HC e0 _ (V rfl)).mono ?_
       rintro e w' ⟨rfl,hb⟩
       exact ⟨by rw [hr],hb⟩
     · rw [holds_10] at hr
       refine (refTest_o10 k n t n' t' _ w HA HB HC e0 _ (V rfl)).mono ?_
       rintro e w' ⟨rfl,hb⟩
       exact ⟨by rw [hr],hb⟩
   · rw [if_pos hk] at hr
     have e0':(k' == 0)=false:=by simpa using k0'
     have en:(k != k')=true:=by simpa using hk
     have HR:=V hr
     clear hr hcg
     go_enter Tryz.func48,Tryz.ntmps48
     go_wp2_with (first
      | (go_at_call 31;refine (U HA _).mono ?_;clear HA;rintro e w1 ⟨rfl,rfl⟩)
      | (go_at_call 31;refine (U HB _).mono ?_;clear HB;rintro e w1 ⟨rfl,rfl⟩))
     go_ret2
     exact ⟨ret_ii (U HR),(one_new' (one_new' (one_new' (one_new' (Below.refl _ _) _) _) _) _)⟩
theorem r6truth_any {a:Int} (ha:0 ≤ a∧a ≤ 2) (w:World):Calls Tryz.prog 105 #[.int .i64 a] w fun e w'=>e=.returned (.bool true)∧w'=w:=by
 rcases truths ha with rfl | rfl | rfl <;>
 · clear ha
   go_enter Tryz.func105,Tryz.ntmps105
   go_wp2
   go_ret
   exact ⟨rfl,rfl⟩
theorem r6or_any {a b:Int} (ha:0 ≤ a∧a ≤ 2) (hb:0 ≤ b∧b ≤ 2) (w:World):Calls Tryz.prog 49 #[.int .i64 a,.int .i64 b] w fun e w'=>e=.returned (.int .i64 (orG a b))∧w'=w:=by
 have HA:=V (fun W=>r6truth_any ha W)
 have HB:=V (fun W=>r6truth_any hb W)
 rcases truths ha with rfl | rfl | rfl <;> rcases truths hb with rfl | rfl | rfl <;>
 · clear ha hb
   go_enter Tryz.func49,Tryz.ntmps49
   go_wp2_with (first | (go_at_call 105;refine (U HA _).mono ?_;clear HA;rintro e w1 ⟨rfl,rfl⟩) | (go_at_call 105;refine (U HB _).mono ?_;rintro e w1 ⟨rfl,rfl⟩))
   go_ret
   exact ⟨rfl,rfl⟩
theorem r6and_any {a b:Int} (ha:0 ≤ a∧a ≤ 2) (hb:0 ≤ b∧b ≤ 2) (w:World):Calls Tryz.prog 53 #[.int .i64 a,.int .i64 b] w fun e w'=>e=.returned (.int .i64 (andG a b))∧w'=w:=by
 have HA:=V (fun W=>r6truth_any ha W)
 have HB:=V (fun W=>r6truth_any hb W)
 rcases truths ha with rfl | rfl | rfl <;> rcases truths hb with rfl | rfl | rfl <;>
 · clear ha hb
   go_enter Tryz.func53,Tryz.ntmps53
   go_wp2_with (first | (go_at_call 105;refine (U HA _).mono ?_;clear HA;rintro e w1 ⟨rfl,rfl⟩) | (go_at_call 105;refine (U HB _).mono ?_;rintro e w1 ⟨rfl,rfl⟩))
   go_ret
   exact ⟨rfl,rfl⟩
theorem r6not_any {a:Int} (ha:0 ≤ a∧a ≤ 2) (w:World):Calls Tryz.prog 51 #[.int .i64 a] w fun e w'=>e=.returned (.int .i64 (notG a))∧Below w.heap.size w w':=by
 have HA:=V (fun W=>r6truth_any ha W)
 have HB:Hid (Below w.heap.size w (w.alloc (.cells #[.int .i64 1,.int .i64 0,.int .i64 2] 201))):=alX (Below.refl _ _) _
 rcases truths ha with rfl | rfl | rfl <;>
 · clear ha
   go_enter Tryz.func51,Tryz.ntmps51
   go_wp2_with (first | (go_at_call 105;refine (U HA _).mono ?_;clear HA;rintro e w1 ⟨rfl,rfl⟩))
   go_ret
   exact ⟨rfl,U HB⟩
theorem r6of_any {n:Int} (hn:0 ≤ n∧n ≤ 2) (w:World):Calls Tryz.prog 17 #[.int .i64 n] w fun e w'=>e=.returned (ofTruthG n).agg∧Below w.heap.size w w':=by
 rcases truths hn with rfl | rfl | rfl
 · exact of_false w
 · exact of_one w
 · exact of_two w
/-- A value's truth, as the document has it. -/
def rtG (g:GV):Int:=if g.kind=0 then 2 else if g.int=1 then 1 else 0
theorem rtG_two (g:GV):0 ≤ rtG g∧rtG g ≤ 2:=by unfold rtG;split <;> (try split) <;> omega
theorem rtruth_any (g:GV) (w:World):Calls Tryz.prog 30 #[g.agg] w fun e w'=>e=.returned (.int .i64 (rtG g))∧Below w.heap.size w w':=by
 obtain ⟨k,n,t⟩:=g
 have HB:Hid (Below w.heap.size w (w.alloc (.cells #[.int .i64 k,.int .i64 n,.string t] 26))):=alX (Below.refl _ _) _
 have HV:Hid ((w.alloc (.cells #[.int .i64 k,.int .i64 n,.string t] 26)).heap[w.heap.size]?=some (.cells #[.int .i64 k,.int .i64 n,.string t] 26 (0,0))):=heap_alloc_new _ _
 unfold GV.agg
 by_cases hk:k=0
 · subst hk
   have c0:=cellX (U HV) 0
   go_enter Tryz.func30,Tryz.ntmps30
   go_wp2
   go_ret
   exact ⟨rfl,U HB⟩
 · have e0:(k == 0)=false:=beq_eq_false_iff_ne.2 hk
   by_cases hn:n=1
   · subst hn
     rw [show rtG ⟨k,1,t⟩=1 by unfold rtG;rw [if_neg hk];rfl]
     clear hk
     go_enter Tryz.func30,Tryz.ntmps30
     go_wp2
     go_ret
     exact ⟨rfl,U HB⟩
   · have e1:(n == 1)=false:=beq_eq_false_iff_ne.2 hn
     rw [show rtG ⟨k,n,t⟩=0 by unfold rtG;rw [if_neg hk,if_neg hn]]
     clear hk hn
     go_enter Tryz.func30,Tryz.ntmps30
     go_wp2
     go_ret
     exact ⟨rfl,U HB⟩
/-- The bytes of a number, the highest first. -/
def beN:Nat→Nat→List UInt8
 | 0,_=>[]
 | k+1,m=>(m / 256 ^ k).toUInt8 :: beN k (m % 256 ^ k)
theorem beN_length:∀ k m,(beN k m).length=k
 | 0,_=>rfl
 | k+1,m=>by simp [beN,beN_length k]
theorem toUInt8_lt {n:Nat} (h:n < 256):n.toUInt8.toNat=n:=by simp;omega
/-- A value's key (P6.4). -/
def keyV (g:GV):List UInt8:=
 if g.kind=1 then [1,g.int.toNat.toUInt8] else if g.kind=2 then 2 :: beN 8 (g.int+9223372036854775808).toNat else if g.kind=3 then 3 :: (g.text.data.toList ++ [0]) else [0]
def keyG (gs:List GV):List UInt8:=gs.flatMap keyV
theorem empty_text {t:ByteArray} (h:t.toList=[]):t=⟨#[]⟩:=by
 have:=congrArg List.length h
 have hs:t.size=0:=by simpa [ByteArray.toList_eq] using this
 exact text_ext (List.eq_nil_of_length_eq_zero (by rw [bytes_length];exact hs))
theorem may_0 {n:Int} {t:ByteArray} (h:GV.may ⟨0,n,t⟩=true):n=0∧t=⟨#[]⟩:=by
 simp [GV.may] at h
 exact ⟨h.1,empty_text h.2⟩
theorem may_1 {n:Int} {t:ByteArray} (h:GV.may ⟨1,n,t⟩=true):(n=0 ∨ n=1)∧t=⟨#[]⟩:=by
 simp [GV.may] at h
 exact ⟨h.1,empty_text h.2⟩
theorem may_2 {n:Int} {t:ByteArray} (h:GV.may ⟨2,n,t⟩=true):t=⟨#[]⟩:=by
 simp [GV.may] at h
 exact empty_text h
theorem may_3 {n:Int} {t:ByteArray} (h:GV.may ⟨3,n,t⟩=true):n=0∧t.size ≤ 40∧indexByte t.data.toList 0 < 0:=by
 simp [GV.may] at h
 exact ⟨h.1.1,h.1.2,h.2⟩
theorem may_kind' {g:GV} (h:g.may=true):g.kind=0 ∨ g.kind=1 ∨ g.kind=2 ∨ g.kind=3:=by
 obtain ⟨k,n,t⟩:=g
 simp [GV.may] at h
 dsimp only
 omega
theorem idx_ge:∀ (l:List UInt8) (c:UInt8),-1 ≤ indexByte l c
 | [],_=>by simp [indexByte]
 | b :: l,c=>by
  have:=idx_ge l c
  unfold indexByte
  repeat' split
  all_goals omega
theorem no_zero:∀ (l:List UInt8),indexByte l 0 < 0→0 ∉ l
 | [],_=>by simp
 | b :: l,h=>by
  unfold indexByte at h
  split at h
  · simp at h
  · rename_i hb
    have hb':b ≠ 0:=by simpa using hb
    split at h
    · rename_i h1
      have:=no_zero l (by have:indexByte l 0=-1:=by simpa using h1
                          omega)
      simp only[List.mem_cons,not_or]
      exact ⟨fun e=>hb' e.symm,this⟩
    · rename_i h1
      have h2:indexByte l 0 ≠ -1:=by simpa using h1
      have h3:-1 ≤ indexByte l 0:=idx_ge l 0
      omega
/-- A value of that type, or NULL; beside an error NULL. -/
def GoodV (r:GV × Int) (t:Int):Prop:=r.1.may=true∧(r.1.kind=0 ∨ r.1.kind=t)∧(r.2 ≠ 0→r.1=nullG)∧(r.2=0 ∨ r.2=6 ∨ r.2=7)
theorem null_may:nullG.may=true:=by kernel_rfl
theorem good_null {c:Int} (t:Int) (h:c=0 ∨ c=6 ∨ c=7):GoodV (nullG,c) t:=⟨null_may,.inl rfl,fun _=>rfl,h⟩
theorem good_of {n:Int} (h:0 ≤ n∧n ≤ 2):GoodV (ofTruthG n,0) 1:=by
 rcases truths h with rfl | rfl | rfl
 · exact ⟨by kernel_rfl,.inr rfl,fun h=>absurd rfl h,.inl rfl⟩
 · exact ⟨by kernel_rfl,.inr rfl,fun h=>absurd rfl h,.inl rfl⟩
 · exact ⟨by kernel_rfl,.inl rfl,fun h=>absurd rfl h,.inl rfl⟩
theorem GoodV.to {r:GV × Int} {t s:Int} (h:GoodV r t) (ht:t=0 ∨ t=s):GoodV r s:=by
 refine ⟨h.1,?_,h.2.2⟩
 rcases h.2.1 with h1 | h1
 · exact .inl h1
 · rcases ht with h2 | h2
   · exact .inl (h1.trans h2)
   · exact .inr (h1.trans h2)
theorem fitB_or {t s:Int} (h:fitB t s=true) (hs:s ≠ 0):t=0 ∨ t=s:=by
 unfold fitB at h
 simp only[Bool.or_eq_true,beq_iff_eq] at h
 rcases h with h | h | h
 · exact .inl h
 · exact absurd h hs
 · exact .inr h
/-- Truths: both have the same. -/
theorem truth_same {x:GV} (hm:x.may=true) (hk:x.kind=0 ∨ x.kind=1):truthG x=(rtG x,0):=by
 obtain ⟨k,n,t⟩:=x
 rcases hk with hk | hk <;> (have hk2:k=_:=hk;subst hk2)
 · rfl
 · obtain ⟨hn,_⟩:=may_1 hm
   rcases hn with rfl | rfl <;> rfl
theorem trE_same {x:GV × Int} (h:GoodV x 1):(x.2=0→trE x=(rtG x.1,0))∧(x.2 ≠ 0→trE x=(0,x.2)):=by
 refine ⟨fun h0=>?_,fun h0=>if_neg h0⟩
 rw [trE,if_pos h0]
 exact truth_same h.1 h.2.1
theorem test_same {op T:Int} {x y:GV} (h5:5 ≤ op) (h10:op ≤ 10) (hx:x.may=true) (hy:y.may=true) (hkx:x.kind=0 ∨ x.kind=T) (hky:y.kind=0 ∨ y.kind=T):(testG op x y).2=0:=by
 unfold testG
 rw [if_neg (by rw [hx,hy];simp;omega)]
 split
 · rfl
 · rename_i h
   have e:x.kind=y.kind:=by
    rcases hkx with h1 | h1
    · exact absurd (.inl h1) h
    · rcases hky with h2 | h2
      · exact absurd (.inr h2) h
      · rw [h1,h2]
   rw [if_neg (fun h=>h e)]
   split <;> rfl
theorem fitG_2 (n:Int):(fitG n).2=0 ∨ (fitG n).2=6:=by unfold fitG;split <;> simp
theorem reckG_2 (op a b:Int):(reckG op a b).2=0 ∨ (reckG op a b).2=6 ∨ (reckG op a b).2=7:=by
 have h:=fitG_2
 unfold reckG
 repeat' split
 all_goals first
  | exact (h _).elim .inl (fun h=>.inr (.inl h))
  | exact .inl rfl
  | exact .inr (.inr rfl)
theorem num_may (n:Int):GV.may ⟨2,n,⟨#[]⟩⟩=true:=by simp [GV.may]
theorem no_zero':∀ (l:List UInt8),0 ∉ l→indexByte l 0 < 0:=by
 intro l h
 rw [indexByte_zero_iff]
 intro i hi e
 apply h
 rw [List.getD_eq_getElem?_getD,List.getElem?_eq_getElem hi] at e
 have e2:l[i]=0:=e
 rw [← e2]
 exact List.getElem_mem hi
theorem join_may {a b:ByteArray} (ha:indexByte a.data.toList 0 < 0) (hb:indexByte b.data.toList 0 < 0) (hs:a.size+b.size ≤ 40):GV.may ⟨3,0,a ++ b⟩=true:=by
 have h1:(a ++ b).size ≤ 40:=by rw [ByteArray.size_append];exact hs
 have h2:indexByte (a ++ b).data.toList 0 < 0:=by
  apply no_zero'
  rw [ByteArray.data_append,Array.toList_append,List.mem_append]
  intro h
  rcases h with h | h
  · exact no_zero _ ha h
  · exact no_zero _ hb h
 simp only[GV.may,h1,h2,decide_true,Bool.and_true,Bool.or_true,beq_self_eq_true]
theorem do_good {op:Int} {x y:GV} (T:Int) (hT:T=operG op) (h0:T ≠ 0) (hx:x.may=true) (hy:y.may=true) (hkx:x.kind=0 ∨ x.kind=T) (hky:op=1 ∨ y.kind=0 ∨ y.kind=T) :
 GoodV (doG op x y) T∧(doG op x y).2 ≠ 4:=by
 unfold doG
 dsimp only
 obtain ⟨z,hz⟩:∃ z,z=if op=1 then x else y:=⟨_,rfl⟩
 rw [← hz]
 have hzm:z.may=true:=by rw [hz];split <;> assumption
 have hzk:z.kind=0 ∨ z.kind=T:=by
  rw [hz]
  split
  · exact hkx
  · rcases hky with h | h
    · contradiction
    · exact h
 rw [← hT,if_neg (by rw [hx,hzm];simp;exact h0)]
 by_cases hn:x.kind=0 ∨ z.kind=0
 · rw [if_pos hn];exact ⟨good_null _ (by decide),by decide⟩
 rw [if_neg hn]
 have hx1:x.kind=T:=by rcases hkx with h | h;exact absurd (.inl h) hn;exact h
 have hz1:z.kind=T:=by rcases hzk with h | h;exact absurd (.inr h) hn;exact h
 rw [if_neg (by rw [hx1,hz1];simp)]
 by_cases h3:T=3
 · rw [if_pos h3]
   unfold joinG
   split
   · exact ⟨good_null _ (by decide),by decide⟩
   · obtain ⟨k,n,s⟩:=x
     obtain ⟨k',n',s'⟩:=z
     have e1:k=3:=hx1.trans h3
     have e2:k'=3:=hz1.trans h3
     subst e1 e2
     have m1:=may_3 hx
     have m2:=may_3 hzm
     rename_i hs
     refine ⟨⟨join_may m1.2.2 m2.2.2 (Nat.le_of_not_lt hs),.inr h3.symm,fun h=>absurd rfl h,.inl rfl⟩,?_⟩
     show (0:Int) ≠ 4
     decide
 · rw [if_neg h3]
   have h2:T=2:=by
    have:operG op=2 ∨ operG op=3 ∨ operG op=0:=by unfold operG;split <;> (try split) <;> simp
    omega
   split
   · refine ⟨⟨num_may _,.inr h2.symm,fun h=>absurd rfl h,.inl rfl⟩,?_⟩
     show (0:Int) ≠ 4
     decide
   · rcases reckG_2 op x.int z.int with h | h | h <;> (rw [h];exact ⟨good_null _ (by decide),by decide⟩)
theorem recG_same {g:GV} {c:Int} (h:c ≠ 4):recG g c=(g,c):=if_neg h
def rUn (op:Int) (x:GV × Int):GV × Int:=
 if x.2 ≠ 0 then (nullG,x.2)
 else if op=1 then doG 1 x.1 nullG
 else if op=2 then (ofTruthG (notG (rtG x.1)),0)
 else if op=3 then (ofTruthG (if x.1.kind=0 then 1 else 0),0)
 else (ofTruthG (if x.1.kind=0 then 0 else 1),0)
theorem un_good {op t:Int} {x:GV × Int} (h1:1 ≤ op) (h4:op ≤ 4) (hx:GoodV x t) (hf1:op=1→t=0 ∨ t=2) (hf2:op=2→t=0 ∨ t=1) :
 rUn op x=unaryG op x∧GoodV (rUn op x) (if op=1 then 2 else 1):=by
 unfold rUn unaryG
 by_cases hc:x.2 ≠ 0
 · rw [if_pos hc,if_pos hc];exact ⟨rfl,good_null _ hx.2.2.2⟩
 rw [if_neg hc,if_neg hc]
 by_cases e1:op=1
 · rw [if_pos e1,if_pos e1,if_pos e1]
   have hd:=do_good (op:=1) (x:=x.1) (y:=nullG) 2 rfl (by decide) hx.1 null_may (hx.to (hf1 e1)).2.1 (.inl rfl)
   exact ⟨(recG_same hd.2).symm,hd.1⟩
 rw [if_neg e1,if_neg e1,if_neg e1]
 by_cases e2:op=2
 · rw [if_pos e2,if_pos e2]
   rw [truth_same hx.1 (hx.to (hf2 e2)).2.1]
   exact ⟨rfl,good_of (notG_two _)⟩
 rw [if_neg e2,if_neg e2]
 by_cases e3:op=3
 · rw [if_pos e3,if_pos e3]
   exact ⟨rfl,by split <;> exact good_of (by decide)⟩
 rw [if_neg e3,if_neg e3,if_pos (show op=4 by omega)]
 exact ⟨rfl,by split <;> exact good_of (by decide)⟩
def rBi (op:Int) (x y:GV × Int):GV × Int:=
 if x.2 ≠ 0 then (nullG,x.2)
 else if (op=17∧rtG x.1=0) ∨ (op=18∧rtG x.1=1) then (ofTruthG (rtG x.1),0)
 else if y.2 ≠ 0 then (nullG,y.2)
 else if op=17 then (ofTruthG (andG (rtG x.1) (rtG y.1)),0)
 else if op=18 then (ofTruthG (orG (rtG x.1) (rtG y.1)),0)
 else if op ≤ 10 then (ofTruthG (testG op x.1 y.1).1,(testG op x.1 y.1).2)
 else doG op x.1 y.1
end Go.Proofs.YtpnonhjmpnbmcaaGreatDoor
