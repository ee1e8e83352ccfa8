/- Contracts of the document's own look at a value, order and Compare. -/
import Derived.Test.YtpnonhjmpnbmcaaGreatDoorJVOrdVIsVSum1VTest
import Derived.Test.YtpnonhjmpnbmcaaGreatDoorJVSum3VTest2VKnownKBytesVFewVLaidXBin
import Derived.Test.YtpnonhjmpnbmcaaGreatDoorJRows2PutRowVCmpVBl
import Derived.Lib.IndexLaws
namespace Go.Proofs.YtpnonhjmpnbmcaaGreatDoor
open Go.RowKit Go.Lib
open Act (put)
set_option maxHeartbeats 3200000
theorem indexByte_zero_iff (l:List UInt8):indexByte l 0 < 0 ↔ ∀ i,i < l.length→l.getD i 0 ≠ 0:=by
 constructor
 · intro h i hi e
   have h1:indexByte l 0=-1:=by have:=indexByte_ge l 0;omega
   exact indexByte_none h1 i (by rw [List.getElem?_eq_getElem hi];simp [List.getD_eq_getElem?_getD,hi] at e;rw [e])
 · intro h
   rcases Int.lt_or_le (indexByte l 0) 0 with h1 | h1
   · exact h1
   · obtain ⟨o,ho⟩:=Int.eq_ofNat_of_zero_le h1
     have h2:=(indexByte_some ho).1
     have h3:=(List.getElem?_eq_some_iff.1 h2)
     obtain ⟨h4,h5⟩:=h3
     exact absurd (by simp [List.getD_eq_getElem?_getD,h4,h5]) (h o h4)
theorem ba_getD (t:ByteArray) (k:Nat) (h:k < t.size):t.data.toList.getD k 0=t[k]:=by
 have h2:k < t.data.size:=h
 show _=t.data[k]
 simp only[List.getD_eq_getElem?_getD,Array.getElem?_toList,Array.getElem?_eq_getElem h2,Option.getD_some]
theorem plain_any (t:ByteArray) (w:World) (ht:t.size ≤ maxLen) :
 Calls Tryz.prog 68 #[.string t] w fun e w'=>e=.returned (.bool (decide (indexByte t.data.toList 0 < 0)))∧w'=w:=by
 have ht':(t.size:Int) ≤ 9223372036854775807:=by unfold maxLen at ht;omega
 obtain ⟨m,hm⟩:∃ m,m=decide (indexByte t.data.toList 0 < 0):=⟨_,rfl⟩
 rw [← hm]
 have HM:=V hm
 clear hm ht
 go_enter Tryz.func68,Tryz.ntmps68
 go_wp2
 go_loop [3] (fun i=>∃ k:Nat,k ≤ t.size∧i=.int .i64 k∧∀ j,j < k→t.data.toList.getD j 0 ≠ 0) (fun i=>t.size - (intOf i).toNat)
 case atStart=>exact ⟨0,by omega,rfl,fun j h=>by omega⟩
 case round=>
  obtain ⟨k,hk,rfl,hz⟩:=hrel
  have HZ:=V hz
  clear hz
  by_cases hlt:k < t.size
  · have HE:=V (ba_getD t k hlt)
    by_cases h0:t[k].toNat=0
    · have h0b:((t[k].toNat:Int) == 0)=true:=by simp [h0]
      have HN:Hid (m=false):=by
       have e:=U HM
       refine V (e.trans (decide_eq_false ?_))
       intro h
       refine (indexByte_zero_iff _).1 h k (by simpa using hlt) ?_
       rw [U HE];exact UInt8.toNat_inj.1 h0
      clear h0
      go_wp2
      go_ret
      exact ⟨ret_bool (U HN).symm,rfl⟩
    · have h0b:((t[k].toNat:Int) == 0)=false:=beq_eq_false_iff_ne.2 (by omega)
      have HN:Hid (∀ j,j < k+1→t.data.toList.getD j 0 ≠ 0):=by
       refine V (fun j hj=>?_)
       rcases Nat.lt_or_ge j k with h | h
       · exact U HZ j h
       · have:j=k:=by omega
         subst this
         rw [U HE]
         intro hc;rw [hc] at h0;exact h0 rfl
      clear h0 HZ
      go_wp2
      go_round
      case rel=>exact ⟨k+1,by omega,by go_num,U HN⟩
      case measure=>simp [intOf];omega
  · have HN:Hid (m=true):=by
     refine V ((U HM).trans (decide_eq_true ?_))
     refine (indexByte_zero_iff _).2 (fun i hi=>U HZ i ?_)
     have:i < t.size:=by simpa using hi
     omega
    go_wp2
    go_ret
    exact ⟨ret_bool (U HN).symm,rfl⟩
theorem refIs_any (g:GV) (w:World) (hg:g.ok) :
 Calls Tryz.prog 31 #[g.agg] w fun e w'=>e=.returned (.bool g.may)∧w'=w.alloc (.cells #[.int .i64 g.kind,.int .i64 g.int,.string g.text] 26):=by
 obtain ⟨k,n,t⟩:=g
 obtain ⟨h1,h2,h3⟩:=hg
 unfold GV.agg
 obtain ⟨m,hm⟩:∃ m,m=GV.may ⟨k,n,t⟩:=⟨_,rfl⟩
 rw [← hm]
 have HM:=V hm
 clear hm
 dsimp only at *
 have HP:=V (fun w=>plain_any t w h3)
 have h3':(t.size:Int) ≤ 9223372036854775807:=by unfold maxLen at h3;omega
 clear h3
 by_cases hk0:k=0
 · subst hk0
   by_cases hn:n=0
   · subst hn
     go_enter Tryz.func31,Tryz.ntmps31
     go_wp2
     go_ret
     exact ⟨ret_bool (by rw [U HM];simp [GV.may]),rfl⟩
   · have hnc:(n == 0)=false:=by simp [hn]
     go_enter Tryz.func31,Tryz.ntmps31
     go_wp2
     go_ret
     exact ⟨ret_bool (by rw [U HM];simp [GV.may,hnc]),rfl⟩
 · by_cases hk1:k=1
   · subst hk1
     by_cases hn:n=0
     · subst hn
       go_enter Tryz.func31,Tryz.ntmps31
       go_wp2
       go_ret
       exact ⟨ret_bool (by rw [U HM];simp [GV.may]),rfl⟩
     · have hnc:(n == 0)=false:=by simp [hn]
       by_cases hn1:n=1
       · subst hn1
         go_enter Tryz.func31,Tryz.ntmps31
         go_wp2
         go_ret
         exact ⟨ret_bool (by rw [U HM];simp [GV.may]),rfl⟩
       · have hne:(n == 1)=false:=by simp [hn1]
         go_enter Tryz.func31,Tryz.ntmps31
         go_wp2
         go_ret
         exact ⟨ret_bool (by rw [U HM];simp [GV.may,hnc,hne]),rfl⟩
   · by_cases hk2:k=2
     · subst hk2
       go_enter Tryz.func31,Tryz.ntmps31
       go_wp2
       go_ret
       exact ⟨ret_bool (by rw [U HM];simp [GV.may]),rfl⟩
     · by_cases hk3:k=3
       · subst hk3
         by_cases hn:n=0
         · subst hn
           by_cases h40:t.size ≤ 40
           · go_enter Tryz.func31,Tryz.ntmps31
             go_wp2_with (go_at_call 68;refine (U HP _).mono ?_;rintro e w1 ⟨rfl,rfl⟩)
             go_ret
             exact ⟨ret_bool (by rw [U HM];simp [GV.may,h40]),rfl⟩
           · go_enter Tryz.func31,Tryz.ntmps31
             go_wp2
             go_ret
             exact ⟨ret_bool (by rw [U HM];simp [GV.may,h40]),rfl⟩
         · have hnb:(n == 0)=false:=by simp [hn]
           go_enter Tryz.func31,Tryz.ntmps31
           go_wp2
           go_ret
           exact ⟨ret_bool (by rw [U HM];simp [GV.may,hnb]),rfl⟩
       · have b0:(k == 0)=false:=by simp [hk0]
         have b1:(k == 1)=false:=by simp [hk1]
         have b2:(k == 2)=false:=by simp [hk2]
         have b3:(k == 3)=false:=by simp [hk3]
         go_enter Tryz.func31,Tryz.ntmps31
         go_wp2
         go_ret
         exact ⟨ret_bool (by rw [U HM];simp [GV.may,b0,b1,b2,b3]),rfl⟩
theorem empty_list:(⟨#[]⟩:ByteArray).toList=[]:=by rw [ByteArray.toList_eq]
theorem str_gtr (a b:ByteArray) (W:World):Sem.run Tryz.prog (binOp BinOp.gtr 9 (.string a) (.string b)) W=.ok (.bool (!Op.bytesLess a.toList b.toList && !(a.toList == b.toList))) W:=by
 simp [binOp,go_sem,Op.stringOp]
theorem refOrder_any (l m:Bool) (w:World):Calls Tryz.prog 158 #[.bool l,.bool m] w fun e w'=>e=.returned (.int .i64 (if l then -1 else if m then 1 else 0))∧w'=w:=by
 cases l <;> cases m <;> (go_enter Tryz.func158,Tryz.ntmps158;go_wp2;go_ret;exact ⟨rfl,rfl⟩)
theorem cmpG_lt1 {k n k' n':Int} {t t':ByteArray} (h:k < k'):cmpG ⟨k,n,t⟩ ⟨k',n',t'⟩=-1:=by
 have:compareInt k k'=-1:=by unfold compareInt;rw [if_pos h]
 unfold cmpG;dsimp only;rw [this];rfl
theorem cmpG_gt1 {k n k' n':Int} {t t':ByteArray} (h:k > k'):cmpG ⟨k,n,t⟩ ⟨k',n',t'⟩=1:=by
 have:compareInt k k'=1:=by unfold compareInt;rw [if_neg (by omega),if_pos h]
 unfold cmpG;dsimp only;rw [this];rfl
theorem cmpG_lt2 {k n n':Int} {t t':ByteArray} (h:n < n'):cmpG ⟨k,n,t⟩ ⟨k,n',t'⟩=-1:=by
 have:compareInt n n'=-1:=by unfold compareInt;rw [if_pos h]
 unfold cmpG;dsimp only;rw [compareInt_cmp.self,this];rfl
theorem cmpG_gt2 {k n n':Int} {t t':ByteArray} (h:n > n'):cmpG ⟨k,n,t⟩ ⟨k,n',t'⟩=1:=by
 have:compareInt n n'=1:=by unfold compareInt;rw [if_neg (by omega),if_pos h]
 unfold cmpG;dsimp only;rw [compareInt_cmp.self,this];rfl
theorem cmpG_3 {k n:Int} {t t':ByteArray}:cmpG ⟨k,n,t⟩ ⟨k,n,t'⟩=compareBytes t.data.toList t'.data.toList:=by
 unfold cmpG;dsimp only;rw [compareInt_cmp.self,compareInt_cmp.self];rfl
theorem refCompare_tt (k n:Int) (t:ByteArray) (k' n':Int) (t':ByteArray) (w:World) (ha:GV.ok ⟨k,n,t⟩) (hb:GV.ok ⟨k',n',t'⟩) (ma:GV.may ⟨k,n,t⟩=true) (mb:GV.may ⟨k',n',t'⟩=true) :
 Calls Tryz.prog 104 #[.agg #[.int .i64 k,.int .i64 n,.string t],.agg #[.int .i64 k',.int .i64 n',.string t']] w fun e w'=>e=.returned (.int .i64 (cmpG ⟨k,n,t⟩ ⟨k',n',t'⟩))∧Below w.heap.size w w':=by
 have HA:=V (fun W=>refIs_any ⟨k,n,t⟩ W ha)
 have HB:=V (fun W=>refIs_any ⟨k',n',t'⟩ W hb)
 rw [ma] at HA
 rw [mb] at HB
 simp only[GV.agg_eq] at HA HB
 have HO:=V (fun l m W=>refOrder_any l m W)
 clear ha hb ma mb
 obtain ⟨c,hc⟩:∃ c,c=cmpG ⟨k,n,t⟩ ⟨k',n',t'⟩:=⟨_,rfl⟩
 rw [← hc]
 have HC:=V hc
 clear hc
 by_cases h1:k < k'
 · have HX:=V h1
   go_enter Tryz.func104,Tryz.ntmps104
   go_wp2_with (first
    | (go_at_call 31;refine (U HA _).mono ?_;clear HA;rintro e w1 ⟨rfl,rfl⟩)
    | (go_at_call 31;refine (U HB _).mono ?_;clear HB;rintro e w1 ⟨rfl,rfl⟩)
    | (go_at_call 158;refine (U HO _ _ _).mono ?_;rintro e w1 ⟨rfl,rfl⟩))
   go_ret
   exact ⟨ret_int (by rw [U HC,cmpG_lt1 (U HX)]),one_new' (one_new' (one_new' (one_new' (Below.refl _ _) _) _) _) _⟩
 have h1':(k < k')=False:=by simp only[h1]
 by_cases h2:k > k'
 · have HX:=V h2
   have h2':k' < k:=h2
   clear h1
   go_enter Tryz.func104,Tryz.ntmps104
   go_wp2_with (first
    | (go_at_call 31;refine (U HA _).mono ?_;clear HA;rintro e w1 ⟨rfl,rfl⟩)
    | (go_at_call 31;refine (U HB _).mono ?_;clear HB;rintro e w1 ⟨rfl,rfl⟩)
    | (go_at_call 158;refine (U HO _ _ _).mono ?_;rintro e w1 ⟨rfl,rfl⟩))
   go_ret
   exact ⟨ret_int (by rw [U HC,cmpG_gt1 (U HX)]),one_new' (one_new' (one_new' (one_new' (Below.refl _ _) _) _) _) _⟩
 obtain rfl:k=k':=by omega
 clear h1 h1' h2
 by_cases h1:n < n'
 · have HX:=V h1
   go_enter Tryz.func104,Tryz.ntmps104
   go_wp2_with (first
    | (go_at_call 31;refine (U HA _).mono ?_;clear HA;rintro e w1 ⟨rfl,rfl⟩)
    | (go_at_call 31;refine (U HB _).mono ?_;clear HB;rintro e w1 ⟨rfl,rfl⟩)
    | (go_at_call 158;refine (U HO _ _ _).mono ?_;rintro e w1 ⟨rfl,rfl⟩))
   go_ret
   exact ⟨ret_int (by rw [U HC,cmpG_lt2 (U HX)]),one_new' (one_new' (one_new' (one_new' (Below.refl _ _) _) _) _) _⟩
 have h1':(n < n')=False:=by simp only[h1]
 by_cases h2:n > n'
 · have HX:=V h2
   have h2':n' < n:=h2
   clear h1
   go_enter Tryz.func104,Tryz.ntmps104
   go_wp2_with (first
    | (go_at_call 31;refine (U HA _).mono ?_;clear HA;rintro e w1 ⟨rfl,rfl⟩)
    | (go_at_call 31;refine (U HB _).mono ?_;clear HB;rintro e w1 ⟨rfl,rfl⟩)
    | (go_at_call 158;refine (U HO _ _ _).mono ?_;rintro e w1 ⟨rfl,rfl⟩))
   go_ret
   exact ⟨ret_int (by rw [U HC,cmpG_gt2 (U HX)]),one_new' (one_new' (one_new' (one_new' (Below.refl _ _) _) _) _) _⟩
 obtain rfl:n=n':=by omega
 clear h1 h1' h2
 have b1:=bl_cmp (t:ByteArray).data.toList (t':ByteArray).data.toList
 have b2:=bl_cmp (t':ByteArray).data.toList (t:ByteArray).data.toList
 have an:=cb_anti (t:ByteArray).data.toList (t':ByteArray).data.toList
 rcases cb_range (t:ByteArray).data.toList (t':ByteArray).data.toList with hr | hr | hr
 · have HX:=V hr
   have be:(((t:ByteArray).data.toList) == ((t':ByteArray).data.toList))=false:=by
    rw [beq_eq_false_iff_ne];intro e;rw [e,compareBytes_cmp.self] at hr;omega
   rw [hr] at b1
   have b1':Op.bytesLess (t:ByteArray).toList (t':ByteArray).toList=true:=by rw [ByteArray.toList_eq,ByteArray.toList_eq];exact b1
   have be':((t:ByteArray).toList == (t':ByteArray).toList)=false:=by rw [ByteArray.toList_eq,ByteArray.toList_eq];exact be
   have hgt:∀ W,Sem.run Tryz.prog (binOp BinOp.gtr 9 (.string t) (.string t')) W=.ok (.bool false) W:=fun W=>by rw [str_gtr,b1',be'];rfl
   clear b1 b2 an hr be be'
   go_enter Tryz.func104,Tryz.ntmps104
   go_wp2_with (first
    | (go_at_call 31;refine (U HA _).mono ?_;clear HA;rintro e w1 ⟨rfl,rfl⟩)
    | (go_at_call 31;refine (U HB _).mono ?_;clear HB;rintro e w1 ⟨rfl,rfl⟩)
    | (go_at_call 158;refine (U HO _ _ _).mono ?_;rintro e w1 ⟨rfl,rfl⟩))
   go_ret
   exact ⟨ret_int (by rw [U HC,cmpG_3,U HX]),one_new' (one_new' (one_new' (one_new' (Below.refl _ _) _) _) _) _⟩
 · have HX:=V hr
   have be:(((t:ByteArray).data.toList) == ((t':ByteArray).data.toList))=true:=by
    rw [cb_eq _ _ hr];simp
   rw [hr] at b1
   have b1':Op.bytesLess (t:ByteArray).toList (t':ByteArray).toList=false:=by rw [ByteArray.toList_eq,ByteArray.toList_eq];exact b1
   have be':((t:ByteArray).toList == (t':ByteArray).toList)=true:=by rw [ByteArray.toList_eq,ByteArray.toList_eq];exact be
   have hgt:∀ W,Sem.run Tryz.prog (binOp BinOp.gtr 9 (.string t) (.string t')) W=.ok (.bool false) W:=fun W=>by rw [str_gtr,b1',be'];rfl
   clear b1 b2 an hr be be'
   go_enter Tryz.func104,Tryz.ntmps104
   go_wp2_with (first
    | (go_at_call 31;refine (U HA _).mono ?_;clear HA;rintro e w1 ⟨rfl,rfl⟩)
    | (go_at_call 31;refine (U HB _).mono ?_;clear HB;rintro e w1 ⟨rfl,rfl⟩)
    | (go_at_call 158;refine (U HO _ _ _).mono ?_;rintro e w1 ⟨rfl,rfl⟩))
   go_ret
   exact ⟨ret_int (by rw [U HC,cmpG_3,U HX]),one_new' (one_new' (one_new' (one_new' (Below.refl _ _) _) _) _) _⟩
 · have HX:=V hr
   have be:(((t:ByteArray).data.toList) == ((t':ByteArray).data.toList))=false:=by
    rw [beq_eq_false_iff_ne];intro e;rw [e,compareBytes_cmp.self] at hr;omega
   rw [hr] at b1
   have b1':Op.bytesLess (t:ByteArray).toList (t':ByteArray).toList=false:=by rw [ByteArray.toList_eq,ByteArray.toList_eq];exact b1
   have be':((t:ByteArray).toList == (t':ByteArray).toList)=false:=by rw [ByteArray.toList_eq,ByteArray.toList_eq];exact be
   have hgt:∀ W,Sem.run Tryz.prog (binOp BinOp.gtr 9 (.string t) (.string t')) W=.ok (.bool true) W:=fun W=>by rw [str_gtr,b1',be'];rfl
   clear b1 b2 an hr be be'
   go_enter Tryz.func104,Tryz.ntmps104
   go_wp2_with (first
    | (go_at_call 31;refine (U HA _).mono ?_;clear HA;rintro e w1 ⟨rfl,rfl⟩)
    | (go_at_call 31;refine (U HB _).mono ?_;clear HB;rintro e w1 ⟨rfl,rfl⟩)
    | (go_at_call 158;refine (U HO _ _ _).mono ?_;rintro e w1 ⟨rfl,rfl⟩))
   go_ret
   exact ⟨ret_int (by rw [U HC,cmpG_3,U HX]),one_new' (one_new' (one_new' (one_new' (Below.refl _ _) _) _) _) _⟩
theorem refCompare_tf (k n:Int) (t:ByteArray) (k' n':Int) (t':ByteArray) (w:World) (ha:GV.ok ⟨k,n,t⟩) (hb:GV.ok ⟨k',n',t'⟩) (ma:GV.may ⟨k,n,t⟩=true) (mb:GV.may ⟨k',n',t'⟩=false) :
 Calls Tryz.prog 104 #[.agg #[.int .i64 k,.int .i64 n,.string t],.agg #[.int .i64 k',.int .i64 n',.string t']] w fun e w'=>e=.returned (.int .i64 (cmpG ⟨k,n,t⟩ ⟨0,0,⟨#[]⟩⟩))∧Below w.heap.size w w':=by
 have HA:=V (fun W=>refIs_any ⟨k,n,t⟩ W ha)
 have HB:=V (fun W=>refIs_any ⟨k',n',t'⟩ W hb)
 rw [ma] at HA
 rw [mb] at HB
 simp only[GV.agg_eq] at HA HB
 have HO:=V (fun l m W=>refOrder_any l m W)
 clear ha hb ma mb
 obtain ⟨c,hc⟩:∃ c,c=cmpG ⟨k,n,t⟩ ⟨0,0,⟨#[]⟩⟩:=⟨_,rfl⟩
 rw [← hc]
 have HC:=V hc
 clear hc
 by_cases h1:k < 0
 · have HX:=V h1
   go_enter Tryz.func104,Tryz.ntmps104
   go_wp2_with (first
    | (go_at_call 31;refine (U HA _).mono ?_;clear HA;rintro e w1 ⟨rfl,rfl⟩)
    | (go_at_call 31;refine (U HB _).mono ?_;clear HB;rintro e w1 ⟨rfl,rfl⟩)
    | (go_at_call 158;refine (U HO _ _ _).mono ?_;rintro e w1 ⟨rfl,rfl⟩))
   go_ret
   exact ⟨ret_int (by rw [U HC,cmpG_lt1 (U HX)]),one_new' (one_new' (one_new' (one_new' (Below.refl _ _) _) _) _) _⟩
 have h1':(k < 0)=False:=by simp only[h1]
 by_cases h2:k > 0
 · have HX:=V h2
   have h2':(0:Int) < k:=h2
   clear h1
   go_enter Tryz.func104,Tryz.ntmps104
   go_wp2_with (first
    | (go_at_call 31;refine (U HA _).mono ?_;clear HA;rintro e w1 ⟨rfl,rfl⟩)
    | (go_at_call 31;refine (U HB _).mono ?_;clear HB;rintro e w1 ⟨rfl,rfl⟩)
    | (go_at_call 158;refine (U HO _ _ _).mono ?_;rintro e w1 ⟨rfl,rfl⟩))
   go_ret
   exact ⟨ret_int (by rw [U HC,cmpG_gt1 (U HX)]),one_new' (one_new' (one_new' (one_new' (Below.refl _ _) _) _) _) _⟩
 obtain rfl:k=0:=by omega
 clear h1 h1' h2
 by_cases h1:n < 0
 · have HX:=V h1
   go_enter Tryz.func104,Tryz.ntmps104
   go_wp2_with (first
    | (go_at_call 31;refine (U HA _).mono ?_;clear HA;rintro e w1 ⟨rfl,rfl⟩)
    | (go_at_call 31;refine (U HB _).mono ?_;clear HB;rintro e w1 ⟨rfl,rfl⟩)
    | (go_at_call 158;refine (U HO _ _ _).mono ?_;rintro e w1 ⟨rfl,rfl⟩))
   go_ret
   exact ⟨ret_int (by rw [U HC,cmpG_lt2 (U HX)]),one_new' (one_new' (one_new' (one_new' (Below.refl _ _) _) _) _) _⟩
 have h1':(n < 0)=False:=by simp only[h1]
 by_cases h2:n > 0
 · have HX:=V h2
   have h2':(0:Int) < n:=h2
   clear h1
   go_enter Tryz.func104,Tryz.ntmps104
   go_wp2_with (first
    | (go_at_call 31;refine (U HA _).mono ?_;clear HA;rintro e w1 ⟨rfl,rfl⟩)
    | (go_at_call 31;refine (U HB _).mono ?_;clear HB;rintro e w1 ⟨rfl,rfl⟩)
    | (go_at_call 158;refine (U HO _ _ _).mono ?_;rintro e w1 ⟨rfl,rfl⟩))
   go_ret
   exact ⟨ret_int (by rw [U HC,cmpG_gt2 (U HX)]),one_new' (one_new' (one_new' (one_new' (Below.refl _ _) _) _) _) _⟩
 obtain rfl:n=0:=by omega
 clear h1 h1' h2
 have b1:=bl_cmp (t:ByteArray).data.toList (⟨#[]⟩:ByteArray).data.toList
 have b2:=bl_cmp (⟨#[]⟩:ByteArray).data.toList (t:ByteArray).data.toList
 have an:=cb_anti (t:ByteArray).data.toList (⟨#[]⟩:ByteArray).data.toList
 rcases cb_range (t:ByteArray).data.toList (⟨#[]⟩:ByteArray).data.toList with hr | hr | hr
 · have HX:=V hr
   have be:(((t:ByteArray).data.toList) == ((⟨#[]⟩:ByteArray).data.toList))=false:=by
    rw [beq_eq_false_iff_ne];intro e;rw [e,compareBytes_cmp.self] at hr;omega
   rw [hr] at b1
   have b1':Op.bytesLess (t:ByteArray).toList (⟨#[]⟩:ByteArray).toList=true:=by rw [ByteArray.toList_eq,ByteArray.toList_eq];exact b1
   have be':((t:ByteArray).toList == (⟨#[]⟩:ByteArray).toList)=false:=by rw [ByteArray.toList_eq,ByteArray.toList_eq];exact be
   have hgt:∀ W,Sem.run Tryz.prog (binOp BinOp.gtr 9 (.string t) (.string ⟨#[]⟩)) W=.ok (.bool false) W:=fun W=>by rw [str_gtr,b1',be'];rfl
   have b1n:Op.bytesLess (t:ByteArray).toList []=true:=by have h:=b1';rw [empty_list] at h;exact h
   clear b1 b2 an hr be be'
   go_enter Tryz.func104,Tryz.ntmps104
   go_wp2_with (first
    | (go_at_call 31;refine (U HA _).mono ?_;clear HA;rintro e w1 ⟨rfl,rfl⟩)
    | (go_at_call 31;refine (U HB _).mono ?_;clear HB;rintro e w1 ⟨rfl,rfl⟩)
    | (go_at_call 158;refine (U HO _ _ _).mono ?_;rintro e w1 ⟨rfl,rfl⟩))
   go_ret
   exact ⟨ret_int (by rw [U HC,cmpG_3,U HX]),one_new' (one_new' (one_new' (one_new' (Below.refl _ _) _) _) _) _⟩
 · have HX:=V hr
   have be:(((t:ByteArray).data.toList) == ((⟨#[]⟩:ByteArray).data.toList))=true:=by
    rw [cb_eq _ _ hr];simp
   rw [hr] at b1
   have b1':Op.bytesLess (t:ByteArray).toList (⟨#[]⟩:ByteArray).toList=false:=by rw [ByteArray.toList_eq,ByteArray.toList_eq];exact b1
   have be':((t:ByteArray).toList == (⟨#[]⟩:ByteArray).toList)=true:=by rw [ByteArray.toList_eq,ByteArray.toList_eq];exact be
   have hgt:∀ W,Sem.run Tryz.prog (binOp BinOp.gtr 9 (.string t) (.string ⟨#[]⟩)) W=.ok (.bool false) W:=fun W=>by rw [str_gtr,b1',be'];rfl
   have b1n:Op.bytesLess (t:ByteArray).toList []=false:=by have h:=b1';rw [empty_list] at h;exact h
   clear b1 b2 an hr be be'
   go_enter Tryz.func104,Tryz.ntmps104
   go_wp2_with (first
    | (go_at_call 31;refine (U HA _).mono ?_;clear HA;rintro e w1 ⟨rfl,rfl⟩)
    | (go_at_call 31;refine (U HB _).mono ?_;clear HB;rintro e w1 ⟨rfl,rfl⟩)
    | (go_at_call 158;refine (U HO _ _ _).mono ?_;rintro e w1 ⟨rfl,rfl⟩))
   go_ret
   exact ⟨ret_int (by rw [U HC,cmpG_3,U HX]),one_new' (one_new' (one_new' (one_new' (Below.refl _ _) _) _) _) _⟩
 · have HX:=V hr
   have be:(((t:ByteArray).data.toList) == ((⟨#[]⟩:ByteArray).data.toList))=false:=by
    rw [beq_eq_false_iff_ne];intro e;rw [e,compareBytes_cmp.self] at hr;omega
   rw [hr] at b1
   have b1':Op.bytesLess (t:ByteArray).toList (⟨#[]⟩:ByteArray).toList=false:=by rw [ByteArray.toList_eq,ByteArray.toList_eq];exact b1
   have be':((t:ByteArray).toList == (⟨#[]⟩:ByteArray).toList)=false:=by rw [ByteArray.toList_eq,ByteArray.toList_eq];exact be
   have hgt:∀ W,Sem.run Tryz.prog (binOp BinOp.gtr 9 (.string t) (.string ⟨#[]⟩)) W=.ok (.bool true) W:=fun W=>by rw [str_gtr,b1',be'];rfl
   have b1n:Op.bytesLess (t:ByteArray).toList []=false:=by have h:=b1';rw [empty_list] at h;exact h
   clear b1 b2 an hr be be'
   go_enter Tryz.func104,Tryz.ntmps104
   go_wp2_with (first
    | (go_at_call 31;refine (U HA _).mono ?_;clear HA;rintro e w1 ⟨rfl,rfl⟩)
    | (go_at_call 31;refine (U HB _).mono ?_;clear HB;rintro e w1 ⟨rfl,rfl⟩)
    | (go_at_call 158;refine (U HO _ _ _).mono ?_;rintro e w1 ⟨rfl,rfl⟩))
   go_ret
   exact ⟨ret_int (by rw [U HC,cmpG_3,U HX]),one_new' (one_new' (one_new' (one_new' (Below.refl _ _) _) _) _) _⟩
theorem refCompare_ft (k n:Int) (t:ByteArray) (k' n':Int) (t':ByteArray) (w:World) (ha:GV.ok ⟨k,n,t⟩) (hb:GV.ok ⟨k',n',t'⟩) (ma:GV.may ⟨k,n,t⟩=false) (mb:GV.may ⟨k',n',t'⟩=true) :
 Calls Tryz.prog 104 #[.agg #[.int .i64 k,.int .i64 n,.string t],.agg #[.int .i64 k',.int .i64 n',.string t']] w fun e w'=>e=.returned (.int .i64 (cmpG ⟨0,0,⟨#[]⟩⟩ ⟨k',n',t'⟩))∧Below w.heap.size w w':=by
 have HA:=V (fun W=>refIs_any ⟨k,n,t⟩ W ha)
 have HB:=V (fun W=>refIs_any ⟨k',n',t'⟩ W hb)
 rw [ma] at HA
 rw [mb] at HB
 simp only[GV.agg_eq] at HA HB
 have HO:=V (fun l m W=>refOrder_any l m W)
 clear ha hb ma mb
 obtain ⟨c,hc⟩:∃ c,c=cmpG ⟨0,0,⟨#[]⟩⟩ ⟨k',n',t'⟩:=⟨_,rfl⟩
 rw [← hc]
 have HC:=V hc
 clear hc
 by_cases h1:(0:Int) < k'
 · have HX:=V h1
   go_enter Tryz.func104,Tryz.ntmps104
   go_wp2_with (first
    | (go_at_call 31;refine (U HA _).mono ?_;clear HA;rintro e w1 ⟨rfl,rfl⟩)
    | (go_at_call 31;refine (U HB _).mono ?_;clear HB;rintro e w1 ⟨rfl,rfl⟩)
    | (go_at_call 158;refine (U HO _ _ _).mono ?_;rintro e w1 ⟨rfl,rfl⟩))
   go_ret
   exact ⟨ret_int (by rw [U HC,cmpG_lt1 (U HX)]),one_new' (one_new' (one_new' (one_new' (Below.refl _ _) _) _) _) _⟩
 have h1':((0:Int) < k')=False:=by simp only[h1]
 by_cases h2:(0:Int) > k'
 · have HX:=V h2
   have h2':k' < 0:=h2
   clear h1
   go_enter Tryz.func104,Tryz.ntmps104
   go_wp2_with (first
    | (go_at_call 31;refine (U HA _).mono ?_;clear HA;rintro e w1 ⟨rfl,rfl⟩)
    | (go_at_call 31;refine (U HB _).mono ?_;clear HB;rintro e w1 ⟨rfl,rfl⟩)
    | (go_at_call 158;refine (U HO _ _ _).mono ?_;rintro e w1 ⟨rfl,rfl⟩))
   go_ret
   exact ⟨ret_int (by rw [U HC,cmpG_gt1 (U HX)]),one_new' (one_new' (one_new' (one_new' (Below.refl _ _) _) _) _) _⟩
 obtain rfl:k'=0:=by omega
 clear h1 h1' h2
 by_cases h1:(0:Int) < n'
 · have HX:=V h1
   go_enter Tryz.func104,Tryz.ntmps104
   go_wp2_with (first
    | (go_at_call 31;refine (U HA _).mono ?_;clear HA;rintro e w1 ⟨rfl,rfl⟩)
    | (go_at_call 31;refine (U HB _).mono ?_;clear HB;rintro e w1 ⟨rfl,rfl⟩)
    | (go_at_call 158;refine (U HO _ _ _).mono ?_;rintro e w1 ⟨rfl,rfl⟩))
   go_ret
   exact ⟨ret_int (by rw [U HC,cmpG_lt2 (U HX)]),one_new' (one_new' (one_new' (one_new' (Below.refl _ _) _) _) _) _⟩
 have h1':((0:Int) < n')=False:=by simp only[h1]
 by_cases h2:(0:Int) > n'
 · have HX:=V h2
   have h2':n' < 0:=h2
   clear h1
   go_enter Tryz.func104,Tryz.ntmps104
   go_wp2_with (first
    | (go_at_call 31;refine (U HA _).mono ?_;clear HA;rintro e w1 ⟨rfl,rfl⟩)
    | (go_at_call 31;refine (U HB _).mono ?_;clear HB;rintro e w1 ⟨rfl,rfl⟩)
    | (go_at_call 158;refine (U HO _ _ _).mono ?_;rintro e w1 ⟨rfl,rfl⟩))
   go_ret
   exact ⟨ret_int (by rw [U HC,cmpG_gt2 (U HX)]),one_new' (one_new' (one_new' (one_new' (Below.refl _ _) _) _) _) _⟩
 obtain rfl:n'=0:=by omega
 clear h1 h1' h2
 have b1:=bl_cmp (⟨#[]⟩:ByteArray).data.toList (t':ByteArray).data.toList
 have b2:=bl_cmp (t':ByteArray).data.toList (⟨#[]⟩:ByteArray).data.toList
 have an:=cb_anti (⟨#[]⟩:ByteArray).data.toList (t':ByteArray).data.toList
 rcases cb_range (⟨#[]⟩:ByteArray).data.toList (t':ByteArray).data.toList with hr | hr | hr
 · have HX:=V hr
   have be:(((⟨#[]⟩:ByteArray).data.toList) == ((t':ByteArray).data.toList))=false:=by
    rw [beq_eq_false_iff_ne];intro e;rw [e,compareBytes_cmp.self] at hr;omega
   rw [hr] at b1
   have b1':Op.bytesLess (⟨#[]⟩:ByteArray).toList (t':ByteArray).toList=true:=by rw [ByteArray.toList_eq,ByteArray.toList_eq];exact b1
   have be':((⟨#[]⟩:ByteArray).toList == (t':ByteArray).toList)=false:=by rw [ByteArray.toList_eq,ByteArray.toList_eq];exact be
   have hgt:∀ W,Sem.run Tryz.prog (binOp BinOp.gtr 9 (.string ⟨#[]⟩) (.string t')) W=.ok (.bool false) W:=fun W=>by rw [str_gtr,b1',be'];rfl
   have b1n:Op.bytesLess [] (t':ByteArray).toList=true:=by have h:=b1';rw [empty_list] at h;exact h
   clear b1 b2 an hr be be'
   go_enter Tryz.func104,Tryz.ntmps104
   go_wp2_with (first
    | (go_at_call 31;refine (U HA _).mono ?_;clear HA;rintro e w1 ⟨rfl,rfl⟩)
    | (go_at_call 31;refine (U HB _).mono ?_;clear HB;rintro e w1 ⟨rfl,rfl⟩)
    | (go_at_call 158;refine (U HO _ _ _).mono ?_;rintro e w1 ⟨rfl,rfl⟩))
   go_ret
   exact ⟨ret_int (by rw [U HC,cmpG_3,U HX]),one_new' (one_new' (one_new' (one_new' (Below.refl _ _) _) _) _) _⟩
 · have HX:=V hr
   have be:(((⟨#[]⟩:ByteArray).data.toList) == ((t':ByteArray).data.toList))=true:=by
    rw [cb_eq _ _ hr];simp
   rw [hr] at b1
   have b1':Op.bytesLess (⟨#[]⟩:ByteArray).toList (t':ByteArray).toList=false:=by rw [ByteArray.toList_eq,ByteArray.toList_eq];exact b1
   have be':((⟨#[]⟩:ByteArray).toList == (t':ByteArray).toList)=true:=by rw [ByteArray.toList_eq,ByteArray.toList_eq];exact be
   have hgt:∀ W,Sem.run Tryz.prog (binOp BinOp.gtr 9 (.string ⟨#[]⟩) (.string t')) W=.ok (.bool false) W:=fun W=>by rw [str_gtr,b1',be'];rfl
   have b1n:Op.bytesLess [] (t':ByteArray).toList=false:=by have h:=b1';rw [empty_list] at h;exact h
   clear b1 b2 an hr be be'
   go_enter Tryz.func104,Tryz.ntmps104
   go_wp2_with (first
    | (go_at_call 31;refine (U HA _).mono ?_;clear HA;rintro e w1 ⟨rfl,rfl⟩)
    | (go_at_call 31;refine (U HB _).mono ?_;clear HB;rintro e w1 ⟨rfl,rfl⟩)
    | (go_at_call 158;refine (U HO _ _ _).mono ?_;rintro e w1 ⟨rfl,rfl⟩))
   go_ret
   exact ⟨ret_int (by rw [U HC,cmpG_3,U HX]),one_new' (one_new' (one_new' (one_new' (Below.refl _ _) _) _) _) _⟩
 · have HX:=V hr
   have be:(((⟨#[]⟩:ByteArray).data.toList) == ((t':ByteArray).data.toList))=false:=by
    rw [beq_eq_false_iff_ne];intro e;rw [e,compareBytes_cmp.self] at hr;omega
   rw [hr] at b1
   have b1':Op.bytesLess (⟨#[]⟩:ByteArray).toList (t':ByteArray).toList=false:=by rw [ByteArray.toList_eq,ByteArray.toList_eq];exact b1
   have be':((⟨#[]⟩:ByteArray).toList == (t':ByteArray).toList)=false:=by rw [ByteArray.toList_eq,ByteArray.toList_eq];exact be
   have hgt:∀ W,Sem.run Tryz.prog (binOp BinOp.gtr 9 (.string ⟨#[]⟩) (.string t')) W=.ok (.bool true) W:=fun W=>by rw [str_gtr,b1',be'];rfl
   have b1n:Op.bytesLess [] (t':ByteArray).toList=false:=by have h:=b1';rw [empty_list] at h;exact h
   clear b1 b2 an hr be be'
   go_enter Tryz.func104,Tryz.ntmps104
   go_wp2_with (first
    | (go_at_call 31;refine (U HA _).mono ?_;clear HA;rintro e w1 ⟨rfl,rfl⟩)
    | (go_at_call 31;refine (U HB _).mono ?_;clear HB;rintro e w1 ⟨rfl,rfl⟩)
    | (go_at_call 158;refine (U HO _ _ _).mono ?_;rintro e w1 ⟨rfl,rfl⟩))
   go_ret
   exact ⟨ret_int (by rw [U HC,cmpG_3,U HX]),one_new' (one_new' (one_new' (one_new' (Below.refl _ _) _) _) _) _⟩
theorem refCompare_ff (k n:Int) (t:ByteArray) (k' n':Int) (t':ByteArray) (w:World) (ha:GV.ok ⟨k,n,t⟩) (hb:GV.ok ⟨k',n',t'⟩) (ma:GV.may ⟨k,n,t⟩=false) (mb:GV.may ⟨k',n',t'⟩=false) :
 Calls Tryz.prog 104 #[.agg #[.int .i64 k,.int .i64 n,.string t],.agg #[.int .i64 k',.int .i64 n',.string t']] w fun e w'=>e=.returned (.int .i64 (cmpG ⟨0,0,⟨#[]⟩⟩ ⟨0,0,⟨#[]⟩⟩))∧Below w.heap.size w w':=by
 have HA:=V (fun W=>refIs_any ⟨k,n,t⟩ W ha)
 have HB:=V (fun W=>refIs_any ⟨k',n',t'⟩ W hb)
 rw [ma] at HA
 rw [mb] at HB
 simp only[GV.agg_eq] at HA HB
 have HO:=V (fun l m W=>refOrder_any l m W)
 clear ha hb ma mb
 obtain ⟨c,hc⟩:∃ c,c=cmpG ⟨0,0,⟨#[]⟩⟩ ⟨0,0,⟨#[]⟩⟩:=⟨_,rfl⟩
 rw [← hc]
 have HC:=V hc
 clear hc
 by_cases h1:(0:Int) < 0
 · exact absurd h1 (by decide)
 have h1':((0:Int) < 0)=False:=by simp only[h1]
 by_cases h2:(0:Int) > 0
 · exact absurd h2 (by decide)
 clear h1 h1' h2
 by_cases h1:(0:Int) < 0
 · exact absurd h1 (by decide)
 have h1':((0:Int) < 0)=False:=by simp only[h1]
 by_cases h2:(0:Int) > 0
 · exact absurd h2 (by decide)
 clear h1 h1' h2
 have hgt:∀ W,Sem.run Tryz.prog (binOp BinOp.gtr 9 (.string ⟨#[]⟩) (.string ⟨#[]⟩)) W=.ok (.bool false) W:=fun W=>by rw [str_gtr,empty_list];rfl
 have b1n:Op.bytesLess [] []=false:=rfl
 go_enter Tryz.func104,Tryz.ntmps104
 go_wp2_with (first
  | (go_at_call 31;refine (U HA _).mono ?_;clear HA;rintro e w1 ⟨rfl,rfl⟩)
  | (go_at_call 31;refine (U HB _).mono ?_;clear HB;rintro e w1 ⟨rfl,rfl⟩)
  | (go_at_call 158;refine (U HO _ _ _).mono ?_;rintro e w1 ⟨rfl,rfl⟩))
 go_ret
 exact ⟨ret_int (by rw [U HC,cmpG_3];rfl),one_new' (one_new' (one_new' (one_new' (Below.refl _ _) _) _) _) _⟩
theorem refCompare_any (a b:GV) (w:World) (ha:a.ok) (hb:b.ok):Calls Tryz.prog 104 #[a.agg,b.agg] w fun e w'=>e=.returned (.int .i64 (compareG a b))∧Below w.heap.size w w':=by
 unfold compareG soundG
 cases ma:a.may with
 | true=>
  cases mb:b.may with
  | true=>exact refCompare_tt _ _ _ _ _ _ w ha hb ma mb
  | false=>exact refCompare_tf _ _ _ _ _ _ w ha hb ma mb
 | false=>
  cases mb:b.may with
  | true=>exact refCompare_ft _ _ _ _ _ _ w ha hb ma mb
  | false=>exact refCompare_ff _ _ _ _ _ _ w ha hb ma mb
end Go.Proofs.YtpnonhjmpnbmcaaGreatDoor
