/- Contracts of what compares: cmp.Compare, cmp.Or, strings.Compare. -/
import Derived.Test.YtpnonhjmpnbmcaaGreatDoorJRows2PutRowVCmpVBl
import Derived.Deep.RegionWith
import Derived.Test.YtpnonhjmpnbmcaaGreatDoorJErrsAsNumsDecFaultsWriterVErr
import Derived.Deep.RegionHeld3
namespace Go.Proofs.YtpnonhjmpnbmcaaGreatDoor
open Go.RowKit Go.Lib
open Act (put)
set_option maxHeartbeats 1600000
theorem cmpInt_any (x y:Int) (w:World):Calls Tryz.prog 195 #[.int .i64 x,.int .i64 y] w fun e w'=>e=.returned (.int .i64 (compareInt x y))∧w'=w:=by
 have HN:=V (fun (x:Int) (w:World)=>show Calls Tryz.prog 204 #[.int .i64 x] w fun e w'=>e=.returned (.bool false)∧w'=w by
  go_enter Tryz.func204,Tryz.ntmps204
  go_wp2
  go_ret
  exact ⟨rfl,rfl⟩)
 by_cases h1:x < y
 · go_enter Tryz.func195,Tryz.ntmps195
   go_wp2_with (go_at_call 204;refine (U HN _ _).mono ?_;rintro e w1 ⟨rfl,rfl⟩)
   go_ret
   exact ⟨ret_int (by unfold compareInt;rw [if_pos h1]),rfl⟩
 · by_cases h2:x > y
   · go_enter Tryz.func195,Tryz.ntmps195
     go_wp2_with (go_at_call 204;refine (U HN _ _).mono ?_;rintro e w1 ⟨rfl,rfl⟩)
     go_ret
     exact ⟨ret_int (by unfold compareInt;rw [if_neg (by omega),if_pos h2]),rfl⟩
   · go_enter Tryz.func195,Tryz.ntmps195
     go_wp2_with (go_at_call 204;refine (U HN _ _).mono ?_;rintro e w1 ⟨rfl,rfl⟩)
     go_ret
     exact ⟨ret_int (by unfold compareInt;rw [if_neg (by omega),if_neg (by omega)]),rfl⟩
theorem cmpInt64_any (x y:Int) (w:World):Calls Tryz.prog 196 #[.int .i64 x,.int .i64 y] w fun e w'=>e=.returned (.int .i64 (compareInt x y))∧w'=w:=by
 have HN:=V (fun (x:Int) (w:World)=>show Calls Tryz.prog 205 #[.int .i64 x] w fun e w'=>e=.returned (.bool false)∧w'=w by
  go_enter Tryz.func205,Tryz.ntmps205
  go_wp2
  go_ret
  exact ⟨rfl,rfl⟩)
 by_cases h1:x < y
 · go_enter Tryz.func196,Tryz.ntmps196
   go_wp2_with (go_at_call 205;refine (U HN _ _).mono ?_;rintro e w1 ⟨rfl,rfl⟩)
   go_ret
   exact ⟨ret_int (by unfold compareInt;rw [if_pos h1]),rfl⟩
 · by_cases h2:x > y
   · go_enter Tryz.func196,Tryz.ntmps196
     go_wp2_with (go_at_call 205;refine (U HN _ _).mono ?_;rintro e w1 ⟨rfl,rfl⟩)
     go_ret
     exact ⟨ret_int (by unfold compareInt;rw [if_neg (by omega),if_pos h2]),rfl⟩
   · go_enter Tryz.func196,Tryz.ntmps196
     go_wp2_with (go_at_call 205;refine (U HN _ _).mono ?_;rintro e w1 ⟨rfl,rfl⟩)
     go_ret
     exact ⟨ret_int (by unfold compareInt;rw [if_neg (by omega),if_neg (by omega)]),rfl⟩
theorem cmpText_any (a b:ByteArray) (w:World):Calls Tryz.prog 197 #[.string a,.string b] w fun e w'=>e=.returned (.int .i64 (compareBytes a.data.toList b.data.toList))∧w'=w:=by
 have h:=@run_callFunc_extern Tryz.prog 218 _ Extern.BytealgCompare.compare Tryz.func218 (by kernel_rfl) (by kernel_rfl) (by kernel_rfl) (by kernel_rfl)
 have h2:=Lib.run_compareString (P:=Tryz.prog) a b
 have HN:=V (fun (w:World)=>show Calls Tryz.prog 206 #[.string a,.string b] w fun e w'=>e=.returned (.int .i64 (compareBytes a.data.toList b.data.toList))∧w'=w by
  go_enter Tryz.func206,Tryz.ntmps206
  go_wp2
  go_ret
  exact ⟨rfl,rfl⟩)
 clear h h2
 go_enter Tryz.func197,Tryz.ntmps197
 go_wp2_with (go_at_call 206;refine (U HN _).mono ?_;rintro e w1 ⟨rfl,rfl⟩)
 go_ret
 exact ⟨rfl,rfl⟩
/-- cmp.Or of three: the first that isn't 0. -/
theorem cmpOr_any (x y z:Int) (w:World) (b:Nat) (h0:w.cell? ⟨b,0,none⟩=some (.int .i64 x)) (h1:w.cell? ⟨b,1,none⟩=some (.int .i64 y)) (h2:w.cell? ⟨b,2,none⟩=some (.int .i64 z)) :
 Calls Tryz.prog 194 #[.slice (some ⟨b,0,none⟩) 3 3] w fun e w'=>e=.returned (.int .i64 (first0 x (first0 y z)))∧w'=w:=by
 by_cases hx:x=0
 · subst hx
   by_cases hy:y=0
   · subst hy
     by_cases hz:z=0
     · subst hz
       go_enter Tryz.func194,Tryz.ntmps194
       go_wp2
       refine wp_loop_rounds 4 ?_
       rw [rounds_succ]
       go_wp2
       rw [rounds_succ]
       go_wp2
       rw [rounds_succ]
       go_wp2
       rw [rounds_succ]
       go_wp2
       go_ret
       exact ⟨rfl,rfl⟩
     · have hz':(z != 0)=true:=by simp [hz]
       go_enter Tryz.func194,Tryz.ntmps194
       go_wp2
       refine wp_loop_rounds 3 ?_
       rw [rounds_succ]
       go_wp2
       rw [rounds_succ]
       go_wp2
       rw [rounds_succ]
       go_wp2
       go_ret
       exact ⟨rfl,rfl⟩
   · have hy':(y != 0)=true:=by simp [hy]
     go_enter Tryz.func194,Tryz.ntmps194
     go_wp2
     refine wp_loop_rounds 2 ?_
     rw [rounds_succ]
     go_wp2
     rw [rounds_succ]
     go_wp2
     go_ret
     exact ⟨ret_int (by rw [first0_eq,first0_ne hy]),rfl⟩
 · have hx':(x != 0)=true:=by simp [hx]
   go_enter Tryz.func194,Tryz.ntmps194
   go_wp2
   refine wp_loop_rounds 1 ?_
   rw [rounds_succ]
   go_wp2
   go_ret
   exact ⟨ret_int (by rw [first0_ne hx]),rfl⟩
theorem put_one (g:GV):putVals [g] (putLen 1 64 (some []))=if g.may then some (uvarint 1 ++ g.bytes) else none:=by
 simp [putVals,putLen,putVal]
theorem GV.agg_eq (k n:Int) (t:ByteArray):GV.agg ⟨k,n,t⟩=.agg #[.int .i64 k,.int .i64 n,.string t]:=rfl
theorem put_one_any (g:GV) (W:World) (hg:g.ok):Calls Tryz.prog 160 #[.slice (some ⟨W.heap.size,0,none⟩) 1 1] (W.alloc (.cells #[.int .i64 g.kind,.int .i64 g.int,.string g.text] 26)) fun e w'=>
 Below W.heap.size W w'∧if g.may then ∃ v,e=.returned (.tuple #[v,.nilIface]) else ∃ v b pl,e=.returned (.tuple #[v,ev b])∧ErrAt w' b pl 20:=by
 have hv:RV (W.alloc (.cells #[.int .i64 g.kind,.int .i64 g.int,.string g.text] 26)) (W.alloc (.cells #[.int .i64 g.kind,.int .i64 g.int,.string g.text] 26)).heap.size (.slice (some ⟨W.heap.size,0,none⟩) 1 1) [g]:=by
  refine ⟨by simp,?_,.inr ⟨W.heap.size,0,1,by simp,rfl,?_⟩⟩
  · intro g' hg'
    simp at hg'
    subst hg'
    exact hg
  · intro i g' hg'
    match i,hg' with
    | 0,hg'=>simp at hg';subst hg';simp
 refine (putRow_any _ _ _ hv).mono ?_
 intro e w' h
 rw [show ([g]:List GV).length=1 from rfl,put_one] at h
 by_cases hm:g.may=true
 · rw [if_pos hm] at h ⊢
   obtain ⟨a,k,rfl,_,hb⟩:=h
   exact ⟨((Below.refl _ _).alloc (Nat.le_refl _) _).trans (hb.mono (by simp)),_,rfl⟩
 · rw [if_neg hm] at h ⊢
   obtain ⟨b,pl,rfl,_,he,hb⟩:=h
   exact ⟨((Below.refl _ _).alloc (Nat.le_refl _) _).trans (hb.mono (by simp)),_,b,pl,rfl,he⟩
/-- value.Is: whether a value may be. -/
theorem is_any (g:GV) (w:World) (hg:g.ok):Calls Tryz.prog 109 #[g.agg] w fun e w'=>e=.returned (.bool g.may)∧Below w.heap.size w w':=by
 have HP:=put_one_any g (w.alloc (.cells #[.int .i64 g.kind,.int .i64 g.int,.string g.text] 26)) hg
 rw [World.size_alloc] at HP
 have HP:=V HP
 obtain ⟨k,n,t⟩:=g
 clear hg
 rw [GV.agg_eq]
 generalize hm:GV.may ⟨k,n,t⟩=m at HP ⊢
 clear hm
 cases m with
 | true=>
  go_enter Tryz.func109,Tryz.ntmps109
  go_wp2_with (first | (go_at_call 160;refine (U HP).mono ?_;rintro e w1 ⟨hb1,v,rfl⟩) | (go_at_call 27;refine (is_nil _ _).mono ?_;rintro e w2 ⟨rfl,rfl⟩))
  go_ret
  exact ⟨rfl,((Below.refl _ _).alloc (Nat.le_refl _) _).trans (hb1.mono (by simp))⟩
 | false=>
  go_enter Tryz.func109,Tryz.ntmps109
  go_wp2_with (first | (go_at_call 160;refine (U HP).mono ?_;rintro e w1 ⟨hb1,v,b,pl,rfl,he⟩) | (go_at_call 27;refine (is_placed _ _ _ _ he.2).mono ?_;rintro e w2 ⟨rfl,rfl⟩))
  go_ret
  exact ⟨rfl,((Below.refl _ _).alloc (Nat.le_refl _) _).trans (hb1.mono (by simp))⟩
/-- A variable of the call's own at block b that holds a value. -/
def B3 (w:World) (b:Nat) (k n:Int) (t:ByteArray):Prop:=
 w.cell? ⟨b,0,none⟩=some (.int .i64 k)∧w.cell? ⟨b,1,none⟩=some (.int .i64 n)∧w.cell? ⟨b,2,none⟩=some (.string t)∧w.frozen? ⟨b,0,none⟩=false∧w.frozen? ⟨b,1,none⟩=false∧w.frozen? ⟨b,2,none⟩=false
theorem B3.lt {w:World} {b:Nat} {k n:Int} {t:ByteArray} (h:B3 w b k n t):b < w.heap.size:=lt_of_cell h.1
theorem B3.new (w:World) (b:Nat) (k n:Int) (t:ByteArray) (hb:b=w.heap.size):B3 (w.alloc (.cells #[.int .i64 k,.int .i64 n,.string t] 26)) b k n t:=by
 subst hb
 refine ⟨?_,?_,?_,?_,?_,?_⟩ <;> simp
theorem B3.alloc {w:World} {b:Nat} {k n:Int} {t:ByteArray} (h:B3 w b k n t) (o:Obj):B3 (w.alloc o) b k n t:=by
 have hl:=h.lt
 obtain ⟨c0,c1,c2,f0,f1,f2⟩:=h
 refine ⟨?_,?_,?_,?_,?_,?_⟩
 · rw [World.cell?_alloc_lt _ _ ⟨b,0,none⟩ hl];exact c0
 · rw [World.cell?_alloc_lt _ _ ⟨b,1,none⟩ hl];exact c1
 · rw [World.cell?_alloc_lt _ _ ⟨b,2,none⟩ hl];exact c2
 · rw [World.frozen?_alloc_old _ _ ⟨b,0,none⟩ (Nat.ne_of_lt hl)];exact f0
 · rw [World.frozen?_alloc_old _ _ ⟨b,1,none⟩ (Nat.ne_of_lt hl)];exact f1
 · rw [World.frozen?_alloc_old _ _ ⟨b,2,none⟩ (Nat.ne_of_lt hl)];exact f2
theorem B3.below {w w':World} {B b:Nat} {k n:Int} {t:ByteArray} (h:B3 w b k n t) (hb:Below B w w') (hB:b < B):B3 w' b k n t:=by
 obtain ⟨c0,c1,c2,f0,f1,f2⟩:=h
 exact ⟨(hb.cell (p:=⟨b,0,none⟩) hB).trans c0,(hb.cell (p:=⟨b,1,none⟩) hB).trans c1,(hb.cell (p:=⟨b,2,none⟩) hB).trans c2,(hb.frozen (p:=⟨b,0,none⟩) hB).trans f0,(hb.frozen (p:=⟨b,1,none⟩) hB).trans f1,(hb.frozen (p:=⟨b,2,none⟩) hB).trans f2⟩
/-- Whatever is called behind: it stays. -/
theorem B3.after {w w':World} {b:Nat} {k n:Int} {t:ByteArray} (h:B3 w b k n t) (hb:Below w.heap.size w w'):B3 w' b k n t:=h.below hb h.lt
theorem results_cell1 {fn:Func} {p:Tmp} {ty:TypeId} (h:fn.results=#[.cell p ty]) (tmps:Array Value) (P:Program) (w:World) :
 (results fn tmps).run P w=((asAddr (tmps.getD p undef)).run P w).andThen fun a w₁=>(loadVar ty a).run P w₁:=by
 simp only[results,h]
 simp [Sem.run_bind,Result.andThen]
theorem three_new (x y z:Int) {w:World} {b:Nat} (hb:b=w.heap.size):(w.alloc (.cells #[.int .i64 x,.int .i64 y,.int .i64 z] 3)).cell? ⟨b,0,none⟩=some (.int .i64 x)∧(w.alloc (.cells #[.int .i64 x,.int .i64 y,.int .i64 z] 3)).cell? ⟨b,1,none⟩=some (.int .i64 y)∧(w.alloc (.cells #[.int .i64 x,.int .i64 y,.int .i64 z] 3)).cell? ⟨b,2,none⟩=some (.int .i64 z):=by
 subst hb
 refine ⟨?_,?_,?_⟩ <;> simp
theorem csound_any (a b:GV) (w:World):Calls Tryz.prog 166 #[a.agg,b.agg] w fun e w'=>e=.returned (.int .i64 (cmpG a b))∧Below w.heap.size w w':=by
 obtain ⟨k,n,t⟩:=a
 obtain ⟨k',n',t'⟩:=b
 rw [GV.agg_eq,GV.agg_eq]
 unfold cmpG
 dsimp only
 generalize hc1:compareInt k k'=c1
 generalize hc2:compareInt n n'=c2
 generalize hc3:compareBytes t.data.toList t'.data.toList=c3
 have H1:=V (fun (W:World)=>hc1 ▸ cmpInt_any k k' W)
 have H2:=V (fun (W:World)=>hc2 ▸ cmpInt64_any n n' W)
 have H3:=V (fun (W:World)=>hc3 ▸ cmpText_any t t' W)
 have HO:=V (cmpOr_any c1 c2 c3 ((((w.alloc (.cells #[.int .i64 k,.int .i64 n,.string t] 26)).alloc (.cells #[.int .i64 k',.int .i64 n',.string t'] 26)).alloc (.cells #[.int .i64 c1,.int .i64 c2,.int .i64 c3] 3)).drew) (w.heap.size+1+1) (three_new c1 c2 c3 (by simp)).1 (three_new c1 c2 c3 (by simp)).2.1 (three_new c1 c2 c3 (by simp)).2.2)
 clear hc1 hc2 hc3
 go_enter Tryz.func166,Tryz.ntmps166
 go_wp2
 go_region_held3 (fun w'=>w'.cell? ⟨w.heap.size,0,none⟩=some (.int .i64 k)∧w'.cell? ⟨w.heap.size,1,none⟩=some (.int .i64 n)∧w'.cell? ⟨w.heap.size,2,none⟩=some (.string t)∧w'.cell? ⟨w.heap.size+1,0,none⟩=some (.int .i64 k')∧w'.cell? ⟨w.heap.size+1,1,none⟩=some (.int .i64 n')∧w'.cell? ⟨w.heap.size+1,2,none⟩=some (.string t')) (go_keep) (first
  | (go_at_call 195;refine (U H1 _).mono ?_;rintro e w1 ⟨rfl,rfl⟩)
  | (go_at_call 196;refine (U H2 _).mono ?_;rintro e w1 ⟨rfl,rfl⟩)
  | (go_at_call 197;refine (U H3 _).mono ?_;rintro e w1 ⟨rfl,rfl⟩)
  | (go_at_call 194;refine (U HO).mono ?_;rintro e w1 ⟨rfl,rfl⟩))
 all_goals
  go_wp2
  go_ret
  exact ⟨rfl,by repeat' (first | exact Below.refl _ _ | refine Below.drew ?_ | refine Below.alloc ?_ (by simp <;> omega) _)⟩
theorem holds_any (op o:Int) (w:World) (ho:o=-1 ∨ o=0 ∨ o=1):Calls Tryz.prog 165 #[.int .i64 op,.int .i64 o] w fun e w'=>e=.returned (.bool (holdsG op o))∧w'=w:=by
 have each:Hid (∀ op':Int,op' ≠ 9→op' ≠ 7→op' ≠ 10→op' ≠ 8→op' ≠ 5→holdsG op' o=decide (o ≠ 0)):=fun op' h9 h7 h10 h8 h5=>by unfold holdsG;rw [if_neg h9,if_neg h7,if_neg h10,if_neg h8,if_neg h5]
 by_cases h9:op=9
 · subst h9
   rcases ho with rfl | rfl | rfl <;> (go_enter Tryz.func165,Tryz.ntmps165;go_wp2;go_ret;exact ⟨rfl,rfl⟩)
 · by_cases h7:op=7
   · subst h7
     rcases ho with rfl | rfl | rfl <;> (go_enter Tryz.func165,Tryz.ntmps165;go_wp2;go_ret;exact ⟨rfl,rfl⟩)
   · by_cases h10:op=10
     · subst h10
       rcases ho with rfl | rfl | rfl <;> (go_enter Tryz.func165,Tryz.ntmps165;go_wp2;go_ret;exact ⟨rfl,rfl⟩)
     · by_cases h8:op=8
       · subst h8
         rcases ho with rfl | rfl | rfl <;> (go_enter Tryz.func165,Tryz.ntmps165;go_wp2;go_ret;exact ⟨rfl,rfl⟩)
       · by_cases h5:op=5
         · subst h5
           rcases ho with rfl | rfl | rfl <;> (go_enter Tryz.func165,Tryz.ntmps165;go_wp2;go_ret;exact ⟨rfl,rfl⟩)
         · rw [U each op h9 h7 h10 h8 h5]
           have b9:(op == 9)=false:=by simp [h9]
           have b7:(op == 7)=false:=by simp [h7]
           have b10:(op == 10)=false:=by simp [h10]
           have b8:(op == 8)=false:=by simp [h8]
           have b5:(op == 5)=false:=by simp [h5]
           rcases ho with rfl | rfl | rfl <;> (go_enter Tryz.func165,Tryz.ntmps165;go_wp2;go_ret;exact ⟨rfl,rfl⟩)
/-- A number of 64 bits with a sign, or too great. -/
def fitG (n:Int):Int × Int:=if -9223372036854775808 ≤ n∧n < 9223372036854775808 then (n,0) else (0,6)
def reckG (op a b:Int):Int × Int:=
 if op=1 then fitG (0 - b) else if op=12 then fitG (a - b) else if op=11 then fitG (a+b) else if op=13 then fitG (a * b)
 else if b=0 then (0,7) else if op=15 then (a.tmod b,0) else fitG (a.tdiv b)
def operG (op:Int):Int:=if op=1 ∨ (11 ≤ op∧op ≤ 15) then 2 else if op=16 then 3 else 0
theorem oper_any (op:Int) (w:World):Calls Tryz.prog 161 #[.int .i64 op] w fun e w'=>e=.returned (.int .i64 (operG op))∧w'=w:=by
 by_cases h:op=1 ∨ op=11 ∨ op=12 ∨ op=13 ∨ op=14 ∨ op=15 ∨ op=16
 · rcases h with rfl | rfl | rfl | rfl | rfl | rfl | rfl <;> (go_enter Tryz.func161,Tryz.ntmps161;go_wp2;go_ret;exact ⟨rfl,rfl⟩)
 · rw [show operG op=0 by unfold operG;rw [if_neg (by omega),if_neg (by omega)]]
   have b1:(op == 1)=false:=by simp;omega
   have b2:(op == 11)=false:=by simp;omega
   have b3:(op == 12)=false:=by simp;omega
   have b4:(op == 13)=false:=by simp;omega
   have b5:(op == 14)=false:=by simp;omega
   have b6:(op == 15)=false:=by simp;omega
   have b7:(op == 16)=false:=by simp;omega
   clear h
   go_enter Tryz.func161,Tryz.ntmps161
   go_wp2
   go_ret
   exact ⟨rfl,rfl⟩
def beyG (a b:Int):Bool:=decide (a=-9223372036854775808∧b=-1)
theorem bey_any (a b:Int) (w:World):Calls Tryz.prog 192 #[.int .i64 a,.int .i64 b] w fun e w'=>e=.returned (.bool (beyG a b))∧w'=w:=by
 by_cases h1:a=-9223372036854775808
 · subst h1
   by_cases h2:b=-1
   · subst h2
     go_enter Tryz.func192,Tryz.ntmps192
     go_wp2
     go_ret
     exact ⟨rfl,rfl⟩
   · rw [show beyG (-9223372036854775808) b=false by unfold beyG;simp [h2]]
     have b2:(b == -1)=false:=by simpa using h2
     clear h2
     go_enter Tryz.func192,Tryz.ntmps192
     go_wp2
     go_ret
     exact ⟨rfl,rfl⟩
 · rw [show beyG a b=false by unfold beyG;simp [h1]]
   have b2:(a == -9223372036854775808)=false:=by simpa using h1
   clear h1
   go_enter Tryz.func192,Tryz.ntmps192
   go_wp2
   go_ret
   exact ⟨rfl,rfl⟩
theorem ret_pair {x c:Int} {p:Int × Int} {v:Value} (h:p=(x,c)) (hv:v=errG c):Ending.returned (.tuple #[.int .i64 x,v])=.returned (.tuple #[.int .i64 p.1,errG p.2]):=by
 subst h hv
 rfl
theorem wrap_in {n:Int} (h1:-9223372036854775808 ≤ n) (h2:n < 9223372036854775808):IntKind.i64.wrap n=n:=by
 rw [IntKind.wrap_i64];omega
theorem tdiv_in {a b:Int} (ha:-9223372036854775808 ≤ a∧a < 9223372036854775808) (_hb:-9223372036854775808 ≤ b∧b < 9223372036854775808) (h0:b ≠ 0) (hq:¬ (a=-9223372036854775808∧b=-1)) :
 -9223372036854775808 ≤ a.tdiv b∧a.tdiv b < 9223372036854775808:=by
 by_cases h1:b=1
 · subst h1;rw [Int.tdiv_one];exact ha
 by_cases h2:b=-1
 · subst h2
   rw [Int.tdiv_neg,Int.tdiv_one];omega
 have h3:(a.tdiv b).natAbs=a.natAbs / b.natAbs:=Int.natAbs_tdiv a b
 have h4:2 ≤ b.natAbs:=by omega
 have h5:a.natAbs / b.natAbs ≤ a.natAbs / 2:=Nat.div_le_div_left h4 (by decide)
 have h6:a.natAbs ≤ 9223372036854775808:=by omega
 generalize a.tdiv b=x at *
 generalize a.natAbs / b.natAbs=y at *
 omega
theorem div_any (op a b:Int) (w:World) (ha:-9223372036854775808 ≤ a∧a < 9223372036854775808) (hb:-9223372036854775808 ≤ b∧b < 9223372036854775808) (hop:op=14 ∨ op=15) :
 Calls Tryz.prog 193 #[.int .i64 op,.int .i64 a,.int .i64 b] w fun e w'=>e=.returned (.tuple #[.int .i64 (reckG op a b).1,errG (reckG op a b).2])∧w'=w:=by
 have HB:=V (fun W=>bey_any a b W)
 by_cases h0:b=0
 · subst h0
   have hr:Hid (reckG op a 0=(0,7)):=by rcases hop with rfl | rfl <;> rfl
   generalize reckG op a 0=r at *
   clear hop ha hb
   go_enter Tryz.func193,Tryz.ntmps193
   go_wp2
   go_ret2
   exact ⟨ret_pair (U hr) rfl,rfl⟩
 have e0:(b == 0)=false:=by simpa using h0
 rcases hop with rfl | rfl
 · have hr:reckG 14 a b=fitG (a.tdiv b):=by unfold reckG;rw [if_neg (by decide),if_neg (by decide),if_neg (by decide),if_neg (by decide),if_neg h0,if_neg (by decide)]
   by_cases hq:a=-9223372036854775808∧b=-1
   · obtain ⟨rfl,rfl⟩:=hq
     have hr:Hid (reckG 14 (-9223372036854775808) (-1)=(0,6)):=by rw [hr];rfl
     generalize reckG 14 (-9223372036854775808) (-1)=r at *
     clear ha hb h0 e0
     rw [show beyG (-9223372036854775808) (-1)=true from rfl] at HB
     go_enter Tryz.func193,Tryz.ntmps193
     go_wp2_with (go_at_call 192;refine (U HB _).mono ?_;rintro e w1 ⟨rfl,rfl⟩)
     go_ret2
     exact ⟨ret_pair (U hr) rfl,rfl⟩
   · rw [show beyG a b=false by unfold beyG;simpa using hq] at HB
     have hin:-9223372036854775808 ≤ a.tdiv b∧a.tdiv b < 9223372036854775808:=tdiv_in ha hb h0 hq
     have hr:Hid (reckG 14 a b=(a.tdiv b,0)):=by rw [hr];unfold fitG;rw [if_pos hin];rfl
     have hw:=wrap_in hin.1 hin.2
     generalize reckG 14 a b=r at *
     clear ha hb hq
     go_enter Tryz.func193,Tryz.ntmps193
     go_wp2_with (go_at_call 192;refine (U HB _).mono ?_;rintro e w1 ⟨rfl,rfl⟩)
     go_ret2
     exact ⟨ret_pair (U hr) rfl,rfl⟩
 · have hr:Hid (reckG 15 a b=(a.tmod b,0)):=by unfold reckG;rw [if_neg (by decide),if_neg (by decide),if_neg (by decide),if_neg (by decide),if_neg h0,if_pos rfl];rfl
   generalize reckG 15 a b=r at *
   clear ha hb
   go_enter Tryz.func193,Tryz.ntmps193
   go_wp2
   go_ret2
   exact ⟨ret_pair (U hr) rfl,rfl⟩
theorem wrap64_in {n:Int} (h1:-9223372036854775808 ≤ n) (h2:n < 9223372036854775808):wrap64 n=n:=by unfold wrap64;omega
theorem sub_fits {a b:Int} (ha:-9223372036854775808 ≤ a∧a < 9223372036854775808) (hb:-9223372036854775808 ≤ b∧b < 9223372036854775808) :
 ((wrap64 (a - b) < a ↔ 0 < b)→fitG (a - b)=(wrap64 (a - b),0))∧(¬ (wrap64 (a - b) < a ↔ 0 < b)→fitG (a - b)=(0,6)):=by
 unfold wrap64 fitG
 refine ⟨fun h=>?_,fun h=>?_⟩
 · rw [if_pos (by omega)]
   exact congrArg (fun x=>(x,(0:Int))) (by omega)
 · rw [if_neg (by omega)]
theorem add_fits {a b:Int} (ha:-9223372036854775808 ≤ a∧a < 9223372036854775808) (hb:-9223372036854775808 ≤ b∧b < 9223372036854775808) :
 ((a < wrap64 (a+b) ↔ 0 < b)→fitG (a+b)=(wrap64 (a+b),0))∧(¬ (a < wrap64 (a+b) ↔ 0 < b)→fitG (a+b)=(0,6)):=by
 unfold wrap64 fitG
 refine ⟨fun h=>?_,fun h=>?_⟩
 · rw [if_pos (by omega)]
   exact congrArg (fun x=>(x,(0:Int))) (by omega)
 · rw [if_neg (by omega)]
theorem mul_zero_fits (b:Int):fitG (0 * b)=(0,0):=by rw [Int.zero_mul];rfl
theorem mul_fits {a b:Int} (ha:-9223372036854775808 ≤ a∧a < 9223372036854775808) (hb:-9223372036854775808 ≤ b∧b < 9223372036854775808) (h0:a ≠ 0) :
 ((wrap64 ((wrap64 (a * b)).tdiv a)=b∧¬ (b=-9223372036854775808∧a=-1))→fitG (a * b)=(wrap64 (a * b),0)) ∧
 (¬ (wrap64 ((wrap64 (a * b)).tdiv a)=b∧¬ (b=-9223372036854775808∧a=-1))→fitG (a * b)=(0,6)):=by
 generalize hm:wrap64 (a * b)=m
 have hm1:-9223372036854775808 ≤ m∧m < 9223372036854775808∧∃ k:Int,m=a * b+k * 18446744073709551616:=by
  unfold wrap64 at hm
  refine ⟨by omega,by omega,?_⟩
  refine ⟨(m - a * b) / 18446744073709551616,?_⟩
  omega
 obtain ⟨h1,h2,k,hk⟩:=hm1
 unfold fitG
 refine ⟨fun h=>?_,fun h=>?_⟩
 · obtain ⟨hd,hn⟩:=h
   have hnb:¬ (m=-9223372036854775808∧a=-1):=by
    rintro ⟨rfl,rfl⟩
    apply hn
    refine ⟨?_,rfl⟩
    rw [← hd]
    decide +kernel
   have hin:=tdiv_in ⟨h1,h2⟩ ha h0 hnb
   rw [wrap64_in hin.1 hin.2] at hd
   have hdm:=Int.mul_tdiv_add_tmod m a
   rw [hd] at hdm
   have hlt:(m.tmod a).natAbs < a.natAbs:=by
    rw [Int.natAbs_tmod]
    exact Nat.mod_lt _ (by omega)
   have hab:m=a * b+m.tmod a:=hdm.symm
   have hkk:k=0:=by
    have:k * 18446744073709551616=m.tmod a:=by omega
    omega
   subst hkk
   have hmm:m=a * b:=by omega
   rw [if_pos (by omega),hmm]
 · rw [if_neg ?_]
   intro hr
   have hkk:m=a * b:=by omega
   apply h
   refine ⟨?_,?_⟩
   · rw [hkk,Int.mul_tdiv_cancel_left _ h0]
     exact wrap64_in hb.1 hb.2
   · rintro ⟨rfl,rfl⟩
     omega
theorem reck_sub (a b:Int) (w:World) (ha:-9223372036854775808 ≤ a∧a < 9223372036854775808) (hb:-9223372036854775808 ≤ b∧b < 9223372036854775808) :
 Calls Tryz.prog 163 #[.int .i64 12,.int .i64 a,.int .i64 b] w fun e w'=>e=.returned (.tuple #[.int .i64 (fitG (a - b)).1,errG (fitG (a - b)).2])∧w'=w:=by
 obtain ⟨h1,h2⟩:=sub_fits ha hb
 generalize fitG (a - b)=r at *
 by_cases p:0 < b
 · by_cases q:wrap64 (a - b) < a
   · have h:=V (h1 ⟨fun _=>p,fun _=>q⟩)
     clear h1 h2 ha hb
     go_enter Tryz.func163,Tryz.ntmps163
     go_wp2
     go_ret2
     exact ⟨ret_pair (U h) rfl,rfl⟩
   · have h:=V (h2 (fun e=>q (e.2 p)))
     have q':((wrap64 (a - b) < a)=False):=by simpa using q
     clear h1 h2 ha hb q
     go_enter Tryz.func163,Tryz.ntmps163
     go_wp2
     go_ret2
     exact ⟨ret_pair (U h) rfl,rfl⟩
 · have p':(0 < b)=False:=by simpa using p
   by_cases q:wrap64 (a - b) < a
   · have h:=V (h2 (fun e=>p (e.1 q)))
     clear h1 h2 ha hb p
     go_enter Tryz.func163,Tryz.ntmps163
     go_wp2
     go_ret2
     exact ⟨ret_pair (U h) rfl,rfl⟩
   · have h:=V (h1 ⟨fun e=>absurd e q,fun e=>absurd e p⟩)
     have q':((wrap64 (a - b) < a)=False):=by simpa using q
     clear h1 h2 ha hb q p
     go_enter Tryz.func163,Tryz.ntmps163
     go_wp2
     go_ret2
     exact ⟨ret_pair (U h) rfl,rfl⟩
theorem reck_add (a b:Int) (w:World) (ha:-9223372036854775808 ≤ a∧a < 9223372036854775808) (hb:-9223372036854775808 ≤ b∧b < 9223372036854775808) :
 Calls Tryz.prog 163 #[.int .i64 11,.int .i64 a,.int .i64 b] w fun e w'=>e=.returned (.tuple #[.int .i64 (fitG (a+b)).1,errG (fitG (a+b)).2])∧w'=w:=by
 obtain ⟨h1,h2⟩:=add_fits ha hb
 generalize fitG (a+b)=r at *
 by_cases p:0 < b
 · by_cases q:a < wrap64 (a+b)
   · have h:=V (h1 ⟨fun _=>p,fun _=>q⟩)
     clear h1 h2 ha hb
     go_enter Tryz.func163,Tryz.ntmps163
     go_wp2
     go_ret2
     exact ⟨ret_pair (U h) rfl,rfl⟩
   · have h:=V (h2 (fun e=>q (e.2 p)))
     have q':((a < wrap64 (a+b))=False):=by simpa using q
     clear h1 h2 ha hb q
     go_enter Tryz.func163,Tryz.ntmps163
     go_wp2
     go_ret2
     exact ⟨ret_pair (U h) rfl,rfl⟩
 · have p':(0 < b)=False:=by simpa using p
   by_cases q:a < wrap64 (a+b)
   · have h:=V (h2 (fun e=>p (e.1 q)))
     clear h1 h2 ha hb p
     go_enter Tryz.func163,Tryz.ntmps163
     go_wp2
     go_ret2
     exact ⟨ret_pair (U h) rfl,rfl⟩
   · have h:=V (h1 ⟨fun e=>absurd e q,fun e=>absurd e p⟩)
     have q':((a < wrap64 (a+b))=False):=by simpa using q
     clear h1 h2 ha hb q p
     go_enter Tryz.func163,Tryz.ntmps163
     go_wp2
     go_ret2
     exact ⟨ret_pair (U h) rfl,rfl⟩
theorem reck_neg (a b:Int) (w:World) (hb:-9223372036854775808 ≤ b∧b < 9223372036854775808) :
 Calls Tryz.prog 163 #[.int .i64 1,.int .i64 a,.int .i64 b] w fun e w'=>e=.returned (.tuple #[.int .i64 (fitG (0 - b)).1,errG (fitG (0 - b)).2])∧w'=w:=by
 obtain ⟨h1,h2⟩:=sub_fits (a:=0) (by decide) hb
 generalize fitG (0 - b)=r at *
 simp only[Int.zero_sub] at h1 h2
 by_cases p:0 < b
 · by_cases q:wrap64 (-b) < 0
   · have h:=V (h1 ⟨fun _=>p,fun _=>q⟩)
     clear h1 h2 hb
     go_enter Tryz.func163,Tryz.ntmps163
     go_wp2
     go_ret2
     exact ⟨ret_pair (U h) rfl,rfl⟩
   · have h:=V (h2 (fun e=>q (e.2 p)))
     have q':((wrap64 (-b) < 0)=False):=by simpa using q
     clear h1 h2 hb q
     go_enter Tryz.func163,Tryz.ntmps163
     go_wp2
     go_ret2
     exact ⟨ret_pair (U h) rfl,rfl⟩
 · have p':(0 < b)=False:=by simpa using p
   by_cases q:wrap64 (-b) < 0
   · have h:=V (h2 (fun e=>p (e.1 q)))
     clear h1 h2 hb p
     go_enter Tryz.func163,Tryz.ntmps163
     go_wp2
     go_ret2
     exact ⟨ret_pair (U h) rfl,rfl⟩
   · have h:=V (h1 ⟨fun e=>absurd e q,fun e=>absurd e p⟩)
     have q':((wrap64 (-b) < 0)=False):=by simpa using q
     clear h1 h2 hb q p
     go_enter Tryz.func163,Tryz.ntmps163
     go_wp2
     go_ret2
     exact ⟨ret_pair (U h) rfl,rfl⟩
theorem reck_mul (a b:Int) (w:World) (ha:-9223372036854775808 ≤ a∧a < 9223372036854775808) (hb:-9223372036854775808 ≤ b∧b < 9223372036854775808) :
 Calls Tryz.prog 163 #[.int .i64 13,.int .i64 a,.int .i64 b] w fun e w'=>e=.returned (.tuple #[.int .i64 (fitG (a * b)).1,errG (fitG (a * b)).2])∧w'=w:=by
 have HB:=V (fun W=>bey_any b a W)
 by_cases h0:a=0
 · subst h0
   have h:=V (mul_zero_fits b)
   have hw:wrap64 0=0:=by decide +kernel
   generalize fitG (0 * b)=r at *
   clear ha hb
   go_enter Tryz.func163,Tryz.ntmps163
   go_wp2
   go_ret2
   exact ⟨ret_pair (U h) rfl,rfl⟩
 obtain ⟨h1,h2⟩:=mul_fits ha hb h0
 generalize fitG (a * b)=r at *
 have e0:(a == 0)=false:=by simpa using h0
 by_cases q:wrap64 ((wrap64 (a * b)).tdiv a)=b
 · by_cases p:b=-9223372036854775808∧a=-1
   · have h:=V (h2 (fun e=>e.2 p))
     rw [show beyG b a=true by unfold beyG;simpa using p] at HB
     have q':(wrap64 ((wrap64 (a * b)).tdiv a) == b)=true:=by simpa using q
     clear h1 h2 ha hb p q
     go_enter Tryz.func163,Tryz.ntmps163
     go_wp2_with (go_at_call 192;refine (U HB _).mono ?_;rintro e w1 ⟨rfl,rfl⟩)
     go_ret2
     exact ⟨ret_pair (U h) rfl,rfl⟩
   · have h:=V (h1 ⟨q,p⟩)
     rw [show beyG b a=false by unfold beyG;simpa using p] at HB
     have q':(wrap64 ((wrap64 (a * b)).tdiv a) == b)=true:=by simpa using q
     clear h1 h2 ha hb p q
     go_enter Tryz.func163,Tryz.ntmps163
     go_wp2_with (go_at_call 192;refine (U HB _).mono ?_;rintro e w1 ⟨rfl,rfl⟩)
     go_ret2
     exact ⟨ret_pair (U h) rfl,rfl⟩
 · have h:=V (h2 (fun e=>q e.1))
   have q':(wrap64 ((wrap64 (a * b)).tdiv a) == b)=false:=by simpa using q
   clear h1 h2 ha hb q
   go_enter Tryz.func163,Tryz.ntmps163
   go_wp2
   go_ret2
   exact ⟨ret_pair (U h) rfl,rfl⟩
theorem reck_div (op a b:Int) (w:World) (ha:-9223372036854775808 ≤ a∧a < 9223372036854775808) (hb:-9223372036854775808 ≤ b∧b < 9223372036854775808) (hop:op=14 ∨ op=15) :
 Calls Tryz.prog 163 #[.int .i64 op,.int .i64 a,.int .i64 b] w fun e w'=>e=.returned (.tuple #[.int .i64 (reckG op a b).1,errG (reckG op a b).2])∧w'=w:=by
 have HD:=V (fun W=>div_any op a b W ha hb hop)
 clear ha hb
 generalize reckG op a b=r at *
 rcases hop with rfl | rfl
 · go_enter Tryz.func163,Tryz.ntmps163
   go_wp2_with (go_at_call 193;refine (U HD _).mono ?_;rintro e w1 ⟨rfl,rfl⟩)
   go_ret2
   exact ⟨rfl,rfl⟩
 · go_enter Tryz.func163,Tryz.ntmps163
   go_wp2_with (go_at_call 193;refine (U HD _).mono ?_;rintro e w1 ⟨rfl,rfl⟩)
   go_ret2
   exact ⟨rfl,rfl⟩
theorem reck_any (op a b:Int) (w:World) (ha:-9223372036854775808 ≤ a∧a < 9223372036854775808) (hb:-9223372036854775808 ≤ b∧b < 9223372036854775808) (hop:operG op=2) :
 Calls Tryz.prog 163 #[.int .i64 op,.int .i64 a,.int .i64 b] w fun e w'=>e=.returned (.tuple #[.int .i64 (reckG op a b).1,errG (reckG op a b).2])∧w'=w:=by
 have hop':op=1 ∨ op=12 ∨ op=11 ∨ op=13 ∨ op=14 ∨ op=15:=by
  unfold operG at hop
  split at hop
  · omega
  · split at hop <;> simp at hop
 rcases hop' with rfl | rfl | rfl | rfl | h
 · exact reck_neg a b w hb
 · exact reck_sub a b w ha hb
 · exact reck_add a b w ha hb
 · exact reck_mul a b w ha hb
 · exact reck_div op a b w ha hb h
theorem B3.drew {w:World} {b:Nat} {k n:Int} {t:ByteArray} (h:B3 w b k n t):B3 w.drew b k n t:=h
theorem isTruth_any (a:Int) (w:World):Calls Tryz.prog 167 #[.int .i64 a] w fun e w'=>e=.returned (.bool (decide (0 ≤ a∧a ≤ 2)))∧w'=w:=by
 by_cases h0:a=0
 · subst h0
   go_enter Tryz.func167,Tryz.ntmps167
   go_wp2
   go_ret
   exact ⟨rfl,rfl⟩
 by_cases h1:a=1
 · subst h1
   go_enter Tryz.func167,Tryz.ntmps167
   go_wp2
   go_ret
   exact ⟨rfl,rfl⟩
 by_cases h2:a=2
 · subst h2
   go_enter Tryz.func167,Tryz.ntmps167
   go_wp2
   go_ret
   exact ⟨rfl,rfl⟩
 have e0:(a == 0)=false:=by simpa using h0
 have e1:(a == 1)=false:=by simpa using h1
 have e2:(a == 2)=false:=by simpa using h2
 rw [show decide (0 ≤ a∧a ≤ 2)=false by simp;omega]
 clear h0 h1 h2
 go_enter Tryz.func167,Tryz.ntmps167
 go_wp2
 go_ret
 exact ⟨rfl,rfl⟩
def andG (a b:Int):Int:=if ¬ (0 ≤ a∧a ≤ 2) ∨ ¬ (0 ≤ b∧b ≤ 2) then 0 else if a=0 ∨ b=0 then 0 else if a=2 ∨ b=2 then 2 else 1
def notG (a:Int):Int:=if a=0 then 1 else if a=2 then 2 else 0
def orG (a b:Int):Int:=if ¬ (0 ≤ a∧a ≤ 2) ∨ ¬ (0 ≤ b∧b ≤ 2) then 0 else notG (andG (notG a) (notG b))
theorem not_any (a:Int) (w:World):Calls Tryz.prog 114 #[.int .i64 a] w fun e w'=>e=.returned (.int .i64 (notG a))∧w'=w:=by
 by_cases h0:a=0
 · subst h0
   go_enter Tryz.func114,Tryz.ntmps114
   go_wp2
   go_ret
   exact ⟨rfl,rfl⟩
 by_cases h2:a=2
 · subst h2
   go_enter Tryz.func114,Tryz.ntmps114
   go_wp2
   go_ret
   exact ⟨rfl,rfl⟩
 have e0:(a == 0)=false:=by simpa using h0
 have e2:(a == 2)=false:=by simpa using h2
 rw [show notG a=0 by unfold notG;rw [if_neg h0,if_neg h2]]
 clear h0 h2
 go_enter Tryz.func114,Tryz.ntmps114
 go_wp2
 go_ret
 exact ⟨rfl,rfl⟩
theorem truths {a:Int} (h:0 ≤ a∧a ≤ 2):a=0 ∨ a=1 ∨ a=2:=by omega
theorem and_any (a b:Int) (w:World):Calls Tryz.prog 164 #[.int .i64 a,.int .i64 b] w fun e w'=>e=.returned (.int .i64 (andG a b))∧w'=w:=by
 have HA:=V (fun W=>isTruth_any a W)
 have HB:=V (fun W=>isTruth_any b W)
 by_cases ha:0 ≤ a∧a ≤ 2
 · by_cases hb:0 ≤ b∧b ≤ 2
   · rw [decide_eq_true ha] at HA
     rw [decide_eq_true hb] at HB
     rcases truths ha with rfl | rfl | rfl <;> rcases truths hb with rfl | rfl | rfl <;>
     · clear ha hb
       go_enter Tryz.func164,Tryz.ntmps164
       go_wp2_with (first | (go_at_call 167;refine (U HA _).mono ?_;clear HA;rintro e w1 ⟨rfl,rfl⟩) | (go_at_call 167;refine (U HB _).mono ?_;rintro e w1 ⟨rfl,rfl⟩))
       go_ret
       exact ⟨rfl,rfl⟩
   · rw [decide_eq_true ha] at HA
     rw [decide_eq_false hb] at HB
     rw [show andG a b=0 by unfold andG;rw [if_pos (.inr hb)]]
     clear ha hb
     go_enter Tryz.func164,Tryz.ntmps164
     go_wp2_with (first | (go_at_call 167;refine (U HA _).mono ?_;clear HA;rintro e w1 ⟨rfl,rfl⟩) | (go_at_call 167;refine (U HB _).mono ?_;rintro e w1 ⟨rfl,rfl⟩))
     go_ret
     exact ⟨rfl,rfl⟩
 · rw [decide_eq_false ha] at HA
   rw [show andG a b=0 by unfold andG;rw [if_pos (.inl ha)]]
   clear ha
   go_enter Tryz.func164,Tryz.ntmps164
   go_wp2_with (first | (go_at_call 167;refine (U HA _).mono ?_;clear HA;rintro e w1 ⟨rfl,rfl⟩))
   go_ret
   exact ⟨rfl,rfl⟩
theorem or_any (a b:Int) (w:World):Calls Tryz.prog 118 #[.int .i64 a,.int .i64 b] w fun e w'=>e=.returned (.int .i64 (orG a b))∧w'=w:=by
 have HA:=V (fun W=>isTruth_any a W)
 have HB:=V (fun W=>isTruth_any b W)
 by_cases ha:0 ≤ a∧a ≤ 2
 · by_cases hb:0 ≤ b∧b ≤ 2
   · rw [decide_eq_true ha] at HA
     rw [decide_eq_true hb] at HB
     rw [show orG a b=notG (andG (notG a) (notG b)) by unfold orG;rw [if_neg (by omega)]]
     have HN:=V (fun x W=>not_any x W)
     have HD:=V (fun x y W=>and_any x y W)
     clear ha hb
     go_enter Tryz.func118,Tryz.ntmps118
     go_wp2_with (first | (go_at_call 167;refine (U HA _).mono ?_;clear HA;rintro e w1 ⟨rfl,rfl⟩) | (go_at_call 167;refine (U HB _).mono ?_;rintro e w1 ⟨rfl,rfl⟩) | (go_at_call 114;refine (U HN _ _).mono ?_;rintro e w1 ⟨rfl,rfl⟩) | (go_at_call 164;refine (U HD _ _ _).mono ?_;rintro e w1 ⟨rfl,rfl⟩))
     go_ret
     exact ⟨rfl,rfl⟩
   · rw [decide_eq_true ha] at HA
     rw [decide_eq_false hb] at HB
     rw [show orG a b=0 by unfold orG;rw [if_pos (.inr hb)]]
     clear ha hb
     go_enter Tryz.func118,Tryz.ntmps118
     go_wp2_with (first | (go_at_call 167;refine (U HA _).mono ?_;clear HA;rintro e w1 ⟨rfl,rfl⟩) | (go_at_call 167;refine (U HB _).mono ?_;rintro e w1 ⟨rfl,rfl⟩))
     go_ret
     exact ⟨rfl,rfl⟩
 · rw [decide_eq_false ha] at HA
   rw [show orG a b=0 by unfold orG;rw [if_pos (.inl ha)]]
   clear ha
   go_enter Tryz.func118,Tryz.ntmps118
   go_wp2_with (first | (go_at_call 167;refine (U HA _).mono ?_;clear HA;rintro e w1 ⟨rfl,rfl⟩))
   go_ret
   exact ⟨rfl,rfl⟩
end Go.Proofs.YtpnonhjmpnbmcaaGreatDoor
