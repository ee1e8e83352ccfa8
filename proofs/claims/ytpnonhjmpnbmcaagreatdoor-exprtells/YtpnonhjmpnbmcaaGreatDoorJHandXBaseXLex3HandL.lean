/- A region that draws its order, taken by hand: a read's value goes to its slot. -/
import Derived.Test.YtpnonhjmpnbmcaaGreatDoorJPlainLMathLMath2LMath3XLex1XLex2NBigListOpsListOp2ListOp3
import Derived.Deep.RegionHeld3
import Derived.Test.YtpnonhjmpnbmcaaGreatDoorJVSum3VTest2VKnownKBytesVFewVLaidXBin
import Derived.OwnWalk
import Derived.Deep.CutRange
import Derived.Deep.CutBlock
import Derived.Deep.MidRow
import Derived.Laws.IdiomStrings
namespace Go.Proofs.YtpnonhjmpnbmcaaGreatDoor
open Go.RowKit Go.Lib
open Act (put)
set_option maxRecDepth 10000
/-- Take number i first: its value goes to slot d. -/
theorem hand_to {P:Program} {ops:Array Oper} {Q:Exit→Act→World→Prop} {md:Region.Mode} {S:World→Prop} {i d:Nat} {oi:Oper} {v:Value} {fuel:Nat} {listed:Array Bool} {a:Act} {w:World} (hi:ops[i]?=some oi) (hd:oi.dst=some d)
 (hs:Region.noSelect ops=true) (hf:Region.free md ops listed i=true) (hr:(Region.ready md ops listed).contains i=true)
 (hQ:∀ c a w,Q (.panic c) (a.put (some d) v) w→Q (.panic c) a w) (hy:YieldsIf P ops S oi v a) (hS:S w)
 (h:wpAnyH P md ops Q S fuel (listed.setIfInBounds i true) (a.put (some d) v) w):wpAnyH P md ops Q S (fuel+1) listed a w:=by
 rw [← hd] at hQ h
 exact wpAnyH_take hi hs hf hr hQ hy hS h
theorem blkX {w w':World} {b:Nat} {o:Obj} (h:w.heap[b]?=some o) (hb:Below w.heap.size w w'):w'.heap[b]?=some o:=(hb.block b (Array.getElem?_eq_some_iff.1 h).1).trans h
theorem ltX {w:World} {b:Nat} {o:Obj} (h:w.heap[b]?=some o):b < w.heap.size:=(Array.getElem?_eq_some_iff.1 h).1
theorem cellX {w:World} {b:Nat} {cur:Array Value} {T:TypeId} (h:w.heap[b]?=some (.cells cur T (0,0))) (i:Nat):w.cell? ⟨b,i,none⟩=cur[i]?:=by
 rw [World.cell?]
 simp [h]
theorem frzX {w:World} {b:Nat} {cur:Array Value} {T:TypeId} (h:w.heap[b]?=some (.cells cur T (0,0))) (i:Nat):w.frozen? ⟨b,i,none⟩=false:=by
 simp [World.frozen?,h]
theorem setX {w:World} {p:Nat} {cur:Array Value} {T:TypeId} (h:w.heap[p]?=some (.cells cur T (0,0))) (i:Nat) (v:Value):(w.setCell ⟨p,i,none⟩ v).heap[p]?=some (.cells (cur.setIfInBounds i v) T (0,0)):=by
 simp only[World.setCell]
 rw [Array.getElem?_modify,if_pos rfl,h]
 rfl
theorem trX {w a b:World} (h:Below w.heap.size w a) (hb:Below a.heap.size a b):Below w.heap.size w b:=h.trans (hb.mono h.size)
theorem alX {w a:World} (h:Below w.heap.size w a) (o:Obj):Below w.heap.size w (a.alloc o):=h.alloc h.size o
theorem res1X {fn:Func} {p:Tmp} {ty:TypeId} (h:fn.results=#[.cell p ty]) (tmps:Array Value) (P:Program) (w:World) :
 (results fn tmps).run P w=((asAddr (tmps.getD p undef)).run P w).andThen fun a w₁=>(loadVar ty a).run P w₁:=by
 simp only[results,h]
 simp [Sem.run_bind,Result.andThen]
/-- Nothing but block p turns, of what is there; new blocks may come. -/
structure FrX (p:Nat) (w w':World):Prop where
 os:w'.os=w.os
 tape:w'.tape=w.tape
 output:w'.output=w.output
 size:w.heap.size ≤ w'.heap.size
 blk:∀ k,k < w.heap.size→k ≠ p→w'.heap[k]?=w.heap[k]?
theorem FrX.refl (p:Nat) (w:World):FrX p w w:=⟨rfl,rfl,rfl,Nat.le_refl _,fun _ _ _=>rfl⟩
theorem FrX.trans {p:Nat} {a b c:World} (h:FrX p a b) (k:FrX p b c):FrX p a c:=
 ⟨k.os.trans h.os,k.tape.trans h.tape,k.output.trans h.output,Nat.le_trans h.size k.size,fun i hi hp=>(k.blk i (Nat.lt_of_lt_of_le hi h.size) hp).trans (h.blk i hi hp)⟩
theorem FrX.of_below {p:Nat} {w w':World} (h:Below w.heap.size w w'):FrX p w w':=⟨h.os,h.tape,h.output,h.size,fun k hk _=>h.block k hk⟩
theorem FrX.set {p:Nat} {a w:World} (h:FrX p a w) (i:Nat) (v:Value):FrX p a (w.setCell ⟨p,i,none⟩ v):=
 ⟨h.os,h.tape,h.output,by simpa using h.size,fun k hk hp=>(Below.heap_setCell w ⟨p,i,none⟩ v k hp).trans (h.blk k hk hp)⟩
theorem FrX.alloc {p:Nat} {a w:World} (h:FrX p a w) (o:Obj):FrX p a (w.alloc o):=
 ⟨h.os,h.tape,h.output,by have:=h.size;simp;omega,fun k hk hp=>(Below.heap_alloc w o k (Nat.lt_of_lt_of_le hk h.size)).trans (h.blk k hk hp)⟩
/-- A block below p's new part. -/
theorem FrX.setNew {p b:Nat} {a w:World} (h:FrX p a w) (hb:a.heap.size ≤ b) (i:Nat) (v:Value):FrX p a (w.setCell ⟨b,i,none⟩ v):=
 ⟨h.os,h.tape,h.output,by simpa using h.size,fun k hk hp=>(Below.heap_setCell w ⟨b,i,none⟩ v k (by show k ≠ b;omega)).trans (h.blk k hk hp)⟩
theorem FrX.keep {p b:Nat} {o:Obj} {w w':World} (h:FrX p w w') (hb:w.heap[b]?=some o) (hp:b ≠ p):w'.heap[b]?=some o:=(h.blk b (ltX hb) hp).trans hb
/-- Where p itself is new. -/
theorem FrX.below {p:Nat} {w0 w w':World} (h:FrX p w w') (h0:Below w0.heap.size w0 w) (hp:w0.heap.size ≤ p):Below w0.heap.size w0 w':=
 ⟨h.os.trans h0.os,h.tape.trans h0.tape,h.output.trans h0.output,Nat.le_trans h0.size h.size,fun k hk=>(h.blk k (Nat.lt_of_lt_of_le hk h0.size) (by omega)).trans (h0.block k hk)⟩
/-- A row that was made of a string: its first bytes. -/
def BWX (w:World) (b:Nat) (l:List UInt8):Prop:=
 ∃ C m,w.heap[b]?=some (.cells C 5 (m,m+1))∧l.length ≤ m∧C.size=m∧∀ i,i < l.length→C[i]?=some (.int .u8 ((l.getD i 0).toNat:Int))
theorem BWX.lt {w:World} {b:Nat} {l:List UInt8} (h:BWX w b l):b < w.heap.size:=by obtain ⟨_,_,h,_⟩:=h;exact ltX h
theorem BWX.cell {w:World} {b i:Nat} {l:List UInt8} (h:BWX w b l) (hi:i < l.length):w.cell? ⟨b,i,none⟩=some (.int .u8 ((l.getD i 0).toNat:Int))∧w.frozen? ⟨b,i,none⟩=false:=by
 obtain ⟨C,m,h1,h2,h3,h4⟩:=h
 refine ⟨?_,?_⟩
 · rw [World.cell?];simp [h1,h4 i hi]
 · simp [World.frozen?,h1];omega
theorem BWX.set {w:World} {b i:Nat} {l:List UInt8} (h:BWX w b l) (hi:i < l.length) (c:UInt8):BWX (w.setCell ⟨b,i,none⟩ (.int .u8 (c.toNat:Int))) b (l.set i c):=by
 obtain ⟨C,m,h1,h2,h3,h4⟩:=h
 refine ⟨C.setIfInBounds i (.int .u8 (c.toNat:Int)),m,?_,by simpa using h2,by simpa using h3,fun j hj=>?_⟩
 · simp only[World.setCell]
   rw [Array.getElem?_modify,if_pos rfl,h1]
   rfl
 · rw [List.length_set] at hj
   by_cases e:i=j
   · subst e
     rw [Array.getElem?_setIfInBounds_self_of_lt (by omega)]
     simp [List.getD_eq_getElem?_getD,hi]
   · rw [Array.getElem?_setIfInBounds_ne e,h4 j hj]
     simp [List.getD_eq_getElem?_getD,List.getElem?_set_ne e]
theorem strBytes_any (l:List UInt8) (w:World):∃ cap W,(convert 9 52 (.string ⟨l.toArray⟩)).run Tryz.prog w=.ok (.slice (some ⟨w.heap.size,0,none⟩) l.length cap) W∧Below w.heap.size w W∧BWX W w.heap.size l:=by
 have h:=run_bytes_of_string (P:=Tryz.prog) w 9 52 5 ⟨l.toArray⟩ Tryz.underlying9 Tryz.underlying52 Tryz.underlying5
 have hs:(⟨l.toArray⟩:ByteArray).size=l.length:=by simp [ByteArray.size]
 rw [hs] at h
 obtain ⟨cap,hcap⟩:∃ cap,cap=grownCap w l.length 0 5:=⟨_,rfl⟩
 rw [← hcap] at h
 refine ⟨cap,_,h,((Below.refl _ _).drew).alloc (by simp) _,bytesRow ⟨l.toArray⟩ cap,_,heap_alloc_new _ _,?_,rfl,fun i hi=>?_⟩
 · simp [bytesRow,ByteArray.size]
 · rw [bytesRow,Array.getElem?_append_left (by simp;omega)]
   simp [List.getD_eq_getElem?_getD,hi]
theorem BWX.back {w:World} {b cap:Nat} {l:List UInt8} (h:BWX w b l) (n:Nat) (hn:n=l.length):(convert 52 9 (.slice (some ⟨b,0,none⟩) n cap)).run Tryz.prog w=.ok (.string ⟨l.toArray⟩) w:=by
 subst hn
 refine run_convert_bytes_back w 52 9 5 _ cap l Tryz.underlying52 Tryz.underlying5 Tryz.underlying9 (fun j hj=>?_)
 rw [Go.WideShapes.add_plain,Nat.zero_add,(h.cell hj).1]
 simp [List.getD_eq_getElem?_getD,hj]
def fX (g:Bool) (c:UInt8):UInt8:=if g then upperB c else lowerB c
def mixX (g:Bool) (k:Nat) (l:List UInt8):List UInt8:=(l.take k).map (fX g) ++ l.drop k
theorem mix_len (g:Bool) (k:Nat) (l:List UInt8):(mixX g k l).length=l.length:=by simp [mixX];omega
theorem mix_at {g:Bool} {k:Nat} {l:List UInt8} (h:k < l.length):(mixX g k l).getD k 0=l[k]:=by
 unfold mixX
 rw [List.getD_eq_getElem?_getD,List.getElem?_append_right (by simp;omega)]
 simp [Nat.min_eq_left (Nat.le_of_lt h),h]
theorem mix_set {g:Bool} {k:Nat} {l:List UInt8} (h:k < l.length):(mixX g k l).set k (fX g l[k])=mixX g (k+1) l:=by
 unfold mixX
 rw [List.set_append_right _ _ (by simp;omega),List.drop_eq_getElem_cons h,List.length_map,List.length_take,Nat.min_eq_left (Nat.le_of_lt h),Nat.sub_self,List.set_cons_zero,List.take_succ_eq_append_getElem h,List.map_append,List.append_assoc]
 rfl
theorem mix_same {g:Bool} {k:Nat} {l:List UInt8} (h:k < l.length) (hf:fX g l[k]=l[k]):mixX g k l=mixX g (k+1) l:=by
 rw [← mix_set h,hf]
 apply List.ext_getElem?
 intro j
 by_cases e:k=j
 · subst e
   have:=mix_at (g:=g) h
   rw [List.getD_eq_getElem?_getD] at this
   rw [List.getElem?_set_self (by rw [mix_len];exact h),← this,List.getElem?_eq_getElem (by rw [mix_len];exact h)];rfl
 · rw [List.getElem?_set_ne e]
theorem mix_all (g:Bool) (l:List UInt8):mixX g l.length l=if g then upL l else loL l:=by
 unfold mixX
 rw [List.take_length,List.drop_length,List.append_nil]
 cases g <;> rfl
theorem cased_any (g:Bool) (l:List UInt8) (w:World) (hl:l.length ≤ 1000000):Calls Tryz.prog 134 #[sv l,.bool g] w fun e w'=>e=.returned (sv (if g then upL l else loL l))∧Below w.heap.size w w':=by
 obtain ⟨cap,W,hc,hb,hw⟩:=strBytes_any l w
 have HB:=V hb
 have HW:=V hw
 have hl':(l.length:Int) ≤ 1000000:=by omega
 clear hb hw
 obtain ⟨r,hr⟩:∃ r,r=(if g=true then upL l else loL l):=⟨_,rfl⟩
 rw [← hr]
 have HRR:=V hr
 clear hr
 unfold sv
 go_enter Tryz.func134,Tryz.ntmps134
 go_wp2_with fail
 go_loopw [6] (fun i wr=>∃ k:Nat,k ≤ l.length∧i=.int .i64 k∧Hid (Below w.heap.size w wr∧BWX wr w.heap.size (mixX g k l))) (fun i _=>l.length - (intOf i).toNat)
 case atStart=>exact ⟨0,by omega,rfl,U HB,by simpa [mixX] using U HW⟩
 case round=>
  obtain ⟨k,hk,rfl,HR⟩:=hrel
  by_cases hlt:k < l.length
  · have hki:(k:Int) < (l.length:Int):=by omega
    have hk0:(0:Int) ≤ (k:Int):=by omega
    obtain ⟨c,hcc⟩:∃ c,c=l[k]:=⟨_,rfl⟩
    have hr:=U HR
    have hcell:=hr.2.cell (i:=k) (by rw [mix_len];exact hlt)
    rw [mix_at hlt,← hcc] at hcell
    obtain ⟨c0,f0⟩:=hcell
    have HCC:=V hcc
    clear hr hcc hc
    have HS:Hid (∀ d:UInt8,d=fX g c→BWX (wr.setCell ⟨w.heap.size,k,none⟩ (.int .u8 (d.toNat:Int))) w.heap.size (mixX g (k+1) l)):=fun d hd=>by
     have h:=(U HR).2.set (i:=k) (by rw [mix_len];exact hlt) d
     rw [hd,U HCC,mix_set hlt,← U HCC] at h
     rw [hd];exact h
    have HT:Hid (fX g c=c→BWX wr w.heap.size (mixX g (k+1) l)):=fun hf=>by
     rw [U HCC] at hf
     rw [← mix_same hlt hf];exact (U HR).2
    have HBr:=V (U HR).1
    cases g with
    | true=>
     by_cases hlow:97 ≤ c.toNat∧c.toNat ≤ 122
     · have e1:(97:Int) ≤ (c.toNat:Int):=by omega
       have e2:(c.toNat:Int) ≤ 122:=by omega
       have hL:isLowerB c=true:=by simp [isLowerB,UInt8.le_iff_toNat_le];exact hlow
       have hd:((upperB c).toNat:Int)=(c.toNat:Int) - 32:=upperB_int c hL
       have HD:=V hd
       clear hlow hL hd
       go_wp2_with fail
       go_roundw
       case rel=>exact ⟨k+1,by omega,by go_num,(U HBr).setCell (p:=⟨w.heap.size,k,none⟩) (Nat.le_refl _) _,by have h:=U HS (upperB c) rfl;rw [U HD] at h;exact h⟩
       case measure=>simp [intOf];omega
     · have hL:isLowerB c=false:=by simp [isLowerB,UInt8.le_iff_toNat_le];omega
       have hf:fX true c=c:=by show upperB c=c;exact upperB_of_not c hL
       have HF:=V hf
       clear hL hf
       have e3:(c.toNat:Int) < 97 ∨ 122 < (c.toNat:Int):=by omega
       clear hlow
       rcases e3 with e3 | e3 <;>
       · go_wp2_with fail
         go_roundw
         case rel=>exact ⟨k+1,by omega,by go_num,U HBr,U HT (U HF)⟩
         case measure=>simp [intOf];omega
    | false=>
     by_cases hlow:65 ≤ c.toNat∧c.toNat ≤ 90
     · have e1:(65:Int) ≤ (c.toNat:Int):=by omega
       have e2:(c.toNat:Int) ≤ 90:=by omega
       have hL:isUpperB c=true:=by simp [isUpperB,UInt8.le_iff_toNat_le];exact hlow
       have hd:((lowerB c).toNat:Int)=(c.toNat:Int)+32:=lowerB_int c hL
       have HD:=V hd
       clear hlow hL hd
       go_wp2_with fail
       go_roundw
       case rel=>exact ⟨k+1,by omega,by go_num,(U HBr).setCell (p:=⟨w.heap.size,k,none⟩) (Nat.le_refl _) _,by have h:=U HS (lowerB c) rfl;rw [U HD] at h;exact h⟩
       case measure=>simp [intOf];omega
     · have hL:isUpperB c=false:=by simp [isUpperB,UInt8.le_iff_toNat_le];omega
       have hf:fX false c=c:=by show lowerB c=c;exact lowerB_of_not c hL
       have HF:=V hf
       clear hL hf
       have e3:(c.toNat:Int) < 65 ∨ 90 < (c.toNat:Int):=by omega
       clear hlow
       rcases e3 with e3 | e3 <;>
       · go_wp2_with fail
         go_roundw
         case rel=>exact ⟨k+1,by omega,by go_num,U HBr,U HT (U HF)⟩
         case measure=>simp [intOf];omega
  · have he:k=l.length:=by omega
    have hb:=(U HR).2
    rw [he,mix_all] at hb
    have hcv:=hb.back (cap:=cap) l.length (by cases g <;> simp [upL,loL])
    have HBr:=V (U HR).1
    rw [← U HRR] at hcv
    clear hb HR hc he
    go_wp2_with fail
    go_ret
    exact ⟨rfl,U HBr⟩
/-- Whatever order is picked from here on; S holds behind every operation but number fin. -/
def wpAnyL (P:Program) (md:Region.Mode) (ops:Array Oper) (Q:Exit→Act→World→Prop) (S:World→Prop) (fin:Nat):Nat→Array Bool→Act→World→Prop
 | 0,listed,a,w=>Region.ready md ops listed=[]∧Q .normal a w
 | fuel+1,listed,a,w=>
  (Region.ready md ops listed=[]→Q .normal a w) ∧
  ∀ i ∈ Region.ready md ops listed,wpOp P ops Q i (fun a' w'=>(i ≠ fin→S w')∧wpAnyL P md ops Q S fin fuel (listed.setIfInBounds i true) a' w') a w
section
variable {P:Program} {ops:Array Oper} {Q:Exit→Act→World→Prop} {md:Region.Mode} {S:World→Prop} {fin:Nat}
theorem wpAny_of_last:∀ (fuel:Nat) (listed:Array Bool) (a:Act) (w:World),wpAnyL P md ops Q S fin fuel listed a w→wpAny P md ops Q fuel listed a w
 | 0,_,_,_,h=>h
 | fuel+1,_,_,_,h=>⟨h.1,fun i hi=>wpOp_mono (fun a' w' h'=>wpAny_of_last fuel _ a' w' h'.2) (h.2 i hi)⟩
/-- Number fin waits for number i. -/
def waitsFor (md:Region.Mode) (ops:Array Oper) (fin i:Nat):Bool:=match ops[fin]? with
 | some o=>o.after.any fun e=>Region.binds md e && e.on == i
 | none=>false
theorem wpAnyL_first {i:Nat} {oi:Oper} {v:Value} (hi:ops[i]?=some oi) (hsel:∀ (j:Nat) (o:Oper) cs b,ops[j]?=some o→o.op ≠ .select cs b)
 (hQ:∀ c a w,Q (.panic c) (a.put oi.dst v) w→Q (.panic c) a w) (hwait:waitsFor md ops fin i=true) (hif:i ≠ fin) :
 ∀ (fuel:Nat) (listed:Array Bool) (a:Act) (w:World),
  (∀ j oj,ops[j]?=some oj→j ≠ i→listed.getD j true=false→(∀ e ∈ oj.after,Region.binds md e=true→e.on ≠ i)→oi.apart ops oj=true) →
  i ∈ Region.ready md ops listed→YieldsIf P ops S oi v a→S w →
  wpAnyL P md ops Q S fin fuel (listed.setIfInBounds i true) (a.put oi.dst v) w→wpAnyL P md ops Q S fin (fuel+1) listed a w:=by
 intro fuel
 induction fuel with
 | zero=>
  intro listed a w _ hr hy hS H
  refine ⟨fun h=>(by rw [h] at hr;cases hr),fun j hj=>?_⟩
  by_cases hji:j=i
  · subst hji;exact hy.wpOp hi hS ⟨fun _=>hS,H⟩
  · have:=ready_mono hj hji
    rw [H.1] at this
    cases this
 | succ fuel ih=>
  intro listed a w hfree hr hy hS H
  refine ⟨fun h=>(by rw [h] at hr;cases hr),fun j hj=>?_⟩
  by_cases hji:j=i
  · subst hji;exact hy.wpOp hi hS ⟨fun _=>hS,H⟩
  · have h1:=H.2 j (ready_mono hj hji)
    obtain ⟨hjun,oj,hoj,hall⟩:=mem_ready.1 hj
    have hnot:∀ e ∈ oj.after,Region.binds md e=true→e.on ≠ i:=fun e he hb heq=>by
     have h1:=hall e he hb
     have h0:=(mem_ready.1 hr).1
     rw [heq] at h1
     rcases Nat.lt_or_ge i listed.size with h' | h'
     · simp [h'] at h0 h1;rw [h0] at h1;cases h1
     · simp [Array.getElem?_eq_none h'] at h1
    have hjf:j ≠ fin:=fun e=>by
     subst e
     unfold waitsFor at hwait
     rw [hoj] at hwait
     obtain ⟨k,hk,he⟩:=Array.any_eq_true.1 hwait
     simp only[Bool.and_eq_true,beq_iff_eq] at he
     exact hnot _ (Array.getElem_mem hk) he.1 he.2
    have h2:=wpOp_putIf hoj (hfree j oj hoj hji hjun hnot) (fun cs b=>hsel i oi cs b hi) (fun cs b=>hsel j oj cs b hoj) hQ hy h1
    have hfree':∀ k ok,ops[k]?=some ok→k ≠ i→(listed.setIfInBounds j true).getD k true=false →
     (∀ e ∈ ok.after,Region.binds md e=true→e.on ≠ i)→oi.apart ops ok=true:=fun k ok hk hki hun hno=>by
     refine hfree k ok hk hki ?_ hno
     by_cases hjk:j=k
     · subst hjk;exact hjun
     · rw [getD_set_ne true hjk] at hun;exact hun
    refine wpOp_mono (fun a' w' h3=>⟨h3.2.1,ih (listed.setIfInBounds j true) a' w' hfree' (ready_mono hr (Ne.symm hji)) h3.1 (h3.2.1 hjf) ?_⟩) h2
    rw [Array.setIfInBounds_comm _ _ hji]
    exact h3.2.2
/-- Take number i first: its value goes to slot d. -/
theorem last_to {i d:Nat} {oi:Oper} {v:Value} {fuel:Nat} {listed:Array Bool} {a:Act} {w:World} (hi:ops[i]?=some oi) (hd:oi.dst=some d)
 (hs:Region.noSelect ops=true) (hf:Region.free md ops listed i=true) (hr:(Region.ready md ops listed).contains i=true) (hwait:waitsFor md ops fin i=true) (hif:i ≠ fin)
 (hQ:∀ c a w,Q (.panic c) (a.put (some d) v) w→Q (.panic c) a w) (hy:YieldsIf P ops S oi v a) (hS:S w)
 (h:wpAnyL P md ops Q S fin fuel (listed.setIfInBounds i true) (a.put (some d) v) w):wpAnyL P md ops Q S fin (fuel+1) listed a w:=by
 rw [← hd] at hQ h
 exact wpAnyL_first hi (Region.noSelect_spec hs) hQ hwait hif fuel listed a w (Region.free_spec hi hf) (by simpa using hr) hy hS h
/-- Number i alone may come up. -/
theorem last_one {i:Nat} {o:Oper} {fuel:Nat} {listed:Array Bool} {a:Act} {w:World} (hr:Region.ready md ops listed=[i]) (ho:ops[i]?=some o)
 (h:∀ K':Act→World→Prop,Shut (∀ a w,(i ≠ fin→S w)→((i ≠ fin→S w)→wpAnyL P md ops Q S fin fuel (listed.setIfInBounds i true) a w)→K' a w)→if Region.wanted o (yielded ops a.tmps)=true then Oper.wp P o a w K' Q else K' (a.put o.dst undef) w):wpAnyL P md ops Q S fin (fuel+1) listed a w:=by
 refine ⟨fun h0=>absurd (hr ▸ h0) (by simp),fun j hj=>?_⟩
 rw [hr] at hj
 obtain rfl:=List.mem_singleton.1 hj
 exact wpOp_step ho (fun K' hK=>h K' (fun a w hS hW=>hK a w ⟨hS,hW hS⟩))
theorem last_done {listed:Array Bool} {a:Act} {w:World} (hr:Region.ready md ops listed=[]) (h:Q .normal a w):∀ fuel,wpAnyL P md ops Q S fin fuel listed a w
 | 0=>⟨hr,h⟩
 | _+1=>⟨fun _=>h,by rw [hr];simp⟩
theorem wp_region_last {id:Nat} {a:Act} {w:World} (fin:Nat) (S:World→Prop) (hm:P.follows .mixedOrders=true) (hS:S w.drew)
 (h:S w.drew→wpAnyL P .any ops Q S fin ops.size (Array.replicate ops.size false) a w.drew):(Code.region id ops true).wp P Q a w:=
 wp_region_any hm (wpAny_of_last _ _ _ _ (h hS))
end
theorem ht {P : Program} {ops : Array Oper} {Q : Exit → Act → World → Prop} {md : Region.Mode} {S : World → Prop} {oi : Oper} {fuel : Nat} {listed : Array Bool} {a : Act} {w : World} (i d : Nat) (v : Value) (hS : S w) (h : wpAnyH P md ops Q S fuel (listed.setIfInBounds i true) (a.put (some d) v) w) (hi : ops[i]? = some oi := by exact rfl) (hd : oi.dst = some d := by rfl) (hs : Region.noSelect ops = true := by kernel_rfl) (hf : Region.free md ops listed i = true := by kernel_rfl) (hr : (Region.ready md ops listed).contains i = true := by kernel_rfl) (hQ : ∀ c a w, Q (.panic c) (a.put (some d) v) w → Q (.panic c) a w := by exact fun _ _ _ h => h) (hy : YieldsIf P ops S oi v a := by exact Or.inl ⟨by rfl, by intro w1 hSw; kernel_rfl⟩) : wpAnyH P md ops Q S (fuel + 1) listed a w := hand_to hi hd hs hf hr hQ hy hS h
theorem hu {P : Program} {ops : Array Oper} {Q : Exit → Act → World → Prop} {md : Region.Mode} {S : World → Prop} {oi : Oper} {fuel : Nat} {listed : Array Bool} {a : Act} {w : World} (i d : Nat) (v : Value) (hi : ops[i]? = some oi) (hy : YieldsIf P ops S oi v a) (hS : S w) (h : wpAnyH P md ops Q S fuel (listed.setIfInBounds i true) (a.put (some d) v) w) (hd : oi.dst = some d := by rfl) (hs : Region.noSelect ops = true := by kernel_rfl) (hf : Region.free md ops listed i = true := by kernel_rfl) (hr : (Region.ready md ops listed).contains i = true := by kernel_rfl) (hQ : ∀ c a w, Q (.panic c) (a.put (some d) v) w → Q (.panic c) a w := by exact fun _ _ _ h => h) : wpAnyH P md ops Q S (fuel + 1) listed a w := hand_to hi hd hs hf hr hQ hy hS h
theorem hk {P : Program} {ops : Array Oper} {Q : Exit → Act → World → Prop} {md : Region.Mode} {S : World → Prop} {oi : Oper} {fuel : Nat} {listed : Array Bool} {a : Act} {w : World} (i d : Nat) (hS : S w) (h : wpAnyH P md ops Q S fuel (listed.setIfInBounds i true) (a.put (some d) undef) w) (hi : ops[i]? = some oi := by exact rfl) (hd : oi.dst = some d := by rfl) (hs : Region.noSelect ops = true := by kernel_rfl) (hf : Region.free md ops listed i = true := by kernel_rfl) (hr : (Region.ready md ops listed).contains i = true := by kernel_rfl) (hQ : ∀ c a w, Q (.panic c) (a.put (some d) undef) w → Q (.panic c) a w := by exact fun _ _ _ h => h) (hy : YieldsIf P ops S oi undef a := by exact Or.inr ⟨by rfl, rfl⟩) : wpAnyH P md ops Q S (fuel + 1) listed a w := hand_to hi hd hs hf hr hQ hy hS h
theorem lu {P : Program} {ops : Array Oper} {Q : Exit → Act → World → Prop} {md : Region.Mode} {S : World → Prop} {oi : Oper} {fuel : Nat} {listed : Array Bool} {a : Act} {w : World} (i d : Nat) (v : Value) {fin : Nat} (hi : ops[i]? = some oi) (hy : YieldsIf P ops S oi v a) (hS : S w) (h : wpAnyL P md ops Q S fin fuel (listed.setIfInBounds i true) (a.put (some d) v) w) (hd : oi.dst = some d := by rfl) (hs : Region.noSelect ops = true := by kernel_rfl) (hf : Region.free md ops listed i = true := by kernel_rfl) (hr : (Region.ready md ops listed).contains i = true := by kernel_rfl) (hQ : ∀ c a w, Q (.panic c) (a.put (some d) v) w → Q (.panic c) a w := by exact fun _ _ _ h => h) (hwait : waitsFor md ops fin i = true := by kernel_rfl) (hif : i ≠ fin := by decide) : wpAnyL P md ops Q S fin (fuel + 1) listed a w := last_to hi hd hs hf hr hwait hif hQ hy hS h
end Go.Proofs.YtpnonhjmpnbmcaaGreatDoor
