/- Contracts of package wire's writer of rows: list, row, done, PutRow. -/
import Derived.Test.YtpnonhjmpnbmcaaGreatDoorJValsVals2Vals3
import Derived.Deep.QuietTactic
import Derived.BigQuiet
import Derived.WalkSmall
import Derived.Lib.Small
namespace Go.Proofs.YtpnonhjmpnbmcaaGreatDoor
open Go.RowKit Go.Lib
open Act (put)
set_option maxHeartbeats 3200000
set_option maxRecDepth 100000
/-- A slice of values that reads as these. -/
def RV (w:World) (B:Nat) (v:Value) (gs:List GV):Prop:=
 gs.length * 32 ≤ 140737488351232∧(∀ g ∈ gs,g.ok)∧((v=.slice none 0 0∧gs=[]) ∨
  ∃ b off cap,b < B∧v=.slice (some ⟨b,off,none⟩) gs.length cap∧∀ i g,gs[i]?=some g→w.cell? ⟨b,off+i * 3,none⟩=some (.int .i64 g.kind)∧w.cell? ⟨b,off+i * 3+1,none⟩=some (.int .i64 g.int)∧w.cell? ⟨b,off+i * 3+2,none⟩=some (.string g.text))
def putVals (gs:List GV) (s:Option (List UInt8)):Option (List UInt8):=gs.foldl (fun s g=>putVal g s) s
theorem putVal_none (g:GV):putVal g none=none:=by unfold putVal;split <;> rfl
theorem putVals_none (gs:List GV):putVals gs none=none:=by
 induction gs with
 | nil=>rfl
 | cons g r ih=>simp only[putVals,List.foldl_cons,putVal_none];exact ih
theorem putVals_snoc (gs:List GV) (s:Option (List UInt8)) (k:Nat) (g:GV) (h:gs[k]?=some g):putVals (gs.take (k+1)) s=putVal g (putVals (gs.take k) s):=by
 rw [List.take_add_one,h,putVals,List.foldl_append];rfl
theorem putVals_split (gs:List GV) (s:Option (List UInt8)) (k:Nat):putVals gs s=putVals (gs.drop k) (putVals (gs.take k) s):=by
 rw [putVals,putVals,putVals,← List.foldl_append,List.take_append_drop]
theorem may_len {g:GV} (h:g.may=true) (hg:g.ok):g.bytes.length ≤ 100:=by
 obtain ⟨k,n,t⟩:=g
 obtain ⟨h1,h2,h3⟩:=hg
 dsimp only at h1 h2 h3
 by_cases hk0:k=0
 · subst hk0;simp [GV.bytes];exact uv_small 0 (by decide)
 · by_cases hk1:k=1
   · subst hk1
     have hb:n=0 ∨ n=1:=by simp [GV.may] at h;exact h.1
     have a1:=uvarint_length64 (x:=1) (by decide)
     have a0:=uvarint_length64 (x:=0) (by decide)
     rcases hb with rfl | rfl <;> simp [GV.bytes] <;> omega
   · by_cases hk2:k=2
     · subst hk2
       have a1:=uvarint_length64 (x:=2) (by decide)
       have a0:=uvarint_length64 (zigzag_lt h1 (by omega:n ≤ 9223372036854775807))
       simp [GV.bytes];omega
     · have b0:(k == 0)=false:=by simp [hk0]
       have b1:(k == 1)=false:=by simp [hk1]
       have b2:(k == 2)=false:=by simp [hk2]
       simp [GV.may,b0,b1,b2] at h
       obtain ⟨⟨⟨rfl,_⟩,h40⟩,_⟩:=h
       have a1:=uvarint_length64 (x:=3) (by decide)
       have a0:=uvarint_length64 (x:=t.size) (by omega)
       simp [GV.bytes];omega
theorem putVals_len {gs:List GV} (hg:∀ g ∈ gs,g.ok) {l0:List UInt8}:∀ l,putVals gs (some l0)=some l→l.length ≤ l0.length+100 * gs.length:=by
 induction gs generalizing l0 with
 | nil=>intro l h;simp [putVals] at h;subst h;simp
 | cons g r ih=>
  intro l h
  have e:putVals (g :: r) (some l0)=putVals r (putVal g (some l0)):=rfl
  rw [e] at h
  unfold putVal at h
  by_cases hm:g.may=true
  · rw [if_pos hm] at h
    have:=ih (fun g hg'=>hg g (List.mem_cons_of_mem _ hg')) l h
    have hb:=may_len hm (hg g (List.mem_cons_self))
    simp at this ⊢;omega
  · rw [if_neg hm,putVals_none] at h;cases h
/-- What a writer has behind the number of a list. -/
def putLen (n:Nat) (most:Int) (s:Option (List UInt8)):Option (List UInt8):=if (n:Int) ≤ most then s.map (· ++ uvarint n) else none
theorem wlist_row (p b off cap:Nat) (gs:List GV) (s:Option (List UInt8)) (w:World) (hE:b < p) (hlen:gs.length * 32 ≤ 140737488351232) (hok:∀ g ∈ gs,g.ok)
 (hc:∀ i g,gs[i]?=some g→w.cell? ⟨b,off+i * 3,none⟩=some (.int .i64 g.kind)∧w.cell? ⟨b,off+i * 3+1,none⟩=some (.int .i64 g.int)∧w.cell? ⟨b,off+i * 3+2,none⟩=some (.string g.text))
 (hw:WS w p s) (hl:∀ l,s=some l→l.length ≤ 700000000) :
 Calls Tryz.prog 202 #[.pointer (some ⟨p,0,none⟩),.slice (some ⟨b,off,none⟩) gs.length cap,.int .i64 64,.func (.func 203) #[.pointer (some ⟨p,0,none⟩)] #[]] w fun e w'=>
  e=.returned (.tuple #[])∧WS w' p (putVals gs (putLen gs.length 64 s))∧Fr 5 p w w':=by
 have hp:=hw.lt
 have HB:=V (wbetween_any p (gs.length:Int) 0 64 s w (by omega) (by omega) (by omega) hw (fun l h=>by have:=hl l h;omega))
 have e:(if 0 ≤ (gs.length:Int)∧(gs.length:Int) ≤ 64 then s.map (· ++ uvarint ((gs.length:Int) - 0).toNat) else none)=putLen gs.length 64 s:=by
  unfold putLen
  have e1:((gs.length:Int) - 0).toNat=gs.length:=by omega
  rw [e1]
  by_cases h:(gs.length:Int) ≤ 64
  · rw [if_pos h,if_pos ⟨by omega,h⟩]
  · rw [if_neg h,if_neg (by omega)]
 rw [e] at HB
 have HLn:=V (show ∀ (k:Nat) l,putVals (gs.take k) (putLen gs.length 64 s)=some l→l.length ≤ 800000000 by
  intro k l h
  unfold putLen at h
  by_cases h64:(gs.length:Int) ≤ 64
  · rw [if_pos h64] at h
    cases s with
    | none=>rw [Option.map_none,putVals_none] at h;cases h
    | some l0=>
     have h1:=putVals_len (gs:=gs.take k) (fun g hg=>hok g (List.mem_of_mem_take hg)) l h
     have h2:=hl l0 rfl
     have h3:=uvarint_length64 (x:=gs.length) (by omega)
     simp at h1;omega
  · rw [if_neg h64,putVals_none] at h;cases h)
 generalize putLen gs.length 64 s=s1 at *
 clear e hl
 have HC:=V hc
 clear hc hw
 go_enter Tryz.func202,Tryz.ntmps202
 go_wp2_with (first | (go_at_call 211;refine (U HB).mono ?_;rintro e w1 ⟨rfl,hw1,hf1⟩))
 clear HB
 go_loopw [17] (fun i wr=>∃ k:Nat,k ≤ gs.length∧i=.int .i64 k∧WS wr p (putVals (gs.take k) s1)∧Fr 5 p w wr) (fun i _=>gs.length - (intOf i).toNat)
 case atStart=>exact ⟨0,Nat.zero_le _,rfl,hw1,hf1⟩
 case round=>
  obtain ⟨k,hk,rfl,hwr,hfr⟩:=hrel
  by_cases hlt:k < gs.length
  · obtain ⟨g,hgk⟩:∃ g,gs[k]?=some g:=⟨gs[k],List.getElem?_eq_getElem hlt⟩
    obtain ⟨c0,c1,c2⟩:=U HC k g hgk
    have q0:wr.cell? ⟨b,off+k * 3,none⟩=some (.int .i64 g.kind):=(hfr.1.cell (p:=⟨b,off+k * 3,none⟩) hE).trans c0
    have q1:wr.cell? ⟨b,off+k * 3+1,none⟩=some (.int .i64 g.int):=(hfr.1.cell (p:=⟨b,off+k * 3+1,none⟩) hE).trans c1
    have q2:wr.cell? ⟨b,off+k * 3+2,none⟩=some (.string g.text):=(hfr.1.cell (p:=⟨b,off+k * 3+2,none⟩) hE).trans c2
    have hpr:=hwr.lt
    have hgo:=hok g (List.mem_of_getElem? hgk)
    have HS:=V (putVals_snoc gs s1 k g hgk)
    clear c0 c1 c2 HC hgk
    cases hst:putVals (gs.take k) s1 with
    | none=>
     have HN:=V (putVals_split gs s1 k)
     rw [hst,putVals_none] at HN
     rw [hst] at hwr
     have hwn:=hwr.alloc (.cells #[.int .i64 g.kind,.int .i64 g.int,.string g.text] 26)
     have hfn:=hfr.alloc (by omega) (.cells #[.int .i64 g.kind,.int .i64 g.int,.string g.text] 26)
     obtain ⟨f0,f1,b',pl,h0,h1,hb,he⟩:=hwr
     clear hst HS
     go_wp2
     refine bodyPost_ret (results_none rfl _ _ _) rfl ?_
     exact ⟨rfl,by rw [U HN];exact hwn,hfn⟩
    | some l=>
     have HL:=U HLn k l hst
     rw [hst] at hwr HS
     have HV:=V (wvalue_any p g (some l) _ hgo (hwr.alloc (.cells #[.int .i64 g.kind,.int .i64 g.int,.string g.text] 26)) (by intro l' e;injection e with e;subst e;exact HL))
     have hfn:=hfr.alloc (by omega) (.cells #[.int .i64 g.kind,.int .i64 g.int,.string g.text] 26)
     obtain ⟨f0,f1,v,h0,h1,ho⟩:=hwr
     clear hst HL
     go_wp2_with (first | (go_at_call 203;refine (U HV).mono ?_;rintro e w2 ⟨rfl,hw2,hf2⟩))
     rw [← U HS] at hw2
     clear HV HS
     go_roundw
     case rel=>exact ⟨k+1,by omega,by go_num,hw2,hfn.trans hf2⟩
     case measure=>simp [intOf];omega
  · have he:gs.take k=gs:=List.take_of_length_le (by omega)
    rw [he] at hwr
    go_wp2
    first | go_end0 | refine bodyPost_ret (results_none rfl _ _ _) rfl ?_
    exact ⟨rfl,hwr,hfr⟩
theorem wlist_nil (p:Nat) (s:Option (List UInt8)) (w:World) (hw:WS w p s) (hl:∀ l,s=some l→l.length ≤ 700000000) :
 Calls Tryz.prog 202 #[.pointer (some ⟨p,0,none⟩),.slice none 0 0,.int .i64 64,.func (.func 203) #[.pointer (some ⟨p,0,none⟩)] #[]] w fun e w'=>
  e=.returned (.tuple #[])∧WS w' p (putVals [] (putLen 0 64 s))∧Fr 5 p w w':=by
 have HB:=V (wbetween_any p 0 0 64 s w (by omega) (by omega) (by omega) hw (fun l h=>by have:=hl l h;omega))
 clear hw hl
 go_enter Tryz.func202,Tryz.ntmps202
 go_wp2_with (first | (go_at_call 211;refine (U HB).mono ?_;rintro e w1 ⟨rfl,hw1,hf1⟩))
 clear HB
 refine wp_loop_rounds 1 ?_
 rw [rounds_succ]
 go_wp2
 first | go_end0 | refine bodyPost_ret (results_none rfl _ _ _) rfl ?_
 exact ⟨rfl,by simpa [putVals,putLen] using hw1,hf1⟩
theorem wlist_any (p:Nat) (v:Value) (gs:List GV) (s:Option (List UInt8)) (w:World) (hv:RV w p v gs) (hw:WS w p s) (hl:∀ l,s=some l→l.length ≤ 700000000) :
 Calls Tryz.prog 202 #[.pointer (some ⟨p,0,none⟩),v,.int .i64 64,.func (.func 203) #[.pointer (some ⟨p,0,none⟩)] #[]] w fun e w'=>
  e=.returned (.tuple #[])∧WS w' p (putVals gs (putLen gs.length 64 s))∧Fr 5 p w w':=by
 obtain ⟨h1,h2,⟨rfl,rfl⟩ | ⟨b,off,cap,hb,rfl,hc⟩⟩:=hv
 · exact wlist_nil p s w hw hl
 · exact wlist_row p b off cap gs s w hb h1 h2 hc hw hl
theorem wrow_any (p:Nat) (v:Value) (gs:List GV) (s:Option (List UInt8)) (w:World) (hv:RV w p v gs) (hw:WS w p s) (hl:∀ l,s=some l→l.length ≤ 700000000) :
 Calls Tryz.prog 190 #[.pointer (some ⟨p,0,none⟩),v] w fun e w'=>
  e=.returned (.tuple #[])∧WS w' p (putVals gs (putLen gs.length 64 s))∧Fr 5 p w w':=by
 have hmf:∀ (fn:Fn) (first cap:Array Value) (w:World),(Instr.makeFunc fn first cap).run Tryz.prog w=.ok (.func fn first cap) w:=fun _ _ _ _=>rfl
 have HL:=V (wlist_any p v gs s w hv hw hl)
 clear hv hw hl
 go_enter Tryz.func190,Tryz.ntmps190
 go_wp2_with (first | (go_at_call 202;refine (U HL).mono ?_;rintro e w1 ⟨rfl,hw1,hf1⟩))
 first | go_end0 | refine bodyPost_ret (results_none rfl _ _ _) rfl ?_
 exact ⟨rfl,hw1,hf1⟩
/-- What a writer's done tells. -/
def DonePost (s:Option (List UInt8)) (B:Nat) (w:World) (e:Ending) (w':World):Prop:=
 match s with
 | some l=>∃ a k,e=.returned (.tuple #[.slice a l.length k,.nilIface])∧w'.ownsRow B 5 1 (.slice a l.length k) l.length (byteCells l)∧Below B w w'
 | none=>∃ (b:Nat) (pl:I6),e=.returned (.tuple #[.slice none 0 0,ev b])∧B ≤ b∧ErrAt w' b pl 20∧Below B w w'
theorem wdone_any (p:Nat) (s:Option (List UInt8)) (w:World) (hw:WS w p s) :
 Calls Tryz.prog 191 #[.pointer (some ⟨p,0,none⟩)] w fun e w'=>DonePost s (p+1) w e w':=by
 cases s with
 | none=>
  obtain ⟨f0,f1,b,pl,h0,h1,hb,he⟩:=hw
  have HE:=V he
  clear he
  go_enter Tryz.func191,Tryz.ntmps191
  go_wp2
  go_quiet (fail)
  go_wp2
  go_ret2
  exact ⟨b,pl,rfl,hb,U HE,below_drewN (Below.refl _ _) _⟩
 | some l=>
  obtain ⟨f0,f1,v,h0,h1,ho⟩:=hw
  obtain ⟨a,k,rfl⟩:=own_slice ho
  have HO:=V ho
  clear ho
  go_enter Tryz.func191,Tryz.ntmps191
  go_wp2
  go_ret2
  exact ⟨a,k,rfl,U HO,Below.refl _ _⟩
theorem own_weaker {w:World} {B B':Nat} {e:TypeId} {sz:Nat} {v:Value} {n:Nat} {xs:List Value} (hB:B' ≤ B) (h:w.ownsRow B e sz v n xs):w.ownsRow B' e sz v n xs:=by
 obtain ⟨h1,h2 | ⟨g,cap,cur,h3,h4,h5⟩⟩:=h
 · exact ⟨h1,.inl h2⟩
 · exact ⟨h1,.inr ⟨g,cap,cur,h3,by omega,h5⟩⟩
theorem WS.new (w:World):WS (w.alloc (.cells #[.slice none 0 0,.nilIface] 282)) w.heap.size (some []):=by
 refine ⟨by simp,by simp,.slice none 0 0,by simp,by simp,World.ownsRow_nil _ _ _ _⟩
theorem putRow_any (v:Value) (gs:List GV) (w:World) (hv:RV w w.heap.size v gs) :
 Calls Tryz.prog 160 #[v] w fun e w'=>DonePost (putVals gs (putLen gs.length 64 (some []))) w.heap.size w e w':=by
 have hv1:RV (w.alloc (.cells #[.slice none 0 0,.nilIface] 282)) w.heap.size v gs:=by
  obtain ⟨h1,h2,⟨rfl,rfl⟩ | ⟨b,off,cap,hb,rfl,hc⟩⟩:=hv
  · exact ⟨h1,h2,.inl ⟨rfl,rfl⟩⟩
  · refine ⟨h1,h2,.inr ⟨b,off,cap,hb,rfl,fun i g hg=>?_⟩⟩
    rw [World.cell?_alloc_lt _ _ ⟨b,off+i * 3,none⟩ hb,World.cell?_alloc_lt _ _ ⟨b,off+i * 3+1,none⟩ hb,World.cell?_alloc_lt _ _ ⟨b,off+i * 3+2,none⟩ hb]
    exact hc i g hg
 have HR:=V (wrow_any w.heap.size v gs (some []) _ hv1 (WS.new w) (by intro l h;injection h with h;subst h;simp))
 have HB:=V ((Below.refl w.heap.size w).alloc (Nat.le_refl _) (.cells #[.slice none 0 0,.nilIface] 282))
 clear hv hv1
 generalize putVals gs (putLen gs.length 64 (some []))=s at *
 cases s with
 | some l=>
  go_enter Tryz.func160,Tryz.ntmps160
  go_wp2_with (first | (go_at_call 190;refine (U HR).mono ?_;rintro e w1 ⟨rfl,hw1,hf1⟩) | (go_at_call 191;refine (wdone_any w.heap.size (some l) _ hw1).mono ?_;rintro e w2 ⟨a,k,rfl,ho,hb2⟩))
  go_ret2
  exact ⟨a,k,rfl,own_weaker (by omega) ho,((U HB).trans hf1.1).trans (hb2.mono (by omega))⟩
 | none=>
  go_enter Tryz.func160,Tryz.ntmps160
  go_wp2_with (first | (go_at_call 190;refine (U HR).mono ?_;rintro e w1 ⟨rfl,hw1,hf1⟩) | (go_at_call 191;refine (wdone_any w.heap.size none _ hw1).mono ?_;rintro e w2 ⟨b,pl,rfl,hb,he,hb2⟩))
  go_ret2
  exact ⟨b,pl,rfl,by omega,he,((U HB).trans hf1.1).trans (hb2.mono (by omega))⟩
/-- A way to compare: -1, 0, 1; 0 of equals alone; turned round it is the opposite; it is an order. -/
structure IsCmp {α:Type} (f:α→α→Int):Prop where
 range:∀ x y,f x y=-1 ∨ f x y=0 ∨ f x y=1
 anti:∀ x y,f x y=- f y x
 eq:∀ x y,f x y=0→x=y
 trans:∀ x y z,f x y ≤ 0→f y z ≤ 0→f x z ≤ 0
theorem IsCmp.self {α:Type} {f:α→α→Int} (h:IsCmp f) (x:α):f x x=0:=by have:=h.anti x x;omega
theorem IsCmp.lt1 {α:Type} {f:α→α→Int} (h:IsCmp f) {x y z:α} (h1:f x y < 0) (h2:f y z ≤ 0):f x z < 0:=by
 have h3:=h.trans x y z (by omega) h2
 rcases Int.lt_or_eq_of_le h3 with h4 | h4
 · exact h4
 · obtain rfl:=h.eq _ _ h4
   have:=h.anti x y
   omega
theorem IsCmp.lt2 {α:Type} {f:α→α→Int} (h:IsCmp f) {x y z:α} (h1:f x y ≤ 0) (h2:f y z < 0):f x z < 0:=by
 have h3:=h.trans x y z h1 (by omega)
 rcases Int.lt_or_eq_of_le h3 with h4 | h4
 · exact h4
 · obtain rfl:=h.eq _ _ h4
   have:=h.anti x y
   omega
def first0 (a b:Int):Int:=if a=0 then b else a
theorem first0_ne {a b:Int} (h:a ≠ 0):first0 a b=a:=if_neg h
theorem first0_eq (b:Int):first0 0 b=b:=if_pos rfl
theorem IsCmp.lex {α β:Type} {f:α→α→Int} {g:β→β→Int} (hf:IsCmp f) (hg:IsCmp g):IsCmp fun (x y:α × β)=>first0 (f x.1 y.1) (g x.2 y.2) where
 range x y:=by
  have h1:=hf.range x.1 y.1
  have h2:=hg.range x.2 y.2
  unfold first0
  split <;> omega
 anti x y:=by
  have h1:=hf.anti x.1 y.1
  have h2:=hg.anti x.2 y.2
  unfold first0
  split <;> split <;> omega
 eq x y h:=by
  unfold first0 at h
  split at h
  · rename_i h1
    exact Prod.ext (hf.eq _ _ h1) (hg.eq _ _ h)
  · exact absurd h (by assumption)
 trans x y z h1 h2:=by
  unfold first0 at h1 h2 ⊢
  have ht:=hf.trans x.1 y.1 z.1
  have hl:=hf.lt1 (x:=x.1) (y:=y.1) (z:=z.1)
  have hr:=hf.lt2 (x:=x.1) (y:=y.1) (z:=z.1)
  have hs:=hg.trans x.2 y.2 z.2
  split at h1 <;> split at h2 <;> split <;> omega
theorem compareInt_cmp:IsCmp compareInt where
 range x y:=by unfold compareInt;repeat' split <;> omega
 anti x y:=by unfold compareInt;repeat' split <;> omega
 eq x y h:=by unfold compareInt at h;(repeat' split at h) <;> omega
 trans x y z h1 h2:=by unfold compareInt at *;(repeat' split at h1) <;> (repeat' split at h2) <;> (repeat' split) <;> omega
theorem u8_lt (a b:UInt8):a < b ↔ a.toNat < b.toNat:=UInt8.lt_iff_toNat_lt
theorem u8_eq {a b:UInt8} (h:a.toNat=b.toNat):a=b:=UInt8.toNat_inj.1 h
theorem cb_cons (a b:UInt8) (xs ys:List UInt8):compareBytes (a :: xs) (b :: ys)=first0 (compareInt a.toNat b.toNat) (compareBytes xs ys):=by
 show (if a < b then (-1:Int) else if b < a then 1 else compareBytes xs ys)=_
 unfold compareInt first0
 simp only[u8_lt]
 repeat' split <;> first | rfl | omega
theorem cb_range:∀ x y:List UInt8,compareBytes x y=-1 ∨ compareBytes x y=0 ∨ compareBytes x y=1
 | [],[]=>.inr (.inl rfl)
 | [],_ :: _=>.inl rfl
 | _ :: _,[]=>.inr (.inr rfl)
 | a :: xs,b :: ys=>by
  have ih:=cb_range xs ys
  have h:=compareInt_cmp.range (a.toNat:Int) b.toNat
  rw [cb_cons];unfold first0;split <;> omega
theorem cb_anti:∀ x y:List UInt8,compareBytes x y=- compareBytes y x
 | [],[]=>rfl
 | [],_ :: _=>rfl
 | _ :: _,[]=>rfl
 | a :: xs,b :: ys=>by
  have ih:=cb_anti xs ys
  have h:=compareInt_cmp.anti (a.toNat:Int) b.toNat
  rw [cb_cons,cb_cons];unfold first0;repeat' split <;> omega
theorem cb_eq:∀ x y:List UInt8,compareBytes x y=0→x=y
 | [],[],_=>rfl
 | [],_ :: _,h=>by simp [compareBytes] at h
 | _ :: _,[],h=>by simp [compareBytes] at h
 | a :: xs,b :: ys,h=>by
  have ih:=cb_eq xs ys
  rw [cb_cons] at h
  unfold first0 at h
  split at h
  · rename_i h1
    have:=compareInt_cmp.eq _ _ h1
    rw [ih h,u8_eq (a:=a) (b:=b) (by omega)]
  · exact absurd h (by assumption)
theorem cb_trans:∀ x y z:List UInt8,compareBytes x y ≤ 0→compareBytes y z ≤ 0→compareBytes x z ≤ 0
 | [],_,[],_,_=>by simp [compareBytes]
 | [],_,_ :: _,_,_=>by simp [compareBytes]
 | _ :: _,[],_,h,_=>by simp [compareBytes] at h
 | _ :: _,_ :: _,[],_,h=>by simp [compareBytes] at h
 | a :: xs,b :: ys,c :: zs,h1,h2=>by
  have ih:=cb_trans xs ys zs
  rw [cb_cons] at h1 h2 ⊢
  unfold first0 at h1 h2 ⊢
  have ht:=compareInt_cmp.trans (a.toNat:Int) b.toNat c.toNat
  have hl:=compareInt_cmp.lt1 (x:=(a.toNat:Int)) (y:=b.toNat) (z:=c.toNat)
  have hr:=compareInt_cmp.lt2 (x:=(a.toNat:Int)) (y:=b.toNat) (z:=c.toNat)
  split at h1 <;> split at h2 <;> split <;> omega
theorem compareBytes_cmp:IsCmp compareBytes:=⟨cb_range,cb_anti,cb_eq,cb_trans⟩
theorem text_ext {a b:ByteArray} (h:a.data.toList=b.data.toList):a=b:=by
 cases a;cases b;simp_all [Array.toList_inj]
theorem compareText_cmp:IsCmp fun (a b:ByteArray)=>compareBytes a.data.toList b.data.toList:=
 ⟨fun _ _=>cb_range _ _,fun _ _=>cb_anti _ _,fun _ _ h=>text_ext (cb_eq _ _ h),fun _ _ _=>cb_trans _ _ _⟩
/-- How two values that may be stand to one another (P6.1). -/
def cmpG (a b:GV):Int:=first0 (compareInt a.kind b.kind) (first0 (compareInt a.int b.int) (compareBytes a.text.data.toList b.text.data.toList))
theorem cmpG_cmp:IsCmp cmpG:=by
 have h:=(compareInt_cmp.lex (compareInt_cmp.lex compareText_cmp))
 refine ⟨fun x y=>h.range (x.kind,x.int,x.text) (y.kind,y.int,y.text),fun x y=>h.anti (x.kind,x.int,x.text) (y.kind,y.int,y.text),fun x y e=>?_,fun x y z=>h.trans (x.kind,x.int,x.text) (y.kind,y.int,y.text) (z.kind,z.int,z.text)⟩
 have:=h.eq (x.kind,x.int,x.text) (y.kind,y.int,y.text) e
 obtain ⟨k,n,t⟩:=x
 obtain ⟨k',n',t'⟩:=y
 simp at this
 obtain ⟨rfl,rfl,rfl⟩:=this
 rfl
def nullG:GV:=⟨0,0,⟨#[]⟩⟩
def soundG (g:GV):GV:=if g.may then g else nullG
def compareG (a b:GV):Int:=cmpG (soundG a) (soundG b)
/-- Whether an operator asks for that order. -/
def holdsG (op order:Int):Bool:=
 if op=9 then decide (0 < order) else if op=7 then decide (order < 0) else if op=10 then decide (0 ≤ order) else if op=8 then decide (order ≤ 0) else if op=5 then decide (order=0) else decide (order ≠ 0)
/-- What Test tells: a truth, a class (P6.2). -/
def testG (op:Int) (a b:GV):Int × Int:=
 if op < 5 ∨ 10 < op ∨ a.may=false ∨ b.may=false then (0,20)
 else if a.kind=0 ∨ b.kind=0 then (2,0)
 else if a.kind ≠ b.kind then (0,4)
 else if holdsG op (cmpG a b) then (1,0) else (0,0)
theorem bl_cmp:∀ a b:List UInt8,Op.bytesLess a b=decide (compareBytes a b < 0)
 | [],[]=>rfl
 | [],_ :: _=>rfl
 | _ :: _,[]=>rfl
 | a :: x,b :: y=>by
  have ih:=bl_cmp x y
  show (decide (a < b) || (a == b && Op.bytesLess x y))=_
  rw [ih]
  show _=decide ((if a < b then (-1:Int) else if b < a then 1 else compareBytes x y) < 0)
  by_cases h:a < b
  · simp [h]
  · by_cases h':b < a
    · have hne:a ≠ b:=fun e=>by subst e;exact absurd h' (UInt8.lt_irrefl a)
      simp [h,h',hne]
    · have he:a=b:=by
       rw [u8_lt] at h h'
       exact u8_eq (by omega)
      subst he
      simp [h]
end Go.Proofs.YtpnonhjmpnbmcaaGreatDoor
