/- Plain facts on bytes and lists, without the program: they serve the proofs about package wire. -/
import Derived.WalkKit
import Derived.Lib.Varint
import Derived.Lib.VarintMem
import Derived.Lib.Zigzag
import Derived.Lib.UnsafeStr
import Derived.Lib.Strings
import Derived.Lib.Case
import Derived.Test.YtpnonhjmpnbmcaaGreatDoorProg
import Derived.Deep.MidRow
import Derived.Deep.WholeRow
import Derived.Great.BuildSlice
import Derived.Deep.RegionHeld3
namespace Go.Proofs.YtpnonhjmpnbmcaaGreatDoor
open Go.RowKit Go.Lib
open Act (put)
theorem V {p:Prop} (h:p):Hid p:=h
theorem U {p:Prop} (h:Hid p):p:=h
/-- The cells of a new block of one value. -/
theorem one_new (w:World) (u:Value) (e:TypeId):∀ j v,([u]:List Value)[j]?=some v→(w.alloc (.cells #[u] e)).cell? ((⟨w.heap.size,0,none⟩:Addr).add j)=some v:=by
 intro j v hj
 match j,hj with
 | 0,hj=>simp at hj;subst hj;simp [Addr.add]
theorem one_cell {k:IntKind} {n:Int}:∀ u ∈ ([Value.int k n]:List Value),u.oneCell'=true:=by
 intro u hu;simp at hu;subst hu;rfl
theorem uv_done {x y:Nat} {done:List UInt8} (hx:x < 18446744073709551616) (h:done ++ uvarint y=uvarint x):done.length ≤ 9:=by
 have h1:=uvarint_length64 hx
 have h2:=uvarint_pos y
 have h3:=congrArg List.length h
 simp at h3;omega
theorem or128_mod (y:Nat):bits BinOp.or IntKind.u8 ((y:Int) % 256) 128=((y % 128+128:Nat):Int):=by
 rw [u8_or128_any _ (by omega) (by omega)];omega
/-- One byte more of a number that has more. -/
theorem uv_more {x y:Nat} {done:List UInt8} (hge:128 ≤ y) (h:done ++ uvarint y=uvarint x):(done ++ [(y % 128+128).toUInt8]) ++ uvarint (y / 128)=uvarint x:=by
 rw [← h,uvarint_big hge];simp
theorem uv_last {x y:Nat} {done:List UInt8} (hlt:y < 128) (h:done ++ uvarint y=uvarint x):done ++ [y.toUInt8]=uvarint x:=by
 rw [← h,uvarint_small hlt]
theorem cells_more (xs:List Value) (done:List UInt8) (y:Nat) :
 xs ++ (byteCells done ++ [Value.int IntKind.u8 (bits BinOp.or IntKind.u8 ((y:Int) % 256) 128)])=xs ++ byteCells (done ++ [(y % 128+128).toUInt8]):=by
 rw [or128_mod,byteCells_snoc done (by omega)]
theorem cells_last (xs:List Value) (done:List UInt8) (y:Nat) (h:y < 128) :
 xs ++ (byteCells done ++ [Value.int IntKind.u8 (y:Int)])=xs ++ byteCells (done ++ [y.toUInt8]):=by
 rw [byteCells_snoc done (by omega)]
theorem own_block_ge {w:World} {B:Nat} {e:TypeId} {s:Nat} {v:Value} {n:Nat} {xs:List Value} (h:w.ownsRow B e s v n xs):∀ k,v.ownBlock=some k→B ≤ k:=fun k hk=>(h.lt k hk).1
theorem ret_int {k:IntKind} {a b:Int} (h:a=b):Ending.returned (.int k a)=.returned (.int k b):=by rw [h]
theorem fold_pos {n:Int} (h0:0 ≤ n) (h1:n < 9223372036854775808):bits BinOp.xor IntKind.u64 (n * 2) (n / 9223372036854775808)=((zigzag n:Nat):Int):=by
 obtain ⟨k,rfl⟩:=Int.eq_ofNat_of_zero_le h0
 have e:((k:Int) / 9223372036854775808)=((0:Nat):Int):=by omega
 have e2:((k:Int) * 2)=((k * 2:Nat):Int):=by omega
 rw [e,e2,bits_xor_u64_nat _ _ (by omega) (by omega),Nat.xor_zero,zigzag_nonneg h0,e2]
theorem fold_neg {n:Int} (h0:n < 0) (h1:-9223372036854775808 ≤ n) :
 bits BinOp.xor IntKind.u64 (IntKind.u64.wrap (IntKind.u64.wrap n * 2)) (IntKind.u64.wrap (n / 9223372036854775808))=((zigzag n:Nat):Int):=by
 have e1:IntKind.u64.wrap (IntKind.u64.wrap n * 2)=(((2 * n+18446744073709551616).toNat:Nat):Int):=by
  rw [IntKind.wrap_u64,IntKind.wrap_u64];omega
 have e2:IntKind.u64.wrap (n / 9223372036854775808)=((2 ^ 64 - 1:Nat):Int):=by
  rw [IntKind.wrap_u64];omega
 rw [e1,e2,bits_xor_u64_nat _ _ (by omega) (by decide),Nat.xor_comm,xor_ones64 _ (by omega)]
 unfold zigzag
 rw [if_neg (by omega)]
 omega
/-- No block but rows of this element type turns. -/
def KeepT (T:TypeId) (w w':World):Prop:=w.heap.size ≤ w'.heap.size∧∀ k,k < w.heap.size→(∀ cur,w.heap[k]? ≠ some (.cells cur T (0,0)))→w'.heap[k]?=w.heap[k]?
theorem KeepT.refl (T:TypeId) (w:World):KeepT T w w:=⟨Nat.le_refl _,fun _ _ _=>rfl⟩
theorem KeepT.trans {T:TypeId} {a b c:World} (h:KeepT T a b) (h':KeepT T b c):KeepT T a c:=
 ⟨Nat.le_trans h.1 h'.1,fun k hk hn=>(h'.2 k (Nat.lt_of_lt_of_le hk h.1) (by rw [h.2 k hk hn];exact hn)).trans (h.2 k hk hn)⟩
theorem KeepT.of_alloc {T:TypeId} (w:World) (o:Obj):KeepT T w (w.alloc o):=⟨by simp,fun k hk _=>Below.heap_alloc w o k hk⟩
theorem KeepT.of_grown {T:TypeId} {w w':World} {B s n:Nat} {v:Value} {xs:List Value} (ho:w.ownsRow B T s v n xs) (hg:w.grownBy w' v.ownBlock):KeepT T w w':=by
 refine ⟨hg.size,fun k hk hn=>hg.block k hk ?_⟩
 intro e
 rcases ho.2 with ⟨rfl,_⟩ | ⟨g,cap,cur,rfl,_,hc,_⟩
 · simp [Value.ownBlock] at e
 · simp [Value.ownBlock] at e
   subst e
   exact hn cur hc
theorem KeepT.of_below {T:TypeId} {w w':World} (h:Below w.heap.size w w'):KeepT T w w':=⟨h.size,fun k hk _=>h.block k hk⟩
/-- Nothing below p turns; above it no block but rows of this element type. -/
def Fr (T:TypeId) (p:Nat) (w w':World):Prop:=
 Below p w w'∧∀ k,k < w.heap.size→k ≠ p→(∀ cur,w.heap[k]? ≠ some (.cells cur T (0,0)))→w'.heap[k]?=w.heap[k]?
theorem Fr.refl (T:TypeId) (p:Nat) (w:World):Fr T p w w:=⟨Below.refl _ _,fun _ _ _ _=>rfl⟩
theorem Fr.trans {T:TypeId} {p:Nat} {a b c:World} (h:Fr T p a b) (h':Fr T p b c):Fr T p a c:=
 ⟨h.1.trans h'.1,fun k hk hp hn=>(h'.2 k (Nat.lt_of_lt_of_le hk h.1.size) hp (by rw [h.2 k hk hp hn];exact hn)).trans (h.2 k hk hp hn)⟩
theorem Fr.of {T:TypeId} {p:Nat} {w w':World} (h:Below p w w') (k:KeepT T w w'):Fr T p w w':=⟨h,fun i hi _ hn=>k.2 i hi hn⟩
theorem Fr.alloc {T:TypeId} {p:Nat} {a w:World} (h:Fr T p a w) (hp:p ≤ w.heap.size) (o:Obj):Fr T p a (w.alloc o):=
 ⟨h.1.alloc hp o,fun k hk hkp hn=>(Below.heap_alloc w o k (Nat.lt_of_lt_of_le hk h.1.size)).trans (h.2 k hk hkp hn)⟩
theorem Fr.setCell {T:TypeId} {p:Nat} {a w:World} (h:Fr T p a w) (j:Nat) (u:Value):Fr T p a (w.setCell ⟨p,j,none⟩ u):=
 ⟨h.1.setCell (Nat.le_refl _) u,fun k hk hkp hn=>(Below.heap_setCell w ⟨p,j,none⟩ u k hkp).trans (h.2 k hk hkp hn)⟩
theorem Fr.below {T:TypeId} {p:Nat} {w w':World} (h:Below w.heap.size w w') (hp:p ≤ w.heap.size):Fr T p w w':=Fr.of (h.mono hp) (KeepT.of_below h)
/-- A cell of a block that is no such row stays. -/
theorem Fr.cell {T:TypeId} {p:Nat} {w w':World} (h:Fr T p w w') {k o:Nat} {cur:Array Value} {T':TypeId} {fz:Nat × Nat} (hb:w.heap[k]?=some (.cells cur T' fz)) (hT:T' ≠ T) (hp:k ≠ p) :
 w'.cell? ⟨k,o,none⟩=w.cell? ⟨k,o,none⟩∧w'.frozen? ⟨k,o,none⟩=w.frozen? ⟨k,o,none⟩∧w'.heap[k]?=some (.cells cur T' fz):=by
 have hk:k < w.heap.size:=by
  rcases Nat.lt_or_ge k w.heap.size with h' | h'
  · exact h'
  · rw [Array.getElem?_eq_none h'] at hb;cases hb
 have e:=h.2 k hk hp (by rw [hb];intro c hc;injection hc with hc;injection hc with _ h2;exact hT h2)
 exact ⟨World.cell?_of_block (w:=w) (a:=⟨k,o,none⟩) e,World.frozen?_of_block (w:=w) (a:=⟨k,o,none⟩) e,e.trans hb⟩
theorem sA {α:Type _} (l:List α) (i:Nat) (a:α):l.toArray.setIfInBounds i a=(l.set i a).toArray:=List.setIfInBounds_toArray l i a
theorem sB {α:Type _} {a b:α} {l:List α}:(a :: l).set 0 b=b :: l:=rfl
theorem sC {α:Type _} {a b:α} {l:List α} {n:Nat}:(a :: l).set (n+1) b=a :: l.set n b:=rfl
/-- Kinds of bytes: 0 nothing, 1 blank, 2 letter, 3 digit, 4 quote, 5 minus, 6 sign. -/
def kdN (n:Nat):Nat:=
 if (97 ≤ n∧n ≤ 122) ∨ (65 ≤ n∧n ≤ 90) ∨ n=95 then 2 else if 48 ≤ n∧n ≤ 57 then 3
 else if n=32 ∨ n=9 ∨ n=10 ∨ n=13 then 1 else if n=39 then 4 else if n=45 then 5
 else if n=40 ∨ n=41 ∨ n=44 ∨ n=59 ∨ n=46 ∨ n=42 ∨ n=43 ∨ n=47 ∨ n=37 ∨ n=61 ∨ n=60 ∨ n=62 ∨ n=124 then 6 else 0
def kd (c:UInt8):Nat:=kdN c.toNat
/-- Whether c belongs to what began with a byte of kind k. -/
def goK (k:Nat) (c:UInt8):Bool:=kd c == 3 || (kd c == 2 && k == 2)
/-- The size of a run that begins here. -/
def runL (k:Nat) (l:List UInt8):Nat:=(l.takeWhile (goK k)).length
/-- Behind a quote: how many bytes up to the quote that ends it, with it. -/
def qEnd:List UInt8→Option Nat
 | []=>none
 | [c]=>if c=39 then some 1 else none
 | c :: d :: r=>if c=39 then (if d=39 then (qEnd r).map (·+2) else some 1) else (qEnd (d :: r)).map (·+1)
/-- What a text says: two quotes as one. -/
def unq:List UInt8→List UInt8
 | []=>[]
 | [c]=>[c]
 | c :: d :: r=>if c=39∧d=39 then 39 :: unq r else c :: unq (d :: r)
/-- The first place of a byte. -/
def idx (x:UInt8):List UInt8→Option Nat
 | []=>none
 | c :: r=>if c=x then some 0 else (idx x r).map (·+1)
/-- The size of the longest sign; 0, if there is none. -/
def sgL:List UInt8→Nat
 | []=>0
 | c :: r=>if c=124 then (if r.head?=some 124 then 2 else 0) else if c=60∧r.head?=some 62 then 2 else if (c=60 ∨ c=62)∧r.head?=some 61 then 2 else 1
/-- What stands at the beginning: the kind of the token (0: none) and its size, or the place of a fault. -/
def pieceL:List UInt8→Except Nat (Nat × Nat)
 | []=>.error 0
 | c :: r=>
  if kd c=1 then .ok (0,1)
  else if kd c=2 then .ok (1,runL 2 r+1)
  else if kd c=3 then .ok (3,runL 3 r+1)
  else if kd c=4 then (match qEnd r with
   | none=>.error 0
   | some n=>match idx 0 (r.take n) with
    | none=>.ok (4,n+1)
    | some i=>.error (i+1))
  else if kd c=5 then (if r.head?=some 45 then .ok (0,(idx 10 (c :: r)).getD (r.length+1)) else .ok (5,1))
  else if kd c=6 then (if sgL (c :: r)=0 then .error 0 else .ok (5,sgL (c :: r)))
  else .error 0
def upL (l:List UInt8):List UInt8:=l.map upperB
def loL (l:List UInt8):List UInt8:=l.map lowerB
/-- A number without noughts ahead. -/
def numL (l:List UInt8):List UInt8:=(l.take (l.length - 1)).dropWhile (· == 48) ++ l.drop (l.length - 1)
def wordsL:List (List UInt8):=[[65,78,68],[65,83],[65,83,67],[66,69,84,87,69,69,78],[66,79,79,76],[66,89],[67,65,83,69],[67,79,85,78,84],[67,82,69,65,84,69],[68,69,76,69,84,69],[68,69,83,67],[68,73,83,84,73,78,67,84],[68,82,79,80],[69,76,83,69],[69,78,68],[70,65,76,83,69],[70,82,79,77],[71,82,79,85,80],[72,65,86,73,78,71],[73,78],[73,78,68,69,88],[73,78,83,69,82,84],[73,78,84],[73,78,84,79],[73,83],[74,79,73,78],[75,69,89],[76,69,70,84],[76,73,77,73,84],[77,65,88],[77,73,78],[78,79,84],[78,85,76,76],[79,78],[79,82],[79,82,68,69,82],[80,82,73,77,65,82,89],[83,69,76,69,67,84],[83,69,84],[83,85,77],[84,65,66,76,69],[84,69,88,84],[84,72,69,78],[84,82,85,69],[85,78,73,81,85,69],[85,80,68,65,84,69],[86,65,76,85,69,83],[87,72,69,78],[87,72,69,82,69]]
/-- What a piece says: its kind and its text. -/
def tokL (k:Nat) (l:List UInt8):Nat × List UInt8:=
 if k=1 then (if wordsL.contains (upL l) then (2,upL l) else (1,loL l))
 else if k=3 then (3,numL l)
 else if k=4 then (4,unq ((l.drop 1).take (l.length - 2)))
 else (k,l)
structure Tk where
 kind:Nat
 text:List UInt8
 pos:Nat
/-- The tokens of l, which begins at place a of the statement; or the place of the first fault. -/
def lexF:Nat→List UInt8→Nat→Except Nat (List Tk)
 | 0,_,_=>.ok []
 | n+1,l,a=>if l=[] then .ok [] else match pieceL l with
  | .error e=>.error (a+e)
  | .ok (k,m)=>match lexF n (l.drop m) (a+m) with
   | .error e=>.error e
   | .ok t=>.ok (if k=0 then t else ⟨(tokL k (l.take m)).1,(tokL k (l.take m)).2,a⟩ :: t)
def lexL (l:List UInt8) (a:Nat):Except Nat (List Tk):=lexF l.length l a
theorem qEnd_bounds:∀ (l:List UInt8) (n:Nat),qEnd l=some n→1 ≤ n∧n ≤ l.length
 | [],n,h=>by simp [qEnd] at h
 | [c],n,h=>by
  rw [qEnd] at h
  split at h
  · injection h with h;simp;omega
  · cases h
 | c :: d :: r,n,h=>by
  rw [qEnd] at h
  split at h
  · split at h
    · cases hq:qEnd r with
      | none=>rw [hq] at h;cases h
      | some m=>
       rw [hq] at h
       have:=qEnd_bounds r m hq
       rw [Option.map_some] at h
       injection h with h
       simp only[List.length_cons];omega
    · injection h with h;simp only[List.length_cons];omega
  · cases hq:qEnd (d :: r) with
    | none=>rw [hq] at h;cases h
    | some m=>
     rw [hq] at h
     have:=qEnd_bounds (d :: r) m hq
     rw [Option.map_some] at h
     injection h with h
     simp only[List.length_cons] at this ⊢;omega
theorem idx_lt (x:UInt8):∀ (l:List UInt8) (i:Nat),idx x l=some i→i < l.length
 | [],i,h=>by cases h
 | c :: r,i,h=>by
  rw [idx] at h
  split at h
  · injection h with h;simp only[List.length_cons];omega
  · cases hq:idx x r with
    | none=>rw [hq] at h;cases h
    | some m=>
     rw [hq] at h
     have:=idx_lt x r m hq
     rw [Option.map_some] at h
     injection h with h
     simp only[List.length_cons];omega
theorem takeWhile_le (p:UInt8→Bool) (l:List UInt8):(l.takeWhile p).length ≤ l.length:=(List.takeWhile_sublist p).length_le
theorem sgL_le (c:UInt8) (r:List UInt8):sgL (c :: r) ≤ r.length+1:=by
 rw [sgL]
 have h1:∀ x:UInt8,r.head?=some x→1 ≤ r.length:=by intro x hx;cases r <;> simp at hx ⊢
 split
 · split
   · rename_i h;have:=h1 _ h;omega
   · omega
 · split
   · rename_i h;have:=h1 _ h.2;omega
   · split
     · rename_i h;have:=h1 _ h.2;omega
     · omega
theorem remark_size {c:UInt8} {r:List UInt8} (h:kd c=5):1 ≤ (idx 10 (c :: r)).getD (r.length+1)∧(idx 10 (c :: r)).getD (r.length+1) ≤ r.length+1:=by
 cases hi:idx 10 (c :: r) with
 | none=>simp
 | some i=>
  have h1:=idx_lt 10 _ i hi
  rw [idx,if_neg (by intro e;subst e;revert h;decide)] at hi
  cases hq:idx 10 r with
  | none=>rw [hq] at hi;cases hi
  | some j=>
   rw [hq,Option.map_some] at hi
   injection hi with hi
   simp only[List.length_cons,Option.getD_some] at h1 ⊢;omega
theorem piece_size {l:List UInt8} {k m:Nat} (h:pieceL l=.ok (k,m)):1 ≤ m∧m ≤ l.length:=by
 cases l with
 | nil=>cases h
 | cons c r=>
  rw [pieceL] at h
  simp only[List.length_cons]
  by_cases h1:kd c=1
  · rw [if_pos h1] at h;injection h with h;injection h with h1 h2;omega
  rw [if_neg h1] at h
  by_cases h2:kd c=2
  · rw [if_pos h2] at h;injection h with h;injection h with h1 h2
    have:=takeWhile_le (goK 2) r
    unfold runL at h2;omega
  rw [if_neg h2] at h
  by_cases h3:kd c=3
  · rw [if_pos h3] at h;injection h with h;injection h with h1 h2
    have:=takeWhile_le (goK 3) r
    unfold runL at h2;omega
  rw [if_neg h3] at h
  by_cases h4:kd c=4
  · rw [if_pos h4] at h
    cases hq:qEnd r with
    | none=>rw [hq] at h;cases h
    | some n=>
     rw [hq] at h
     have:=qEnd_bounds r n hq
     cases hi:idx 0 (r.take n) with
     | none=>simp only[hi] at h;injection h with h;injection h with h1 h2;omega
     | some i=>simp only[hi] at h;cases h
  rw [if_neg h4] at h
  by_cases h5:kd c=5
  · rw [if_pos h5] at h
    have:=remark_size (r:=r) h5
    split at h
    · injection h with h;injection h with h1 h2;omega
    · injection h with h;injection h with h1 h2;omega
  rw [if_neg h5] at h
  by_cases h6:kd c=6
  · rw [if_pos h6] at h
    have:=sgL_le c r
    split at h
    · cases h
    · injection h with h;injection h with h1 h2;omega
  · rw [if_neg h6] at h;cases h
theorem lexF_more:∀ (n m:Nat) (l:List UInt8) (a:Nat),l.length ≤ n→l.length ≤ m→lexF n l a=lexF m l a
 | 0,0,_,_,_,_=>rfl
 | 0,m+1,l,a,hn,_=>by
  have:l=[]:=List.eq_nil_of_length_eq_zero (by omega)
  subst this;simp [lexF]
 | n+1,0,l,a,_,hm=>by
  have:l=[]:=List.eq_nil_of_length_eq_zero (by omega)
  subst this;simp [lexF]
 | n+1,m+1,l,a,hn,hm=>by
  unfold lexF
  split
  · rfl
  · cases hp:pieceL l with
    | error e=>rfl
    | ok km=>
     obtain ⟨k,j⟩:=km
     have:=piece_size hp
     simp only
     rw [lexF_more n m (l.drop j) (a+j) (by simp;omega) (by simp;omega)]
theorem lexL_nil (a:Nat):lexL [] a=.ok []:=rfl
theorem lexL_error {l:List UInt8} {e:Nat} (a:Nat) (h0:l ≠ []) (h:pieceL l=.error e):lexL l a=.error (a+e):=by
 cases l with
 | nil=>exact absurd rfl h0
 | cons c r=>
  unfold lexL
  simp only[List.length_cons,lexF]
  rw [if_neg h0,h]
theorem lexL_ok {l:List UInt8} {k m:Nat} (a:Nat) (h:pieceL l=.ok (k,m)):lexL l a=match lexL (l.drop m) (a+m) with
 | .error e=>.error e
 | .ok t=>.ok (if k=0 then t else ⟨(tokL k (l.take m)).1,(tokL k (l.take m)).2,a⟩ :: t):=by
 have hs:=piece_size h
 cases l with
 | nil=>cases h
 | cons c r=>
  unfold lexL
  conv=>lhs;simp only[List.length_cons,lexF]
  rw [if_neg (by simp),h]
  simp only
  rw [lexF_more r.length ((c :: r).drop m).length _ _ (by simp at hs ⊢;omega) (Nat.le_refl _)]
/-- What was told so far, and the rest. -/
def joinT (acc:List Tk):Except Nat (List Tk)→Except Nat (List Tk)
 | .error e=>.error e
 | .ok t=>.ok (acc ++ t)
theorem joinT_nil (x:Except Nat (List Tk)):joinT [] x=x:=by cases x <;> rfl
theorem joinT_step {l:List UInt8} {k m:Nat} (acc:List Tk) (a:Nat) (h:pieceL l=.ok (k,m)) :
 joinT acc (lexL l a)=joinT (if k=0 then acc else acc ++ [⟨(tokL k (l.take m)).1,(tokL k (l.take m)).2,a⟩]) (lexL (l.drop m) (a+m)):=by
 rw [lexL_ok a h]
 cases lexL (l.drop m) (a+m) with
 | error e=>rfl
 | ok t=>
  by_cases hk:k=0
  · simp only[if_pos hk]
  · simp only[if_neg hk];simp [joinT]
theorem byte_all {p:UInt8→Prop} (h:∀ i:Fin 256,p (UInt8.ofNat i.val)):∀ c,p c:=fun c=>by
 have:=h ⟨c.toNat,c.toNat_lt⟩
 simpa using this
theorem lexL_blank {c:UInt8} (h:kd c=1) (l:List UInt8) (a:Nat):lexL (c :: l) a=lexL l (a+1):=by
 have hp:pieceL (c :: l)=.ok (0,1):=by rw [pieceL,if_pos h]
 rw [lexL_ok a hp]
 simp only[List.drop_succ_cons,List.drop_zero]
 cases lexL l (a+1) <;> rfl
theorem kd2_go:∀ c:UInt8,kd c=2→goK 2 c=true:=byte_all (by decide +kernel)
theorem qEnd_none {c:UInt8} (h:c ≠ 39) (r:List UInt8):qEnd (c :: r)=(qEnd r).map (·+1):=by
 cases r with
 | nil=>show (if c=39 then some 1 else none)=none;rw [if_neg h]
 | cons d q=>rw [qEnd,if_neg h]
theorem tok5 (l:List UInt8):tokL 5 l=(5,l):=rfl
theorem xret_bool {a b:Bool} (h:a=b):Ending.returned (.bool a)=.returned (.bool b):=by rw [h]
theorem letter_any (c:UInt8) (w:World):Calls Tryz.prog 140 #[.int .u8 (c.toNat:Int)] w fun e w'=>e=.returned (.bool (kd c == 2))∧w'=w:=by
 obtain ⟨n,hn⟩:∃ n,n=c.toNat:=⟨_,rfl⟩
 obtain ⟨b,hb⟩:∃ b,b=(kd c == 2):=⟨_,rfl⟩
 have hk:b=decide ((97 ≤ n∧n ≤ 122) ∨ (65 ≤ n∧n ≤ 90) ∨ n=95):=by
  rw [hb]
  unfold kd kdN
  rw [← hn]
  by_cases h:(97 ≤ n∧n ≤ 122) ∨ (65 ≤ n∧n ≤ 90) ∨ n=95
  · simp [h]
  · rw [if_neg h,decide_eq_false h]
    repeat' split
    all_goals rfl
 rw [← hb,← hn]
 have HK:=V hk
 clear hb hn hk
 go_enter Tryz.func140,Tryz.ntmps140
 go_wp2_with fail
 all_goals
  go_ret
  exact ⟨xret_bool (by rw [U HK];by_cases h:(97 ≤ n∧n ≤ 122) ∨ (65 ≤ n∧n ≤ 90) ∨ n=95 <;> simp [h] <;> omega),rfl⟩
theorem digit_any (c:UInt8) (w:World):Calls Tryz.prog 132 #[.int .u8 (c.toNat:Int)] w fun e w'=>e=.returned (.bool (kd c == 3))∧w'=w:=by
 obtain ⟨n,hn⟩:∃ n,n=c.toNat:=⟨_,rfl⟩
 obtain ⟨b,hb⟩:∃ b,b=(kd c == 3):=⟨_,rfl⟩
 have hk:b=decide (48 ≤ n∧n ≤ 57):=by
  rw [hb]
  unfold kd kdN
  rw [← hn]
  by_cases h:48 ≤ n∧n ≤ 57
  · rw [if_neg (by omega),if_pos h,decide_eq_true h];rfl
  · rw [if_neg h,decide_eq_false h]
    repeat' split
    all_goals rfl
 rw [← hb,← hn]
 have HK:=V hk
 clear hb hn hk
 go_enter Tryz.func132,Tryz.ntmps132
 go_wp2_with fail
 all_goals
  go_ret
  exact ⟨xret_bool (by rw [U HK];by_cases h:48 ≤ n∧n ≤ 57 <;> simp [h] <;> omega),rfl⟩
def sv (l:List UInt8):Value:=.string ⟨l.toArray⟩
theorem words_any (w:World):Calls Tryz.prog 174 #[] w fun e w'=>e=.returned (.slice (some ⟨w.heap.size,0,none⟩) 49 49)∧w'=w.alloc (.cells (wordsL.map sv).toArray 9):=by
 go_enter Tryz.func174,Tryz.ntmps174
 go_wp2_with fail
 go_ret
 exact ⟨rfl,rfl⟩
theorem words_len:wordsL.length=49:=rfl
theorem words_cell (w:World) (k:Nat) (g:List UInt8) (h:wordsL[k]?=some g):(w.alloc (.cells (wordsL.map sv).toArray 9)).cell? ⟨w.heap.size,k,none⟩=some (sv g):=by
 rw [World.cell?_alloc_new] <;> simp [h]
theorem isWord_any (t:List UInt8) (w:World):Calls Tryz.prog 133 #[sv t] w fun e w'=>e=.returned (.bool (wordsL.contains t))∧Below w.heap.size w w':=by
 obtain ⟨W,hW⟩:∃ W,W=w.alloc (.cells (wordsL.map sv).toArray 9):=⟨_,rfl⟩
 have HC:Hid (∀ k g,wordsL[k]?=some g→W.cell? ⟨w.heap.size,k,none⟩=some (sv g)):=by rw [hW];exact fun k g h=>words_cell w k g h
 have HB:Hid (Below w.heap.size w W):=by rw [hW];exact (Below.refl _ _).alloc (Nat.le_refl _) _
 have HW:Hid (Calls Tryz.prog 174 #[] w fun e w'=>e=.returned (.slice (some ⟨w.heap.size,0,none⟩) 49 49)∧w'=W):=by rw [hW];exact words_any w
 clear hW
 unfold sv
 go_enter Tryz.func133,Tryz.ntmps133
 go_wp2_with (go_at_call 174;refine (U HW).mono ?_;clear HW;rintro e w1 ⟨rfl,rfl⟩)
 go_loopw [4] (fun i wr=>∃ k:Nat,k ≤ 49∧i=.int .i64 k∧wr=w1∧Hid ((wordsL.take k).contains t=false)) (fun i _=>49 - (intOf i).toNat)
 case atStart=>exact ⟨0,by omega,rfl,rfl,rfl⟩
 case round=>
  obtain ⟨k,hk,rfl,rfl,HN⟩:=hrel
  by_cases hlt:k < 49
  · obtain ⟨g,hg⟩:∃ g,wordsL[k]?=some g:=⟨wordsL[k],List.getElem?_eq_getElem (by rw [words_len];exact hlt)⟩
    have HG:=V hg
    have c0:=U HC k g hg
    unfold sv at c0
    have hki:(k:Int) < 49:=by omega
    have hk0:(0:Int) ≤ (k:Int):=by omega
    clear hg HC
    by_cases he:g=t
    · have hq:(g == t)=true:=by simp [he]
      go_wp2_with fail
      go_ret
      refine ⟨xret_bool ?_,U HB⟩
      rw [← he]
      exact (List.contains_iff_mem.2 (List.mem_of_getElem? (U HG))).symm
    · have hq:(g == t)=false:=by simp [he]
      go_wp2_with fail
      go_roundw
      case rel=>exact ⟨k+1,by omega,by go_num,trivial,by
       have h:=U HN
       show (wordsL.take (k+1)).contains t=false
       rw [List.take_add_one,U HG,Option.toList_some,List.contains_eq_mem] at *
       simp at h ⊢
       exact ⟨h,fun e=>he e.symm⟩⟩
      case measure=>simp [intOf];omega
  · go_wp2_with fail
    go_ret
    refine ⟨xret_bool ?_,U HB⟩
    have h:=U HN
    rw [List.take_of_length_le (by rw [words_len];omega)] at h
    exact h.symm
theorem setCells_pre (w:World) (T:TypeId):∀ (pre zs cs:List Value),zs.length=cs.length→(w.alloc (.cells (pre ++ zs).toArray T)).setCells w.heap.size pre.length cs=w.alloc (.cells (pre ++ cs).toArray T)
 | pre,[],[],_=>rfl
 | pre,z :: zs,c :: cs,h=>by
  have ih:=setCells_pre w T (pre ++ [c]) zs cs (by simpa using h)
  rw [World.setCells,World.setCell_alloc_new]
  have e:(pre ++ z :: zs).toArray.setIfInBounds pre.length c=(pre ++ [c] ++ zs).toArray:=by
   simp
  rw [e]
  have e2:pre.length+1=(pre ++ [c]).length:=by simp
  rw [e2,ih]
  simp
 | _,[],_ :: _,h=>by simp at h
 | _,_ :: _,[],h=>by simp at h
theorem setCells_new (w:World) (T:TypeId) (zs:Array Value) (cs:List Value) (h:zs.size=cs.length):(w.alloc (.cells zs T)).setCells w.heap.size 0 cs=w.alloc (.cells cs.toArray T):=by
 have:=setCells_pre w T [] zs.toList cs (by simpa using h)
 simpa using this
/-- An operation of a plain region that only tells a value. -/
theorem list_to {P:Program} {ops:Array Oper} {Q:Exit→Act→World→Prop} {rest:List Oper} {o:Oper} {a:Act} {w:World} {d:Nat} {v:Value} (hgd:o.guard=none) (hd:o.dst=some d) (hrun:(execOp a.eval o).run P w=.ok (.value v) w) (h:wpList P ops Q rest (a.put (some d) v) w):wpList P ops Q (o :: rest) a w:=
 wpList_plain hgd fun K hK=>by
  unfold Oper.wp
  rw [hrun]
  show K (a.put o.dst v) w
  rw [hd]
  exact hK _ _ h
theorem list_call {P:Program} {ops:Array Oper} {rest:List Oper} {o:Oper} {a:Act} {w:World} {Q:Exit→Act→World→Prop} {Post:Ending→World→Prop} (hg:o.guard=none) (d:Option Tmp) (hd:o.dst=d) (f:FuncId) (args:Array Value)
 (hrun:(execOp a.eval o).run P w=.ok (.enter f args) w) (hc:Calls P f args w Post) (h:∀ e w',Post e w'→∃ v,e=.returned v∧wpList P ops Q rest (a.put d v) w'):wpList P ops Q (o :: rest) a w:=by
 subst hd
 refine wpList_plain hg fun K hK=>?_
 unfold Oper.wp
 rw [hrun,Oper.upon_enter]
 refine hc.mono fun e w'' hh=>?_
 obtain ⟨v,rfl,h2⟩:=h e w'' hh
 exact hK _ _ h2
theorem list_new {P:Program} {ops:Array Oper} {rest:List Oper} {o:Oper} {a:Act} {w:World} {Q:Exit→Act→World→Prop} (hgd:o.guard=none) (ty:TypeId) (ho:o.op=.alloc ty) (cs:Array Value) (hz:∀ w,(zeroValue ty).run P w=.ok (.agg cs) w)
 (h:wpList P ops Q rest (a.put o.dst (.pointer (some ⟨w.heap.size,0,none⟩))) (w.alloc (.cells cs ty))):wpList P ops Q (o :: rest) a w:=
 wpList_plain hgd fun K hK=>by
  unfold Oper.wp execOp
  simp only[ho,Instr.alloc,Sem.run_bind,hz,Sem.run_pure,Result.andThen_ok,newVar,newRow,run_newObj_alloc,Value.cells]
  exact hK _ _ h
theorem op_call {P:Program} {o:Oper} {a:Act} {w:World} {K:Act→World→Prop} {Q:Exit→Act→World→Prop} {Post:Ending→World→Prop} (d:Option Tmp) (hd:o.dst=d) (f:FuncId) (args:Array Value)
 (hrun:(execOp a.eval o).run P w=.ok (.enter f args) w) (hc:Calls P f args w Post) (h:∀ e w',Post e w'→∃ v,e=.returned v∧K (a.put d v) w'):o.wp P a w K Q:=by
 subst hd
 unfold Oper.wp
 rw [hrun,Oper.upon_enter]
 refine hc.mono fun e w'' hh=>?_
 obtain ⟨v,rfl,h2⟩:=h e w'' hh
 exact h2
theorem op_new {P:Program} {o:Oper} {a:Act} {w:World} {K:Act→World→Prop} {Q:Exit→Act→World→Prop} (d:Option Tmp) (hd:o.dst=d) (ty:TypeId) (ho:o.op=.alloc ty) (cs:Array Value) (hz:∀ w,(zeroValue ty).run P w=.ok (.agg cs) w)
 (h:K (a.put d (.pointer (some ⟨w.heap.size,0,none⟩))) (w.alloc (.cells cs ty))):o.wp P a w K Q:=by
 subst hd
 unfold Oper.wp execOp
 simp only[ho,Instr.alloc,Sem.run_bind,hz,Sem.run_pure,Result.andThen_ok,newVar,newRow,run_newObj_alloc,Value.cells]
 exact h
theorem op_store {P:Program} {o:Oper} {a:Act} {w:World} {K:Act→World→Prop} {Q:Exit→Act→World→Prop} (hd:o.dst=none) (ty:TypeId) (x y:Operand) (ho:o.op=.store ty x y)
 (b i:Nat) (M:List Value) (hx:a.eval x=.pointer (some ⟨b,i,none⟩)) (hy:a.eval y=.agg M.toArray)
 (ht:w.there b i M.toArray.size) (hi:(P.info? ty).map (·.size)=some M.toArray.size) (h1:M.toArray.all (·.oneCell')=true)
 (h:K a (w.setCells b i M)):o.wp P a w K Q:=by
 refine wp_store_mid ty x y ho b i M.toArray hx hy ht hi h1 ?_
 rw [hd]
 exact h
section
variable {P:Program} {ops:Array Oper} {Q:Exit→Act→World→Prop} {md:Region.Mode} {S:World→Prop}
/-- Two operations are ready: either may be next. -/
theorem any_two {i j:Nat} {oi oj:Oper} {fuel:Nat} {listed:Array Bool} {a:Act} {w:World} (hr:Region.ready md ops listed=[i,j]) (hi:ops[i]?=some oi) (hj:ops[j]?=some oj)
 (h1:∀ K':Act→World→Prop,Shut (∀ a w,S w→(S w→wpAnyH P md ops Q S fuel (listed.setIfInBounds i true) a w)→K' a w)→if Region.wanted oi (yielded ops a.tmps)=true then Oper.wp P oi a w K' Q else K' (a.put oi.dst undef) w)
 (h2:∀ K':Act→World→Prop,Shut (∀ a w,S w→(S w→wpAnyH P md ops Q S fuel (listed.setIfInBounds j true) a w)→K' a w)→if Region.wanted oj (yielded ops a.tmps)=true then Oper.wp P oj a w K' Q else K' (a.put oj.dst undef) w):wpAnyH P md ops Q S (fuel+1) listed a w:=
 wpAnyH_ready hr (by simp) (AllReadyH.cons hi h1 (AllReadyH.cons hj h2 AllReadyH.nil))
end
section
variable {P:Program} {ops:Array Oper} {Q:Exit→Act→World→Prop} {rest:List Oper} {o:Oper} {a:Act} {w:World}
theorem list_skip {d:Nat} (hd:o.dst=some d) (hg:Region.wanted o (yielded ops a.tmps)=false) (h:wpList P ops Q rest (a.put (some d) undef) w):wpList P ops Q (o :: rest) a w:=
 wpList_step fun K hK=>by
  rw [if_neg (by rw [hg];decide),hd]
  exact hK _ _ h
theorem list_want {d:Nat} {v:Value} (hd:o.dst=some d) (hg:Region.wanted o (yielded ops a.tmps)=true) (hrun:(execOp a.eval o).run P w=.ok (.value v) w) (h:wpList P ops Q rest (a.put (some d) v) w):wpList P ops Q (o :: rest) a w:=
 wpList_step fun K hK=>by
  rw [if_pos hg]
  unfold Oper.wp
  rw [hrun]
  show K (a.put o.dst v) w
  rw [hd]
  exact hK _ _ h
end
theorem lt {P : Program} {ops : Array Oper} {Q : Exit → Act → World → Prop} {rest : List Oper} {o : Oper} {a : Act} {w : World} (d : Nat) (v : Value) (h : wpList P ops Q rest (a.put (some d) v) w) (h1 : o.guard = none := by rfl) (h2 : o.dst = some d := by rfl) (h3 : (execOp a.eval o).run P w = .ok (.value v) w := by kernel_rfl) : wpList P ops Q (o :: rest) a w := list_to h1 h2 h3 h
end Go.Proofs.YtpnonhjmpnbmcaaGreatDoor
