/- A text and a row of values that come in as arguments of ExprTells. -/
import Derived.Test.YtpnonhjmpnbmcaaGreatDoorXTells
import Derived.Test.YtpnonhjmpnbmcaaGreatDoorJVSum3VTest2VKnownKBytesVFewVLaidXBin
import Derived.Deep.Strs
namespace Go.Proofs.YtpnonhjmpnbmcaaGreatDoor
open Go.ChangeShapes Go.WideShapes Go.ChangeAt Go.RowKit Go.Lib
open Act (put)
set_option maxRecDepth 100000
theorem xv_list {α:Type} (Q:Nat→α→Prop):∀ n,(∀ i,i < n→∃ g,Q i g)→∃ gs:List α,gs.length=n∧∀ i g,gs[i]?=some g→Q i g:=by
 intro n
 induction n with
 | zero=>intro _;exact ⟨[],rfl,fun i g h=>by simp at h⟩
 | succ n ih=>
  intro h
  obtain ⟨gs,hl,hg⟩:=ih fun i hi=>h i (by omega)
  obtain ⟨g,hq⟩:=h n (by omega)
  refine ⟨gs ++ [g],by simp [hl],fun i x hx=>?_⟩
  rcases Nat.lt_trichotomy i n with hi | hi | hi
  · rw [List.getElem?_append_left (by omega)] at hx;exact hg i x hx
  · subst hi
    rw [List.getElem?_append_right (by omega),hl] at hx
    simp at hx;subst hx;exact hq
  · rw [List.getElem?_eq_none (by simp;omega)] at hx;cases hx
theorem xv_three {α:Type} {cs:List α} (h:cs.length=3):∃ a b c,cs=[a,b,c]:=by
 match cs,h with
 | [a,b,c],_=>exact ⟨a,b,c,rfl⟩
theorem xv_c3:Tryz.prog.cellsOf 26=3:=by kernel_rfl
theorem xv_cs:Tryz.prog.cellsOf 9=1:=by kernel_rfl
theorem xv_c64:Tryz.prog.cellsOf 2=1:=by kernel_rfl
theorem xv_ci:Tryz.prog.cellsOf 3=1:=by kernel_rfl
section
variable {H:Type} {enc:TypeId × Value→H} {W:World} {base:Nat} {sp:Nat→Bool} {hd:Bool}
theorem xv_val {fuel:Nat} {cs:List Value} {x:DataW H × List MemPlace} (h:DataW.trod enc Tryz.prog W base sp hd fuel 26 cs=some x) :
 ∃ g:GV,g.ok∧cs=[.int .i64 g.kind,.int .i64 g.int,.string g.text]:=by
 obtain ⟨y0,y1,y2,n,_,hl,h0,h1,h2⟩:=Go.Deep.trod_struct3 Tryz.underlying26 h
 rw [xv_c3] at hl
 obtain ⟨a,b,c,rfl⟩:=xv_three hl
 simp [xv_cs,xv_c64,xv_ci] at h0 h1 h2
 obtain ⟨k,e0,_,_⟩:=DataW.trod_int Tryz.underlying3 h0
 obtain ⟨i,e1,_,w1⟩:=DataW.trod_int Tryz.underlying2 h1
 obtain ⟨t,e2,_,w2⟩:=DataW.trod_string Tryz.underlying9 h2
 simp at e0 e1 e2
 subst e0 e1 e2
 have:=bounds_i64 w1
 exact ⟨⟨k,i,t⟩,⟨by dsimp only;omega,by dsimp only;omega,w2⟩,rfl⟩
theorem xv_addr {b0:Nat} {a:Addr} {len cap:Nat} (h:Value.okWide Tryz.prog W .any b0 22 (.slice (some a) len cap)):a.spot=none∧a.block < W.heap.size:=by
 simp only[Value.okWide,Tryz.underlying22,Cell.okWide,Cell.ok] at h
 obtain ⟨_,_,_,h2,row,cells,h3,_⟩:=h
 refine ⟨h2,?_⟩
 rcases Nat.lt_or_ge a.block W.heap.size with h' | h'
 · exact h'
 · simp [World.shape?,Array.getElem?_eq_none h'] at h3
theorem xv_in {b0:Nat} {a:Option Addr} {len cap:Nat} {d:DataW H} {ps:List MemPlace}
 (hv:Value.okWide Tryz.prog W .any b0 22 (.slice a len cap)) (hT:DataW.Trod enc Tryz.prog W base sp hd 22 (.slice a len cap) d ps) :
 ∃ gs:List GV,RVk W a len cap gs:=by
 obtain ⟨fuel,hf⟩:=hT
 rcases DataW.trod_slice Tryz.underlying22 hf with ⟨hcs,_⟩ | ⟨x,l,c,elems,rest,n,_,hcs,_,hb,hl,hm,hlen,hel,_⟩
 · simp [Value.cells] at hcs
   obtain ⟨rfl,rfl,rfl⟩:=hcs
   exact ⟨[],rfl,Nat.le_refl _,Nat.zero_le _,fun g hg=>(by cases hg),.inl rfl⟩
 · simp [Value.cells] at hcs
   obtain ⟨rfl,rfl,rfl⟩:=hcs
   obtain ⟨hs,hblk⟩:=xv_addr hv
   obtain ⟨b,off,spot⟩:=x
   simp only at hs
   subst hs
   rw [xv_c3] at hel
   have each:∀ i,i < len→∃ g:GV,g.ok∧W.rangeAt b (off+3 * i) (gvC g):=by
    intro i hi
    have he:=hel i hi
    rw [List.getElem?_eq_getElem (by omega),Option.bind_eq_some_iff] at he
    obtain ⟨cs,hc,ht⟩:=he
    obtain ⟨g,hg,rfl⟩:=xv_val ht
    obtain ⟨_,_,hcell⟩:=World.cells?_some hc
    rw [Go.WideShapes.add_plain] at hcell
    have c0:=hcell 0 (by omega)
    have c1:=hcell 1 (by omega)
    have c2:=hcell 2 (by omega)
    rw [Go.WideShapes.add_plain] at c0 c1 c2
    refine ⟨g,hg,fun j v hj=>?_⟩
    rw [Nat.mul_comm 3 i]
    match j,hj with
    | 0,hj=>injection hj with hj;subst hj;simpa using c0
    | 1,hj=>injection hj with hj;subst hj;simpa using c1
    | 2,hj=>injection hj with hj;subst hj;simpa using c2
    | j+3,hj=>simp [gvC] at hj
   obtain ⟨gs,hgl,hgs⟩:=xv_list _ len each
   refine ⟨gs,hgl.symm,by omega,by omega,fun g hg=>?_,.inr ⟨b,off,rfl,hblk,fun i g hg=>(hgs i g hg).2⟩⟩
   obtain ⟨i,hi⟩:=List.mem_iff_getElem?.1 hg
   exact (hgs i g hi).1
end
theorem tells_in (w:World) (hE:ET w) (s:ByteArray) (hs:s.size ≤ maxLen) (a:Option Addr) (n k:Nat) (gs:List GV) (h:RVk w a n k gs):Calls Tryz.prog 3 #[.string s,.slice a n k] w (TeP w):=by
 have e:Value.string s=sv s.data.toList:=by
  unfold sv
  congr 1
 rw [e]
 exact tells_any w hE s.data.toList (by simpa using hs) a n k gs h
end Go.Proofs.YtpnonhjmpnbmcaaGreatDoor
