/- Contracts of value.appendInt, appendKey. -/
import Derived.Test.YtpnonhjmpnbmcaaGreatDoorJErrsAsNumsDecFaultsWriterVErr
import Derived.Test.YtpnonhjmpnbmcaaGreatDoorJXShortVRefTestXR6KMathXWt
import Derived.Lib.AppendStr
import Derived.Test.YtpnonhjmpnbmcaaGreatDoorJVOrdVIsVSum1VTest
import Derived.Test.YtpnonhjmpnbmcaaGreatDoorJVSum3VTest2VKnownKBytesVFewVLaidXBin
namespace Go.Proofs.YtpnonhjmpnbmcaaGreatDoor
open Go.RowKit Go.Lib
open Act (put)
theorem u8_of {n:Nat} (h:n < 256):((n.toUInt8.toNat:Nat):Int)=(n:Int):=by rw [toUInt8_lt h]
theorem be8_cells {L:Nat} (h:L < 18446744073709551616):byteCells (beN 8 L)=[.int .u8 ((L:Int) / 72057594037927936),.int .u8 ((L:Int) / 281474976710656 % 256),.int .u8 ((L:Int) / 1099511627776 % 256),.int .u8 ((L:Int) / 4294967296 % 256),.int .u8 ((L:Int) / 16777216 % 256),.int .u8 ((L:Int) / 65536 % 256),.int .u8 ((L:Int) / 256 % 256),.int .u8 ((L:Int) % 256)]:=by
 simp only[beN,byteCells,List.map_cons,List.map_nil]
 have e0:(L / 256 ^ 7) < 256:=by simp only[Nat.reducePow];omega
 have e1:(L % 256 ^ 7 / 256 ^ 6) < 256:=by simp only[Nat.reducePow];omega
 have e2:(L % 256 ^ 7 % 256 ^ 6 / 256 ^ 5) < 256:=by simp only[Nat.reducePow];omega
 have e3:(L % 256 ^ 7 % 256 ^ 6 % 256 ^ 5 / 256 ^ 4) < 256:=by simp only[Nat.reducePow];omega
 have e4:(L % 256 ^ 7 % 256 ^ 6 % 256 ^ 5 % 256 ^ 4 / 256 ^ 3) < 256:=by simp only[Nat.reducePow];omega
 have e5:(L % 256 ^ 7 % 256 ^ 6 % 256 ^ 5 % 256 ^ 4 % 256 ^ 3 / 256 ^ 2) < 256:=by simp only[Nat.reducePow];omega
 have e6:(L % 256 ^ 7 % 256 ^ 6 % 256 ^ 5 % 256 ^ 4 % 256 ^ 3 % 256 ^ 2 / 256 ^ 1) < 256:=by simp only[Nat.reducePow];omega
 have e7:(L % 256 ^ 7 % 256 ^ 6 % 256 ^ 5 % 256 ^ 4 % 256 ^ 3 % 256 ^ 2 % 256 ^ 1 / 256 ^ 0) < 256:=by simp only[Nat.reducePow];omega
 rw [u8_of e0,u8_of e1,u8_of e2,u8_of e3,u8_of e4,u8_of e5,u8_of e6,u8_of e7]
 simp only[Nat.reducePow]
 have f0:((L / 72057594037927936:Nat):Int)=(L:Int) / 72057594037927936:=by omega
 have f1:((L % 72057594037927936 / 281474976710656:Nat):Int)=(L:Int) / 281474976710656 % 256:=by omega
 have f2:((L % 72057594037927936 % 281474976710656 / 1099511627776:Nat):Int)=(L:Int) / 1099511627776 % 256:=by omega
 have f3:((L % 72057594037927936 % 281474976710656 % 1099511627776 / 4294967296:Nat):Int)=(L:Int) / 4294967296 % 256:=by omega
 have f4:((L % 72057594037927936 % 281474976710656 % 1099511627776 % 4294967296 / 16777216:Nat):Int)=(L:Int) / 16777216 % 256:=by omega
 have f5:((L % 72057594037927936 % 281474976710656 % 1099511627776 % 4294967296 % 16777216 / 65536:Nat):Int)=(L:Int) / 65536 % 256:=by omega
 have f6:((L % 72057594037927936 % 281474976710656 % 1099511627776 % 4294967296 % 16777216 % 65536 / 256:Nat):Int)=(L:Int) / 256 % 256:=by omega
 have f7:((L % 72057594037927936 % 281474976710656 % 1099511627776 % 4294967296 % 16777216 % 65536 % 256 / 1:Nat):Int)=(L:Int) % 256:=by omega
 rw [f0,f1,f2,f3,f4,f5,f6,f7]
theorem one_new2 (w:World) (u:Value) (e:TypeId) {b:Nat} (hb:b=w.heap.size):∀ j v,([u]:List Value)[j]?=some v→(w.alloc (.cells #[u] e)).cell? ((⟨b,0,none⟩:Addr).add j)=some v:=by
 subst hb
 exact one_new w u e
theorem B3.grown {w w':World} {b:Nat} {k n:Int} {t:ByteArray} {o:Option Nat} (h:B3 w b k n t) (hg:w.grownBy w' o) (hne:o ≠ some b):B3 w' b k n t:=by
 have hl:=h.lt
 have e:=hg.block b hl (fun h=>hne h.symm)
 obtain ⟨c0,c1,c2,f0,f1,f2⟩:=h
 exact ⟨(World.cell?_of_block (w:=w) (a:=⟨b,0,none⟩) e).trans c0,(World.cell?_of_block (w:=w) (a:=⟨b,1,none⟩) e).trans c1,(World.cell?_of_block (w:=w) (a:=⟨b,2,none⟩) e).trans c2,(World.frozen?_of_block (w:=w) (a:=⟨b,0,none⟩) e).trans f0,(World.frozen?_of_block (w:=w) (a:=⟨b,1,none⟩) e).trans f1,(World.frozen?_of_block (w:=w) (a:=⟨b,2,none⟩) e).trans f2⟩
theorem own_cast {w:World} {B:Nat} {e:TypeId} {sz:Nat} {v:Value} {n n':Nat} {xs ys:List Value} (h:w.ownsRow B e sz v n xs) (hn:n=n') (hx:xs=ys):w.ownsRow B e sz v n' ys:=by
 subst hn hx;exact h
theorem keyV_len {g:GV} (hg:g.may=true):(keyV g).length ≤ 50:=by
 have hk:=may_kind' hg
 obtain ⟨k,n,t⟩:=g
 dsimp only at hk
 rcases hk with rfl | rfl | rfl | rfl
 · simp [keyV]
 · simp [keyV]
 · simp [keyV,beN_length]
 · obtain ⟨_,ht,_⟩:=may_3 hg
   simp [keyV];omega
theorem keyG_len:∀ (gs:List GV),(∀ g ∈ gs,g.may=true)→(keyG gs).length ≤ 50 * gs.length
 | [],_=>by simp [keyG]
 | g :: r,h=>by
  have ih:=keyG_len r (fun x hx=>h x (List.mem_cons_of_mem _ hx))
  have hg:=keyV_len (h g (List.mem_cons_self))
  show (keyV g ++ keyG r).length ≤ _
  simp;omega
theorem keyG_snoc (gs:List GV) (k:Nat) (g:GV) (h:gs[k]?=some g):keyG (gs.take (k+1))=keyG (gs.take k) ++ keyV g:=by
 rw [List.take_add_one,h];simp [keyG]
theorem own_is {w:World} {B:Nat} {e:TypeId} {sz:Nat} {v:Value} {n:Nat} {xs:List Value} (h:w.ownsRow B e sz v n xs):∃ a k,v=.slice a n k:=by
 rcases h.2 with ⟨rfl,rfl⟩ | ⟨g,cap,cur,rfl,_⟩
 · exact ⟨none,0,rfl⟩
 · exact ⟨_,_,rfl⟩
end Go.Proofs.YtpnonhjmpnbmcaaGreatDoor
