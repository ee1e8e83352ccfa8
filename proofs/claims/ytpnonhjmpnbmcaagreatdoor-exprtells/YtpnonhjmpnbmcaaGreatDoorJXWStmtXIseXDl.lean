/- consistoryworld.Stmt of a DELETE. -/
import Derived.Test.YtpnonhjmpnbmcaaGreatDoorXParse
import Derived.Test.YtpnonhjmpnbmcaaGreatDoorJXPar4XPar5XName
import Derived.Test.YtpnonhjmpnbmcaaGreatDoorKRef
namespace Go.Proofs.YtpnonhjmpnbmcaaGreatDoor
open Go.RowKit Go.Lib
open Act (put)
set_option linter.unusedSimpArgs false
set_option maxHeartbeats 12800000
set_option maxRecDepth 100000
set_option linter.unusedVariables false
/-- What it tells: a statement whose Where is the text's condition. -/
def WsP (l:List UInt8) (w:World) (e:Ending) (w':World):Prop:=
 ∃ (k:Int) (nm:List UInt8) (M:List Value),e=.returned (.agg (stC k nm M).toArray)∧ExM w' (fun b=>w.heap.size ≤ b) M (whereL l)∧Below w.heap.size w w'
theorem wstmt_any (l:List UInt8) (w:World) (hl:l.length ≤ 2000) (hD:∀ ts,lexL l 0=.ok ts→isS (ts ++ [(⟨0,[],l.length⟩:Tk)]) 2 [68,69,76,69,84,69] ⟨0,0,0,0⟩=true) :
 Calls Tryz.prog 22 #[sv l] w (WsP l w):=by
 obtain ⟨PP,hPP⟩:∃ PP,PP=WsP l w:=⟨_,rfl⟩
 have HPP:=V hPP
 rw [← hPP]
 clear hPP
 have HPA:=V (parse_any l (w.alloc (.cells (stC 0 [] zL).toArray 72)) hl hD)
 clear hD
 go_enter Tryz.func22,Tryz.ntmps22
 go_upto_region 1 with fail
 refine wp_region_list ?_
 refine lt 7 (sv l) ?_
 refine list_call rfl (some 8) rfl 43 #[sv l] (by kernel_rfl) (U HPA) ?_
 rintro e w1 ⟨k,nm,M,a,b,rfl,hx,hb⟩
 refine ⟨_,rfl,?_⟩
 refine lt 6 (.tuple #[.agg (stC k nm M).toArray,.int .i64 a,.int .i64 b]) ?_
 refine lt 9 (.agg (stC k nm M).toArray) ?_
 refine lt 10 (.int .i64 a) ?_
 refine lt 11 (.int .i64 b) ?_
 simp only[put,sA,sB,sC]
 refine list_new rfl 72 rfl (stC 0 [] zL).toArray (zero_of_info zeroSt).1 ?_
 simp only[put,sA,sB,sC]
 have hlM:=hx.len
 have hz37:(stC k nm M).toArray.size=37:=by simpa using stC_len hlM
 have hO:=(VrS.new w (D:=stC 0 [] zL) rfl).below hb
 have hz0:(w.alloc (.cells (stC 0 [] zL).toArray 72)).heap.size=w.heap.size+1:=by simp
 have hvn:=VrS.new w1 (D:=stC 0 [] zL) rfl
 have hal:Below w1.heap.size w1 (w1.alloc (.cells (stC 0 [] zL).toArray 72)):=alX (Below.refl _ _) _
 have hlt:w.heap.size < w1.heap.size:=ltX hO.blk
 have hone:=hx.one
 refine wpList_store_mid rfl 72 (.tmp 3) (.tmp 9) rfl w1.heap.size 0 (stC k nm M).toArray rfl rfl (by rw [hz37];exact hvn.there 0 37 (by decide)) (by rw [hz37];exact sizeSt) (all_oneCell_toArray (stC_one hone)) ?_
 show wpList _ _ _ _ _ ((w1.alloc (.cells (stC 0 [] zL).toArray 72)).setCells w1.heap.size 0 (stC k nm M))
 have HV:=V (hvn.set (D':=stC k nm M) (stC_len hlM))
 have HO:=V ((hO.below hal).keep (setCells_heap w1.heap.size (stC k nm M) 0 (w1.alloc (.cells (stC 0 [] zL).toArray 72)) w.heap.size (by omega)))
 have HX:Hid (ExM ((w1.alloc (.cells (stC 0 [] zL).toArray 72)).setCells w1.heap.size 0 (stC k nm M)) (fun b=>w.heap.size < b) M (whereL l)):=by
  refine hx.keep (fun b q hb1=>?_) (fun b _ q=>by omega)
  exact (setCells_heap w1.heap.size (stC k nm M) 0 (w1.alloc (.cells (stC 0 [] zL).toArray 72)) b (by omega)).trans (hal.block b hb1)
 have HB:Hid (Below w.heap.size w ((w1.alloc (.cells (stC 0 [] zL).toArray 72)).setCells w1.heap.size 0 (stC k nm M))):=by
  obtain ⟨e1,e2,e3,e4⟩:=setCells_env w1.heap.size (stC k nm M) 0 (w1.alloc (.cells (stC 0 [] zL).toArray 72))
  have h0:=trX (alX (Below.refl w.heap.size w) (.cells (stC 0 [] zL).toArray 72)) hb
  exact ⟨e1.trans (hal.os.trans h0.os),e2.trans (hal.tape.trans h0.tape),e3.trans (hal.output.trans h0.output),by rw [e4];exact Nat.le_trans h0.size hal.size,fun j hj=>(setCells_heap w1.heap.size (stC k nm M) 0 (w1.alloc (.cells (stC 0 [] zL).toArray 72)) j (by omega)).trans ((hal.block j (by omega)).trans (h0.block j hj))⟩
 obtain ⟨b3,hb3⟩:∃ b3,b3=w1.heap.size:=⟨_,rfl⟩
 obtain ⟨w2,hw2⟩:∃ w2,w2=(w1.alloc (.cells (stC 0 [] zL).toArray 72)).setCells w1.heap.size 0 (stC k nm M):=⟨_,rfl⟩
 rw [← hw2] at HV HO HX HB
 rw [← hw2]
 rw [← hb3] at HV
 rw [← hb3]
 clear hw2 hb3 hvn hO hz0 hal hx hb hlt
 refine lt 4 (.int .i64 a) ?_
 refine lt 5 (.int .i64 b) ?_
 simp only[put,sA,sB,sC]
 go_upto_region 2 with fail
 refine wp_region_list ?_
 refine wpList_load_mid rfl 72 (.tmp 3) rfl b3 0 rfl (stC k nm M) _ (U HV).range Tryz.underlying72 rfl (by rw [(U HV).len];exact sizeSt) ?_
 simp only[put,sA,sB,sC]
 refine wpList_store_mid rfl 72 (.tmp 2) (.tmp 12) rfl w.heap.size 0 (stC k nm M).toArray rfl rfl (by rw [hz37];exact (U HO).there 0 37 (by decide)) (by rw [hz37];exact sizeSt) (all_oneCell_toArray (stC_one hone)) ?_
 show wpList _ _ _ _ _ (w2.setCells w.heap.size 0 (stC k nm M))
 simp only[put,sA,sB,sC]
 go_wp2_with fail
 have hs:=(U HO).set (D':=stC k nm M) (stC_len hlM)
 have hbb:=setCells_low (U HB) (stC k nm M)
 have hx2:=((U HX).setCells' (b:=w.heap.size) (fun h=>Nat.lt_irrefl _ h) 0 (stC k nm M)).keep (Q':=fun b=>w.heap.size ≤ b) (fun _ _ _=>rfl) (fun b _ h=>Nat.le_of_lt h)
 refine bodyPost_ret (hs.result rfl _ rfl) rfl ?_
 rw [U HPP]
 exact ⟨k,nm,M,rfl,hx2,hbb⟩
def toL:Fo→List Ex
 | .nil=>[]
 | .node _ _ a kids rest=>(a,kids) :: toL rest
theorem cnt_toL:∀ F:Fo,cnt F=(toL F).length
 | .nil=>rfl
 | .node _ _ _ _ rest=>by show cnt rest+1=(toL rest).length+1;rw [cnt_toL rest]
def szF:Fo→Nat
 | .nil=>0
 | .node _ _ _ kids rest=>1+szF kids+szF rest
theorem szF_get:∀ (F:Fo) (i:Nat) (x:Ex),(toL F)[i]?=some x→szF x.2 < szF F
 | .nil,i,x,h=>by simp [toL] at h
 | .node _ _ a kids rest,0,x,h=>by
  simp [toL] at h
  subst h
  show szF kids < 1+szF kids+szF rest
  omega
 | .node _ _ a kids rest,i+1,x,h=>by
  have:=szF_get rest i x (by simpa [toL] using h)
  show szF x.2 < 1+szF kids+szF rest
  omega
def gvN (n:Nd):GV:=⟨n.vk,n.vi,⟨n.vt.toArray⟩⟩
def valZ (n:Nd):Bool:=n.vk == 0 && (n.vi == 0 && n.vt == [])
def plainN (n:Nd):Bool:=(n.at' == 0 && n.ty == 0) && ((n.kind == 1 || valZ n) && (n.kind == 2 || (n.nam == [] && n.tab == [])))
def isNd (n:Nd) (k:Nat):Bool:=
 plainN n && (
 if n.kind=1 then n.op == 0 && (k == 0 && (gvN n).may)
 else if n.kind=2 then n.op == 0 && (k == 0 && (nameOk n.nam && (n.tab == [] || nameOk n.tab)))
 else if n.kind=3 then decide (1 ≤ n.op) && (decide (n.op ≤ 4) && k == 1)
 else if n.kind=4 then decide (5 ≤ n.op) && (decide (n.op ≤ 18) && k == 2)
 else if n.kind=5 then n.op == 0 && (decide (2 ≤ k) && decide (k ≤ 11))
 else if n.kind=6 then n.op == 0 && (decide (2 ≤ k) && decide (k ≤ 21))
 else if n.kind=7 then (n.op == 19 && decide (k ≤ 1)) || (decide (20 ≤ n.op) && (decide (n.op ≤ 22) && k == 1))
 else false)
def isF:Fo→Bool
 | .nil=>true
 | .node _ _ a kids rest=>(isF kids && isNd a (cnt kids)) && isF rest
def isE (E:Ex):Bool:=isF E.2 && isNd E.1 (cnt E.2)
theorem isF_all:∀ F:Fo,isF F=(toL F).all isE
 | .nil=>rfl
 | .node _ _ a kids rest=>by show ((isF kids && isNd a (cnt kids)) && isF rest)=(isE (a,kids) && (toL rest).all isE);rw [isF_all rest];rfl
/-- What lies in memory is what a machine can hold. -/
def ndOk (n:Nd):Prop:=-9223372036854775808 ≤ n.vi∧n.vi < 9223372036854775808∧n.vt.length ≤ 3000∧n.tab.length ≤ 3000∧n.nam.length ≤ 3000
def foOk:Fo→Prop
 | .nil=>True
 | .node _ _ a kids rest=>(ndOk a∧foOk kids)∧foOk rest
def exOk (E:Ex):Prop:=ndOk E.1∧foOk E.2
theorem foOk_get:∀ (F:Fo) (i:Nat) (x:Ex),foOk F→(toL F)[i]?=some x→exOk x
 | .nil,i,x,_,h=>by simp [toL] at h
 | .node _ _ a kids rest,0,x,h,hx=>by
  simp [toL] at hx
  subst hx
  exact h.1
 | .node _ _ a kids rest,i+1,x,h,hx=>foOk_get rest i x h.2 (by simpa [toL] using hx)
theorem row_nth {w:World} {Q:Nat→Prop}:∀ (F:Fo) (i b o:Nat) (x:Ex),RowAt w Q F b o→(toL F)[i]?=some x→∃ M,ExM w Q M x∧w.rangeAt b (o+10 * i) M∧Q b
 | .nil,i,b,o,x,_,h=>by simp [toL] at h
 | .node _ _ a kids rest,0,b,o,x,h,hx=>by
  simp [toL] at hx
  subst hx
  obtain ⟨⟨args,h1,h2,h3⟩,_⟩:=h
  exact ⟨ndC a args,⟨args,rfl,h3⟩,by simpa using h1,h2⟩
 | .node _ _ a kids rest,i+1,b,o,x,h,hx=>by
  obtain ⟨M,h1,h2,h3⟩:=row_nth rest i b (o+10) x h.2 (by simpa [toL] using hx)
  exact ⟨M,h1,by rw [show o+10 * (i+1)=o+10+10 * i by omega];exact h2,h3⟩
theorem slAt_cnt {w:World} {Q:Nat→Prop} {v:Value} {F:Fo} (h:SlAt w Q v F):cnt F ≤ maxLen:=by
 rcases h with ⟨rfl,_⟩ | ⟨_,_,_,_,h1,h2,_⟩
 · exact Nat.zero_le _
 · exact Nat.le_trans h1 h2
/-- A variable that holds an expression, in a world that came of it. -/
structure IX (w1 wr:World) (b1:Nat) (n:Nd) (F:Fo) (a:Option Addr) (k:Nat):Prop where
 va:VrX wr b1 (ndC n (.slice a (cnt F) k))
 sl:SlAt wr (fun b=>b < b1) (.slice a (cnt F) k) F
 low:Below w1.heap.size w1 wr
 b1p:b1=w1.heap.size
theorem IX.below {w1 wr w':World} {b1:Nat} {n:Nd} {F:Fo} {a:Option Addr} {k:Nat} (h:IX w1 wr b1 n F a k) (hb:Below wr.heap.size wr w'):IX w1 w' b1 n F a k:=
 ⟨h.va.below hb,h.sl.keep (fun b _ hl=>hb.block b hl) (fun _ _ q=>q),trX h.low hb,h.b1p⟩
theorem IX.cells {w1 wr:World} {b1:Nat} {n:Nd} {F:Fo} {a:Option Addr} {k:Nat} (h:IX w1 wr b1 n F a k) :
 wr.cell? ⟨b1,0,none⟩=some (.int .i64 n.kind)∧wr.cell? ⟨b1,1,none⟩=some (.int .i64 n.op)∧wr.cell? ⟨b1,2,none⟩=some (.int .i64 n.vk)∧wr.cell? ⟨b1,3,none⟩=some (.int .i64 n.vi)∧wr.cell? ⟨b1,4,none⟩=some (sv n.vt) ∧
 wr.cell? ⟨b1,5,none⟩=some (sv n.tab)∧wr.cell? ⟨b1,6,none⟩=some (sv n.nam)∧wr.cell? ⟨b1,7,none⟩=some (.slice a (cnt F) k)∧wr.cell? ⟨b1,8,none⟩=some (.int .i64 n.at')∧wr.cell? ⟨b1,9,none⟩=some (.int .i64 n.ty):=
 ⟨cellX h.va.1 0,cellX h.va.1 1,cellX h.va.1 2,cellX h.va.1 3,cellX h.va.1 4,cellX h.va.1 5,cellX h.va.1 6,cellX h.va.1 7,cellX h.va.1 8,cellX h.va.1 9⟩
theorem IX.new {w:World} {Q:Nat→Prop} {n:Nd} {F:Fo} {a:Option Addr} {k:Nat} (h:SlAt w Q (.slice a (cnt F) k) F):IX w (w.alloc (.cells (ndC n (.slice a (cnt F) k)).toArray 29)) w.heap.size n F a k:=by
 have hb:Below w.heap.size w (w.alloc (.cells (ndC n (.slice a (cnt F) k)).toArray 29)):=alX (Below.refl _ _) _
 exact ⟨VrX.new w rfl,h.keep (fun b _ hl=>hb.block b hl) (fun b hl _=>hl),hb,rfl⟩
theorem IX.lowB {w1 wr:World} {b1:Nat} {n:Nd} {F:Fo} {a:Option Addr} {k:Nat} (h:IX w1 wr b1 n F a k):Below w1.heap.size w1 wr:=h.low
def IsC (m:Nat):Prop:=∀ (w:World) (Q:Nat→Prop) (M:List Value) (E:Ex),ExM w Q M E→exOk E→szF E.2 < m→Calls Tryz.prog 44 #[.agg M.toArray] w fun e w'=>e=.returned (.bool (isE E))∧Below w.heap.size w w'
theorem isE_step (m:Nat) (ih:IsC m):IsC (m+1):=by
 intro w Q M E h hok hsz
 have hlM:=h.len
 obtain ⟨args,rfl,hs⟩:=h
 obtain ⟨n,F⟩:=E
 dsimp only at hsz hs hlM ⊢
 have hcnt:=slAt_cnt hs
 obtain ⟨a,k,rfl⟩:=slAt_slice hs
 have HX:=V (IX.new (n:=n) hs)
 have HOK:=V hok
 have HSZ:=V hsz
 obtain ⟨M,hM⟩:∃ M,M=ndC n (.slice a (cnt F) k):=⟨_,rfl⟩
 have HMM:=V hM
 obtain ⟨R,hR⟩:∃ R,R=isE (n,F):=⟨_,rfl⟩
 have HR:=V hR
 rw [← hM] at hlM HX ⊢
 rw [← hR]
 clear hM hR hs hok hsz
 go_enter Tryz.func44,Tryz.ntmps44
 go_wp2_with fail
 have hcI:(cnt F:Int) ≤ 9223372036854775807:=by have h:=hcnt;unfold maxLen at h;omega
 have HG0:Hid (IX w (w.alloc (.cells M.toArray 29)) w.heap.size n F a k∧R=(((toL F).drop 0).all isE && isNd n (cnt F))):=⟨U HX,by rw [U HR,List.drop_zero,← isF_all];rfl⟩
 go_loopg [3] (cnt F) (fun g s3 wr=>∃ i:Nat,g=cnt F - i∧s3=.int .i64 (i:Int)∧i ≤ cnt F∧Hid (IX w wr w.heap.size n F a k∧R=(((toL F).drop i).all isE && isNd n (cnt F))))
 case atStart=>exact ⟨0,rfl,rfl,Nat.zero_le _,HG0⟩
 case round=>
  obtain ⟨i,rfl,rfl,hi,HG⟩:=hrel
  clear HG0 HX HR HMM
  obtain ⟨c0,c1,c2,c3,c4,c5,c6,c7,c8,c9⟩:=(U HG).1.cells
  clear c0 c1 c2 c3 c4 c5 c6 c8 c9
  have hi0:(0:Int) ≤ (i:Int):=by omega
  by_cases hlt:i < cnt F
  · have hiI:(i:Int) < (cnt F:Int):=by omega
    obtain ⟨x,hx⟩:∃ x,(toL F)[i]?=some x:=⟨_,List.getElem?_eq_getElem (by rw [← cnt_toL];exact hlt)⟩
    rcases (U HG).1.sl with ⟨hf,_⟩ | ⟨bq,oq,cq,he,hc1,hc2,hrow⟩
    · rw [hf] at hlt;exact absurd hlt (Nat.not_lt_zero _)
    injection he with e1 _ e3
    subst e1
    subst e3
    obtain ⟨N,hN,hrg,hbq⟩:=row_nth F i bq oq x hrow hx
    have HC:Hid (Calls Tryz.prog 44 #[.agg N.toArray] wr fun e w'=>e=.returned (.bool (isE x))∧Below wr.heap.size wr w'):=ih wr _ N x hN (foOk_get F i x (U HOK).2 hx) (by have h1:=szF_get F i x hx;have h2:=U HSZ;omega)
    have hdr:(toL F).drop i=x :: (toL F).drop (i+1):=by
     rw [List.getElem?_eq_some_iff] at hx
     obtain ⟨hx1,hx2⟩:=hx
     rw [List.drop_eq_getElem_cons hx1,hx2]
    have HRR:Hid (R=((isE x && ((toL F).drop (i+1)).all isE) && isNd n (cnt F))):=by
     show R=_
     rw [(U HG).2,hdr,List.all_cons]
    have HIX:=V (U HG).1
    have hlN:=hN.len
    have HRG:=V hrg
    clear hx hdr hN hrg hrow hbq HG hc1 hc2
    go_upto_region 4 with fail
    refine wp_region_list ?_
    refine lt 14 (.pointer (some ⟨w.heap.size,7,none⟩)) ?_
    simp only[put,sA,sB,sC]
    refine list_to (d:=15) (v:=.slice (some ⟨bq,oq,none⟩) (cnt F) k) rfl rfl (by go_simp) ?_
    refine lt 16 (.int .i64 (i:Int)) ?_
    simp only[put,sA,sB,sC]
    refine list_to (d:=17) (v:=.pointer (some ⟨bq,oq+10 * i,none⟩)) rfl rfl (by go_simp) ?_
    simp only[put,sA,sB,sC]
    refine wpList_load_mid rfl 29 (.tmp 17) rfl bq (oq+10 * i) rfl N _ (U HRG) Tryz.underlying29 rfl (by rw [hlN];exact sizeEx) ?_
    refine list_call rfl (some 19) rfl 44 #[.agg N.toArray] (by kernel_rfl) (U HC) ?_
    rintro e w2 ⟨rfl,hb2⟩
    refine ⟨_,rfl,?_⟩
    simp only[put,sA,sB,sC]
    cases hxe:isE x with
    | true=>
     have HNX:Hid (IX w w2 w.heap.size n F (some ⟨bq,oq,none⟩) k∧R=(((toL F).drop (i+1)).all isE && isNd n (cnt F))):=⟨(U HIX).below hb2,by rw [U HRR,hxe,Bool.true_and]⟩
     clear hxe hb2 HC HRR HIX c7
     skip
     as_aux_lemma=>
      refine lt 20 (.bool false) ?_
      simp only[put,sA,sB,sC]
      go_wp2_with fail
      go_roundg (cnt F - (i+1))
      case rel=>exact ⟨i+1,rfl,by rw [show ((i+1:Nat):Int)=(i:Int)+1 from rfl],by omega,HNX⟩
      case measure=>omega
    | false=>
     have HF:Hid (R=false):=by show R=false;rw [U HRR,hxe];rfl
     have HB:=V (((U HIX).below hb2).lowB)
     clear hxe hb2 HC HRR HIX c7
     skip
     as_aux_lemma=>
      refine lt 20 (.bool true) ?_
      simp only[put,sA,sB,sC]
      go_wp2_with fail
      go_ret
      exact ⟨by rw [U HF];rfl,U HB⟩
  · have hiI:¬ (i:Int) < (cnt F:Int):=by omega
    have hie:i=cnt F:=by omega
    have HRR:Hid (R=isNd n (cnt F)):=by
     show R=_
     rw [(U HG).2,List.drop_eq_nil_of_le (by rw [← cnt_toL];omega)]
     rfl
    have HIX:=V (U HG).1
    clear HG hlt
    subst hie
    go_upto_region 7 with fail
    clear c7
    obtain ⟨P1,hP1⟩:∃ P1,P1=plainN n:=⟨_,rfl⟩
    have HP1:=V hP1
    go_cut [5] from 24 to 51 (fun s5 wx=>s5=.bool P1∧Hid (IX w wx w.heap.size n F a k))
    case first=>
     clear hP1
     refine wp_region_list ?_
     have HEM:Hid (ExM wr (fun b=>b < w.heap.size) (ndC n (.slice a (cnt F) k)) (n,F)):=⟨_,rfl,(U HIX).sl⟩
     have hva:=(U HIX).va
     obtain ⟨N7,hN7⟩:∃ N7,N7=ndC n (.slice a (cnt F) k):=⟨_,rfl⟩
     rw [← hN7] at HEM hva
     have hlN:=hva.2
     have HBC:Hid (Calls Tryz.prog 98 #[.agg N7.toArray] wr fun e w'=>e=.returned (.bool (n.at' == 0 && n.ty == 0))∧Below wr.heap.size wr w'):=bare_any N7 (n,F) _ wr (U HEM)
     refine wpList_load_mid rfl 29 (.tmp 1) rfl w.heap.size 0 rfl N7 _ hva.range Tryz.underlying29 rfl (by rw [hlN];exact sizeEx) ?_
     simp only[put,sA,sB,sC]
     clear hN7 hva HEM
     refine list_call rfl (some 25) rfl 98 #[.agg N7.toArray] (by kernel_rfl) (U HBC) ?_
     rintro e w2 ⟨rfl,hb2⟩
     refine ⟨_,rfl,?_⟩
     simp only[put,sA,sB,sC]
     have HIX2:=V ((U HIX).below hb2)
     obtain ⟨c0,c1,c2,c3,c4,c5,c6,c7,c8,c9⟩:=(U HIX2).cells
     clear c1 c7 c8 c9 HIX hb2 HBC
     have HP2:Hid (P1=((n.at' == 0 && n.ty == 0) && ((n.kind == 1 || valZ n) && (n.kind == 2 || (n.nam == [] && n.tab == []))))):=HP1
     clear HP1 HRR
     cases hb:(n.at' == 0 && n.ty == 0) with
     | false=>
      have HF:Hid (P1=false):=by show P1=false;rw [U HP2,hb];rfl
      clear hb c0 c2 c3 c4 c5 c6
      skip
      as_aux_lemma=>
       go_wp2_with fail
       go_meet
       exact ⟨by rw [U HF],HIX2⟩
     | true=>
      rw [hb] at HP2
      clear hb
      skip
      as_aux_lemma=>
       unfold sv at c4 c5 c6
       go_wp2_with fail
       all_goals (go_meet;refine ⟨?_,HIX2⟩;rw [U HP2];clear HIX2 HP2 HOK HSZ;simp [valZ, *])
    case rest=>
     obtain ⟨rfl,HIX3⟩:=hcut
     clear HIX
     obtain ⟨c0,c1,c2,c3,c4,c5,c6,c7,c8,c9⟩:=(U HIX3).cells
     clear c7 c8 c9
     unfold sv at c4 c5 c6
     have HIS:Hid (∀ W,Calls Tryz.prog 31 #[.agg #[.int .i64 n.vk,.int .i64 n.vi,.string ⟨n.vt.toArray⟩]] W fun e w'=>e=.returned (.bool (gvN n).may)∧Below W.heap.size W w'):=fun W=>by
      have h1:=(U HOK).1
      refine (refIs_any (gvN n) W ⟨h1.1,h1.2.1,?_⟩).mono ?_
      · have h2:n.vt.length ≤ 3000:=h1.2.2.1
        show n.vt.toArray.size ≤ maxLen
        rw [List.size_toArray]
        unfold maxLen
        omega
      · rintro e w' ⟨rfl,rfl⟩
        exact ⟨rfl,alX (Below.refl _ _) _⟩
     have HNM:=V (name8_any n.nam)
     have HNT:=V (name8_any n.tab)
     unfold sv at HNM HNT
     clear hP1 HOK HSZ
     cases P1 with
     | false=>
      have HF:Hid (R=false):=by show R=false;rw [U HRR];unfold isNd;rw [← U HP1];rfl
      clear HIS HNM HNT HRR HP1
      skip
      as_aux_lemma=>
       go_wp2_with fail
       all_goals (go_ret;exact ⟨by rw [U HF];rfl,(U HIX3).low⟩)
     | true=>
      skip
      by_cases k1:n.kind=1
      · rw [k1] at c0
        as_aux_lemma=>
         go_wp2_with (first | (go_at_call 31;refine (U HIS _).mono ?_;rintro e w5 ⟨rfl,hb5⟩;have HIX5:=V ((U HIX3).below hb5);clear hb5) | (go_at_call 74;refine (U HNM _).mono ?_;rintro e w6 ⟨rfl,hb6⟩;have HIX6:=V ((U HIX3).below hb6);have c5':=(U HIX6).cells.2.2.2.2.2.1;unfold sv at c5';clear hb6) | (go_at_call 74;refine (U HNT _).mono ?_;rintro e w7 ⟨rfl,hb7⟩;have HIX7:=V ((U HIX6).below hb7);clear hb7))
         all_goals (go_ret;refine ⟨?_,by first | exact (U HIX7).low | exact (U HIX6).low | exact (U HIX5).low | exact (U HIX3).low⟩;have hp:=U HP1;rw [U HRR];clear HIX3 HIS HNM HNT HRR HP1 c0 c1 c2 c3 c4 c5 c6;unfold isNd;rw [← hp];refine xret_bool ?_;rw [Bool.true_and];rw [if_pos k1];first | rfl | (rw [Bool.eq_iff_iff];simp only[Bool.and_eq_true,Bool.or_eq_true,decide_eq_true_eq,beq_iff_eq,Bool.false_eq_true,false_iff,true_iff];omega) | (simp [*];done) | (simp_all;done) | trace_state)
      · skip
        by_cases k2:n.kind=2
        · rw [k2] at c0
          as_aux_lemma=>
           clear c2 c3 c4 HIS
           have hc0:(cnt F=0) ∨ ((cnt F:Int) == 0)=false∧((cnt F:Int)=0)=False∧¬ cnt F=0:=by
            by_cases h:cnt F=0
            · exact .inl h
            · exact .inr ⟨by rw [beq_eq_false_iff_ne];omega,eq_false (by omega),h⟩
           by_cases hop:n.op=0
           · rcases hc0 with hc0 | ⟨hc1,hc2,hc3⟩
             · have hc1:(cnt F:Int)=0:=by omega
               cases hn:nameOk n.nam with
               | true=>
                rw [hn] at HNM
                by_cases ht:n.tab=[]
                · rw [ht] at c5
                  go_wp2_with (go_at_call 74;refine (U HNM _).mono ?_;rintro e w6 ⟨rfl,hb6⟩;have HIX6:=V ((U HIX3).below hb6);have c5':=(U HIX6).cells.2.2.2.2.2.1;rw [ht] at c5';unfold sv at c5';clear hb6 HNM)
                  go_ret
                  refine ⟨?_,(U HIX6).low⟩
                  have hp:=U HP1
                  rw [U HRR]
                  unfold isNd
                  rw [← hp]
                  refine xret_bool ?_
                  rw [Bool.true_and]
                  rw [if_neg k1]
                  rw [if_pos k2]
                  rw [hop,hc0,hn,ht];rfl
                · go_wp2_with (first | (go_at_call 74;refine (U HNM _).mono ?_;rintro e w6 ⟨rfl,hb6⟩;have HIX6:=V ((U HIX3).below hb6);have c5':=(U HIX6).cells.2.2.2.2.2.1;unfold sv at c5';clear hb6 HNM) | (go_at_call 74;refine (U HNT _).mono ?_;rintro e w7 ⟨rfl,hb7⟩;have HIX7:=V ((U HIX6).below hb7);clear hb7))
                  go_ret
                  refine ⟨?_,(U HIX7).low⟩
                  have hp:=U HP1
                  rw [U HRR]
                  unfold isNd
                  rw [← hp]
                  refine xret_bool ?_
                  rw [Bool.true_and]
                  rw [if_neg k1]
                  rw [if_pos k2]
                  rw [hop,hc0,hn,beq_eq_false_iff_ne.2 ht,List.isEmpty_eq_false_iff.2 ht];rfl
               | false=>
                rw [hn] at HNM
                go_wp2_with (go_at_call 74;refine (U HNM _).mono ?_;rintro e w6 ⟨rfl,hb6⟩;have HIX6:=V ((U HIX3).below hb6);have c5':=(U HIX6).cells.2.2.2.2.2.1;unfold sv at c5';clear hb6 HNM)
                go_ret
                refine ⟨?_,(U HIX6).low⟩
                have hp:=U HP1
                rw [U HRR]
                unfold isNd
                rw [← hp]
                refine xret_bool ?_
                rw [Bool.true_and]
                rw [if_neg k1]
                rw [if_pos k2]
                rw [hop,hc0,hn];rfl
             · go_wp2_with fail
               go_ret
               refine ⟨?_,(U HIX3).low⟩
               have hp:=U HP1
               rw [U HRR]
               unfold isNd
               rw [← hp]
               refine xret_bool ?_
               rw [Bool.true_and]
               rw [if_neg k1]
               rw [if_pos k2]
               rw [hop,beq_eq_false_iff_ne.2 hc3];rfl
           · go_wp2_with fail
             go_ret
             refine ⟨?_,(U HIX3).low⟩
             have hp:=U HP1
             rw [U HRR]
             unfold isNd
             rw [← hp]
             refine xret_bool ?_
             rw [Bool.true_and]
             rw [if_neg k1]
             rw [if_pos k2]
             rw [beq_eq_false_iff_ne.2 hop];rfl
        · skip
          by_cases k3:n.kind=3
          · rw [k3] at c0
            as_aux_lemma=>
             go_wp2_with (first | (go_at_call 31;refine (U HIS _).mono ?_;rintro e w5 ⟨rfl,hb5⟩;have HIX5:=V ((U HIX3).below hb5);clear hb5) | (go_at_call 74;refine (U HNM _).mono ?_;rintro e w6 ⟨rfl,hb6⟩;have HIX6:=V ((U HIX3).below hb6);have c5':=(U HIX6).cells.2.2.2.2.2.1;unfold sv at c5';clear hb6) | (go_at_call 74;refine (U HNT _).mono ?_;rintro e w7 ⟨rfl,hb7⟩;have HIX7:=V ((U HIX6).below hb7);clear hb7))
             all_goals (go_ret;refine ⟨?_,by first | exact (U HIX7).low | exact (U HIX6).low | exact (U HIX5).low | exact (U HIX3).low⟩;have hp:=U HP1;rw [U HRR];clear HIX3 HIS HNM HNT HRR HP1 c0 c1 c2 c3 c4 c5 c6;unfold isNd;rw [← hp];refine xret_bool ?_;rw [Bool.true_and];rw [if_neg k1];rw [if_neg k2];rw [if_pos k3];first | rfl | (rw [Bool.eq_iff_iff];simp only[Bool.and_eq_true,Bool.or_eq_true,decide_eq_true_eq,beq_iff_eq,Bool.false_eq_true,false_iff,true_iff];omega) | (simp [*];done) | (simp_all;done) | trace_state)
          · skip
            by_cases k4:n.kind=4
            · rw [k4] at c0
              as_aux_lemma=>
               go_wp2_with (first | (go_at_call 31;refine (U HIS _).mono ?_;rintro e w5 ⟨rfl,hb5⟩;have HIX5:=V ((U HIX3).below hb5);clear hb5) | (go_at_call 74;refine (U HNM _).mono ?_;rintro e w6 ⟨rfl,hb6⟩;have HIX6:=V ((U HIX3).below hb6);have c5':=(U HIX6).cells.2.2.2.2.2.1;unfold sv at c5';clear hb6) | (go_at_call 74;refine (U HNT _).mono ?_;rintro e w7 ⟨rfl,hb7⟩;have HIX7:=V ((U HIX6).below hb7);clear hb7))
               all_goals (go_ret;refine ⟨?_,by first | exact (U HIX7).low | exact (U HIX6).low | exact (U HIX5).low | exact (U HIX3).low⟩;have hp:=U HP1;rw [U HRR];clear HIX3 HIS HNM HNT HRR HP1 c0 c1 c2 c3 c4 c5 c6;unfold isNd;rw [← hp];refine xret_bool ?_;rw [Bool.true_and];rw [if_neg k1];rw [if_neg k2];rw [if_neg k3];rw [if_pos k4];first | rfl | (rw [Bool.eq_iff_iff];simp only[Bool.and_eq_true,Bool.or_eq_true,decide_eq_true_eq,beq_iff_eq,Bool.false_eq_true,false_iff,true_iff];omega) | (simp [*];done) | (simp_all;done) | trace_state)
            · skip
              by_cases k5:n.kind=5
              · rw [k5] at c0
                as_aux_lemma=>
                 go_wp2_with (first | (go_at_call 31;refine (U HIS _).mono ?_;rintro e w5 ⟨rfl,hb5⟩;have HIX5:=V ((U HIX3).below hb5);clear hb5) | (go_at_call 74;refine (U HNM _).mono ?_;rintro e w6 ⟨rfl,hb6⟩;have HIX6:=V ((U HIX3).below hb6);have c5':=(U HIX6).cells.2.2.2.2.2.1;unfold sv at c5';clear hb6) | (go_at_call 74;refine (U HNT _).mono ?_;rintro e w7 ⟨rfl,hb7⟩;have HIX7:=V ((U HIX6).below hb7);clear hb7))
                 all_goals (go_ret;refine ⟨?_,by first | exact (U HIX7).low | exact (U HIX6).low | exact (U HIX5).low | exact (U HIX3).low⟩;have hp:=U HP1;rw [U HRR];clear HIX3 HIS HNM HNT HRR HP1 c0 c1 c2 c3 c4 c5 c6;unfold isNd;rw [← hp];refine xret_bool ?_;rw [Bool.true_and];rw [if_neg k1];rw [if_neg k2];rw [if_neg k3];rw [if_neg k4];rw [if_pos k5];first | rfl | (rw [Bool.eq_iff_iff];simp only[Bool.and_eq_true,Bool.or_eq_true,decide_eq_true_eq,beq_iff_eq,Bool.false_eq_true,false_iff,true_iff];omega) | (simp [*];done) | (simp_all;done) | trace_state)
              · skip
                by_cases k6:n.kind=6
                · rw [k6] at c0
                  as_aux_lemma=>
                   go_wp2_with (first | (go_at_call 31;refine (U HIS _).mono ?_;rintro e w5 ⟨rfl,hb5⟩;have HIX5:=V ((U HIX3).below hb5);clear hb5) | (go_at_call 74;refine (U HNM _).mono ?_;rintro e w6 ⟨rfl,hb6⟩;have HIX6:=V ((U HIX3).below hb6);have c5':=(U HIX6).cells.2.2.2.2.2.1;unfold sv at c5';clear hb6) | (go_at_call 74;refine (U HNT _).mono ?_;rintro e w7 ⟨rfl,hb7⟩;have HIX7:=V ((U HIX6).below hb7);clear hb7))
                   all_goals (go_ret;refine ⟨?_,by first | exact (U HIX7).low | exact (U HIX6).low | exact (U HIX5).low | exact (U HIX3).low⟩;have hp:=U HP1;rw [U HRR];clear HIX3 HIS HNM HNT HRR HP1 c0 c1 c2 c3 c4 c5 c6;unfold isNd;rw [← hp];refine xret_bool ?_;rw [Bool.true_and];rw [if_neg k1];rw [if_neg k2];rw [if_neg k3];rw [if_neg k4];rw [if_neg k5];rw [if_pos k6];first | rfl | (rw [Bool.eq_iff_iff];simp only[Bool.and_eq_true,Bool.or_eq_true,decide_eq_true_eq,beq_iff_eq,Bool.false_eq_true,false_iff,true_iff];omega) | (simp [*];done) | (simp_all;done) | trace_state)
                · skip
                  by_cases k7:n.kind=7
                  · rw [k7] at c0
                    as_aux_lemma=>
                     go_wp2_with (first | (go_at_call 31;refine (U HIS _).mono ?_;rintro e w5 ⟨rfl,hb5⟩;have HIX5:=V ((U HIX3).below hb5);clear hb5) | (go_at_call 74;refine (U HNM _).mono ?_;rintro e w6 ⟨rfl,hb6⟩;have HIX6:=V ((U HIX3).below hb6);have c5':=(U HIX6).cells.2.2.2.2.2.1;unfold sv at c5';clear hb6) | (go_at_call 74;refine (U HNT _).mono ?_;rintro e w7 ⟨rfl,hb7⟩;have HIX7:=V ((U HIX6).below hb7);clear hb7))
                     all_goals (go_ret;refine ⟨?_,by first | exact (U HIX7).low | exact (U HIX6).low | exact (U HIX5).low | exact (U HIX3).low⟩;have hp:=U HP1;rw [U HRR];clear HIX3 HIS HNM HNT HRR HP1 c0 c1 c2 c3 c4 c5 c6;unfold isNd;rw [← hp];refine xret_bool ?_;rw [Bool.true_and];rw [if_neg k1];rw [if_neg k2];rw [if_neg k3];rw [if_neg k4];rw [if_neg k5];rw [if_neg k6];rw [if_pos k7];first | rfl | (rw [Bool.eq_iff_iff];simp only[Bool.and_eq_true,Bool.or_eq_true,decide_eq_true_eq,beq_iff_eq,Bool.false_eq_true,false_iff,true_iff];omega) | (simp [*];done) | (simp_all;done) | trace_state)
                  · skip
                    as_aux_lemma=>
                     go_wp2_with (first | (go_at_call 31;refine (U HIS _).mono ?_;rintro e w5 ⟨rfl,hb5⟩;have HIX5:=V ((U HIX3).below hb5);clear hb5) | (go_at_call 74;refine (U HNM _).mono ?_;rintro e w6 ⟨rfl,hb6⟩;have HIX6:=V ((U HIX3).below hb6);have c5':=(U HIX6).cells.2.2.2.2.2.1;unfold sv at c5';clear hb6) | (go_at_call 74;refine (U HNT _).mono ?_;rintro e w7 ⟨rfl,hb7⟩;have HIX7:=V ((U HIX6).below hb7);clear hb7))
                     all_goals (go_ret;refine ⟨?_,by first | exact (U HIX7).low | exact (U HIX6).low | exact (U HIX5).low | exact (U HIX3).low⟩;have hp:=U HP1;rw [U HRR];clear HIX3 HIS HNM HNT HRR HP1 c0 c1 c2 c3 c4 c5 c6;unfold isNd;rw [← hp];refine xret_bool ?_;rw [Bool.true_and];rw [if_neg k1];rw [if_neg k2];rw [if_neg k3];rw [if_neg k4];rw [if_neg k5];rw [if_neg k6];rw [if_neg k7];first | rfl | (rw [Bool.eq_iff_iff];simp only[Bool.and_eq_true,Bool.or_eq_true,decide_eq_true_eq,beq_iff_eq,Bool.false_eq_true,false_iff,true_iff];omega) | (simp [*];done) | (simp_all;done) | trace_state)
theorem isE_all:∀ m,IsC m
 | 0=>fun _ _ _ _ _ _ h=>absurd h (Nat.not_lt_zero _)
 | m+1=>isE_step m (isE_all m)
theorem isE_any (w:World) (Q:Nat→Prop) (M:List Value) (E:Ex) (h:ExM w Q M E) (hok:exOk E):Calls Tryz.prog 44 #[.agg M.toArray] w fun e w'=>e=.returned (.bool (isE E))∧Below w.heap.size w w':=
 isE_all (szF E.2+1) w Q M E h hok (by omega)
def dlL:List UInt8:=[68,69,76,69,84,69,32,70,82,79,77,32,116,32,87,72,69,82,69,32]
theorem lexL_piece {l:List UInt8} {a k m:Nat} (h:pieceL l=.ok (k,m)):lexL l a=match lexL (l.drop m) (a+m) with
 | .error e=>.error e
 | .ok t=>.ok (if k=0 then t else ⟨(tokL k (l.take m)).1,(tokL k (l.take m)).2,a⟩ :: t):=by
 have hs:=piece_size h
 cases l with
 | nil=>cases h
 | cons c r=>
  unfold lexL
  rw [List.length_cons,lexF,if_neg (by simp),h]
  dsimp only
  rw [lexF_more r.length ((c :: r).drop m).length _ _ (by rw [List.length_drop,List.length_cons];omega) (Nat.le_refl _)]
  cases lexF ((c :: r).drop m).length ((c :: r).drop m) (a+m) with
  | error e=>rfl
  | ok t=>rfl
theorem lex_delete (l:List UInt8) (a:Nat):lexL (dlL ++ l) a=match lexL l (a+20) with
 | .error e=>.error e
 | .ok t=>.ok (⟨2,[68,69,76,69,84,69],a⟩ :: ⟨2,[70,82,79,77],a+7⟩ :: ⟨1,[116],a+12⟩ :: ⟨2,[87,72,69,82,69],a+14⟩ :: t):=by
 have p1:pieceL (dlL ++ l)=.ok (1,6):=by rfl
 rw [lexL_piece p1]
 have p2:lexL ((dlL ++ l).drop 6) (a+6)=lexL ([70,82,79,77,32,116,32,87,72,69,82,69,32] ++ l) (a+6+1):=lexL_blank (by decide) _ _
 rw [p2]
 have p3:pieceL ([70,82,79,77,32,116,32,87,72,69,82,69,32] ++ l)=.ok (1,4):=by rfl
 rw [lexL_piece p3]
 have p4:lexL (([70,82,79,77,32,116,32,87,72,69,82,69,32] ++ l).drop 4) (a+6+1+4)=lexL ([116,32,87,72,69,82,69,32] ++ l) (a+6+1+4+1):=lexL_blank (by decide) _ _
 rw [p4]
 have p5:pieceL ([116,32,87,72,69,82,69,32] ++ l)=.ok (1,1):=by rfl
 rw [lexL_piece p5]
 have p6:lexL (([116,32,87,72,69,82,69,32] ++ l).drop 1) (a+6+1+4+1+1)=lexL ([87,72,69,82,69,32] ++ l) (a+6+1+4+1+1+1):=lexL_blank (by decide) _ _
 rw [p6]
 have p7:pieceL ([87,72,69,82,69,32] ++ l)=.ok (1,5):=by rfl
 rw [lexL_piece p7]
 have p8:lexL (([87,72,69,82,69,32] ++ l).drop 5) (a+6+1+4+1+1+1+5)=lexL l (a+6+1+4+1+1+1+5+1):=lexL_blank (by decide) _ _
 rw [p8]
 cases lexL l (a+6+1+4+1+1+1+5+1) with
 | error e=>rfl
 | ok t=>rfl
theorem delete_first (l:List UInt8):∀ ts,lexL (dlL ++ l) 0=.ok ts→isS (ts ++ [(⟨0,[],(dlL ++ l).length⟩:Tk)]) 2 [68,69,76,69,84,69] ⟨0,0,0,0⟩=true:=by
 intro ts h
 rw [lex_delete] at h
 cases hl:lexL l (0+20) with
 | error e=>rw [hl] at h;cases h
 | ok t=>
  rw [hl] at h
  injection h with h
  subst h
  rfl
end Go.Proofs.YtpnonhjmpnbmcaaGreatDoor
