/- The document's expressions resolved, as plain functions; what a call of scope.expr has. -/
import Derived.Test.YtpnonhjmpnbmcaaGreatDoorXTyped6
import Derived.Test.YtpnonhjmpnbmcaaGreatDoorJPlainLMathLMath2LMath3XLex1XLex2NBigListOpsListOp2ListOp3
namespace Go.Proofs.YtpnonhjmpnbmcaaGreatDoor
open Go.RowKit Go.Lib
open Act (put)
/-- A column of the statements' own: its place, its type. -/
def colOf (tab nam:List UInt8):Except Int (Nat × Int):=
 if tab ≠ [] then .error 3 else if nam=[97] then .ok (0,2) else if nam=[98] then .ok (1,2) else if nam=[99] then .ok (2,1) else if nam=[100] then .ok (3,3) else if nam=[101] then .ok (4,3) else .error 3
def ndR (a:Nd) (kids:Fo) (K:Except Int Fo):Except Int Ex:=
 if a.kind=1 then .ok ({ a with ty:=a.vk },kids)
 else if a.kind=2 then (match colOf a.tab a.nam with | .error c=>.error c | .ok p=>.ok ({ a with at':=p.1,ty:=p.2 },kids))
 else if a.kind=7 then .error 4
 else match K with | .error c=>.error c | .ok G=>typedS (a,G)
def resF:Fo→Except Int Fo
 | .nil=>.ok .nil
 | .node _ _ a kids rest=>match ndR a kids (resF kids) with
  | .error c=>.error c
  | .ok x=>match resF rest with
   | .error c=>.error c
   | .ok G=>.ok (Fo.cons x.1 x.2 G)
def resE (E:Ex):Except Int Ex:=ndR E.1 E.2 (resF E.2)
/-- The same over lists: what is done, what is left. -/
def resL:List Ex→Except Int (List Ex)
 | []=>.ok []
 | x :: l=>match resE x with
  | .error c=>.error c
  | .ok y=>match resL l with
   | .error c=>.error c
   | .ok r=>.ok (y :: r)
theorem resF_L:∀ F:Fo,resF F=(resL (toL F)).map foE
 | .nil=>rfl
 | .node _ _ a kids rest=>by
  rw [resF,resF_L rest]
  show _=(resL ((a,kids) :: toL rest)).map foE
  rw [resL]
  show (match resE (a,kids) with | .error c=>(.error c:Except Int Fo) | .ok x=>_)=_
  cases resE (a,kids) with
  | error c=>rfl
  | ok y=>cases resL (toL rest) <;> rfl
/-- Kinds that a resolved expression without aggregates has. -/
def simK (k:Int):Bool:=k == 1 || (k == 2 || (k == 3 || (k == 4 || (k == 5 || k == 6))))
def simF:Fo→Bool
 | .nil=>true
 | .node _ _ a kids rest=>(simK a.kind && simF kids) && simF rest
def simE (E:Ex):Bool:=simK E.1.kind && simF E.2
theorem simF_get:∀ (F:Fo) (i:Nat) (x:Ex),simF F=true→(toL F)[i]?=some x→simE x=true
 | .nil,i,x,_,h=>by simp [toL] at h
 | .node _ _ a kids rest,0,x,h,hx=>by
  simp [toL] at hx
  subst hx
  simp only[simF,Bool.and_eq_true] at h
  simp only[simE,Bool.and_eq_true]
  exact h.1
 | .node _ _ a kids rest,i+1,x,h,hx=>by
  simp only[simF,Bool.and_eq_true] at h
  exact simF_get rest i x h.2 (by simpa [toL] using hx)
theorem isF_get:∀ (F:Fo) (i:Nat) (x:Ex),isF F=true→(toL F)[i]?=some x→isE x=true
 | .nil,i,x,_,h=>by simp [toL] at h
 | .node _ _ a kids rest,0,x,h,hx=>by
  simp [toL] at hx
  subst hx
  simp only[isF,Bool.and_eq_true] at h
  simp only[isE,Bool.and_eq_true]
  exact h.1
 | .node _ _ a kids rest,i+1,x,h,hx=>by
  simp only[isF,Bool.and_eq_true] at h
  exact isF_get rest i x h.2 (by simpa [toL] using hx)
theorem isNd_kind {n:Nd} {k:Nat} (h:isNd n k=true):n.kind=1 ∨ n.kind=2 ∨ n.kind=3 ∨ n.kind=4 ∨ n.kind=5 ∨ n.kind=6 ∨ n.kind=7:=by
 by_cases h1:n.kind=1
 · exact .inl h1
 by_cases h2:n.kind=2
 · exact .inr (.inl h2)
 by_cases h3:n.kind=3
 · exact .inr (.inr (.inl h3))
 by_cases h4:n.kind=4
 · exact .inr (.inr (.inr (.inl h4)))
 by_cases h5:n.kind=5
 · exact .inr (.inr (.inr (.inr (.inl h5))))
 by_cases h6:n.kind=6
 · exact .inr (.inr (.inr (.inr (.inr (.inl h6)))))
 by_cases h7:n.kind=7
 · exact .inr (.inr (.inr (.inr (.inr (.inr h7)))))
 unfold isNd at h
 rw [if_neg h1,if_neg h2,if_neg h3,if_neg h4,if_neg h5,if_neg h6,if_neg h7] at h
 simp at h
/-- What the call has: its scope at b0, its expression at b1, what it will tell at b2. -/
structure RX (w wr:World) (b0 b1 b2:Nat) (v0 v3:Value) (n:Nd) (F:Fo) (a:Option Addr) (k:Nat):Prop where
 sc:wr.heap[b0]?=some (.cells #[v0,.bool false,.bool false,v3,.bool true] 119 (0,0))
 va:VrX wr b1 (ndC n (.slice a (cnt F) k))
 out:VrX wr b2 zL
 sl:SlAt wr (fun b=>b < w.heap.size) (.slice a (cnt F) k) F
 low:Below w.heap.size w wr
 p0:b0=w.heap.size
 p1:b1=w.heap.size+1
 p2:b2=w.heap.size+2
section
variable {w wr w':World} {b0 b1 b2:Nat} {v0 v3:Value} {n:Nd} {F:Fo} {a:Option Addr} {k:Nat}
theorem RX.own (h:RX w wr b0 b1 b2 v0 v3 n F a k) (hb:Below (b2+1) wr w'):RX w w' b0 b1 b2 v0 v3 n F a k:=by
 have h0:=h.p0
 have h1:=h.p1
 have h2:=h.p2
 refine ⟨(hb.block b0 (by omega)).trans h.sc,h.va.keep (hb.block b1 (by omega)),h.out.keep (hb.block b2 (by omega)),h.sl.keep (fun b q _=>hb.block b (by omega)) (fun _ _ q=>q),⟨hb.os.trans h.low.os,hb.tape.trans h.low.tape,hb.output.trans h.low.output,Nat.le_trans h.low.size hb.size,fun b q=>(hb.block b (by omega)).trans (h.low.block b q)⟩,h0,h1,h2⟩
theorem RX.below (h:RX w wr b0 b1 b2 v0 v3 n F a k) (hb:Below wr.heap.size wr w'):RX w w' b0 b1 b2 v0 v3 n F a k:=
 h.own ⟨hb.os,hb.tape,hb.output,hb.size,fun b q=>hb.block b (by have:=ltX h.out.1;omega)⟩
theorem RX.cells (h:RX w wr b0 b1 b2 v0 v3 n F a k):wr.cell? ⟨b1,0,none⟩=some (.int .i64 n.kind)∧wr.cell? ⟨b1,2,none⟩=some (.int .i64 n.vk)∧wr.cell? ⟨b1,7,none⟩=some (.slice a (cnt F) k)∧wr.cell? ⟨b1,9,none⟩=some (.int .i64 n.ty)∧wr.frozen? ⟨b1,9,none⟩=false∧wr.frozen? ⟨b1,7,none⟩=false:=
 ⟨cellX h.va.1 0,cellX h.va.1 2,cellX h.va.1 7,cellX h.va.1 9,frzX h.va.1 9,frzX h.va.1 7⟩
theorem RX.new (h:SlAt w (fun b=>b < w.heap.size) (.slice a (cnt F) k) F):RX w (((w.alloc (.cells #[v0,.bool false,.bool false,v3,.bool true] 119)).alloc (.cells (ndC n (.slice a (cnt F) k)).toArray 29)).alloc (.cells zL.toArray 29)) w.heap.size (w.heap.size+1) (w.heap.size+2) v0 v3 n F a k:=by
 have h0:Below w.heap.size w (w.alloc (.cells #[v0,.bool false,.bool false,v3,.bool true] 119)):=alX (Below.refl _ _) _
 have z0:(w.alloc (.cells #[v0,.bool false,.bool false,v3,.bool true] 119)).heap.size=w.heap.size+1:=by simp
 have n0:=heap_alloc_new w (.cells #[v0,.bool false,.bool false,v3,.bool true] 119)
 generalize (w.alloc (.cells #[v0,.bool false,.bool false,v3,.bool true] 119))=w1 at *
 have h1:Below w1.heap.size w1 (w1.alloc (.cells (ndC n (.slice a (cnt F) k)).toArray 29)):=alX (Below.refl _ _) _
 have z1:(w1.alloc (.cells (ndC n (.slice a (cnt F) k)).toArray 29)).heap.size=w.heap.size+2:=by simp [z0]
 have n1:=VrX.new w1 (M:=ndC n (.slice a (cnt F) k)) rfl
 rw [z0] at n1
 generalize (w1.alloc (.cells (ndC n (.slice a (cnt F) k)).toArray 29))=w2 at *
 have h2:Below w2.heap.size w2 (w2.alloc (.cells zL.toArray 29)):=alX (Below.refl _ _) _
 have n2:=VrX.new w2 (M:=zL) rfl
 rw [z1] at n2
 refine ⟨(h2.block _ (by omega)).trans ((h1.block _ (by omega)).trans n0),n1.below h2,n2,?_,trX (trX h0 h1) h2,rfl,rfl,rfl⟩
 exact h.keep (fun b q hl=>(h2.block b (by omega)).trans ((h1.block b (by omega)).trans (h0.block b hl))) (fun _ _ q=>q)
/-- A cell of the expression written. -/
theorem RX.set (h:RX w wr b0 b1 b2 v0 v3 n F a k) (i:Nat) (v:Value):Below w.heap.size w (wr.setCell ⟨b1,i,none⟩ v)∧VrX (wr.setCell ⟨b1,i,none⟩ v) b2 zL∧(wr.setCell ⟨b1,i,none⟩ v).heap[b1]?=some (.cells ((ndC n (.slice a (cnt F) k)).toArray.setIfInBounds i v) 29 (0,0))∧∀ j,j ≠ b1→(wr.setCell ⟨b1,i,none⟩ v).heap[j]?=wr.heap[j]?:=by
 have h1:=h.p1
 have h2:=h.p2
 have hk:∀ j,j ≠ b1→(wr.setCell ⟨b1,i,none⟩ v).heap[j]?=wr.heap[j]?:=fun j hj=>Below.heap_setCell wr ⟨b1,i,none⟩ _ j hj
 exact ⟨h.low.setCell (p:=⟨b1,i,none⟩) (by show _ ≤ b1;omega) _,h.out.keep (hk b2 (by omega)),setX h.va.1 i v,hk⟩
end
theorem slAt_nil {w w':World} {Q Q':Nat→Prop} {v:Value} (h:SlAt w Q v .nil):SlAt w' Q' v .nil:=by
 rcases h with ⟨_,c,hv⟩ | ⟨b,o,c,hv,h1,h2,_⟩
 · exact .inl ⟨rfl,c,hv⟩
 · exact .inr ⟨b,o,c,hv,h1,h2,trivial⟩
def resK (n:Nd):Except Int (List Ex)→Except Int Ex
 | .error c=>.error c
 | .ok G=>typedS (n,foE G)
def joinR (acc:List Ex):Except Int (List Ex)→Except Int (List Ex)
 | .error c=>.error c
 | .ok l=>.ok (acc ++ l)
theorem joinR_cons {x Y:Ex} {acc l:List Ex} (h:resE x=.ok Y):joinR acc (resL (x :: l))=joinR (acc ++ [Y]) (resL l):=by
 rw [resL,h]
 cases resL l with
 | error c=>rfl
 | ok r=>simp [joinR]
/-- The loop over the arguments. -/
structure RLX (w wr:World) (b0 b1 b2:Nat) (v0 v3:Value) (n:Nd) (F:Fo) (a:Option Addr) (k:Nat) (ar:Option Addr) (m kr:Nat) (Es:List (List Value × Ex)) (R:Except Int (List Ex)) (i:Nat):Prop where
 rx:RX w wr b0 b1 b2 v0 v3 n F a k
 row:OE (b2+1) wr ar m kr Es
 eq:R=joinR (Es.map (·.2)) (resL ((toL F).drop i))
 im:m=i
theorem RLX.below {w wr w':World} {b0 b1 b2:Nat} {v0 v3:Value} {n:Nd} {F:Fo} {a:Option Addr} {k:Nat} {ar:Option Addr} {m kr:Nat} {Es:List (List Value × Ex)} {R:Except Int (List Ex)} {i:Nat} (h:RLX w wr b0 b1 b2 v0 v3 n F a k ar m kr Es R i) (hb:Below wr.heap.size wr w'):RLX w w' b0 b1 b2 v0 v3 n F a k ar m kr Es R i:=
 ⟨h.rx.below hb,h.row.keep (fun b _ hl=>hb.block b hl),h.eq,h.im⟩
theorem below_setCells {B:Nat} {a w:World} {b:Nat} (h:Below B a w) (hb:B ≤ b) (o:Nat) (vs:List Value):Below B a (w.setCells b o vs):=by
 obtain ⟨e1,e2,e3,e4⟩:=setCells_env b vs o w
 exact ⟨e1.trans h.os,e2.trans h.tape,e3.trans h.output,by rw [e4];exact h.size,fun j hj=>(setCells_heap b vs o w j (by omega)).trans (h.block j hj)⟩
theorem sizeSc:(Tryz.prog.info? 119).map (·.size)=some 5:=by kernel_rfl
theorem sc_range {w:World} {b0:Nat} {v0 v3:Value} (h:w.heap[b0]?=some (.cells #[v0,.bool false,.bool false,v3,.bool true] 119 (0,0))):w.rangeAt b0 0 [v0,.bool false,.bool false,v3,.bool true]:=fun j v hv=>by
 rw [Nat.zero_add,cellX h]
 simpa using hv
theorem zeroEx:(Tryz.prog.info? 29).map (fun i=>(i.zero,i.size))=some (some (.agg zL.toArray),10):=by kernel_rfl
theorem typedS_err {E:Ex} {c:Int} (h:typedS E=.error c):c=4:=by
 unfold typedS at h
 split at h
 · cases h
 · injection h with h;exact h.symm
theorem colOf_err {s t:List UInt8} {c:Int} (h:colOf s t=.error c):c=3:=by
 unfold colOf at h
 repeat' split at h
 all_goals first | (cases h;done) | (cases h;rfl)
theorem ndR_err {a:Nd} {kids:Fo} {K:Except Int Fo} {c:Int} (hK:∀ d,K=.error d→d=3 ∨ d=4) (h:ndR a kids K=.error c):c=3 ∨ c=4:=by
 unfold ndR at h
 split at h
 · cases h
 split at h
 · cases hc:colOf a.tab a.nam with
   | error d=>
    rw [hc] at h
    injection h with h
    exact .inl (h ▸ colOf_err hc)
   | ok p=>rw [hc] at h;cases h
 split at h
 · injection h with h;exact .inr h.symm
 cases K with
 | error d=>injection h with h;exact h ▸ hK d rfl
 | ok G=>exact .inr (typedS_err h)
theorem resF_err:∀ (F:Fo) (c:Int),resF F=.error c→c=3 ∨ c=4
 | .nil,c,h=>by cases h
 | .node _ _ a kids rest,c,h=>by
  rw [resF] at h
  cases h1:ndR a kids (resF kids) with
  | error d=>
   rw [h1] at h
   injection h with h
   exact h ▸ ndR_err (fun d hd=>resF_err kids d hd) h1
  | ok x=>
   rw [h1] at h
   cases h2:resF rest with
   | error d=>
    simp only[h2] at h
    injection h with h
    exact h ▸ resF_err rest d h2
   | ok G=>simp only[h2] at h;cases h
theorem resE_err (E:Ex) (c:Int) (h:resE E=.error c):c=3 ∨ c=4:=ndR_err (fun d hd=>resF_err E.2 d hd) h
end Go.Proofs.YtpnonhjmpnbmcaaGreatDoor
