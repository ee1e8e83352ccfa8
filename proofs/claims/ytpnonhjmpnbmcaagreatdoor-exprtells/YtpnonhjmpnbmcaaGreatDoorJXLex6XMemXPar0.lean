/- The document's lexer: rows of tokens; mathematics of its loops. -/
import Derived.Test.YtpnonhjmpnbmcaaGreatDoorJXLex4XAppXLex5
import Derived.Deep.Trees
namespace Go.Proofs.YtpnonhjmpnbmcaaGreatDoor
open Go.RowKit Go.Lib
open Act (put)
def tkC (t:Tk):List Value:=[.int .i64 (t.kind:Int),sv t.text,.int .i64 (t.pos:Int)]
def tkCs (l:List Tk):List Value:=l.flatMap tkC
theorem tkCs_snoc (l:List Tk) (t:Tk):tkCs (l ++ [t])=tkCs l ++ tkC t:=by simp [tkCs]
/-- A row of tokens of the call's own. -/
structure OWX (w0 w:World) (a:Option Addr) (m c:Nat) (acc:List Tk):Prop where
 row:w.ownsRow w0.heap.size 193 3 (.slice a m c) m (tkCs acc)
 low:Below w0.heap.size w0 w
 len:m=acc.length
theorem OWX.go {w0 w w':World} {a:Option Addr} {m c:Nat} {acc:List Tk} (h:OWX w0 w a m c acc) (hb:Below w.heap.size w w'):OWX w0 w' a m c acc:=
 ⟨own_keepX h.row hb,trX h.low hb,h.len⟩
theorem append_tk {ops:Array Oper} {rest:List Oper} {o:Oper} {act:Act} {Q:Exit→Act→World→Prop} {w0 W:World} {a:Option Addr} {m c:Nat} {acc:List Tk} (hgd:o.guard=none) (s x:Operand)
 (ho:o.op=.call { callee:=.builtin .append,args:=#[s,x],argTypes:=#[185,185] }) (h:OWX w0 W a m c acc) (hs:act.eval s=.slice a m c) (hx:act.eval x=.slice (some ⟨W.heap.size,0,none⟩) 1 1) (hn:m ≤ 100000000)
 (kd pos:Int) (tx:List UInt8) (t:Tk) (ht:tkC t=[.int .i64 kd,sv tx,.int .i64 pos])
 (K:∀ ad k w',OWX w0 w' ad (m+1) k (acc ++ [t])→wpList Tryz.prog ops Q rest (act.put o.dst (.slice ad (m+1) k)) w'):wpList Tryz.prog ops Q (o :: rest) act (W.alloc (.cells #[.int .i64 kd,sv tx,.int .i64 pos] 193)):=by
 have hal:Below W.heap.size W (W.alloc (.cells #[.int .i64 kd,sv tx,.int .i64 pos] 193)):=(Below.refl _ _).alloc (Nat.le_refl _) _
 refine append1 hgd s x 185 ho w0.heap.size 193 _ 3 32 Tryz.underlying185 Tryz.infoTk rfl (by decide) (by decide) _ m _ hs (own_keepX h.row hal) W.heap.size [.int .i64 kd,sv tx,.int .i64 pos] hx (heap_alloc_new _ _) rfl ?_ hn ?_ ?_
 · intro u hu
   simp only[List.mem_cons,List.not_mem_nil,or_false] at hu
   rcases hu with rfl | rfl | rfl <;> rfl
 · exact Nat.le_trans h.low.size hal.size
 · intro ad k w' ho' hb
   refine K ad k w' ⟨?_,h.low.trans ((hal.mono h.low.size).trans hb),by rw [List.length_append,← h.len];rfl⟩
   rw [tkCs_snoc,ht];exact ho'
theorem OWX.none (w:World):OWX w w none 0 0 []:=⟨⟨rfl,.inl ⟨rfl,rfl⟩⟩,Below.refl _ _,rfl⟩
/-- A run from place k on, seen from a place within. -/
def RunX (p:UInt8→Bool) (l:List UInt8) (k n j:Nat):Prop:=k ≤ j∧j ≤ l.length∧n=(j - k)+((l.drop j).takeWhile p).length
theorem RunX.begin {p:UInt8→Bool} {l:List UInt8} {k:Nat} (hk:k ≤ l.length):RunX p l k ((l.drop k).takeWhile p).length k:=⟨Nat.le_refl _,hk,by simp⟩
theorem RunX.next {p:UInt8→Bool} {l:List UInt8} {k n j:Nat} {c:UInt8} (h:RunX p l k n j) (hc:l[j]?=some c) (hp:p c=true):RunX p l k n (j+1):=by
 obtain ⟨h1,h2,h3⟩:=h
 have hlt:=(List.getElem?_eq_some_iff.1 hc).1
 refine ⟨by omega,by omega,?_⟩
 rw [List.drop_eq_getElem_cons hlt,(List.getElem?_eq_some_iff.1 hc).2,List.takeWhile_cons_of_pos hp,List.length_cons] at h3
 omega
theorem RunX.stop {p:UInt8→Bool} {l:List UInt8} {k n j:Nat} (h:RunX p l k n j) (hc:∀ c,l[j]?=some c→p c=false):j=k+n:=by
 obtain ⟨h1,h2,h3⟩:=h
 rcases Nat.lt_or_ge j l.length with hlt | hge
 · rw [List.drop_eq_getElem_cons hlt,List.takeWhile_cons_of_neg (by simpa using hc _ (List.getElem?_eq_getElem hlt))] at h3
   simp at h3;omega
 · rw [List.drop_eq_nil_of_le hge] at h3
   simp at h3;omega
/-- The rest of a line, likewise. -/
def LineX (l:List UInt8) (k n j:Nat):Prop:=k ≤ j∧j ≤ l.length∧n=(j - k)+(idx 10 (l.drop j)).getD (l.length - j)
theorem LineX.next {l:List UInt8} {k n j:Nat} {c:UInt8} (h:LineX l k n j) (hc:l[j]?=some c) (hp:c ≠ 10):LineX l k n (j+1):=by
 obtain ⟨h1,h2,h3⟩:=h
 have hlt:=(List.getElem?_eq_some_iff.1 hc).1
 refine ⟨by omega,by omega,?_⟩
 rw [List.drop_eq_getElem_cons hlt,(List.getElem?_eq_some_iff.1 hc).2,idx,if_neg hp] at h3
 cases hi:idx 10 (l.drop (j+1)) with
 | none=>rw [hi] at h3;simp at h3 ⊢;omega
 | some i=>rw [hi] at h3;simp at h3 ⊢;omega
theorem LineX.stop {l:List UInt8} {k n j:Nat} (h:LineX l k n j) (hc:∀ c,l[j]?=some c→c=10):j=k+n:=by
 obtain ⟨h1,h2,h3⟩:=h
 rcases Nat.lt_or_ge j l.length with hlt | hge
 · rw [List.drop_eq_getElem_cons hlt,idx,if_pos (hc _ (List.getElem?_eq_getElem hlt))] at h3
   simp at h3;omega
 · rw [List.drop_eq_nil_of_le hge] at h3
   simp [idx] at h3;omega
/-- A number's noughts. -/
theorem num_nought {r:List UInt8} (h:r ≠ []):numL (48 :: r)=numL r:=by
 unfold numL
 obtain ⟨n,hn⟩:∃ n,r.length=n+1:=⟨r.length - 1,by have:=List.length_pos_iff.2 h;omega⟩
 simp [hn,List.take_succ_cons]
theorem num_other {c:UInt8} (h:c ≠ 48) (r:List UInt8):numL (c :: r)=c :: r:=by
 unfold numL
 cases r with
 | nil=>rfl
 | cons d r=>
  have hb:(c == 48)=false:=by simpa using h
  simp only[List.length_cons,Nat.add_sub_cancel,List.take_succ_cons,List.dropWhile,hb]
  rw [List.drop_succ_cons,List.cons_append,List.take_append_drop]
/-- A number's token, seen from a place within. -/
def NumX (tok:List UInt8) (j:Nat):Prop:=j < tok.length∧numL tok=numL (tok.drop j)
theorem NumX.next {tok:List UInt8} {j:Nat} (h:NumX tok j) (hj:j+1 < tok.length) (hc:tok[j]?=some 48):NumX tok (j+1):=by
 obtain ⟨h1,h2⟩:=h
 refine ⟨hj,?_⟩
 rw [h2,List.drop_eq_getElem_cons h1,(List.getElem?_eq_some_iff.1 hc).2,num_nought]
 intro e
 have:=congrArg List.length e
 simp at this;omega
theorem NumX.stop {tok:List UInt8} {j:Nat} (h:NumX tok j) (hs:j+1=tok.length ∨ ∀ c,tok[j]?=some c→c ≠ 48):numL tok=tok.drop j:=by
 obtain ⟨h1,h2⟩:=h
 rw [h2,List.drop_eq_getElem_cons h1]
 rcases hs with hs | hs
 · rw [List.drop_eq_nil_of_le (by omega)];rfl
 · exact num_other (hs _ (List.getElem?_eq_getElem h1)) _
/-- A node of an expression: all but its arguments. -/
structure Nd where
 kind:Int
 op:Int
 vk:Int
 vi:Int
 vt:List UInt8
 tab:List UInt8
 nam:List UInt8
 at':Int
 ty:Int
/-- A row of expressions: each a node, its arguments, and the rest. -/
abbrev Fo:=Go.Deep.BT Nd
abbrev Fo.cons (a:Nd) (kids rest:Fo):Fo:=Go.Deep.BT.node 0 0 a kids rest
/-- An expression. -/
abbrev Ex:=Nd × Fo
def cnt:Fo→Nat
 | .nil=>0
 | .node _ _ _ _ rest=>cnt rest+1
def Fo.app:Fo→Fo→Fo
 | .nil,g=>g
 | .node b o a k rest,g=>.node b o a k (Fo.app rest g)
/-- A node's cells. -/
def ndC (a:Nd) (args:Value):List Value:=[.int .i64 a.kind,.int .i64 a.op,.int .i64 a.vk,.int .i64 a.vi,sv a.vt,sv a.tab,sv a.nam,args,.int .i64 a.at',.int .i64 a.ty]
theorem ndC_len (a:Nd) (v:Value):(ndC a v).length=10:=rfl
/-- A row of expressions from a cell of a block on, all its blocks among Q. -/
def RowAt (w:World) (Q:Nat→Prop):Fo→Nat→Nat→Prop
 | .nil,_,_=>True
 | .node _ _ a kids rest,b,off=>(∃ args,w.rangeAt b off (ndC a args)∧Q b ∧
  ((kids=.nil∧∃ c,args=.slice none 0 c) ∨ (∃ b' o' c',args=.slice (some ⟨b',o',none⟩) (cnt kids) c'∧cnt kids ≤ c'∧c' ≤ maxLen∧RowAt w Q kids b' o')))∧RowAt w Q rest b (off+10)
/-- A slice of expressions. -/
def SlAt (w:World) (Q:Nat→Prop) (v:Value) (F:Fo):Prop:=
 (F=.nil∧∃ c,v=.slice none 0 c) ∨ (∃ b o c,v=.slice (some ⟨b,o,none⟩) (cnt F) c∧cnt F ≤ c∧c ≤ maxLen∧RowAt w Q F b o)
/-- An expression by its cells. -/
def ExM (w:World) (Q:Nat→Prop) (M:List Value) (E:Ex):Prop:=∃ args,M=ndC E.1 args∧SlAt w Q args E.2
theorem ExM.len {w:World} {Q:Nat→Prop} {M:List Value} {E:Ex} (h:ExM w Q M E):M.length=10:=by obtain ⟨args,rfl,_⟩:=h;rfl
theorem slAt_slice {w:World} {Q:Nat→Prop} {v:Value} {F:Fo} (h:SlAt w Q v F):∃ a c,v=.slice a (cnt F) c:=by
 rcases h with ⟨rfl,c,rfl⟩ | ⟨b,o,c,rfl,_⟩
 · exact ⟨_,_,rfl⟩
 · exact ⟨_,_,rfl⟩
theorem slAt_one {w:World} {Q:Nat→Prop} {v:Value} {F:Fo} (h:SlAt w Q v F):v.oneCell'=true:=by
 obtain ⟨a,c,rfl⟩:=slAt_slice h;rfl
theorem ndC_one {a:Nd} {args:Value} (h:args.oneCell'=true):∀ u ∈ ndC a args,u.oneCell'=true:=by
 intro u hu
 simp only[ndC,List.mem_cons,List.not_mem_nil,or_false] at hu
 rcases hu with rfl | rfl | rfl | rfl | rfl | rfl | rfl | rfl | rfl | rfl
 all_goals first | rfl | exact h
theorem ExM.one {w:World} {Q:Nat→Prop} {M:List Value} {E:Ex} (h:ExM w Q M E):∀ u ∈ M,u.oneCell'=true:=by
 obtain ⟨args,rfl,h⟩:=h
 exact ndC_one (slAt_one h)
theorem rangeAt_blk {w w':World} {b o:Nat} {cs:List Value} (h:w.rangeAt b o cs) (hb:b < w.heap.size→w'.heap[b]?=w.heap[b]?) (hne:cs ≠ []):w'.rangeAt b o cs:=by
 have hlt:b < w.heap.size:=by
  cases cs with
  | nil=>exact absurd rfl hne
  | cons c cs=>exact World.block_lt_of_cell? w _ (h 0 c rfl)
 intro j v hv
 rw [World.cell?_of_block (a:=⟨b,o+j,none⟩) (hb hlt)]
 exact h j v hv
theorem RowAt.keep {w w':World} {Q Q':Nat→Prop} (hk:∀ b,Q b→b < w.heap.size→w'.heap[b]?=w.heap[b]?) (hq:∀ b,b < w.heap.size→Q b→Q' b):∀ {F:Fo} {b o:Nat},RowAt w Q F b o→RowAt w' Q' F b o
 | .nil,_,_,_=>trivial
 | .node _ _ a kids rest,b,off,h=>by
  obtain ⟨⟨args,h1,h2,h3⟩,h4⟩:=h
  have hlt:b < w.heap.size:=World.block_lt_of_cell? w _ (h1 0 _ rfl)
  refine ⟨⟨args,rangeAt_blk h1 (hk b h2) (by simp [ndC]),hq b hlt h2,?_⟩,RowAt.keep hk hq h4⟩
  rcases h3 with h3 | ⟨b',o',c',e,h5,h6,h7⟩
  · exact .inl h3
  · exact .inr ⟨b',o',c',e,h5,h6,RowAt.keep hk hq h7⟩
theorem SlAt.keep {w w':World} {Q Q':Nat→Prop} (hk:∀ b,Q b→b < w.heap.size→w'.heap[b]?=w.heap[b]?) (hq:∀ b,b < w.heap.size→Q b→Q' b) {v:Value} {F:Fo} (h:SlAt w Q v F):SlAt w' Q' v F:=by
 rcases h with h | ⟨b,o,c,e,h5,h6,h7⟩
 · exact .inl h
 · exact .inr ⟨b,o,c,e,h5,h6,RowAt.keep hk hq h7⟩
theorem ExM.keep {w w':World} {Q Q':Nat→Prop} (hk:∀ b,Q b→b < w.heap.size→w'.heap[b]?=w.heap[b]?) (hq:∀ b,b < w.heap.size→Q b→Q' b) {M:List Value} {E:Ex} (h:ExM w Q M E):ExM w' Q' M E:=by
 obtain ⟨args,e,h⟩:=h
 exact ⟨args,e,h.keep hk hq⟩
theorem ExM.below {w w':World} {Q:Nat→Prop} {M:List Value} {E:Ex} (h:ExM w Q M E) (hb:Below w.heap.size w w'):ExM w' Q M E:=h.keep (fun b _ hl=>hb.block b hl) (fun _ _ h=>h)
/-- Rows joined. -/
theorem RowAt.append {w:World} {Q:Nat→Prop}:∀ {F G:Fo} {b o:Nat},RowAt w Q F b o→RowAt w Q G b (o+10 * cnt F)→RowAt w Q (Fo.app F G) b o
 | .nil,_,_,_,_,h=>by simpa [Fo.app,cnt] using h
 | .node _ _ a kids rest,G,b,off,h,h'=>by
  obtain ⟨h1,h2⟩:=h
  refine ⟨h1,RowAt.append h2 ?_⟩
  rw [show off+10+10 * cnt rest=off+10 * cnt (Go.Deep.BT.node 0 0 a kids rest:Fo) by simp only[cnt];omega]
  exact h'
/-- One expression as a row. -/
theorem RowAt.one {w:World} {Q:Nat→Prop} {M:List Value} {E:Ex} {b o:Nat} (h:ExM w Q M E) (hr:w.rangeAt b o M) (hb:Q b):RowAt w Q (Fo.cons E.1 E.2 .nil) b o:=by
 obtain ⟨args,rfl,hs⟩:=h
 refine ⟨⟨args,hr,hb,?_⟩,trivial⟩
 exact hs
/-- A variable of an expression's type. -/
def VrX (w:World) (b:Nat) (M:List Value):Prop:=w.heap[b]?=some (.cells M.toArray 29 (0,0))∧M.length=10
theorem VrX.range {w:World} {b:Nat} {M:List Value} (h:VrX w b M):w.rangeAt b 0 M:=fun j v hv=>by
 rw [Nat.zero_add,cellX h.1];simpa using hv
theorem VrX.there {w:World} {b:Nat} {M:List Value} (h:VrX w b M):w.there b 0 10:=fun j hj=>by
 rw [Nat.zero_add,cellX h.1,frzX h.1]
 exact ⟨by simp [h.2,hj],rfl⟩
theorem sizeEx:(Tryz.prog.info? 29).map (·.size)=some 10:=by
 have h:=Tryz.infoEx
 cases hi:Tryz.prog.info? 29 with
 | none=>rw [hi] at h;cases h
 | some i=>rw [hi] at h;simp at h ⊢;exact h.2.1
theorem VrX.load {w:World} {b:Nat} {M:List Value} (h:VrX w b M):(Instr.loadAt 29 (.pointer (some ⟨b,0,none⟩))).run Tryz.prog w=.ok (.agg M.toArray) w:=
 run_loadAt_mid w b 0 29 M _ h.range Tryz.underlying29 rfl (by rw [h.2];exact sizeEx)
theorem setCells_heap (b:Nat):∀ (vs:List Value) (o:Nat) (w:World) (k:Nat),k ≠ b→(w.setCells b o vs).heap[k]?=w.heap[k]?
 | [],_,_,_,_=>rfl
 | v :: r,o,w,k,h=>by
  rw [World.setCells,setCells_heap b r (o+1) _ k h]
  exact Below.heap_setCell w ⟨b,o,none⟩ v k h
theorem setCells_env (b:Nat):∀ (vs:List Value) (o:Nat) (w:World),(w.setCells b o vs).os=w.os∧(w.setCells b o vs).tape=w.tape∧(w.setCells b o vs).output=w.output∧(w.setCells b o vs).heap.size=w.heap.size
 | [],_,_=>⟨rfl,rfl,rfl,rfl⟩
 | v :: r,o,w=>by
  obtain ⟨h1,h2,h3,h4⟩:=setCells_env b r (o+1) (w.setCell ⟨b,o,none⟩ v)
  rw [World.setCells]
  exact ⟨h1,h2,h3,by rw [h4];simp⟩
theorem setCells_at (b:Nat) {T:TypeId}:∀ (vs:List Value) (o:Nat) (w:World) (pre post:List Value),pre.length=o→vs.length=post.length→w.heap[b]?=some (.cells (pre ++ post).toArray T (0,0))→(w.setCells b o vs).heap[b]?=some (.cells (pre ++ vs).toArray T (0,0))
 | [],o,w,pre,post,_,hl,h=>by
  have:post=[]:=List.eq_nil_of_length_eq_zero (by simpa using hl.symm)
  subst this
  exact h
 | v :: r,o,w,pre,post,hp,hl,h=>by
  cases post with
  | nil=>simp at hl
  | cons u post=>
   rw [World.setCells]
   have h1:=setX h o v
   have e:(pre ++ u :: post).toArray.setIfInBounds o v=((pre ++ [v]) ++ post).toArray:=by
    rw [← hp];simp
   rw [e] at h1
   have h2:=setCells_at b r (o+1) _ (pre ++ [v]) post (by simp [hp]) (by simpa using hl) h1
   simpa using h2
theorem VrX.set {w:World} {b:Nat} {M M':List Value} (h:VrX w b M) (hl:M'.length=10):VrX (w.setCells b 0 M') b M':=by
 refine ⟨?_,hl⟩
 have:=setCells_at b M' 0 w [] M rfl (by rw [hl,h.2]) h.1
 simpa using this
theorem VrX.store {w:World} {b:Nat} {M M':List Value} (h:VrX w b M) (hl:M'.length=10) (h1:∀ u ∈ M',u.oneCell'=true):(Instr.storeAt 29 (.pointer (some ⟨b,0,none⟩)) (.agg M'.toArray)).run Tryz.prog w=.ok () (w.setCells b 0 M'):=by
 have:=run_storeAt_mid (P:=Tryz.prog) w b 0 29 M'.toArray (by simpa [hl] using h.there) (by simpa [hl] using sizeEx) (all_oneCell_toArray h1)
 simpa using this
theorem VrX.keep {w w':World} {b:Nat} {M:List Value} (h:VrX w b M) (hb:w'.heap[b]?=w.heap[b]?):VrX w' b M:=⟨hb.trans h.1,h.2⟩
/-- Where a parser stands: its token, how much is open, its error's place and class. -/
structure PS where
 i:Nat
 deep:Int
 at':Nat
 err:Nat
def exZ:Ex:=(⟨0,0,0,0,[],[],[],0,0⟩,.nil)
def binE (op:Int) (A B:Ex):Ex:=(⟨4,op,0,0,[],[],[],0,0⟩,Fo.cons A.1 A.2 (Fo.cons B.1 B.2 .nil))
def unE (op:Int) (A:Ex):Ex:=(⟨3,op,0,0,[],[],[],0,0⟩,Fo.cons A.1 A.2 .nil)
def valE (k n:Int) (t:List UInt8):Ex:=(⟨1,0,k,n,t,[],[],0,0⟩,.nil)
def colE (tab nam:List UInt8):Ex:=(⟨2,0,0,0,[],tab,nam,0,0⟩,.nil)
def numF (s:List UInt8):Int:=s.foldl (fun n c=>IntKind.u64.wrap (IntKind.u64.wrap (10 * n)+((c.toNat:Int) - 48) % 256)) 0
def gtL (a b:List UInt8):Bool:=!Op.bytesLess a b && !(a == b)
section
variable (T:List Tk)
def tkS (S:PS):Tk:=T.getD S.i ⟨0,[],0⟩
def failS (e:Nat) (S:PS):PS:=if S.err=0 then { S with err:=e,at':=(tkS T S).pos } else S
def isS (k:Nat) (x:List UInt8) (S:PS):Bool:=S.err == 0 && ((tkS T S).kind == k && (tkS T S).text == x)
def nextS (S:PS):PS:=if S.err=0∧S.i+1 < T.length then { S with i:=S.i+1 } else S
def mayS (k:Nat) (x:List UInt8) (S:PS):PS:=if isS T k x S then nextS T S else S
def mustS (k:Nat) (x:List UInt8) (S:PS):PS:=if isS T k x S then nextS T S else failS T 1 S
def openS (x:List UInt8) (S:PS):PS:=
 if isS T 5 x S || isS T 2 x S then (if S.deep=30 then failS T 2 S else nextS T { S with deep:=wrap64 (S.deep+1) }) else failS T 1 S
def closeS (x:List UInt8) (S:PS):PS:=if x=[] then { S with deep:=wrap64 (S.deep - 1) } else mustS T 5 x { S with deep:=wrap64 (S.deep - 1) }
def namedS (S:PS):Bool:=S.err == 0 && (tkS T S).kind == 1
def nameS (S:PS):List UInt8 × PS:=
 if namedS T S then (if 20 < (tkS T S).text.length then ([],failS T 2 S) else ((tkS T S).text,nextS T S)) else ([],failS T 1 S)
def beginsS (S:PS):Bool:=
 let t:=tkS T S
 if t.kind=1 ∨ t.kind=3 ∨ t.kind=4 then true
 else if t.kind=5 then t.text == [40] || t.text == [45]
 else if t.kind=2 then t.text == [78,79,84] || t.text == [78,85,76,76] || t.text == [84,82,85,69] || t.text == [70,65,76,83,69] || t.text == [67,65,83,69] || t.text == [67,79,85,78,84] || t.text == [83,85,77] || t.text == [77,73,78] || t.text == [77,65,88]
 else false
def elementS (n:Nat) (S:PS):PS:=if S.err=0∧n=10∧beginsS T S=true then failS T 2 S else S
def numberS (most:List UInt8) (S:PS):Int × PS:=
 let s:=(tkS T S).text
 if most.length < s.length ∨ (s.length=most.length∧gtL s most=true) then (0,failS T 2 S) else (numF s,S)
/-- Operators of one word, to the left. -/
def loopW (sub:PS→Ex × PS) (kw:List UInt8) (op:Int):Nat→Ex→PS→Ex × PS
 | 0,a,S=>(a,S)
 | n+1,a,S=>if isS T 2 kw S then loopW sub kw op n (binE op a (sub (nextS T S)).1) (sub (nextS T S)).2 else (a,S)
/-- Operators of three signs. -/
def loopG (sub:PS→Ex × PS) (g1 g2 g3:List UInt8) (o1 o2 o3:Int):Nat→Ex→PS→Ex × PS
 | 0,a,S=>(a,S)
 | n+1,a,S=>
  if isS T 5 g1 S then loopG sub g1 g2 g3 o1 o2 o3 n (binE o1 a (sub (nextS T S)).1) (sub (nextS T S)).2
  else if isS T 5 g2 S then loopG sub g1 g2 g3 o1 o2 o3 n (binE o2 a (sub (nextS T S)).1) (sub (nextS T S)).2
  else if isS T 5 g3 S then loopG sub g1 g2 g3 o1 o2 o3 n (binE o3 a (sub (nextS T S)).1) (sub (nextS T S)).2
  else (a,S)
def exprsS (sub:PS→Ex × PS):Nat→Fo→PS→Fo × PS
 | 0,l,S=>(l,S)
 | n+1,l,S=>
  if S.err=0 then
   let r:=sub (elementS T (cnt l) S)
   let l':=Fo.app l (Fo.cons r.1.1 r.1.2 .nil)
   if isS T 5 [44] r.2 then exprsS sub n l' (nextS T r.2) else (l',r.2)
  else (l,S)
def signsL:List (List UInt8):=[[61],[60,62],[60],[60,61],[62],[62,61]]
def signI (S:PS):Nat→List (List UInt8)→Option Nat
 | _,[]=>none
 | i,g :: gs=>if isS T 5 g S then some i else signI S (i+1) gs
def testS (sub3 sub7:PS→Ex × PS) (n:Nat) (S:PS):Ex × PS:=
 let a:=(sub3 S).1
 let S1:=(sub3 S).2
 match signI T S1 0 signsL with
 | some i=>(binE (5+i) a (sub3 (nextS T S1)).1,(sub3 (nextS T S1)).2)
 | none=>
  if isS T 2 [73,83] S1 then
   let S2:=nextS T S1
   (unE (if isS T 2 [78,79,84] S2 then 4 else 3) a,mustS T 2 [78,85,76,76] (mayS T 2 [78,79,84] S2))
  else
   let nt:=isS T 2 [78,79,84] S1
   let S2:=mayS T 2 [78,79,84] S1
   let r:Ex × PS:=
    if isS T 2 [73,78] S2 then
     let l:=exprsS T sub7 n .nil (openS T [40] (nextS T S2))
     ((⟨5,0,0,0,[],[],[],0,0⟩,Fo.cons a.1 a.2 l.1),closeS T [41] l.2)
    else if isS T 2 [66,69,84,87,69,69,78] S2 then
     let lo:=sub3 (nextS T S2)
     let hi:=sub3 (mustS T 2 [65,78,68] lo.2)
     (binE 17 (binE 10 a lo.1) (binE 8 a hi.1),hi.2)
    else (a,if nt then failS T 1 S2 else S2)
   (if nt then unE 2 r.1 else r.1,r.2)
def casesS (sub7:PS→Ex × PS):Nat→Fo→PS→Fo × PS
 | 0,l,S=>(l,S)
 | n+1,l,S=>
  if S.err=0∧(cnt l=0 ∨ isS T 2 [87,72,69,78] S=true) then
   let S1:=mustS T 2 [87,72,69,78] (if cnt l=20 then failS T 2 S else S)
   let c:=sub7 S1
   let v:=sub7 (mustS T 2 [84,72,69,78] c.2)
   casesS sub7 n (Fo.app l (Fo.cons c.1.1 c.1.2 (Fo.cons v.1.1 v.1.2 .nil))) v.2
  else (l,S)
def caseS (sub7:PS→Ex × PS) (n:Nat) (S:PS):Ex × PS:=
 let r:=casesS T sub7 n .nil (openS T [67,65,83,69] S)
 let q:Fo × PS:=if isS T 2 [69,76,83,69] r.2 then
  let e:=sub7 (nextS T r.2)
  (Fo.app r.1 (Fo.cons e.1.1 e.1.2 .nil),e.2) else r
 ((⟨6,0,0,0,[],[],[],0,0⟩,q.1),closeS T [] (mustS T 2 [69,78,68] q.2))
def aggsL:List (List UInt8):=[[67,79,85,78,84],[83,85,77],[77,73,78],[77,65,88]]
def aggI (S:PS):Nat→List (List UInt8)→Option Nat
 | _,[]=>none
 | i,g :: gs=>if isS T 2 g S then some i else aggI S (i+1) gs
def most8:List UInt8:=[57,50,50,51,51,55,50,48,51,54,56,53,52,55,55,53,56,48,56]
def most7:List UInt8:=[57,50,50,51,51,55,50,48,51,54,56,53,52,55,55,53,56,48,55]
def factorS (sub1 sub7:PS→Ex × PS) (n:Nat) (S:PS):Ex × PS:=
 if isS T 5 [45] S then
  if (T.getD (S.i+1) ⟨0,[],0⟩).kind=3 then
   let r:=numberS T most8 (nextS T S)
   (valE 2 (wrap64 (IntKind.u64.wrap (-r.1))) [],nextS T r.2)
  else
   let r:=sub1 (openS T [45] S)
   (unE 1 r.1,closeS T [] r.2)
 else if S.err ≠ 0 then (exZ,S)
 else if (tkS T S).kind=3 then
  let r:=numberS T most7 S
  (valE 2 (wrap64 r.1) [],nextS T r.2)
 else if (tkS T S).kind=4 then
  (valE 3 0 (tkS T S).text,nextS T (if 40 < (tkS T S).text.length then failS T 2 S else S))
 else if (tkS T S).kind=1 then
  let r:=nameS T S
  if isS T 5 [46] r.2 then
   let q:=nameS T (nextS T r.2)
   (colE r.1 q.1,q.2)
  else (colE [] r.1,r.2)
 else if isS T 2 [78,85,76,76] S then (valE 0 0 [],nextS T S)
 else if isS T 2 [84,82,85,69] S then (valE 1 1 [],nextS T S)
 else if isS T 2 [70,65,76,83,69] S then (valE 1 0 [],nextS T S)
 else if isS T 5 [40] S then
  let r:=sub7 (openS T [40] S)
  (r.1,closeS T [41] r.2)
 else if isS T 2 [67,65,83,69] S then caseS T sub7 n S
 else match aggI T S 0 aggsL with
  | some i=>
   let S1:=openS T [40] (nextS T S)
   if i=0∧isS T 5 [42] S1=true then ((⟨7,19,0,0,[],[],[],0,0⟩,.nil),closeS T [41] (nextS T S1))
   else
    let r:=sub7 S1
    ((⟨7,19+i,0,0,[],[],[],0,0⟩,Fo.cons r.1.1 r.1.2 .nil),closeS T [41] r.2)
  | none=>(exZ,failS T 1 S)
/-- The levels: 7 expr, 6 and, 5 not, 4 test, 3 sum, 2 product, 1 factor. -/
def lev:Nat→Nat→PS→Ex × PS
 | 0,_,S=>(exZ,S)
 | n+1,k,S=>
  if k=7 then loopW T (lev n 6) [79,82] 18 n (lev n 6 S).1 (lev n 6 S).2
  else if k=6 then loopW T (lev n 5) [65,78,68] 17 n (lev n 5 S).1 (lev n 5 S).2
  else if k=5 then (if isS T 2 [78,79,84] S then (unE 2 (lev n 5 (openS T [78,79,84] S)).1,closeS T [] (lev n 5 (openS T [78,79,84] S)).2) else lev n 4 S)
  else if k=4 then testS T (lev n 3) (lev n 7) n S
  else if k=3 then loopG T (lev n 2) [43] [45] [124,124] 11 12 16 n (lev n 2 S).1 (lev n 2 S).2
  else if k=2 then loopG T (lev n 1) [42] [47] [37] 13 14 15 n (lev n 1 S).1 (lev n 1 S).2
  else factorS T (lev n 1) (lev n 7) n S
/-- What is left: it falls with each token and with an error. -/
def muS (S:PS):Nat:=if S.err=0 then 1+(T.length - S.i) else 0
end
end Go.Proofs.YtpnonhjmpnbmcaaGreatDoor
