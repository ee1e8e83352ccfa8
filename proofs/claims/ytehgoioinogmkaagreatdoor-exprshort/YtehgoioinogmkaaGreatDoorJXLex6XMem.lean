/- The document's lexer: rows of tokens; mathematics of its loops. -/
import Derived.Test.YtehgoioinogmkaaGreatDoorXLex5
import Derived.Deep.Trees
namespace Go.Proofs.YtehgoioinogmkaaGreatDoor
open Go.RowKit Go.Lib

def tkC (t : Tk) : List Value := [.int .i64 (t.kind : Int), sv t.text, .int .i64 (t.pos : Int)]
def tkCs (l : List Tk) : List Value := l.flatMap tkC
theorem tkCs_snoc (l : List Tk) (t : Tk) : tkCs (l ++ [t]) = tkCs l ++ tkC t := by simp [tkCs]
/-- A row of tokens of the call's own. -/
structure OWX (w0 w : World) (a : Option Addr) (m c : Nat) (acc : List Tk) : Prop where
  row : w.ownsRow w0.heap.size 208 3 (.slice a m c) m (tkCs acc)
  low : Below w0.heap.size w0 w
  len : m = acc.length
theorem OWX.go {w0 w w' : World} {a : Option Addr} {m c : Nat} {acc : List Tk} (h : OWX w0 w a m c acc) (hb : Below w.heap.size w w') : OWX w0 w' a m c acc :=
  ⟨own_keepX h.row hb, trX h.low hb, h.len⟩
theorem append_tk {ops : Array Oper} {rest : List Oper} {o : Oper} {act : Act} {Q : Exit → Act → World → Prop} {w0 W : World} {a : Option Addr} {m c : Nat} {acc : List Tk} (hgd : o.guard = none) (s x : Operand)
    (ho : o.op = .call { callee := .builtin .append, args := #[s, x], argTypes := #[200, 200] }) (h : OWX w0 W a m c acc) (hs : act.eval s = .slice a m c) (hx : act.eval x = .slice (some ⟨W.heap.size, 0, none⟩) 1 1) (hn : m ≤ 100000000)
    (kd pos : Int) (tx : List UInt8) (t : Tk) (ht : tkC t = [.int .i64 kd, sv tx, .int .i64 pos])
    (K : ∀ ad k w', OWX w0 w' ad (m + 1) k (acc ++ [t]) → wpList Tryz.prog ops Q rest (act.put o.dst (.slice ad (m + 1) k)) w') : wpList Tryz.prog ops Q (o :: rest) act (W.alloc (.cells #[.int .i64 kd, sv tx, .int .i64 pos] 208)) := by
  have hal : Below W.heap.size W (W.alloc (.cells #[.int .i64 kd, sv tx, .int .i64 pos] 208)) := (Below.refl _ _).alloc (Nat.le_refl _) _
  refine append1 hgd s x 200 ho w0.heap.size 208 _ 3 32 Tryz.underlying200 Tryz.infoTk rfl (by decide) (by decide) _ m _ hs (own_keepX h.row hal) W.heap.size [.int .i64 kd, sv tx, .int .i64 pos] hx (heap_alloc_new _ _) rfl ?_ hn ?_ ?_
  · intro u hu
    simp only [List.mem_cons, List.not_mem_nil, or_false] at hu
    rcases hu with rfl | rfl | rfl <;> rfl
  · exact Nat.le_trans h.low.size hal.size
  · intro ad k w' ho' hb
    refine K ad k w' ⟨?_, h.low.trans ((hal.mono h.low.size).trans hb), by rw [List.length_append, ← h.len]; rfl⟩
    rw [tkCs_snoc, ht]; exact ho'
theorem OWX.none (w : World) : OWX w w none 0 0 [] := ⟨⟨rfl, .inl ⟨rfl, rfl⟩⟩, Below.refl _ _, rfl⟩

/-- A run from place k on, seen from a place within. -/
def RunX (p : UInt8 → Bool) (l : List UInt8) (k n j : Nat) : Prop := k ≤ j ∧ j ≤ l.length ∧ n = (j - k) + ((l.drop j).takeWhile p).length
theorem RunX.begin {p : UInt8 → Bool} {l : List UInt8} {k : Nat} (hk : k ≤ l.length) : RunX p l k ((l.drop k).takeWhile p).length k := ⟨Nat.le_refl _, hk, by simp⟩
theorem RunX.next {p : UInt8 → Bool} {l : List UInt8} {k n j : Nat} {c : UInt8} (h : RunX p l k n j) (hc : l[j]? = some c) (hp : p c = true) : RunX p l k n (j + 1) := by
  obtain ⟨h1, h2, h3⟩ := h
  have hlt := (List.getElem?_eq_some_iff.1 hc).1
  refine ⟨by omega, by omega, ?_⟩
  rw [List.drop_eq_getElem_cons hlt, (List.getElem?_eq_some_iff.1 hc).2, List.takeWhile_cons_of_pos hp, List.length_cons] at h3
  omega
theorem RunX.stop {p : UInt8 → Bool} {l : List UInt8} {k n j : Nat} (h : RunX p l k n j) (hc : ∀ c, l[j]? = some c → p c = false) : j = k + n := by
  obtain ⟨h1, h2, h3⟩ := h
  rcases Nat.lt_or_ge j l.length with hlt | hge
  · rw [List.drop_eq_getElem_cons hlt, List.takeWhile_cons_of_neg (by simpa using hc _ (List.getElem?_eq_getElem hlt))] at h3
    simp at h3; omega
  · rw [List.drop_eq_nil_of_le hge] at h3
    simp at h3; omega
/-- The rest of a line, likewise. -/
def LineX (l : List UInt8) (k n j : Nat) : Prop := k ≤ j ∧ j ≤ l.length ∧ n = (j - k) + (idx 10 (l.drop j)).getD (l.length - j)
theorem LineX.next {l : List UInt8} {k n j : Nat} {c : UInt8} (h : LineX l k n j) (hc : l[j]? = some c) (hp : c ≠ 10) : LineX l k n (j + 1) := by
  obtain ⟨h1, h2, h3⟩ := h
  have hlt := (List.getElem?_eq_some_iff.1 hc).1
  refine ⟨by omega, by omega, ?_⟩
  rw [List.drop_eq_getElem_cons hlt, (List.getElem?_eq_some_iff.1 hc).2, idx, if_neg hp] at h3
  cases hi : idx 10 (l.drop (j + 1)) with
  | none => rw [hi] at h3; simp at h3 ⊢; omega
  | some i => rw [hi] at h3; simp at h3 ⊢; omega
theorem LineX.stop {l : List UInt8} {k n j : Nat} (h : LineX l k n j) (hc : ∀ c, l[j]? = some c → c = 10) : j = k + n := by
  obtain ⟨h1, h2, h3⟩ := h
  rcases Nat.lt_or_ge j l.length with hlt | hge
  · rw [List.drop_eq_getElem_cons hlt, idx, if_pos (hc _ (List.getElem?_eq_getElem hlt))] at h3
    simp at h3; omega
  · rw [List.drop_eq_nil_of_le hge] at h3
    simp [idx] at h3; omega
/-- A number's noughts. -/
theorem num_nought {r : List UInt8} (h : r ≠ []) : numL (48 :: r) = numL r := by
  unfold numL
  obtain ⟨n, hn⟩ : ∃ n, r.length = n + 1 := ⟨r.length - 1, by have := List.length_pos_iff.2 h; omega⟩
  simp [hn, List.take_succ_cons]
theorem num_other {c : UInt8} (h : c ≠ 48) (r : List UInt8) : numL (c :: r) = c :: r := by
  unfold numL
  cases r with
  | nil => rfl
  | cons d r =>
    have hb : (c == 48) = false := by simpa using h
    simp only [List.length_cons, Nat.add_sub_cancel, List.take_succ_cons, List.dropWhile, hb]
    rw [List.drop_succ_cons, List.cons_append, List.take_append_drop]
/-- A number's token, seen from a place within. -/
def NumX (tok : List UInt8) (j : Nat) : Prop := j < tok.length ∧ numL tok = numL (tok.drop j)
theorem NumX.next {tok : List UInt8} {j : Nat} (h : NumX tok j) (hj : j + 1 < tok.length) (hc : tok[j]? = some 48) : NumX tok (j + 1) := by
  obtain ⟨h1, h2⟩ := h
  refine ⟨hj, ?_⟩
  rw [h2, List.drop_eq_getElem_cons h1, (List.getElem?_eq_some_iff.1 hc).2, num_nought]
  intro e
  have := congrArg List.length e
  simp at this; omega
theorem NumX.stop {tok : List UInt8} {j : Nat} (h : NumX tok j) (hs : j + 1 = tok.length ∨ ∀ c, tok[j]? = some c → c ≠ 48) : numL tok = tok.drop j := by
  obtain ⟨h1, h2⟩ := h
  rw [h2, List.drop_eq_getElem_cons h1]
  rcases hs with hs | hs
  · rw [List.drop_eq_nil_of_le (by omega)]; rfl
  · exact num_other (hs _ (List.getElem?_eq_getElem h1)) _
end Go.Proofs.YtehgoioinogmkaaGreatDoor
/- Expressions: trees, and how they lie in memory. -/
namespace Go.Proofs.YtehgoioinogmkaaGreatDoor
open Go.RowKit Go.Lib

/-- A node of an expression: all but its arguments. -/
structure Nd where
  kind : Int
  op : Int
  vk : Int
  vi : Int
  vt : List UInt8
  tab : List UInt8
  nam : List UInt8
  at' : Int
  ty : Int
/-- A row of expressions: each a node, its arguments, and the rest. -/
abbrev Fo := Go.Deep.BT Nd
abbrev Fo.cons (a : Nd) (kids rest : Fo) : Fo := Go.Deep.BT.node 0 0 a kids rest
/-- An expression. -/
abbrev Ex := Nd × Fo
def cnt : Fo → Nat
  | .nil => 0
  | .node _ _ _ _ rest => cnt rest + 1
def Fo.app : Fo → Fo → Fo
  | .nil, g => g
  | .node b o a k rest, g => .node b o a k (Fo.app rest g)
/-- A node's cells. -/
def ndC (a : Nd) (args : Value) : List Value := [.int .i64 a.kind, .int .i64 a.op, .int .i64 a.vk, .int .i64 a.vi, sv a.vt, sv a.tab, sv a.nam, args, .int .i64 a.at', .int .i64 a.ty]
theorem ndC_len (a : Nd) (v : Value) : (ndC a v).length = 10 := rfl
/-- A row of expressions from a cell of a block on, all its blocks among Q. -/
def RowAt (w : World) (Q : Nat → Prop) : Fo → Nat → Nat → Prop
  | .nil, _, _ => True
  | .node _ _ a kids rest, b, off => (∃ args, w.rangeAt b off (ndC a args) ∧ Q b ∧
      ((kids = .nil ∧ ∃ c, args = .slice none 0 c) ∨ (∃ b' o' c', args = .slice (some ⟨b', o', none⟩) (cnt kids) c' ∧ cnt kids ≤ c' ∧ c' ≤ maxLen ∧ RowAt w Q kids b' o'))) ∧ RowAt w Q rest b (off + 10)
/-- A slice of expressions. -/
def SlAt (w : World) (Q : Nat → Prop) (v : Value) (F : Fo) : Prop :=
  (F = .nil ∧ ∃ c, v = .slice none 0 c) ∨ (∃ b o c, v = .slice (some ⟨b, o, none⟩) (cnt F) c ∧ cnt F ≤ c ∧ c ≤ maxLen ∧ RowAt w Q F b o)
/-- An expression by its cells. -/
def ExM (w : World) (Q : Nat → Prop) (M : List Value) (E : Ex) : Prop := ∃ args, M = ndC E.1 args ∧ SlAt w Q args E.2
theorem ExM.len {w : World} {Q : Nat → Prop} {M : List Value} {E : Ex} (h : ExM w Q M E) : M.length = 10 := by obtain ⟨args, rfl, _⟩ := h; rfl
theorem slAt_slice {w : World} {Q : Nat → Prop} {v : Value} {F : Fo} (h : SlAt w Q v F) : ∃ a c, v = .slice a (cnt F) c := by
  rcases h with ⟨rfl, c, rfl⟩ | ⟨b, o, c, rfl, _⟩
  · exact ⟨_, _, rfl⟩
  · exact ⟨_, _, rfl⟩
theorem slAt_one {w : World} {Q : Nat → Prop} {v : Value} {F : Fo} (h : SlAt w Q v F) : v.oneCell' = true := by
  obtain ⟨a, c, rfl⟩ := slAt_slice h; rfl
theorem ndC_one {a : Nd} {args : Value} (h : args.oneCell' = true) : ∀ u ∈ ndC a args, u.oneCell' = true := by
  intro u hu
  simp only [ndC, List.mem_cons, List.not_mem_nil, or_false] at hu
  rcases hu with rfl | rfl | rfl | rfl | rfl | rfl | rfl | rfl | rfl | rfl
  all_goals first | rfl | exact h
theorem ExM.one {w : World} {Q : Nat → Prop} {M : List Value} {E : Ex} (h : ExM w Q M E) : ∀ u ∈ M, u.oneCell' = true := by
  obtain ⟨args, rfl, h⟩ := h
  exact ndC_one (slAt_one h)
theorem rangeAt_blk {w w' : World} {b o : Nat} {cs : List Value} (h : w.rangeAt b o cs) (hb : b < w.heap.size → w'.heap[b]? = w.heap[b]?) (hne : cs ≠ []) : w'.rangeAt b o cs := by
  have hlt : b < w.heap.size := by
    cases cs with
    | nil => exact absurd rfl hne
    | cons c cs => exact World.block_lt_of_cell? w _ (h 0 c rfl)
  intro j v hv
  rw [World.cell?_of_block (a := ⟨b, o + j, none⟩) (hb hlt)]
  exact h j v hv
theorem RowAt.keep {w w' : World} {Q Q' : Nat → Prop} (hk : ∀ b, Q b → b < w.heap.size → w'.heap[b]? = w.heap[b]?) (hq : ∀ b, b < w.heap.size → Q b → Q' b) : ∀ {F : Fo} {b o : Nat}, RowAt w Q F b o → RowAt w' Q' F b o
  | .nil, _, _, _ => trivial
  | .node _ _ a kids rest, b, off, h => by
    obtain ⟨⟨args, h1, h2, h3⟩, h4⟩ := h
    have hlt : b < w.heap.size := World.block_lt_of_cell? w _ (h1 0 _ rfl)
    refine ⟨⟨args, rangeAt_blk h1 (hk b h2) (by simp [ndC]), hq b hlt h2, ?_⟩, RowAt.keep hk hq h4⟩
    rcases h3 with h3 | ⟨b', o', c', e, h5, h6, h7⟩
    · exact .inl h3
    · exact .inr ⟨b', o', c', e, h5, h6, RowAt.keep hk hq h7⟩
theorem SlAt.keep {w w' : World} {Q Q' : Nat → Prop} (hk : ∀ b, Q b → b < w.heap.size → w'.heap[b]? = w.heap[b]?) (hq : ∀ b, b < w.heap.size → Q b → Q' b) {v : Value} {F : Fo} (h : SlAt w Q v F) : SlAt w' Q' v F := by
  rcases h with h | ⟨b, o, c, e, h5, h6, h7⟩
  · exact .inl h
  · exact .inr ⟨b, o, c, e, h5, h6, RowAt.keep hk hq h7⟩
theorem ExM.keep {w w' : World} {Q Q' : Nat → Prop} (hk : ∀ b, Q b → b < w.heap.size → w'.heap[b]? = w.heap[b]?) (hq : ∀ b, b < w.heap.size → Q b → Q' b) {M : List Value} {E : Ex} (h : ExM w Q M E) : ExM w' Q' M E := by
  obtain ⟨args, e, h⟩ := h
  exact ⟨args, e, h.keep hk hq⟩
theorem ExM.below {w w' : World} {Q : Nat → Prop} {M : List Value} {E : Ex} (h : ExM w Q M E) (hb : Below w.heap.size w w') : ExM w' Q M E := h.keep (fun b _ hl => hb.block b hl) (fun _ _ h => h)
/-- Rows joined. -/
theorem RowAt.append {w : World} {Q : Nat → Prop} : ∀ {F G : Fo} {b o : Nat}, RowAt w Q F b o → RowAt w Q G b (o + 10 * cnt F) → RowAt w Q (Fo.app F G) b o
  | .nil, _, _, _, _, h => by simpa [Fo.app, cnt] using h
  | .node _ _ a kids rest, G, b, off, h, h' => by
    obtain ⟨h1, h2⟩ := h
    refine ⟨h1, RowAt.append h2 ?_⟩
    rw [show off + 10 + 10 * cnt rest = off + 10 * cnt (Go.Deep.BT.node 0 0 a kids rest : Fo) by simp only [cnt]; omega]
    exact h'
/-- One expression as a row. -/
theorem RowAt.one {w : World} {Q : Nat → Prop} {M : List Value} {E : Ex} {b o : Nat} (h : ExM w Q M E) (hr : w.rangeAt b o M) (hb : Q b) : RowAt w Q (Fo.cons E.1 E.2 .nil) b o := by
  obtain ⟨args, rfl, hs⟩ := h
  refine ⟨⟨args, hr, hb, ?_⟩, trivial⟩
  exact hs
/-- A variable of an expression's type. -/
def VrX (w : World) (b : Nat) (M : List Value) : Prop := w.heap[b]? = some (.cells M.toArray 29 (0, 0)) ∧ M.length = 10
theorem VrX.range {w : World} {b : Nat} {M : List Value} (h : VrX w b M) : w.rangeAt b 0 M := fun j v hv => by
  rw [Nat.zero_add, cellX h.1]; simpa using hv
theorem VrX.there {w : World} {b : Nat} {M : List Value} (h : VrX w b M) : w.there b 0 10 := fun j hj => by
  rw [Nat.zero_add, cellX h.1, frzX h.1]
  exact ⟨by simp [h.2, hj], rfl⟩
theorem sizeEx : (Tryz.prog.info? 29).map (·.size) = some 10 := by
  have h := Tryz.infoEx
  cases hi : Tryz.prog.info? 29 with
  | none => rw [hi] at h; cases h
  | some i => rw [hi] at h; simp at h ⊢; exact h.2.1
theorem VrX.load {w : World} {b : Nat} {M : List Value} (h : VrX w b M) : (Instr.loadAt 29 (.pointer (some ⟨b, 0, none⟩))).run Tryz.prog w = .ok (.agg M.toArray) w :=
  run_loadAt_mid w b 0 29 M _ h.range Tryz.underlying29 rfl (by rw [h.2]; exact sizeEx)
theorem setCells_heap (b : Nat) : ∀ (vs : List Value) (o : Nat) (w : World) (k : Nat), k ≠ b → (w.setCells b o vs).heap[k]? = w.heap[k]?
  | [], _, _, _, _ => rfl
  | v :: r, o, w, k, h => by
    rw [World.setCells, setCells_heap b r (o + 1) _ k h]
    exact Below.heap_setCell w ⟨b, o, none⟩ v k h
theorem setCells_env (b : Nat) : ∀ (vs : List Value) (o : Nat) (w : World), (w.setCells b o vs).os = w.os ∧ (w.setCells b o vs).tape = w.tape ∧ (w.setCells b o vs).output = w.output ∧ (w.setCells b o vs).heap.size = w.heap.size
  | [], _, _ => ⟨rfl, rfl, rfl, rfl⟩
  | v :: r, o, w => by
    obtain ⟨h1, h2, h3, h4⟩ := setCells_env b r (o + 1) (w.setCell ⟨b, o, none⟩ v)
    rw [World.setCells]
    exact ⟨h1, h2, h3, by rw [h4]; simp⟩
theorem setCells_at (b : Nat) {T : TypeId} : ∀ (vs : List Value) (o : Nat) (w : World) (pre post : List Value), pre.length = o → vs.length = post.length → w.heap[b]? = some (.cells (pre ++ post).toArray T (0, 0)) → (w.setCells b o vs).heap[b]? = some (.cells (pre ++ vs).toArray T (0, 0))
  | [], o, w, pre, post, _, hl, h => by
    have : post = [] := List.eq_nil_of_length_eq_zero (by simpa using hl.symm)
    subst this
    exact h
  | v :: r, o, w, pre, post, hp, hl, h => by
    cases post with
    | nil => simp at hl
    | cons u post =>
      rw [World.setCells]
      have h1 := setX h o v
      have e : (pre ++ u :: post).toArray.setIfInBounds o v = ((pre ++ [v]) ++ post).toArray := by
        rw [← hp]; simp
      rw [e] at h1
      have h2 := setCells_at b r (o + 1) _ (pre ++ [v]) post (by simp [hp]) (by simpa using hl) h1
      simpa using h2
theorem VrX.set {w : World} {b : Nat} {M M' : List Value} (h : VrX w b M) (hl : M'.length = 10) : VrX (w.setCells b 0 M') b M' := by
  refine ⟨?_, hl⟩
  have := setCells_at b M' 0 w [] M rfl (by rw [hl, h.2]) h.1
  simpa using this
theorem VrX.store {w : World} {b : Nat} {M M' : List Value} (h : VrX w b M) (hl : M'.length = 10) (h1 : ∀ u ∈ M', u.oneCell' = true) : (Instr.storeAt 29 (.pointer (some ⟨b, 0, none⟩)) (.agg M'.toArray)).run Tryz.prog w = .ok () (w.setCells b 0 M') := by
  have := run_storeAt_mid (P := Tryz.prog) w b 0 29 M'.toArray (by simpa [hl] using h.there) (by simpa [hl] using sizeEx) (all_oneCell_toArray h1)
  simpa using this
theorem VrX.keep {w w' : World} {b : Nat} {M : List Value} (h : VrX w b M) (hb : w'.heap[b]? = w.heap[b]?) : VrX w' b M := ⟨hb.trans h.1, h.2⟩
end Go.Proofs.YtehgoioinogmkaaGreatDoor
