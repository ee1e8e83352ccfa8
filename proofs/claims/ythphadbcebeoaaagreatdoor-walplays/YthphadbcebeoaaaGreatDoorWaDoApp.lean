/- WalPlays: what an Append does to a state. -/
import Derived.Test.YthphadbcebeoaaaGreatDoorWaDrop
import Derived.Test.YthphadbcebeoaaaGreatDoorJRefEn2RefEn3JointRdAllRefRowValsInLawWrites
import Derived.Test.YthphadbcebeoaaaGreatDoorJHandLawFramesSPackHandL
import Derived.Deep.RegionLaw
namespace Go.Proofs.YthphadbcebeoaaaGreatDoor
open Go.RowKit Go.Lib Go.Maps

theorem put_cls (g : GE) (w : World) (hg : g.ok) : Calls Tryz.prog 41 #[.agg #[.int .u64 (g.term : Int), .int .i64 g.kind, .int .u64 (g.client : Int), .int .u64 (g.seq : Int), .string g.sql]] w fun e w' => ∃ p, e = .returned (.tuple #[p, .int .i64 (if g.may = true then 0 else 20)]) ∧ Below w.heap.size w w' := by
  have e1 : clsOf (entBytes g) = if g.may = true then 0 else 20 := by
    cases hm : g.may with
    | true =>
      have : entBytes g = some g.bytes := putEnt_yes hm
      rw [this]; rfl
    | false =>
      have : entBytes g = none := putEnt_no hm
      rw [this]; rfl
  rw [← e1]
  exact (refPutEntry_wr g w hg).mono fun _ _ ⟨p, h1, _, h3⟩ => ⟨p, h1, h3⟩
/-- One entry more behind a row that has no room: a row of its own. -/
theorem el_full {ops : Array Oper} {o : Oper} {a : Act} {w : World} {K : Act → World → Prop} {Q : Exit → Act → World → Prop} {E : Prop} (hgd : o.guard = none) (s x : Operand)
    (ho : o.op = .call { callee := .builtin .append, args := #[s, x], argTypes := #[34, 34] })
    {ad : Option Addr} {n : Nat} {es : List GE} (hm : EL w (.slice ad n n) es) (hs : a.eval s = .slice ad n n) (hf : es.length ≤ 1000000) {nb no c : Nat} {e : GE} (hx : a.eval x = .slice (some ⟨nb, no, none⟩) 1 c) (hr : ∀ j u, (geC e)[j]? = some u → w.cell? ⟨nb, no + j, none⟩ = some u)
    (h : ∀ v' w', EL w' v' (es ++ [e]) → (∀ g, inB v' g → w.heap.size ≤ g) → Below w.heap.size w w' → K (a.put o.dst v') w') : if Region.wanted o (yielded ops a.tmps) = true then Oper.wp Tryz.prog o a w K Q else E := by
  obtain ⟨i0, hi, hz0, hz1, hz2⟩ := info_parts Tryz.infoEn
  have hnews : ∀ j u, (geC e)[j]? = some u → w.cell? ((⟨nb, no, none⟩ : Addr).add j) = some u := fun j u hj => by
    have := hr j u hj
    rwa [Go.WideShapes.add_plain]
  have fin : ∀ v' w', w'.ownsRow w.heap.size 37 5 v' (es.length + 1) (esC es ++ geC e) → w.grownBy w' none → K (a.put o.dst v') w' := fun v' w' ho' hg => by
    obtain ⟨h1, h2⟩ := EL.own (es := es ++ [e]) (by rw [esC_app, esC_one]; exact ho') (by simp)
    exact h v' w' h1 h2 ⟨hg.os, hg.tape, hg.output, hg.size, fun k hk => hg.block k hk (by simp)⟩
  rcases id hm with ⟨h1, rfl⟩ | ⟨g, off, k, cur, h1, h2, h3, h4, h5, h6⟩
  · cases h1
    exact step_append_grows hgd s x 34 ho 37 i0 _ 5 48 Tryz.underlying34 hi hz0 hz1 hz2 rfl (by decide) none 0 0 [] hs (fun _ => ⟨rfl, rfl⟩) rfl (fun b hb => by cases hb) ⟨nb, no, none⟩ 1 c (geC e) hx rfl hnews (geC_one e) (by decide) (by unfold maxLen; decide) (by decide) (fun v' w' ho' hg => fin v' w' (by simpa [esC] using ho') hg)
  · cases h1
    obtain ⟨hrr, hth⟩ := row_at h2 h5 h6
    refine step_append_grows hgd s x 34 ho 37 i0 _ 5 48 Tryz.underlying34 hi hz0 hz1 hz2 rfl (by decide) (some ⟨g, off, none⟩) es.length es.length (esC es) hs (fun hh => by cases hh) (esC_len es) (fun b hb j u hj => ?_) ⟨nb, no, none⟩ 1 c (geC e) hx rfl hnews (geC_one e) (by omega) (by unfold maxLen; omega) (by omega) (fun v' w' ho' hg => fin v' w' ho' hg)
    cases hb
    rw [Go.WideShapes.add_plain]
    exact hrr j u hj
/-- The states behind each entry. -/
def prefS (s : Sta) (es : List GE) (i : Nat) : List Sta := (List.range i).map fun k => ⟨s.term, s.vote, s.base, s.bt, s.es ++ es.take (k + 1)⟩
theorem prefS_succ (s : Sta) (es : List GE) (i : Nat) : prefS s es (i + 1) = prefS s es i ++ [⟨s.term, s.vote, s.base, s.bt, s.es ++ es.take (i + 1)⟩] := by simp [prefS, List.range_succ]
theorem Tryz.infoSt : (Tryz.prog.info? 56).map (fun i => (i.zero, i.size, i.bytes)) = some (some (.agg #[.int .u64 0, .int .i64 0, .int .u64 0, .int .u64 0, .slice none 0 0]), 5, 56) := by kernel_rfl
theorem el_ne {w : World} {v : Value} {es : List GE} {b : Nat} {c : Array Value} {T : TypeId} (h : EL w v es) (hb : w.heap[b]? = some (.cells c T (0, 0))) (hT : T ≠ 37) : ¬ inB v b := by
  rintro ⟨o, n, k, rfl⟩
  rcases h with ⟨e, _⟩ | ⟨g, off, k', cur, h1, h2, _⟩
  · cases e
  · cases h1
    exact hT (Obj.cells.inj (Option.some.inj (hb.symm.trans h2))).2.1
/-- At the loop's head. -/
structure LI (w wr : World) (s : Sta) (v : Value) (x : GStp) (i j : Nat) (vo vl : Value) (ms : List (Sta × Value)) : Prop where
  below : Below w.heap.size w wr
  sb : wr.heap[w.heap.size]? = some (.cells #[.int .u64 (s.term : Int), .int .i64 ((s.vote : Int) - 1), .int .u64 (s.base : Int), .int .u64 (s.bt : Int), vl] 56 (0, 0))
  xb : wr.heap[w.heap.size + 1]? = some (.cells #[.int .i64 x.what, .int .i64 x.num, .int .u64 (x.index : Int), .int .u64 (x.term : Int), .int .i64 x.vote, x.l, x.k] 59 (0, 0))
  el : EL wr vl (s.es ++ x.es.take j)
  inb : ∀ g, inB vl g → inB v g ∨ w.heap.size ≤ g
  row : wr.ownsRow (w.heap.size + 2) 56 5 vo i (msC ms)
  len : ms.length = i
  els : ∀ y ∈ ms, EL wr y.2 y.1.es ∧ ∀ g, inB y.2 g → inB v g ∨ w.heap.size ≤ g
  fst : ms.map Prod.fst = prefS s x.es i
theorem LI.later {w wr w' : World} {s : Sta} {v : Value} {x : GStp} {i j : Nat} {vo vl : Value} {ms : List (Sta × Value)} (h : LI w wr s v x i j vo vl ms) (hb : Below wr.heap.size wr w') : LI w w' s v x i j vo vl ms :=
  ⟨below_trans0 h.below hb, (hb.block _ (Array.getElem?_eq_some_iff.1 h.sb).1).trans h.sb, (hb.block _ (Array.getElem?_eq_some_iff.1 h.xb).1).trans h.xb, h.el.below hb, h.inb, own_later h.row hb, h.len, fun y hy => ⟨(h.els y hy).1.below hb, (h.els y hy).2⟩, h.fst⟩
theorem LI.start (w : World) (s : Sta) (v : Value) (x : GStp) (hv : EL w v s.es) : LI w ((w.alloc (.cells #[.int .u64 (s.term : Int), .int .i64 ((s.vote : Int) - 1), .int .u64 (s.base : Int), .int .u64 (s.bt : Int), v] 56)).alloc (.cells #[.int .i64 x.what, .int .i64 x.num, .int .u64 (x.index : Int), .int .u64 (x.term : Int), .int .i64 x.vote, x.l, x.k] 59)) s v x 0 0 (.slice none 0 0) v [] := by
  have h := X0.start w s v x
  exact ⟨h.1, h.2.1, h.2.2, by simpa using hv.below h.1, fun g hg => .inl hg, World.ownsRow_nil _ _ _ _, rfl, fun y hy => (by cases hy), rfl⟩
theorem LI.cells {w wr : World} {s : Sta} {v : Value} {x : GStp} {i j : Nat} {vo vl : Value} {ms : List (Sta × Value)} (h : LI w wr s v x i j vo vl ms) : (wr.cell? ⟨w.heap.size, 0, none⟩ = some (.int .u64 (s.term : Int)) ∧ wr.cell? ⟨w.heap.size, 1, none⟩ = some (.int .i64 ((s.vote : Int) - 1)) ∧ wr.cell? ⟨w.heap.size, 2, none⟩ = some (.int .u64 (s.base : Int)) ∧ wr.cell? ⟨w.heap.size, 3, none⟩ = some (.int .u64 (s.bt : Int)) ∧ wr.cell? ⟨w.heap.size, 4, none⟩ = some vl) ∧ wr.cell? ⟨w.heap.size + 1, 5, none⟩ = some x.l ∧ wr.frozen? ⟨w.heap.size, 4, none⟩ = false :=
  ⟨⟨(Dk.cellB h.sb 0).1, (Dk.cellB h.sb 1).1, (Dk.cellB h.sb 2).1, (Dk.cellB h.sb 3).1, (Dk.cellB h.sb 4).1⟩, (Dk.cellB h.xb 5).1, (Dk.cellB h.sb 4).2⟩
/-- The state's row one entry longer. -/
theorem LI.grow {w wr w9 w10 : World} {s : Sta} {v : Value} {x : GStp} {i : Nat} {vo vl v9 : Value} {ms : List (Sta × Value)} {g : GE} (h : LI w wr s v x i i vo vl ms) (hg : x.es[i]? = some g) (hb : Below wr.heap.size wr w9) (he : EL w9 v9 (s.es ++ x.es.take i ++ [g])) (hin : ∀ b, inB v9 b → wr.heap.size ≤ b) (hw : w10.heap = (w9.setCell ⟨w.heap.size, 4, none⟩ v9).heap) (henv : Dk.Env w9 w10) : LI w w10 s v x i (i + 1) vo v9 ms := by
  have h9 := h.later hb
  have hne : ∀ q, q ≠ w.heap.size → w10.heap[q]? = w9.heap[q]? := fun q hq => by rw [hw]; exact Dk.heap_setCell_ne _ _ hq
  have hz : w10.heap.size = w9.heap.size := by rw [hw]; simp
  have hsl := (Array.getElem?_eq_some_iff.1 h.sb).1
  have ht : x.es.take (i + 1) = x.es.take i ++ [g] := by rw [List.take_add_one, hg]; rfl
  have key : ∀ {u : Value} {es : List GE}, EL w9 u es → EL w10 u es := fun hu => hu.keep (fun q hq => hne q (fun e => el_ne hu h9.sb (by decide) (e ▸ hq)))
  refine ⟨⟨henv.1.trans h9.below.os, henv.2.1.trans h9.below.tape, henv.2.2.trans h9.below.output, by have := h9.below.size; omega, fun k hk => (hne k (by omega)).trans (h9.below.block k hk)⟩, ?_, (hne _ (by omega)).trans h9.xb, by rw [ht, ← List.append_assoc]; exact key he, fun b hb' => .inr (by have := hin b hb'; have := h.below.size; omega), ?_, h.len, fun y hy => ⟨key (h9.els y hy).1, (h9.els y hy).2⟩, h.fst⟩
  · rw [hw]
    exact (Dk.heap_setCell_at h9.sb _ _).trans rfl
  · obtain ⟨h1, h2 | ⟨g', cap, cur, q3, q4, q5, q6⟩⟩ := h9.row
    · exact ⟨h1, .inl h2⟩
    · exact ⟨h1, .inr ⟨g', cap, cur, q3, q4, (hne g' (by omega)).trans q5, q6⟩⟩
/-- The row of states one longer. -/
theorem LI.row_more {w W10 w' : World} {s : Sta} {v : Value} {x : GStp} {i N k9 ok : Nat} {oa a9 : Option Addr} {v' : Value} {ms : List (Sta × Value)} {g : GE} {c : Array Value} (h : LI w W10 s v x i (i + 1) (.slice oa i ok) (.slice a9 (N + 1) k9) ms) (hg : x.es[i]? = some g) (hm : g.may = true) (hN : N = s.es.length + i) (hmay : ∀ g ∈ x.es.take i, g.may = true)
    (how : w'.ownsRow (w.heap.size + 2) 56 5 v' (i + 1) (msC ms ++ stC s (.slice a9 (N + 1) k9))) (hgr : World.grownBy (W10.alloc (.cells c 56)) w' (Value.ownBlock (.slice oa i ok))) :
    ∃ oa' ok', v' = .slice oa' (i + 1) ok' ∧ Hid (N + 1 = s.es.length + (i + 1) ∧ LI w w' s v x (i + 1) (i + 1) (.slice oa' (i + 1) ok') (.slice a9 (N + 1) k9) (ms ++ [(⟨s.term, s.vote, s.base, s.bt, s.es ++ x.es.take (i + 1)⟩, .slice a9 (N + 1) k9)]) ∧ ∀ g ∈ x.es.take (i + 1), g.may = true) := by
  obtain ⟨oa', ok', rfl⟩ : ∃ oa' ok', v' = .slice oa' (i + 1) ok' := by
    rcases how.2 with ⟨e, e2⟩ | ⟨g', cap, cur, e, _⟩
    · omega
    · exact ⟨_, cap, e⟩
  refine ⟨oa', ok', rfl, by omega, ?_, fun y hy => ?_⟩
  · have hz : W10.heap.size ≤ w'.heap.size := by have := hgr.size; rw [World.size_alloc] at this; omega
    have hob : ∀ q, q < W10.heap.size → (∀ d, oa = some d → q ≠ d.block) → w'.heap[q]? = W10.heap[q]? := fun q hq hne => by
      refine (hgr.block q (by rw [World.size_alloc]; omega) (fun e => ?_)).trans (heap_alloc_old _ _ hq)
      cases oa with
      | none => cases e
      | some d => simp [Value.ownBlock] at e; exact hne d rfl e
    have hrow : ∀ d, oa = some d → w.heap.size + 2 ≤ d.block ∧ ∃ cur, W10.heap[d.block]? = some (.cells cur 56 (0, 0)) := fun d hd => by
      subst hd
      rcases h.row.2 with ⟨e, _⟩ | ⟨g', cap, cur, e, hB, hc, _⟩
      · cases e
      · cases e
        exact ⟨hB, cur, hc⟩
    have key : ∀ {u : Value} {es : List GE}, EL W10 u es → EL w' u es := fun hu => hu.keep (fun q hq => hob q (hu.lt hq) (fun d hd e => by
      obtain ⟨_, cur, hc⟩ := hrow d hd
      rw [← e] at hc
      exact el_ne hu hc (by decide) hq))
    have hxl := (Array.getElem?_eq_some_iff.1 h.xb).1
    refine ⟨⟨hgr.os.trans h.below.os, hgr.tape.trans h.below.tape, hgr.output.trans h.below.output, by have := h.below.size; omega, fun k hk => (hob k (by have := h.below.size; omega) (fun d hd e => by have := (hrow d hd).1; omega)).trans (h.below.block k hk)⟩, (hob _ (by omega) (fun d hd e => by have := (hrow d hd).1; omega)).trans h.sb, (hob _ hxl (fun d hd e => by have := (hrow d hd).1; omega)).trans h.xb, key h.el, h.inb, ?_, by rw [List.length_append, h.len]; rfl, fun y hy => ?_, ?_⟩
    · rw [msC_app]
      have : msC [((⟨s.term, s.vote, s.base, s.bt, s.es ++ x.es.take (i + 1)⟩ : Sta), Value.slice a9 (N + 1) k9)] = stC s (.slice a9 (N + 1) k9) := by simp [msC, stC]
      rw [this]
      exact how
    · rcases List.mem_append.1 hy with h' | h'
      · exact ⟨key (h.els y h').1, (h.els y h').2⟩
      · rw [List.mem_singleton.1 h']
        exact ⟨key h.el, h.inb⟩
    · rw [List.map_append, h.fst, prefS_succ]
      rfl
  · rw [List.take_add_one, hg] at hy
    rcases List.mem_append.1 hy with h' | h'
    · exact hmay y h'
    · simp at h'
      rw [h']
      exact hm
section
variable {w : World} {s : Sta} {v : Value} {x : GStp}
set_option maxHeartbeats 12800000 in
set_option maxRecDepth 100000 in
theorem does_app (hv : EL w v s.es) (hx0 : x.what = 1 ∨ x.what = 2 ∨ x.what = 3) (hsl : SlE w w.heap.size x.l x.es) (hn : s.es.length + x.es.length ≤ 900000) : Calls Tryz.prog 21 #[stA s v, spA x] w fun e w' => ((∀ g ∈ x.es, g.may = true) ∧ DoesP w v (prefS s x.es x.es.length) 0 e w') ∨ ((¬ ∀ g ∈ x.es, g.may = true) ∧ DoesP w v [] 20 e w') := by
  have HLI := hide (LI.start w s v x hv)
  obtain ⟨wh, nu, ix, te, vo, l, es, k, ks⟩ := x
  dsimp only at *
  obtain ⟨hl1, hl2, la, lc, rfl, hc⟩ := hsl
  have hel : (es.length : Int) ≤ 900000 := by omega
  have HOK := hide hl2
  have HP := hide (fun (W : World) (g : GE) (hg : g.ok) => put_cls g W hg)
  have HR : Hid (∀ (i : Nat) (wr : World), i < es.length → Below w.heap.size w wr → ∃ (g : GE) (b off : Nat), la = some ⟨b, off, none⟩ ∧ es[i]? = some g ∧ g.ok ∧ b < w.heap.size ∧ wr.cell? ⟨b, off + i * 5, none⟩ = some (.int .u64 (g.term : Int)) ∧ wr.cell? ⟨b, off + i * 5 + 1, none⟩ = some (.int .i64 g.kind) ∧ wr.cell? ⟨b, off + i * 5 + 2, none⟩ = some (.int .u64 (g.client : Int)) ∧ wr.cell? ⟨b, off + i * 5 + 3, none⟩ = some (.int .u64 (g.seq : Int)) ∧ wr.cell? ⟨b, off + i * 5 + 4, none⟩ = some (.string g.sql)) := by
    intro i wr hil hb
    have hg : es[i]? = some es[i] := List.getElem?_eq_getElem hil
    obtain ⟨b, off, rfl, hbl, hcc⟩ := hc (fun e => by rw [e] at hil; simp at hil)
    obtain ⟨c0, c1, c2, c3, c4⟩ := hcc i _ hg
    exact ⟨es[i], b, off, rfl, hg, hl2 _ (List.mem_of_getElem? hg), hbl, (hb.cell (p := ⟨b, _, none⟩) hbl).trans c0, (hb.cell (p := ⟨b, _, none⟩) hbl).trans c1, (hb.cell (p := ⟨b, _, none⟩) hbl).trans c2, (hb.cell (p := ⟨b, _, none⟩) hbl).trans c3, (hb.cell (p := ⟨b, _, none⟩) hbl).trans c4⟩
  obtain ⟨va, vk, rfl, _, _⟩ := id hv.slice
  clear hv hc hl1 hl2
  obtain ⟨W0, hW0⟩ : ∃ W0, W0 = (w.alloc (.cells #[.int .u64 (s.term : Int), .int .i64 ((s.vote : Int) - 1), .int .u64 (s.base : Int), .int .u64 (s.bt : Int), .slice va s.es.length vk] 56)).alloc (.cells #[.int .i64 wh, .int .i64 nu, .int .u64 (ix : Int), .int .u64 (te : Int), .int .i64 vo, .slice la es.length lc, k] 59) := ⟨_, rfl⟩
  rw [← hW0] at HLI
  have hwh1 : ¬ wh = 0 := by omega
  have hwh : (wh == 1 || wh == 2 || wh == 3) = true := by rcases hx0 with h | h | h <;> simp [h]
  go_enter Tryz.func21, Tryz.ntmps21
  rcases hx0 with rfl | rfl | rfl
  · go_wp2_with fail
    rw [← hW0]
    clear hW0
    go_loopw [6, 7, 8, 9] (fun s6 s7 s8 s9 wr => s8 = s8 ∧ s9 = s9 ∧ ∃ (i ok lk N : Nat) (oa la4 : Option Addr) (ms : List (Sta × Value)), i ≤ es.length ∧ s6 = .slice oa i ok ∧ s7 = .int .i64 (i : Int) ∧ Hid (N = s.es.length + i ∧ LI w wr s (.slice va s.es.length vk) ⟨1, nu, ix, te, vo, .slice la es.length lc, es, k, ks⟩ i i (.slice oa i ok) (.slice la4 N lk) ms ∧ ∀ g ∈ es.take i, g.may = true)) (fun _ s7 _ _ _ => es.length - (RowKit.intOf s7).toNat)
    case atStart => exact ⟨rfl, rfl, 0, 0, vk, s.es.length, none, va, [], Nat.zero_le _, rfl, rfl, rfl, unhide HLI, fun g hg => by simp at hg⟩
    case round =>
      obtain ⟨-, -, i, ok, lk, N, oa, la4, ms, hi, rfl, rfl, hr⟩ := hrel
      clear HLI
      by_cases hlt : i < es.length
      · obtain ⟨g, b, off, rfl, hg, hgo, hbl, d0, d1, d2, d3, d4⟩ := unhide HR i wr hlt (unhide hr).2.1.below
        obtain ⟨⟨z0, z1, z2, z3, z4⟩, x5, f4⟩ := (unhide hr).2.1.cells
        dsimp only at x5
        have hii : (i : Int) < (es.length : Int) := by omega
        have hi0 : (0 : Int) ≤ (i : Int) := by omega
        have HP1 := hide (unhide HP wr g hgo)
        cases hm : g.may with
        | false =>
          rw [hm] at HP1
          have HBAD : Hid (∀ W, Below wr.heap.size wr W → DoesP w (.slice va s.es.length vk) [] 20 (.returned (.tuple #[.slice none 0 0, .int .i64 20])) W) := fun W hb => DoesP.nil0 (below_trans0 (unhide hr).2.1.below hb)
          have HNO : Hid (¬ ∀ g ∈ es, g.may = true) := fun hh => by have := hh g (List.mem_of_getElem? hg); rw [hm] at this; cases this
          clear hr HR HP HOK hgo hg
          simp only [Bool.false_eq_true, if_false] at HP1
          go_wp2_with (first
            | (go_at_call 41; refine (unhide HP1).mono ?_; rintro e w5 ⟨u5, rfl, b5⟩; clear HP1))
          go_ret2
          exact .inr ⟨unhide HNO, unhide HBAD _ b5⟩
        | true =>
          rw [hm] at HP1
          simp only [if_true] at HP1
          have HM := hide hm
          have hNe := (unhide hr).1
          have hlk : N ≤ lk ∧ (lk : Int) ≤ 9223372036854775807 := by
            obtain ⟨_, k0, e, h2, h3⟩ := (unhide hr).2.1.el.slice
            have e3 : lk = k0 := by injection e
            rw [List.length_append, List.length_take, Nat.min_eq_left hi] at h2
            unfold maxLen at h3
            omega
          obtain ⟨hlk, hlm⟩ := hlk
          have hNi : (N : Int) ≤ (lk : Int) := by omega
          have hN0 : (0 : Int) ≤ (N : Int) := by omega
          have hNm : max (N : Int) 0 = (N : Int) := by omega
          have HNE := hide hNe
          have HA : Hid (∀ w5 : World, Below wr.heap.size wr w5 → ∃ W, (w5.alloc (.cells #[.int .u64 (g.term : Int), .int .i64 g.kind, .int .u64 (g.client : Int), .int .u64 (g.seq : Int), .string g.sql] 37)).drew = W ∧ (W.cell? ⟨w.heap.size, 4, none⟩ = some (.slice la4 N lk) ∧ W.cell? ⟨w.heap.size + 1, 5, none⟩ = some (.slice (some ⟨b, off, none⟩) es.length lc)) ∧ Hid (EL W (.slice la4 N N) (s.es ++ es.take i)) ∧ Hid (∀ j u, (geC g)[j]? = some u → W.cell? ⟨w5.heap.size, 0 + j, none⟩ = some u) ∧ Hid (∀ v9 w9, EL w9 v9 (s.es ++ es.take i ++ [g]) → (∀ q, inB v9 q → W.heap.size ≤ q) → Below W.heap.size W w9 → ∃ a9 k9, v9 = .slice a9 (N + 1) k9 ∧ w9.cell? ⟨w.heap.size, 4, none⟩ = some (.slice la4 N lk) ∧ w9.frozen? ⟨w.heap.size, 4, none⟩ = false ∧ Hid (∀ w10 : World, w10.heap = (w9.setCell ⟨w.heap.size, 4, none⟩ (.slice a9 (N + 1) k9)).heap → Dk.Env w9 w10 → LI w w10 s (.slice va s.es.length vk) ⟨1, nu, ix, te, vo, .slice (some ⟨b, off, none⟩) es.length lc, es, k, ks⟩ i (i + 1) (.slice oa i ok) (.slice a9 (N + 1) k9) ms))) := by
            intro w5 hb5
            have hbx := box_below w5 (.cells #[.int .u64 (g.term : Int), .int .i64 g.kind, .int .u64 (g.client : Int), .int .u64 (g.seq : Int), .string g.sql] 37)
            have hbW := below_trans0 hbx (drew_below (w5.alloc (.cells #[.int .u64 (g.term : Int), .int .i64 g.kind, .int .u64 (g.client : Int), .int .u64 (g.seq : Int), .string g.sql] 37)) 1)
            have hbr := below_trans0 hb5 hbW
            have hW := (unhide hr).2.1.later hbr
            have hn : (w5.alloc (.cells #[.int .u64 (g.term : Int), .int .i64 g.kind, .int .u64 (g.client : Int), .int .u64 (g.seq : Int), .string g.sql] 37)).drew.heap[w5.heap.size]? = some (.cells #[.int .u64 (g.term : Int), .int .i64 g.kind, .int .u64 (g.client : Int), .int .u64 (g.seq : Int), .string g.sql] 37 (0, 0)) := heap_alloc_new _ _
            refine ⟨_, rfl, ⟨hW.cells.1.2.2.2.2, hW.cells.2.1⟩, hW.el.cap, fun j u hj => ?_, fun v9 w9 h9 hin hb9 => ?_⟩
            · rw [Nat.zero_add, (Dk.cellB hn j).1, ← hj, ← Array.getElem?_toList]
              rfl
            · have h10 := hW.later hb9
              obtain ⟨a9, k9, rfl, _, _⟩ := id h9.slice
              have hl9 : (s.es ++ es.take i ++ [g]).length = N + 1 := by rw [List.length_append, List.length_append, List.length_take, Nat.min_eq_left hi, hNe]; rfl
              rw [hl9] at h9 hin ⊢
              exact ⟨a9, k9, rfl, h10.cells.1.2.2.2.2, h10.cells.2.2, fun w10 hw henv => hW.grow (g := g) hg hb9 h9 hin hw henv⟩
          have HFW := hide (fun (W : World) (hb : Below wr.heap.size wr W) => (unhide hr).2.1.later hb)
          have HMAY := hide (unhide hr).2.2
          have HG := hide hg
          clear hr HP HOK hgo hg z0 z1 z2 z3 f4 hNe
          go_wp2_with (first
            | (go_at_call 41; refine (unhide HP1).mono ?_; rintro e w5 ⟨u5, rfl, b5⟩; obtain ⟨W, hW, ⟨t4, t5⟩, HEL, HN, HF9⟩ := unhide HA w5 b5; have e0 := (b5.cell (p := ⟨b, off + i * 5, none⟩) (lt_of_cell d0)).trans d0; have e1 := (b5.cell (p := ⟨b, off + i * 5 + 1, none⟩) (lt_of_cell d1)).trans d1; have e2 := (b5.cell (p := ⟨b, off + i * 5 + 2, none⟩) (lt_of_cell d2)).trans d2; have e3 := (b5.cell (p := ⟨b, off + i * 5 + 3, none⟩) (lt_of_cell d3)).trans d3; have e4 := (b5.cell (p := ⟨b, off + i * 5 + 4, none⟩) (lt_of_cell d4)).trans d4; have y4 := (b5.cell (p := ⟨w.heap.size, 4, none⟩) (lt_of_cell z4)).trans z4; have y5 := (b5.cell (p := ⟨w.heap.size + 1, 5, none⟩) (lt_of_cell x5)).trans x5; clear HP1 HA b5 d0 d1 d2 d3 d4 z4 x5))
          have HSK : Hid (∀ w9 : World, Below W.heap.size W w9 → (w9.cell? ⟨w.heap.size, 4, none⟩ = some (.slice la4 N lk) ∧ w9.cell? ⟨w.heap.size + 1, 5, none⟩ = some (.slice (some ⟨b, off, none⟩) es.length lc)) ∧ w9.cell? ⟨b, off + i * 5, none⟩ = some (.int .u64 (g.term : Int)) ∧ w9.cell? ⟨b, off + i * 5 + 1, none⟩ = some (.int .i64 g.kind) ∧ w9.cell? ⟨b, off + i * 5 + 2, none⟩ = some (.int .u64 (g.client : Int)) ∧ w9.cell? ⟨b, off + i * 5 + 3, none⟩ = some (.int .u64 (g.seq : Int)) ∧ w9.cell? ⟨b, off + i * 5 + 4, none⟩ = some (.string g.sql)) := by
            intro w9 hb
            have hbx : Below w5.heap.size w5 W := by rw [← hW]; exact below_trans0 (box_below w5 _) (drew_below _ 1)
            have hb5 := below_trans0 hbx hb
            exact ⟨⟨(hb5.cell (p := ⟨_, _, none⟩) (lt_of_cell y4)).trans y4, (hb5.cell (p := ⟨_, _, none⟩) (lt_of_cell y5)).trans y5⟩, (hb5.cell (p := ⟨_, _, none⟩) (lt_of_cell e0)).trans e0, (hb5.cell (p := ⟨_, _, none⟩) (lt_of_cell e1)).trans e1, (hb5.cell (p := ⟨_, _, none⟩) (lt_of_cell e2)).trans e2, (hb5.cell (p := ⟨_, _, none⟩) (lt_of_cell e3)).trans e3, (hb5.cell (p := ⟨_, _, none⟩) (lt_of_cell e4)).trans e4⟩
          have HSW := hide (unhide HSK W (Below.refl _ _))
          have HS5 : Hid ((w5.drew.cell? ⟨w.heap.size, 4, none⟩ = some (.slice la4 N lk) ∧ w5.drew.cell? ⟨w.heap.size + 1, 5, none⟩ = some (.slice (some ⟨b, off, none⟩) es.length lc)) ∧ w5.drew.cell? ⟨b, off + i * 5, none⟩ = some (.int .u64 (g.term : Int)) ∧ w5.drew.cell? ⟨b, off + i * 5 + 1, none⟩ = some (.int .i64 g.kind) ∧ w5.drew.cell? ⟨b, off + i * 5 + 2, none⟩ = some (.int .u64 (g.client : Int)) ∧ w5.drew.cell? ⟨b, off + i * 5 + 3, none⟩ = some (.int .u64 (g.seq : Int)) ∧ w5.drew.cell? ⟨b, off + i * 5 + 4, none⟩ = some (.string g.sql)) := ⟨⟨y4, y5⟩, e0, e1, e2, e3, e4⟩
          clear y4 y5 e0 e1 e2 e3 e4 t4 t5
          refine wp_region_last 17 (fun w' => (w'.cell? ⟨w.heap.size, 4, none⟩ = some (.slice la4 N lk) ∧ w'.cell? ⟨w.heap.size + 1, 5, none⟩ = some (.slice (some ⟨b, off, none⟩) es.length lc)) ∧ w'.cell? ⟨b, off + i * 5, none⟩ = some (.int .u64 (g.term : Int)) ∧ w'.cell? ⟨b, off + i * 5 + 1, none⟩ = some (.int .i64 g.kind) ∧ w'.cell? ⟨b, off + i * 5 + 2, none⟩ = some (.int .u64 (g.client : Int)) ∧ w'.cell? ⟨b, off + i * 5 + 3, none⟩ = some (.int .u64 (g.seq : Int)) ∧ w'.cell? ⟨b, off + i * 5 + 4, none⟩ = some (.string g.sql)) (by kernel_rfl) (unhide HS5) (fun hHeld => ?_)
          refine last_to (i := 0) (d := 52) (v := (.pointer (some ⟨w.heap.size, 4, none⟩))) rfl rfl (by kernel_rfl) (by kernel_rfl) (by kernel_rfl) (by kernel_rfl) (by decide) (fun _ _ _ h => h) (Or.inl ⟨by rfl, ?_⟩) hHeld ?_
          · (intro w' hSw; obtain ⟨⟨s4, s5⟩, s6, s7, s8, s9, s10⟩ := hSw; go_simp)
          simp only [Act.put, List.setIfInBounds_toArray, List.set_cons_zero, List.set_cons_succ]
          refine last_to (i := 1) (d := 53) (v := (.slice la4 N lk)) rfl rfl (by kernel_rfl) (by kernel_rfl) (by kernel_rfl) (by kernel_rfl) (by decide) (fun _ _ _ h => h) (Or.inl ⟨by rfl, ?_⟩) hHeld ?_
          · (intro w' hSw; obtain ⟨⟨s4, s5⟩, s6, s7, s8, s9, s10⟩ := hSw; go_simp)
          simp only [Act.put, List.setIfInBounds_toArray, List.set_cons_zero, List.set_cons_succ]
          refine last_to (i := 2) (d := 54) (v := (.pointer (some ⟨w.heap.size, 4, none⟩))) rfl rfl (by kernel_rfl) (by kernel_rfl) (by kernel_rfl) (by kernel_rfl) (by decide) (fun _ _ _ h => h) (Or.inl ⟨by rfl, ?_⟩) hHeld ?_
          · (intro w' hSw; obtain ⟨⟨s4, s5⟩, s6, s7, s8, s9, s10⟩ := hSw; go_simp)
          simp only [Act.put, List.setIfInBounds_toArray, List.set_cons_zero, List.set_cons_succ]
          refine last_to (i := 3) (d := 55) (v := (.slice la4 N lk)) rfl rfl (by kernel_rfl) (by kernel_rfl) (by kernel_rfl) (by kernel_rfl) (by decide) (fun _ _ _ h => h) (Or.inl ⟨by rfl, ?_⟩) hHeld ?_
          · (intro w' hSw; obtain ⟨⟨s4, s5⟩, s6, s7, s8, s9, s10⟩ := hSw; go_simp)
          simp only [Act.put, List.setIfInBounds_toArray, List.set_cons_zero, List.set_cons_succ]
          refine last_to (i := 4) (d := 56) (v := (.int .i64 (N : Int))) rfl rfl (by kernel_rfl) (by kernel_rfl) (by kernel_rfl) (by kernel_rfl) (by decide) (fun _ _ _ h => h) (Or.inl ⟨by rfl, ?_⟩) hHeld ?_
          · (intro w' hSw; obtain ⟨⟨s4, s5⟩, s6, s7, s8, s9, s10⟩ := hSw; go_simp)
          simp only [Act.put, List.setIfInBounds_toArray, List.set_cons_zero, List.set_cons_succ]
          refine last_to (i := 5) (d := 57) (v := (.pointer (some ⟨w.heap.size, 4, none⟩))) rfl rfl (by kernel_rfl) (by kernel_rfl) (by kernel_rfl) (by kernel_rfl) (by decide) (fun _ _ _ h => h) (Or.inl ⟨by rfl, ?_⟩) hHeld ?_
          · (intro w' hSw; obtain ⟨⟨s4, s5⟩, s6, s7, s8, s9, s10⟩ := hSw; go_simp)
          simp only [Act.put, List.setIfInBounds_toArray, List.set_cons_zero, List.set_cons_succ]
          refine last_to (i := 6) (d := 58) (v := (.slice la4 N lk)) rfl rfl (by kernel_rfl) (by kernel_rfl) (by kernel_rfl) (by kernel_rfl) (by decide) (fun _ _ _ h => h) (Or.inl ⟨by rfl, ?_⟩) hHeld ?_
          · (intro w' hSw; obtain ⟨⟨s4, s5⟩, s6, s7, s8, s9, s10⟩ := hSw; go_simp)
          simp only [Act.put, List.setIfInBounds_toArray, List.set_cons_zero, List.set_cons_succ]
          refine last_to (i := 7) (d := 59) (v := (.int .i64 (N : Int))) rfl rfl (by kernel_rfl) (by kernel_rfl) (by kernel_rfl) (by kernel_rfl) (by decide) (fun _ _ _ h => h) (Or.inl ⟨by rfl, ?_⟩) hHeld ?_
          · (intro w' hSw; obtain ⟨⟨s4, s5⟩, s6, s7, s8, s9, s10⟩ := hSw; go_simp)
          simp only [Act.put, List.setIfInBounds_toArray, List.set_cons_zero, List.set_cons_succ]
          refine last_to (i := 8) (d := 60) (v := (.slice la4 N N)) rfl rfl (by kernel_rfl) (by kernel_rfl) (by kernel_rfl) (by kernel_rfl) (by decide) (fun _ _ _ h => h) (Or.inl ⟨by rfl, ?_⟩) hHeld ?_
          · (intro w' hSw; obtain ⟨⟨s4, s5⟩, s6, s7, s8, s9, s10⟩ := hSw; go_simp)
          simp only [Act.put, List.setIfInBounds_toArray, List.set_cons_zero, List.set_cons_succ]
          refine last_to (i := 9) (d := 61) (v := (.pointer (some ⟨w.heap.size + 1, 5, none⟩))) rfl rfl (by kernel_rfl) (by kernel_rfl) (by kernel_rfl) (by kernel_rfl) (by decide) (fun _ _ _ h => h) (Or.inl ⟨by rfl, ?_⟩) hHeld ?_
          · (intro w' hSw; obtain ⟨⟨s4, s5⟩, s6, s7, s8, s9, s10⟩ := hSw; go_simp)
          simp only [Act.put, List.setIfInBounds_toArray, List.set_cons_zero, List.set_cons_succ]
          refine last_to (i := 10) (d := 62) (v := (.slice (some ⟨b, off, none⟩) es.length lc)) rfl rfl (by kernel_rfl) (by kernel_rfl) (by kernel_rfl) (by kernel_rfl) (by decide) (fun _ _ _ h => h) (Or.inl ⟨by rfl, ?_⟩) hHeld ?_
          · (intro w' hSw; obtain ⟨⟨s4, s5⟩, s6, s7, s8, s9, s10⟩ := hSw; go_simp)
          simp only [Act.put, List.setIfInBounds_toArray, List.set_cons_zero, List.set_cons_succ]
          refine last_to (i := 11) (d := 63) (v := (.int .i64 (i : Int))) rfl rfl (by kernel_rfl) (by kernel_rfl) (by kernel_rfl) (by kernel_rfl) (by decide) (fun _ _ _ h => h) (Or.inl ⟨by rfl, ?_⟩) hHeld ?_
          · (intro w' hSw; obtain ⟨⟨s4, s5⟩, s6, s7, s8, s9, s10⟩ := hSw; go_simp)
          simp only [Act.put, List.setIfInBounds_toArray, List.set_cons_zero, List.set_cons_succ]
          refine last_to (i := 12) (d := 64) (v := (.pointer (some ⟨b, off + i * 5, none⟩))) rfl rfl (by kernel_rfl) (by kernel_rfl) (by kernel_rfl) (by kernel_rfl) (by decide) (fun _ _ _ h => h) (Or.inl ⟨by rfl, ?_⟩) hHeld ?_
          · (intro w' hSw; obtain ⟨⟨s4, s5⟩, s6, s7, s8, s9, s10⟩ := hSw; go_simp)
          simp only [Act.put, List.setIfInBounds_toArray, List.set_cons_zero, List.set_cons_succ]
          refine last_to (i := 13) (d := 65) (v := (.agg #[.int .u64 (g.term : Int), .int .i64 g.kind, .int .u64 (g.client : Int), .int .u64 (g.seq : Int), .string g.sql])) rfl rfl (by kernel_rfl) (by kernel_rfl) (by kernel_rfl) (by kernel_rfl) (by decide) (fun _ _ _ h => h) (Or.inl ⟨by rfl, ?_⟩) hHeld ?_
          · (intro w' hSw; obtain ⟨⟨s4, s5⟩, s6, s7, s8, s9, s10⟩ := hSw; go_simp)
          simp only [Act.put, List.setIfInBounds_toArray, List.set_cons_zero, List.set_cons_succ]
          refine last_one (i := 14) (by kernel_rfl) rfl (fun K hK => ?_)
          go_simp
          refine hK.out _ _ (fun _ => (unhide HSW)) (fun hHeld2 => ?_)
          clear hK K hHeld
          have hHeld := hHeld2 (by decide)
          clear hHeld2
          try simp only [Act.put, List.setIfInBounds_toArray]
          refine last_one (i := 15) (by kernel_rfl) rfl (fun K hK => ?_)
          refine el_full rfl (.tmp 60) (.tmp 66) rfl (unhide HEL) rfl (by rw [List.length_append, List.length_take]; omega) (nb := w5.heap.size) (no := 0) (c := 1) (e := g) rfl (unhide HN) ?_
          intro v9 w9 h9 i9 b9
          have HS9 := hide (unhide HSK w9 b9)
          obtain ⟨a9, k9, rfl, x9, f9, FIN⟩ := unhide HF9 v9 w9 h9 i9 b9
          clear h9 i9 b9
          refine hK.out _ _ (fun _ => (unhide HS9)) (fun hHeld2 => ?_)
          clear hK K hHeld
          have hHeld := hHeld2 (by decide)
          clear hHeld2
          try simp only [Act.put]
          refine last_to (i := 16) (d := 68) (v := (.pointer (some ⟨w.heap.size, 4, none⟩))) rfl rfl (by kernel_rfl) (by kernel_rfl) (by kernel_rfl) (by kernel_rfl) (by decide) (fun _ _ _ h => h) (Or.inl ⟨by rfl, ?_⟩) hHeld ?_
          · (intro w' hSw; obtain ⟨⟨s4, s5⟩, s6, s7, s8, s9, s10⟩ := hSw; go_simp)
          simp only [Act.put, List.setIfInBounds_toArray]
          refine last_one (i := 17) (by kernel_rfl) rfl (fun K hK => ?_)
          go_simp
          refine hK.out _ _ (fun h => absurd rfl h) (fun _ => ?_)
          clear hK K hHeld
          try simp only [Act.put, List.setIfInBounds_toArray, List.set_cons_zero, List.set_cons_succ]
          refine last_done (by kernel_rfl) ?_ _
          have LJ := unhide FIN _ rfl ⟨rfl, rfl, rfl⟩
          generalize w9.setCell ⟨w.heap.size, 4, none⟩ (.slice a9 (N + 1) k9) = W10 at LJ ⊢
          obtain ⟨⟨t0, t1, t2, t3, t4⟩, _, _⟩ := LJ.cells
          have HO : Hid ((W10.alloc (.cells #[.int .u64 (s.term : Int), .int .i64 ((s.vote : Int) - 1), .int .u64 (s.base : Int), .int .u64 (s.bt : Int), .slice a9 (N + 1) k9] 56)).ownsRow (w.heap.size + 2) 56 5 (.slice oa i ok) i (msC ms)) := own_later LJ.row (box_below W10 _)
          have HCE : Hid (∀ j u, (stC s (.slice a9 (N + 1) k9))[j]? = some u → (W10.alloc (.cells #[.int .u64 (s.term : Int), .int .i64 ((s.vote : Int) - 1), .int .u64 (s.base : Int), .int .u64 (s.bt : Int), .slice a9 (N + 1) k9] 56)).cell? ((⟨W10.heap.size, 0, none⟩ : Addr).add j) = some u) := fun j u hj => by
            have hn : (W10.alloc (.cells #[.int .u64 (s.term : Int), .int .i64 ((s.vote : Int) - 1), .int .u64 (s.base : Int), .int .u64 (s.bt : Int), .slice a9 (N + 1) k9] 56)).heap[W10.heap.size]? = some (.cells #[.int .u64 (s.term : Int), .int .i64 ((s.vote : Int) - 1), .int .u64 (s.base : Int), .int .u64 (s.bt : Int), .slice a9 (N + 1) k9] 56 (0, 0)) := heap_alloc_new _ _
            rw [Go.WideShapes.add_plain, Nat.zero_add, (Dk.cellB hn j).1, ← hj, ← Array.getElem?_toList]
            rfl
          have HIB : w.heap.size + 2 ≤ W10.heap.size := (Array.getElem?_eq_some_iff.1 LJ.xb).1
          have HFN : Hid (∀ v' w', w'.ownsRow (w.heap.size + 2) 56 5 v' (i + 1) (msC ms ++ stC s (.slice a9 (N + 1) k9)) → World.grownBy (W10.alloc (.cells #[.int .u64 (s.term : Int), .int .i64 ((s.vote : Int) - 1), .int .u64 (s.base : Int), .int .u64 (s.bt : Int), .slice a9 (N + 1) k9] 56)) w' (Value.ownBlock (.slice oa i ok)) → ∃ oa' ok', v' = .slice oa' (i + 1) ok' ∧ Hid (N + 1 = s.es.length + (i + 1) ∧ LI w w' s (.slice va s.es.length vk) ⟨1, nu, ix, te, vo, .slice (some ⟨b, off, none⟩) es.length lc, es, k, ks⟩ (i + 1) (i + 1) (.slice oa' (i + 1) ok') (.slice a9 (N + 1) k9) (ms ++ [(⟨s.term, s.vote, s.base, s.bt, s.es ++ es.take (i + 1)⟩, .slice a9 (N + 1) k9)]) ∧ ∀ g ∈ es.take (i + 1), g.may = true)) := by
            intro v' w' how hgr
            exact LI.row_more LJ (unhide HG) (unhide HM) (unhide HNE) (unhide HMAY) how hgr
          obtain ⟨i0, hi', hz0, hz1, hz2⟩ := info_parts Tryz.infoSt
          have H1C : Hid (∀ u ∈ stC s (.slice a9 (N + 1) k9), u.oneCell' = true) := fun u hu => by
            simp [stC] at hu
            rcases hu with rfl | rfl | rfl | rfl | rfl <;> rfl
          clear LJ FIN HSK HSW HS5 HS9 HEL HN HF9 hW x9 f9
          go_wp2_with (first
            | (at_builtin; refine wpList_append_own_at _ rfl _ _ 57 rfl (w.heap.size + 2) 56 i0 _ 5 56 Tryz.underlying57 hi' hz0 hz1 hz2 rfl (by decide) _ i (msC ms) rfl (unhide HO) ⟨W10.heap.size, 0, none⟩ 1 1 (stC s (.slice a9 (N + 1) k9)) rfl rfl (unhide HCE) (unhide H1C) (by unfold maxLen; omega) (by omega) (by simp; omega) ?_; intro v12 w12 o12 g12 _ _; obtain ⟨oa', ok', rfl, H12⟩ := unhide HFN v12 w12 o12 g12; clear o12 g12 HFN HO HCE))
          go_roundw
          case rel => exact ⟨trivial, trivial, i + 1, ok', k9, N + 1, oa', a9, _, by omega, rfl, by go_num, unhide H12⟩
          case measure => simp [RowKit.intOf]; omega
      · obtain rfl : i = es.length := by omega
        have hii : ¬ ((es.length : Int) < (es.length : Int)) := by omega
        obtain ⟨_, x5, _⟩ := (unhide hr).2.1.cells
        dsimp only at x5
        have HG : Hid ((∀ g ∈ es, g.may = true) ∧ DoesP w (.slice va s.es.length vk) (prefS s es es.length) 0 (.returned (.tuple #[.slice oa es.length ok, .int .i64 0])) wr) := by
          obtain ⟨_, h1, h2⟩ := unhide hr
          rw [List.take_length] at h2
          refine ⟨h2, ms, oa, ok, by rw [h1.len], ?_, h1.els, h1.below, h1.fst⟩
          have := own_base h1.row (B' := w.heap.size) (by omega)
          rw [h1.len]
          exact this
        clear hr HR HP HOK
        go_wp2_with fail
        go_ret2
        exact .inl (unhide HG)
  · go_wp2_with fail
    rw [← hW0]
    clear hW0
    go_loopw [6, 7, 8, 9] (fun s6 s7 s8 s9 wr => s8 = s8 ∧ s9 = s9 ∧ ∃ (i ok lk N : Nat) (oa la4 : Option Addr) (ms : List (Sta × Value)), i ≤ es.length ∧ s6 = .slice oa i ok ∧ s7 = .int .i64 (i : Int) ∧ Hid (N = s.es.length + i ∧ LI w wr s (.slice va s.es.length vk) ⟨2, nu, ix, te, vo, .slice la es.length lc, es, k, ks⟩ i i (.slice oa i ok) (.slice la4 N lk) ms ∧ ∀ g ∈ es.take i, g.may = true)) (fun _ s7 _ _ _ => es.length - (RowKit.intOf s7).toNat)
    case atStart => exact ⟨rfl, rfl, 0, 0, vk, s.es.length, none, va, [], Nat.zero_le _, rfl, rfl, rfl, unhide HLI, fun g hg => by simp at hg⟩
    case round =>
      obtain ⟨-, -, i, ok, lk, N, oa, la4, ms, hi, rfl, rfl, hr⟩ := hrel
      clear HLI
      by_cases hlt : i < es.length
      · obtain ⟨g, b, off, rfl, hg, hgo, hbl, d0, d1, d2, d3, d4⟩ := unhide HR i wr hlt (unhide hr).2.1.below
        obtain ⟨⟨z0, z1, z2, z3, z4⟩, x5, f4⟩ := (unhide hr).2.1.cells
        dsimp only at x5
        have hii : (i : Int) < (es.length : Int) := by omega
        have hi0 : (0 : Int) ≤ (i : Int) := by omega
        have HP1 := hide (unhide HP wr g hgo)
        cases hm : g.may with
        | false =>
          rw [hm] at HP1
          have HBAD : Hid (∀ W, Below wr.heap.size wr W → DoesP w (.slice va s.es.length vk) [] 20 (.returned (.tuple #[.slice none 0 0, .int .i64 20])) W) := fun W hb => DoesP.nil0 (below_trans0 (unhide hr).2.1.below hb)
          have HNO : Hid (¬ ∀ g ∈ es, g.may = true) := fun hh => by have := hh g (List.mem_of_getElem? hg); rw [hm] at this; cases this
          clear hr HR HP HOK hgo hg
          simp only [Bool.false_eq_true, if_false] at HP1
          go_wp2_with (first
            | (go_at_call 41; refine (unhide HP1).mono ?_; rintro e w5 ⟨u5, rfl, b5⟩; clear HP1))
          go_ret2
          exact .inr ⟨unhide HNO, unhide HBAD _ b5⟩
        | true =>
          rw [hm] at HP1
          simp only [if_true] at HP1
          have HM := hide hm
          have hNe := (unhide hr).1
          have hlk : N ≤ lk ∧ (lk : Int) ≤ 9223372036854775807 := by
            obtain ⟨_, k0, e, h2, h3⟩ := (unhide hr).2.1.el.slice
            have e3 : lk = k0 := by injection e
            rw [List.length_append, List.length_take, Nat.min_eq_left hi] at h2
            unfold maxLen at h3
            omega
          obtain ⟨hlk, hlm⟩ := hlk
          have hNi : (N : Int) ≤ (lk : Int) := by omega
          have hN0 : (0 : Int) ≤ (N : Int) := by omega
          have hNm : max (N : Int) 0 = (N : Int) := by omega
          have HNE := hide hNe
          have HA : Hid (∀ w5 : World, Below wr.heap.size wr w5 → ∃ W, (w5.alloc (.cells #[.int .u64 (g.term : Int), .int .i64 g.kind, .int .u64 (g.client : Int), .int .u64 (g.seq : Int), .string g.sql] 37)).drew = W ∧ (W.cell? ⟨w.heap.size, 4, none⟩ = some (.slice la4 N lk) ∧ W.cell? ⟨w.heap.size + 1, 5, none⟩ = some (.slice (some ⟨b, off, none⟩) es.length lc)) ∧ Hid (EL W (.slice la4 N N) (s.es ++ es.take i)) ∧ Hid (∀ j u, (geC g)[j]? = some u → W.cell? ⟨w5.heap.size, 0 + j, none⟩ = some u) ∧ Hid (∀ v9 w9, EL w9 v9 (s.es ++ es.take i ++ [g]) → (∀ q, inB v9 q → W.heap.size ≤ q) → Below W.heap.size W w9 → ∃ a9 k9, v9 = .slice a9 (N + 1) k9 ∧ w9.cell? ⟨w.heap.size, 4, none⟩ = some (.slice la4 N lk) ∧ w9.frozen? ⟨w.heap.size, 4, none⟩ = false ∧ Hid (∀ w10 : World, w10.heap = (w9.setCell ⟨w.heap.size, 4, none⟩ (.slice a9 (N + 1) k9)).heap → Dk.Env w9 w10 → LI w w10 s (.slice va s.es.length vk) ⟨2, nu, ix, te, vo, .slice (some ⟨b, off, none⟩) es.length lc, es, k, ks⟩ i (i + 1) (.slice oa i ok) (.slice a9 (N + 1) k9) ms))) := by
            intro w5 hb5
            have hbx := box_below w5 (.cells #[.int .u64 (g.term : Int), .int .i64 g.kind, .int .u64 (g.client : Int), .int .u64 (g.seq : Int), .string g.sql] 37)
            have hbW := below_trans0 hbx (drew_below (w5.alloc (.cells #[.int .u64 (g.term : Int), .int .i64 g.kind, .int .u64 (g.client : Int), .int .u64 (g.seq : Int), .string g.sql] 37)) 1)
            have hbr := below_trans0 hb5 hbW
            have hW := (unhide hr).2.1.later hbr
            have hn : (w5.alloc (.cells #[.int .u64 (g.term : Int), .int .i64 g.kind, .int .u64 (g.client : Int), .int .u64 (g.seq : Int), .string g.sql] 37)).drew.heap[w5.heap.size]? = some (.cells #[.int .u64 (g.term : Int), .int .i64 g.kind, .int .u64 (g.client : Int), .int .u64 (g.seq : Int), .string g.sql] 37 (0, 0)) := heap_alloc_new _ _
            refine ⟨_, rfl, ⟨hW.cells.1.2.2.2.2, hW.cells.2.1⟩, hW.el.cap, fun j u hj => ?_, fun v9 w9 h9 hin hb9 => ?_⟩
            · rw [Nat.zero_add, (Dk.cellB hn j).1, ← hj, ← Array.getElem?_toList]
              rfl
            · have h10 := hW.later hb9
              obtain ⟨a9, k9, rfl, _, _⟩ := id h9.slice
              have hl9 : (s.es ++ es.take i ++ [g]).length = N + 1 := by rw [List.length_append, List.length_append, List.length_take, Nat.min_eq_left hi, hNe]; rfl
              rw [hl9] at h9 hin ⊢
              exact ⟨a9, k9, rfl, h10.cells.1.2.2.2.2, h10.cells.2.2, fun w10 hw henv => hW.grow (g := g) hg hb9 h9 hin hw henv⟩
          have HFW := hide (fun (W : World) (hb : Below wr.heap.size wr W) => (unhide hr).2.1.later hb)
          have HMAY := hide (unhide hr).2.2
          have HG := hide hg
          clear hr HP HOK hgo hg z0 z1 z2 z3 f4 hNe
          go_wp2_with (first
            | (go_at_call 41; refine (unhide HP1).mono ?_; rintro e w5 ⟨u5, rfl, b5⟩; obtain ⟨W, hW, ⟨t4, t5⟩, HEL, HN, HF9⟩ := unhide HA w5 b5; have e0 := (b5.cell (p := ⟨b, off + i * 5, none⟩) (lt_of_cell d0)).trans d0; have e1 := (b5.cell (p := ⟨b, off + i * 5 + 1, none⟩) (lt_of_cell d1)).trans d1; have e2 := (b5.cell (p := ⟨b, off + i * 5 + 2, none⟩) (lt_of_cell d2)).trans d2; have e3 := (b5.cell (p := ⟨b, off + i * 5 + 3, none⟩) (lt_of_cell d3)).trans d3; have e4 := (b5.cell (p := ⟨b, off + i * 5 + 4, none⟩) (lt_of_cell d4)).trans d4; have y4 := (b5.cell (p := ⟨w.heap.size, 4, none⟩) (lt_of_cell z4)).trans z4; have y5 := (b5.cell (p := ⟨w.heap.size + 1, 5, none⟩) (lt_of_cell x5)).trans x5; clear HP1 HA b5 d0 d1 d2 d3 d4 z4 x5))
          have HSK : Hid (∀ w9 : World, Below W.heap.size W w9 → (w9.cell? ⟨w.heap.size, 4, none⟩ = some (.slice la4 N lk) ∧ w9.cell? ⟨w.heap.size + 1, 5, none⟩ = some (.slice (some ⟨b, off, none⟩) es.length lc)) ∧ w9.cell? ⟨b, off + i * 5, none⟩ = some (.int .u64 (g.term : Int)) ∧ w9.cell? ⟨b, off + i * 5 + 1, none⟩ = some (.int .i64 g.kind) ∧ w9.cell? ⟨b, off + i * 5 + 2, none⟩ = some (.int .u64 (g.client : Int)) ∧ w9.cell? ⟨b, off + i * 5 + 3, none⟩ = some (.int .u64 (g.seq : Int)) ∧ w9.cell? ⟨b, off + i * 5 + 4, none⟩ = some (.string g.sql)) := by
            intro w9 hb
            have hbx : Below w5.heap.size w5 W := by rw [← hW]; exact below_trans0 (box_below w5 _) (drew_below _ 1)
            have hb5 := below_trans0 hbx hb
            exact ⟨⟨(hb5.cell (p := ⟨_, _, none⟩) (lt_of_cell y4)).trans y4, (hb5.cell (p := ⟨_, _, none⟩) (lt_of_cell y5)).trans y5⟩, (hb5.cell (p := ⟨_, _, none⟩) (lt_of_cell e0)).trans e0, (hb5.cell (p := ⟨_, _, none⟩) (lt_of_cell e1)).trans e1, (hb5.cell (p := ⟨_, _, none⟩) (lt_of_cell e2)).trans e2, (hb5.cell (p := ⟨_, _, none⟩) (lt_of_cell e3)).trans e3, (hb5.cell (p := ⟨_, _, none⟩) (lt_of_cell e4)).trans e4⟩
          have HSW := hide (unhide HSK W (Below.refl _ _))
          have HS5 : Hid ((w5.drew.cell? ⟨w.heap.size, 4, none⟩ = some (.slice la4 N lk) ∧ w5.drew.cell? ⟨w.heap.size + 1, 5, none⟩ = some (.slice (some ⟨b, off, none⟩) es.length lc)) ∧ w5.drew.cell? ⟨b, off + i * 5, none⟩ = some (.int .u64 (g.term : Int)) ∧ w5.drew.cell? ⟨b, off + i * 5 + 1, none⟩ = some (.int .i64 g.kind) ∧ w5.drew.cell? ⟨b, off + i * 5 + 2, none⟩ = some (.int .u64 (g.client : Int)) ∧ w5.drew.cell? ⟨b, off + i * 5 + 3, none⟩ = some (.int .u64 (g.seq : Int)) ∧ w5.drew.cell? ⟨b, off + i * 5 + 4, none⟩ = some (.string g.sql)) := ⟨⟨y4, y5⟩, e0, e1, e2, e3, e4⟩
          clear y4 y5 e0 e1 e2 e3 e4 t4 t5
          refine wp_region_last 17 (fun w' => (w'.cell? ⟨w.heap.size, 4, none⟩ = some (.slice la4 N lk) ∧ w'.cell? ⟨w.heap.size + 1, 5, none⟩ = some (.slice (some ⟨b, off, none⟩) es.length lc)) ∧ w'.cell? ⟨b, off + i * 5, none⟩ = some (.int .u64 (g.term : Int)) ∧ w'.cell? ⟨b, off + i * 5 + 1, none⟩ = some (.int .i64 g.kind) ∧ w'.cell? ⟨b, off + i * 5 + 2, none⟩ = some (.int .u64 (g.client : Int)) ∧ w'.cell? ⟨b, off + i * 5 + 3, none⟩ = some (.int .u64 (g.seq : Int)) ∧ w'.cell? ⟨b, off + i * 5 + 4, none⟩ = some (.string g.sql)) (by kernel_rfl) (unhide HS5) (fun hHeld => ?_)
          refine last_to (i := 0) (d := 52) (v := (.pointer (some ⟨w.heap.size, 4, none⟩))) rfl rfl (by kernel_rfl) (by kernel_rfl) (by kernel_rfl) (by kernel_rfl) (by decide) (fun _ _ _ h => h) (Or.inl ⟨by rfl, ?_⟩) hHeld ?_
          · (intro w' hSw; obtain ⟨⟨s4, s5⟩, s6, s7, s8, s9, s10⟩ := hSw; go_simp)
          simp only [Act.put, List.setIfInBounds_toArray, List.set_cons_zero, List.set_cons_succ]
          refine last_to (i := 1) (d := 53) (v := (.slice la4 N lk)) rfl rfl (by kernel_rfl) (by kernel_rfl) (by kernel_rfl) (by kernel_rfl) (by decide) (fun _ _ _ h => h) (Or.inl ⟨by rfl, ?_⟩) hHeld ?_
          · (intro w' hSw; obtain ⟨⟨s4, s5⟩, s6, s7, s8, s9, s10⟩ := hSw; go_simp)
          simp only [Act.put, List.setIfInBounds_toArray, List.set_cons_zero, List.set_cons_succ]
          refine last_to (i := 2) (d := 54) (v := (.pointer (some ⟨w.heap.size, 4, none⟩))) rfl rfl (by kernel_rfl) (by kernel_rfl) (by kernel_rfl) (by kernel_rfl) (by decide) (fun _ _ _ h => h) (Or.inl ⟨by rfl, ?_⟩) hHeld ?_
          · (intro w' hSw; obtain ⟨⟨s4, s5⟩, s6, s7, s8, s9, s10⟩ := hSw; go_simp)
          simp only [Act.put, List.setIfInBounds_toArray, List.set_cons_zero, List.set_cons_succ]
          refine last_to (i := 3) (d := 55) (v := (.slice la4 N lk)) rfl rfl (by kernel_rfl) (by kernel_rfl) (by kernel_rfl) (by kernel_rfl) (by decide) (fun _ _ _ h => h) (Or.inl ⟨by rfl, ?_⟩) hHeld ?_
          · (intro w' hSw; obtain ⟨⟨s4, s5⟩, s6, s7, s8, s9, s10⟩ := hSw; go_simp)
          simp only [Act.put, List.setIfInBounds_toArray, List.set_cons_zero, List.set_cons_succ]
          refine last_to (i := 4) (d := 56) (v := (.int .i64 (N : Int))) rfl rfl (by kernel_rfl) (by kernel_rfl) (by kernel_rfl) (by kernel_rfl) (by decide) (fun _ _ _ h => h) (Or.inl ⟨by rfl, ?_⟩) hHeld ?_
          · (intro w' hSw; obtain ⟨⟨s4, s5⟩, s6, s7, s8, s9, s10⟩ := hSw; go_simp)
          simp only [Act.put, List.setIfInBounds_toArray, List.set_cons_zero, List.set_cons_succ]
          refine last_to (i := 5) (d := 57) (v := (.pointer (some ⟨w.heap.size, 4, none⟩))) rfl rfl (by kernel_rfl) (by kernel_rfl) (by kernel_rfl) (by kernel_rfl) (by decide) (fun _ _ _ h => h) (Or.inl ⟨by rfl, ?_⟩) hHeld ?_
          · (intro w' hSw; obtain ⟨⟨s4, s5⟩, s6, s7, s8, s9, s10⟩ := hSw; go_simp)
          simp only [Act.put, List.setIfInBounds_toArray, List.set_cons_zero, List.set_cons_succ]
          refine last_to (i := 6) (d := 58) (v := (.slice la4 N lk)) rfl rfl (by kernel_rfl) (by kernel_rfl) (by kernel_rfl) (by kernel_rfl) (by decide) (fun _ _ _ h => h) (Or.inl ⟨by rfl, ?_⟩) hHeld ?_
          · (intro w' hSw; obtain ⟨⟨s4, s5⟩, s6, s7, s8, s9, s10⟩ := hSw; go_simp)
          simp only [Act.put, List.setIfInBounds_toArray, List.set_cons_zero, List.set_cons_succ]
          refine last_to (i := 7) (d := 59) (v := (.int .i64 (N : Int))) rfl rfl (by kernel_rfl) (by kernel_rfl) (by kernel_rfl) (by kernel_rfl) (by decide) (fun _ _ _ h => h) (Or.inl ⟨by rfl, ?_⟩) hHeld ?_
          · (intro w' hSw; obtain ⟨⟨s4, s5⟩, s6, s7, s8, s9, s10⟩ := hSw; go_simp)
          simp only [Act.put, List.setIfInBounds_toArray, List.set_cons_zero, List.set_cons_succ]
          refine last_to (i := 8) (d := 60) (v := (.slice la4 N N)) rfl rfl (by kernel_rfl) (by kernel_rfl) (by kernel_rfl) (by kernel_rfl) (by decide) (fun _ _ _ h => h) (Or.inl ⟨by rfl, ?_⟩) hHeld ?_
          · (intro w' hSw; obtain ⟨⟨s4, s5⟩, s6, s7, s8, s9, s10⟩ := hSw; go_simp)
          simp only [Act.put, List.setIfInBounds_toArray, List.set_cons_zero, List.set_cons_succ]
          refine last_to (i := 9) (d := 61) (v := (.pointer (some ⟨w.heap.size + 1, 5, none⟩))) rfl rfl (by kernel_rfl) (by kernel_rfl) (by kernel_rfl) (by kernel_rfl) (by decide) (fun _ _ _ h => h) (Or.inl ⟨by rfl, ?_⟩) hHeld ?_
          · (intro w' hSw; obtain ⟨⟨s4, s5⟩, s6, s7, s8, s9, s10⟩ := hSw; go_simp)
          simp only [Act.put, List.setIfInBounds_toArray, List.set_cons_zero, List.set_cons_succ]
          refine last_to (i := 10) (d := 62) (v := (.slice (some ⟨b, off, none⟩) es.length lc)) rfl rfl (by kernel_rfl) (by kernel_rfl) (by kernel_rfl) (by kernel_rfl) (by decide) (fun _ _ _ h => h) (Or.inl ⟨by rfl, ?_⟩) hHeld ?_
          · (intro w' hSw; obtain ⟨⟨s4, s5⟩, s6, s7, s8, s9, s10⟩ := hSw; go_simp)
          simp only [Act.put, List.setIfInBounds_toArray, List.set_cons_zero, List.set_cons_succ]
          refine last_to (i := 11) (d := 63) (v := (.int .i64 (i : Int))) rfl rfl (by kernel_rfl) (by kernel_rfl) (by kernel_rfl) (by kernel_rfl) (by decide) (fun _ _ _ h => h) (Or.inl ⟨by rfl, ?_⟩) hHeld ?_
          · (intro w' hSw; obtain ⟨⟨s4, s5⟩, s6, s7, s8, s9, s10⟩ := hSw; go_simp)
          simp only [Act.put, List.setIfInBounds_toArray, List.set_cons_zero, List.set_cons_succ]
          refine last_to (i := 12) (d := 64) (v := (.pointer (some ⟨b, off + i * 5, none⟩))) rfl rfl (by kernel_rfl) (by kernel_rfl) (by kernel_rfl) (by kernel_rfl) (by decide) (fun _ _ _ h => h) (Or.inl ⟨by rfl, ?_⟩) hHeld ?_
          · (intro w' hSw; obtain ⟨⟨s4, s5⟩, s6, s7, s8, s9, s10⟩ := hSw; go_simp)
          simp only [Act.put, List.setIfInBounds_toArray, List.set_cons_zero, List.set_cons_succ]
          refine last_to (i := 13) (d := 65) (v := (.agg #[.int .u64 (g.term : Int), .int .i64 g.kind, .int .u64 (g.client : Int), .int .u64 (g.seq : Int), .string g.sql])) rfl rfl (by kernel_rfl) (by kernel_rfl) (by kernel_rfl) (by kernel_rfl) (by decide) (fun _ _ _ h => h) (Or.inl ⟨by rfl, ?_⟩) hHeld ?_
          · (intro w' hSw; obtain ⟨⟨s4, s5⟩, s6, s7, s8, s9, s10⟩ := hSw; go_simp)
          simp only [Act.put, List.setIfInBounds_toArray, List.set_cons_zero, List.set_cons_succ]
          refine last_one (i := 14) (by kernel_rfl) rfl (fun K hK => ?_)
          go_simp
          refine hK.out _ _ (fun _ => (unhide HSW)) (fun hHeld2 => ?_)
          clear hK K hHeld
          have hHeld := hHeld2 (by decide)
          clear hHeld2
          try simp only [Act.put, List.setIfInBounds_toArray]
          refine last_one (i := 15) (by kernel_rfl) rfl (fun K hK => ?_)
          refine el_full rfl (.tmp 60) (.tmp 66) rfl (unhide HEL) rfl (by rw [List.length_append, List.length_take]; omega) (nb := w5.heap.size) (no := 0) (c := 1) (e := g) rfl (unhide HN) ?_
          intro v9 w9 h9 i9 b9
          have HS9 := hide (unhide HSK w9 b9)
          obtain ⟨a9, k9, rfl, x9, f9, FIN⟩ := unhide HF9 v9 w9 h9 i9 b9
          clear h9 i9 b9
          refine hK.out _ _ (fun _ => (unhide HS9)) (fun hHeld2 => ?_)
          clear hK K hHeld
          have hHeld := hHeld2 (by decide)
          clear hHeld2
          try simp only [Act.put]
          refine last_to (i := 16) (d := 68) (v := (.pointer (some ⟨w.heap.size, 4, none⟩))) rfl rfl (by kernel_rfl) (by kernel_rfl) (by kernel_rfl) (by kernel_rfl) (by decide) (fun _ _ _ h => h) (Or.inl ⟨by rfl, ?_⟩) hHeld ?_
          · (intro w' hSw; obtain ⟨⟨s4, s5⟩, s6, s7, s8, s9, s10⟩ := hSw; go_simp)
          simp only [Act.put, List.setIfInBounds_toArray]
          refine last_one (i := 17) (by kernel_rfl) rfl (fun K hK => ?_)
          go_simp
          refine hK.out _ _ (fun h => absurd rfl h) (fun _ => ?_)
          clear hK K hHeld
          try simp only [Act.put, List.setIfInBounds_toArray, List.set_cons_zero, List.set_cons_succ]
          refine last_done (by kernel_rfl) ?_ _
          have LJ := unhide FIN _ rfl ⟨rfl, rfl, rfl⟩
          generalize w9.setCell ⟨w.heap.size, 4, none⟩ (.slice a9 (N + 1) k9) = W10 at LJ ⊢
          obtain ⟨⟨t0, t1, t2, t3, t4⟩, _, _⟩ := LJ.cells
          have HO : Hid ((W10.alloc (.cells #[.int .u64 (s.term : Int), .int .i64 ((s.vote : Int) - 1), .int .u64 (s.base : Int), .int .u64 (s.bt : Int), .slice a9 (N + 1) k9] 56)).ownsRow (w.heap.size + 2) 56 5 (.slice oa i ok) i (msC ms)) := own_later LJ.row (box_below W10 _)
          have HCE : Hid (∀ j u, (stC s (.slice a9 (N + 1) k9))[j]? = some u → (W10.alloc (.cells #[.int .u64 (s.term : Int), .int .i64 ((s.vote : Int) - 1), .int .u64 (s.base : Int), .int .u64 (s.bt : Int), .slice a9 (N + 1) k9] 56)).cell? ((⟨W10.heap.size, 0, none⟩ : Addr).add j) = some u) := fun j u hj => by
            have hn : (W10.alloc (.cells #[.int .u64 (s.term : Int), .int .i64 ((s.vote : Int) - 1), .int .u64 (s.base : Int), .int .u64 (s.bt : Int), .slice a9 (N + 1) k9] 56)).heap[W10.heap.size]? = some (.cells #[.int .u64 (s.term : Int), .int .i64 ((s.vote : Int) - 1), .int .u64 (s.base : Int), .int .u64 (s.bt : Int), .slice a9 (N + 1) k9] 56 (0, 0)) := heap_alloc_new _ _
            rw [Go.WideShapes.add_plain, Nat.zero_add, (Dk.cellB hn j).1, ← hj, ← Array.getElem?_toList]
            rfl
          have HIB : w.heap.size + 2 ≤ W10.heap.size := (Array.getElem?_eq_some_iff.1 LJ.xb).1
          have HFN : Hid (∀ v' w', w'.ownsRow (w.heap.size + 2) 56 5 v' (i + 1) (msC ms ++ stC s (.slice a9 (N + 1) k9)) → World.grownBy (W10.alloc (.cells #[.int .u64 (s.term : Int), .int .i64 ((s.vote : Int) - 1), .int .u64 (s.base : Int), .int .u64 (s.bt : Int), .slice a9 (N + 1) k9] 56)) w' (Value.ownBlock (.slice oa i ok)) → ∃ oa' ok', v' = .slice oa' (i + 1) ok' ∧ Hid (N + 1 = s.es.length + (i + 1) ∧ LI w w' s (.slice va s.es.length vk) ⟨2, nu, ix, te, vo, .slice (some ⟨b, off, none⟩) es.length lc, es, k, ks⟩ (i + 1) (i + 1) (.slice oa' (i + 1) ok') (.slice a9 (N + 1) k9) (ms ++ [(⟨s.term, s.vote, s.base, s.bt, s.es ++ es.take (i + 1)⟩, .slice a9 (N + 1) k9)]) ∧ ∀ g ∈ es.take (i + 1), g.may = true)) := by
            intro v' w' how hgr
            exact LI.row_more LJ (unhide HG) (unhide HM) (unhide HNE) (unhide HMAY) how hgr
          obtain ⟨i0, hi', hz0, hz1, hz2⟩ := info_parts Tryz.infoSt
          have H1C : Hid (∀ u ∈ stC s (.slice a9 (N + 1) k9), u.oneCell' = true) := fun u hu => by
            simp [stC] at hu
            rcases hu with rfl | rfl | rfl | rfl | rfl <;> rfl
          clear LJ FIN HSK HSW HS5 HS9 HEL HN HF9 hW x9 f9
          go_wp2_with (first
            | (at_builtin; refine wpList_append_own_at _ rfl _ _ 57 rfl (w.heap.size + 2) 56 i0 _ 5 56 Tryz.underlying57 hi' hz0 hz1 hz2 rfl (by decide) _ i (msC ms) rfl (unhide HO) ⟨W10.heap.size, 0, none⟩ 1 1 (stC s (.slice a9 (N + 1) k9)) rfl rfl (unhide HCE) (unhide H1C) (by unfold maxLen; omega) (by omega) (by simp; omega) ?_; intro v12 w12 o12 g12 _ _; obtain ⟨oa', ok', rfl, H12⟩ := unhide HFN v12 w12 o12 g12; clear o12 g12 HFN HO HCE))
          go_roundw
          case rel => exact ⟨trivial, trivial, i + 1, ok', k9, N + 1, oa', a9, _, by omega, rfl, by go_num, unhide H12⟩
          case measure => simp [RowKit.intOf]; omega
      · obtain rfl : i = es.length := by omega
        have hii : ¬ ((es.length : Int) < (es.length : Int)) := by omega
        obtain ⟨_, x5, _⟩ := (unhide hr).2.1.cells
        dsimp only at x5
        have HG : Hid ((∀ g ∈ es, g.may = true) ∧ DoesP w (.slice va s.es.length vk) (prefS s es es.length) 0 (.returned (.tuple #[.slice oa es.length ok, .int .i64 0])) wr) := by
          obtain ⟨_, h1, h2⟩ := unhide hr
          rw [List.take_length] at h2
          refine ⟨h2, ms, oa, ok, by rw [h1.len], ?_, h1.els, h1.below, h1.fst⟩
          have := own_base h1.row (B' := w.heap.size) (by omega)
          rw [h1.len]
          exact this
        clear hr HR HP HOK
        go_wp2_with fail
        go_ret2
        exact .inl (unhide HG)
  · go_wp2_with fail
    rw [← hW0]
    clear hW0
    go_loopw [6, 7, 8, 9] (fun s6 s7 s8 s9 wr => s8 = s8 ∧ s9 = s9 ∧ ∃ (i ok lk N : Nat) (oa la4 : Option Addr) (ms : List (Sta × Value)), i ≤ es.length ∧ s6 = .slice oa i ok ∧ s7 = .int .i64 (i : Int) ∧ Hid (N = s.es.length + i ∧ LI w wr s (.slice va s.es.length vk) ⟨3, nu, ix, te, vo, .slice la es.length lc, es, k, ks⟩ i i (.slice oa i ok) (.slice la4 N lk) ms ∧ ∀ g ∈ es.take i, g.may = true)) (fun _ s7 _ _ _ => es.length - (RowKit.intOf s7).toNat)
    case atStart => exact ⟨rfl, rfl, 0, 0, vk, s.es.length, none, va, [], Nat.zero_le _, rfl, rfl, rfl, unhide HLI, fun g hg => by simp at hg⟩
    case round =>
      obtain ⟨-, -, i, ok, lk, N, oa, la4, ms, hi, rfl, rfl, hr⟩ := hrel
      clear HLI
      by_cases hlt : i < es.length
      · obtain ⟨g, b, off, rfl, hg, hgo, hbl, d0, d1, d2, d3, d4⟩ := unhide HR i wr hlt (unhide hr).2.1.below
        obtain ⟨⟨z0, z1, z2, z3, z4⟩, x5, f4⟩ := (unhide hr).2.1.cells
        dsimp only at x5
        have hii : (i : Int) < (es.length : Int) := by omega
        have hi0 : (0 : Int) ≤ (i : Int) := by omega
        have HP1 := hide (unhide HP wr g hgo)
        cases hm : g.may with
        | false =>
          rw [hm] at HP1
          have HBAD : Hid (∀ W, Below wr.heap.size wr W → DoesP w (.slice va s.es.length vk) [] 20 (.returned (.tuple #[.slice none 0 0, .int .i64 20])) W) := fun W hb => DoesP.nil0 (below_trans0 (unhide hr).2.1.below hb)
          have HNO : Hid (¬ ∀ g ∈ es, g.may = true) := fun hh => by have := hh g (List.mem_of_getElem? hg); rw [hm] at this; cases this
          clear hr HR HP HOK hgo hg
          simp only [Bool.false_eq_true, if_false] at HP1
          go_wp2_with (first
            | (go_at_call 41; refine (unhide HP1).mono ?_; rintro e w5 ⟨u5, rfl, b5⟩; clear HP1))
          go_ret2
          exact .inr ⟨unhide HNO, unhide HBAD _ b5⟩
        | true =>
          rw [hm] at HP1
          simp only [if_true] at HP1
          have HM := hide hm
          have hNe := (unhide hr).1
          have hlk : N ≤ lk ∧ (lk : Int) ≤ 9223372036854775807 := by
            obtain ⟨_, k0, e, h2, h3⟩ := (unhide hr).2.1.el.slice
            have e3 : lk = k0 := by injection e
            rw [List.length_append, List.length_take, Nat.min_eq_left hi] at h2
            unfold maxLen at h3
            omega
          obtain ⟨hlk, hlm⟩ := hlk
          have hNi : (N : Int) ≤ (lk : Int) := by omega
          have hN0 : (0 : Int) ≤ (N : Int) := by omega
          have hNm : max (N : Int) 0 = (N : Int) := by omega
          have HNE := hide hNe
          have HA : Hid (∀ w5 : World, Below wr.heap.size wr w5 → ∃ W, (w5.alloc (.cells #[.int .u64 (g.term : Int), .int .i64 g.kind, .int .u64 (g.client : Int), .int .u64 (g.seq : Int), .string g.sql] 37)).drew = W ∧ (W.cell? ⟨w.heap.size, 4, none⟩ = some (.slice la4 N lk) ∧ W.cell? ⟨w.heap.size + 1, 5, none⟩ = some (.slice (some ⟨b, off, none⟩) es.length lc)) ∧ Hid (EL W (.slice la4 N N) (s.es ++ es.take i)) ∧ Hid (∀ j u, (geC g)[j]? = some u → W.cell? ⟨w5.heap.size, 0 + j, none⟩ = some u) ∧ Hid (∀ v9 w9, EL w9 v9 (s.es ++ es.take i ++ [g]) → (∀ q, inB v9 q → W.heap.size ≤ q) → Below W.heap.size W w9 → ∃ a9 k9, v9 = .slice a9 (N + 1) k9 ∧ w9.cell? ⟨w.heap.size, 4, none⟩ = some (.slice la4 N lk) ∧ w9.frozen? ⟨w.heap.size, 4, none⟩ = false ∧ Hid (∀ w10 : World, w10.heap = (w9.setCell ⟨w.heap.size, 4, none⟩ (.slice a9 (N + 1) k9)).heap → Dk.Env w9 w10 → LI w w10 s (.slice va s.es.length vk) ⟨3, nu, ix, te, vo, .slice (some ⟨b, off, none⟩) es.length lc, es, k, ks⟩ i (i + 1) (.slice oa i ok) (.slice a9 (N + 1) k9) ms))) := by
            intro w5 hb5
            have hbx := box_below w5 (.cells #[.int .u64 (g.term : Int), .int .i64 g.kind, .int .u64 (g.client : Int), .int .u64 (g.seq : Int), .string g.sql] 37)
            have hbW := below_trans0 hbx (drew_below (w5.alloc (.cells #[.int .u64 (g.term : Int), .int .i64 g.kind, .int .u64 (g.client : Int), .int .u64 (g.seq : Int), .string g.sql] 37)) 1)
            have hbr := below_trans0 hb5 hbW
            have hW := (unhide hr).2.1.later hbr
            have hn : (w5.alloc (.cells #[.int .u64 (g.term : Int), .int .i64 g.kind, .int .u64 (g.client : Int), .int .u64 (g.seq : Int), .string g.sql] 37)).drew.heap[w5.heap.size]? = some (.cells #[.int .u64 (g.term : Int), .int .i64 g.kind, .int .u64 (g.client : Int), .int .u64 (g.seq : Int), .string g.sql] 37 (0, 0)) := heap_alloc_new _ _
            refine ⟨_, rfl, ⟨hW.cells.1.2.2.2.2, hW.cells.2.1⟩, hW.el.cap, fun j u hj => ?_, fun v9 w9 h9 hin hb9 => ?_⟩
            · rw [Nat.zero_add, (Dk.cellB hn j).1, ← hj, ← Array.getElem?_toList]
              rfl
            · have h10 := hW.later hb9
              obtain ⟨a9, k9, rfl, _, _⟩ := id h9.slice
              have hl9 : (s.es ++ es.take i ++ [g]).length = N + 1 := by rw [List.length_append, List.length_append, List.length_take, Nat.min_eq_left hi, hNe]; rfl
              rw [hl9] at h9 hin ⊢
              exact ⟨a9, k9, rfl, h10.cells.1.2.2.2.2, h10.cells.2.2, fun w10 hw henv => hW.grow (g := g) hg hb9 h9 hin hw henv⟩
          have HFW := hide (fun (W : World) (hb : Below wr.heap.size wr W) => (unhide hr).2.1.later hb)
          have HMAY := hide (unhide hr).2.2
          have HG := hide hg
          clear hr HP HOK hgo hg z0 z1 z2 z3 f4 hNe
          go_wp2_with (first
            | (go_at_call 41; refine (unhide HP1).mono ?_; rintro e w5 ⟨u5, rfl, b5⟩; obtain ⟨W, hW, ⟨t4, t5⟩, HEL, HN, HF9⟩ := unhide HA w5 b5; have e0 := (b5.cell (p := ⟨b, off + i * 5, none⟩) (lt_of_cell d0)).trans d0; have e1 := (b5.cell (p := ⟨b, off + i * 5 + 1, none⟩) (lt_of_cell d1)).trans d1; have e2 := (b5.cell (p := ⟨b, off + i * 5 + 2, none⟩) (lt_of_cell d2)).trans d2; have e3 := (b5.cell (p := ⟨b, off + i * 5 + 3, none⟩) (lt_of_cell d3)).trans d3; have e4 := (b5.cell (p := ⟨b, off + i * 5 + 4, none⟩) (lt_of_cell d4)).trans d4; have y4 := (b5.cell (p := ⟨w.heap.size, 4, none⟩) (lt_of_cell z4)).trans z4; have y5 := (b5.cell (p := ⟨w.heap.size + 1, 5, none⟩) (lt_of_cell x5)).trans x5; clear HP1 HA b5 d0 d1 d2 d3 d4 z4 x5))
          have HSK : Hid (∀ w9 : World, Below W.heap.size W w9 → (w9.cell? ⟨w.heap.size, 4, none⟩ = some (.slice la4 N lk) ∧ w9.cell? ⟨w.heap.size + 1, 5, none⟩ = some (.slice (some ⟨b, off, none⟩) es.length lc)) ∧ w9.cell? ⟨b, off + i * 5, none⟩ = some (.int .u64 (g.term : Int)) ∧ w9.cell? ⟨b, off + i * 5 + 1, none⟩ = some (.int .i64 g.kind) ∧ w9.cell? ⟨b, off + i * 5 + 2, none⟩ = some (.int .u64 (g.client : Int)) ∧ w9.cell? ⟨b, off + i * 5 + 3, none⟩ = some (.int .u64 (g.seq : Int)) ∧ w9.cell? ⟨b, off + i * 5 + 4, none⟩ = some (.string g.sql)) := by
            intro w9 hb
            have hbx : Below w5.heap.size w5 W := by rw [← hW]; exact below_trans0 (box_below w5 _) (drew_below _ 1)
            have hb5 := below_trans0 hbx hb
            exact ⟨⟨(hb5.cell (p := ⟨_, _, none⟩) (lt_of_cell y4)).trans y4, (hb5.cell (p := ⟨_, _, none⟩) (lt_of_cell y5)).trans y5⟩, (hb5.cell (p := ⟨_, _, none⟩) (lt_of_cell e0)).trans e0, (hb5.cell (p := ⟨_, _, none⟩) (lt_of_cell e1)).trans e1, (hb5.cell (p := ⟨_, _, none⟩) (lt_of_cell e2)).trans e2, (hb5.cell (p := ⟨_, _, none⟩) (lt_of_cell e3)).trans e3, (hb5.cell (p := ⟨_, _, none⟩) (lt_of_cell e4)).trans e4⟩
          have HSW := hide (unhide HSK W (Below.refl _ _))
          have HS5 : Hid ((w5.drew.cell? ⟨w.heap.size, 4, none⟩ = some (.slice la4 N lk) ∧ w5.drew.cell? ⟨w.heap.size + 1, 5, none⟩ = some (.slice (some ⟨b, off, none⟩) es.length lc)) ∧ w5.drew.cell? ⟨b, off + i * 5, none⟩ = some (.int .u64 (g.term : Int)) ∧ w5.drew.cell? ⟨b, off + i * 5 + 1, none⟩ = some (.int .i64 g.kind) ∧ w5.drew.cell? ⟨b, off + i * 5 + 2, none⟩ = some (.int .u64 (g.client : Int)) ∧ w5.drew.cell? ⟨b, off + i * 5 + 3, none⟩ = some (.int .u64 (g.seq : Int)) ∧ w5.drew.cell? ⟨b, off + i * 5 + 4, none⟩ = some (.string g.sql)) := ⟨⟨y4, y5⟩, e0, e1, e2, e3, e4⟩
          clear y4 y5 e0 e1 e2 e3 e4 t4 t5
          refine wp_region_last 17 (fun w' => (w'.cell? ⟨w.heap.size, 4, none⟩ = some (.slice la4 N lk) ∧ w'.cell? ⟨w.heap.size + 1, 5, none⟩ = some (.slice (some ⟨b, off, none⟩) es.length lc)) ∧ w'.cell? ⟨b, off + i * 5, none⟩ = some (.int .u64 (g.term : Int)) ∧ w'.cell? ⟨b, off + i * 5 + 1, none⟩ = some (.int .i64 g.kind) ∧ w'.cell? ⟨b, off + i * 5 + 2, none⟩ = some (.int .u64 (g.client : Int)) ∧ w'.cell? ⟨b, off + i * 5 + 3, none⟩ = some (.int .u64 (g.seq : Int)) ∧ w'.cell? ⟨b, off + i * 5 + 4, none⟩ = some (.string g.sql)) (by kernel_rfl) (unhide HS5) (fun hHeld => ?_)
          refine last_to (i := 0) (d := 52) (v := (.pointer (some ⟨w.heap.size, 4, none⟩))) rfl rfl (by kernel_rfl) (by kernel_rfl) (by kernel_rfl) (by kernel_rfl) (by decide) (fun _ _ _ h => h) (Or.inl ⟨by rfl, ?_⟩) hHeld ?_
          · (intro w' hSw; obtain ⟨⟨s4, s5⟩, s6, s7, s8, s9, s10⟩ := hSw; go_simp)
          simp only [Act.put, List.setIfInBounds_toArray, List.set_cons_zero, List.set_cons_succ]
          refine last_to (i := 1) (d := 53) (v := (.slice la4 N lk)) rfl rfl (by kernel_rfl) (by kernel_rfl) (by kernel_rfl) (by kernel_rfl) (by decide) (fun _ _ _ h => h) (Or.inl ⟨by rfl, ?_⟩) hHeld ?_
          · (intro w' hSw; obtain ⟨⟨s4, s5⟩, s6, s7, s8, s9, s10⟩ := hSw; go_simp)
          simp only [Act.put, List.setIfInBounds_toArray, List.set_cons_zero, List.set_cons_succ]
          refine last_to (i := 2) (d := 54) (v := (.pointer (some ⟨w.heap.size, 4, none⟩))) rfl rfl (by kernel_rfl) (by kernel_rfl) (by kernel_rfl) (by kernel_rfl) (by decide) (fun _ _ _ h => h) (Or.inl ⟨by rfl, ?_⟩) hHeld ?_
          · (intro w' hSw; obtain ⟨⟨s4, s5⟩, s6, s7, s8, s9, s10⟩ := hSw; go_simp)
          simp only [Act.put, List.setIfInBounds_toArray, List.set_cons_zero, List.set_cons_succ]
          refine last_to (i := 3) (d := 55) (v := (.slice la4 N lk)) rfl rfl (by kernel_rfl) (by kernel_rfl) (by kernel_rfl) (by kernel_rfl) (by decide) (fun _ _ _ h => h) (Or.inl ⟨by rfl, ?_⟩) hHeld ?_
          · (intro w' hSw; obtain ⟨⟨s4, s5⟩, s6, s7, s8, s9, s10⟩ := hSw; go_simp)
          simp only [Act.put, List.setIfInBounds_toArray, List.set_cons_zero, List.set_cons_succ]
          refine last_to (i := 4) (d := 56) (v := (.int .i64 (N : Int))) rfl rfl (by kernel_rfl) (by kernel_rfl) (by kernel_rfl) (by kernel_rfl) (by decide) (fun _ _ _ h => h) (Or.inl ⟨by rfl, ?_⟩) hHeld ?_
          · (intro w' hSw; obtain ⟨⟨s4, s5⟩, s6, s7, s8, s9, s10⟩ := hSw; go_simp)
          simp only [Act.put, List.setIfInBounds_toArray, List.set_cons_zero, List.set_cons_succ]
          refine last_to (i := 5) (d := 57) (v := (.pointer (some ⟨w.heap.size, 4, none⟩))) rfl rfl (by kernel_rfl) (by kernel_rfl) (by kernel_rfl) (by kernel_rfl) (by decide) (fun _ _ _ h => h) (Or.inl ⟨by rfl, ?_⟩) hHeld ?_
          · (intro w' hSw; obtain ⟨⟨s4, s5⟩, s6, s7, s8, s9, s10⟩ := hSw; go_simp)
          simp only [Act.put, List.setIfInBounds_toArray, List.set_cons_zero, List.set_cons_succ]
          refine last_to (i := 6) (d := 58) (v := (.slice la4 N lk)) rfl rfl (by kernel_rfl) (by kernel_rfl) (by kernel_rfl) (by kernel_rfl) (by decide) (fun _ _ _ h => h) (Or.inl ⟨by rfl, ?_⟩) hHeld ?_
          · (intro w' hSw; obtain ⟨⟨s4, s5⟩, s6, s7, s8, s9, s10⟩ := hSw; go_simp)
          simp only [Act.put, List.setIfInBounds_toArray, List.set_cons_zero, List.set_cons_succ]
          refine last_to (i := 7) (d := 59) (v := (.int .i64 (N : Int))) rfl rfl (by kernel_rfl) (by kernel_rfl) (by kernel_rfl) (by kernel_rfl) (by decide) (fun _ _ _ h => h) (Or.inl ⟨by rfl, ?_⟩) hHeld ?_
          · (intro w' hSw; obtain ⟨⟨s4, s5⟩, s6, s7, s8, s9, s10⟩ := hSw; go_simp)
          simp only [Act.put, List.setIfInBounds_toArray, List.set_cons_zero, List.set_cons_succ]
          refine last_to (i := 8) (d := 60) (v := (.slice la4 N N)) rfl rfl (by kernel_rfl) (by kernel_rfl) (by kernel_rfl) (by kernel_rfl) (by decide) (fun _ _ _ h => h) (Or.inl ⟨by rfl, ?_⟩) hHeld ?_
          · (intro w' hSw; obtain ⟨⟨s4, s5⟩, s6, s7, s8, s9, s10⟩ := hSw; go_simp)
          simp only [Act.put, List.setIfInBounds_toArray, List.set_cons_zero, List.set_cons_succ]
          refine last_to (i := 9) (d := 61) (v := (.pointer (some ⟨w.heap.size + 1, 5, none⟩))) rfl rfl (by kernel_rfl) (by kernel_rfl) (by kernel_rfl) (by kernel_rfl) (by decide) (fun _ _ _ h => h) (Or.inl ⟨by rfl, ?_⟩) hHeld ?_
          · (intro w' hSw; obtain ⟨⟨s4, s5⟩, s6, s7, s8, s9, s10⟩ := hSw; go_simp)
          simp only [Act.put, List.setIfInBounds_toArray, List.set_cons_zero, List.set_cons_succ]
          refine last_to (i := 10) (d := 62) (v := (.slice (some ⟨b, off, none⟩) es.length lc)) rfl rfl (by kernel_rfl) (by kernel_rfl) (by kernel_rfl) (by kernel_rfl) (by decide) (fun _ _ _ h => h) (Or.inl ⟨by rfl, ?_⟩) hHeld ?_
          · (intro w' hSw; obtain ⟨⟨s4, s5⟩, s6, s7, s8, s9, s10⟩ := hSw; go_simp)
          simp only [Act.put, List.setIfInBounds_toArray, List.set_cons_zero, List.set_cons_succ]
          refine last_to (i := 11) (d := 63) (v := (.int .i64 (i : Int))) rfl rfl (by kernel_rfl) (by kernel_rfl) (by kernel_rfl) (by kernel_rfl) (by decide) (fun _ _ _ h => h) (Or.inl ⟨by rfl, ?_⟩) hHeld ?_
          · (intro w' hSw; obtain ⟨⟨s4, s5⟩, s6, s7, s8, s9, s10⟩ := hSw; go_simp)
          simp only [Act.put, List.setIfInBounds_toArray, List.set_cons_zero, List.set_cons_succ]
          refine last_to (i := 12) (d := 64) (v := (.pointer (some ⟨b, off + i * 5, none⟩))) rfl rfl (by kernel_rfl) (by kernel_rfl) (by kernel_rfl) (by kernel_rfl) (by decide) (fun _ _ _ h => h) (Or.inl ⟨by rfl, ?_⟩) hHeld ?_
          · (intro w' hSw; obtain ⟨⟨s4, s5⟩, s6, s7, s8, s9, s10⟩ := hSw; go_simp)
          simp only [Act.put, List.setIfInBounds_toArray, List.set_cons_zero, List.set_cons_succ]
          refine last_to (i := 13) (d := 65) (v := (.agg #[.int .u64 (g.term : Int), .int .i64 g.kind, .int .u64 (g.client : Int), .int .u64 (g.seq : Int), .string g.sql])) rfl rfl (by kernel_rfl) (by kernel_rfl) (by kernel_rfl) (by kernel_rfl) (by decide) (fun _ _ _ h => h) (Or.inl ⟨by rfl, ?_⟩) hHeld ?_
          · (intro w' hSw; obtain ⟨⟨s4, s5⟩, s6, s7, s8, s9, s10⟩ := hSw; go_simp)
          simp only [Act.put, List.setIfInBounds_toArray, List.set_cons_zero, List.set_cons_succ]
          refine last_one (i := 14) (by kernel_rfl) rfl (fun K hK => ?_)
          go_simp
          refine hK.out _ _ (fun _ => (unhide HSW)) (fun hHeld2 => ?_)
          clear hK K hHeld
          have hHeld := hHeld2 (by decide)
          clear hHeld2
          try simp only [Act.put, List.setIfInBounds_toArray]
          refine last_one (i := 15) (by kernel_rfl) rfl (fun K hK => ?_)
          refine el_full rfl (.tmp 60) (.tmp 66) rfl (unhide HEL) rfl (by rw [List.length_append, List.length_take]; omega) (nb := w5.heap.size) (no := 0) (c := 1) (e := g) rfl (unhide HN) ?_
          intro v9 w9 h9 i9 b9
          have HS9 := hide (unhide HSK w9 b9)
          obtain ⟨a9, k9, rfl, x9, f9, FIN⟩ := unhide HF9 v9 w9 h9 i9 b9
          clear h9 i9 b9
          refine hK.out _ _ (fun _ => (unhide HS9)) (fun hHeld2 => ?_)
          clear hK K hHeld
          have hHeld := hHeld2 (by decide)
          clear hHeld2
          try simp only [Act.put]
          refine last_to (i := 16) (d := 68) (v := (.pointer (some ⟨w.heap.size, 4, none⟩))) rfl rfl (by kernel_rfl) (by kernel_rfl) (by kernel_rfl) (by kernel_rfl) (by decide) (fun _ _ _ h => h) (Or.inl ⟨by rfl, ?_⟩) hHeld ?_
          · (intro w' hSw; obtain ⟨⟨s4, s5⟩, s6, s7, s8, s9, s10⟩ := hSw; go_simp)
          simp only [Act.put, List.setIfInBounds_toArray]
          refine last_one (i := 17) (by kernel_rfl) rfl (fun K hK => ?_)
          go_simp
          refine hK.out _ _ (fun h => absurd rfl h) (fun _ => ?_)
          clear hK K hHeld
          try simp only [Act.put, List.setIfInBounds_toArray, List.set_cons_zero, List.set_cons_succ]
          refine last_done (by kernel_rfl) ?_ _
          have LJ := unhide FIN _ rfl ⟨rfl, rfl, rfl⟩
          generalize w9.setCell ⟨w.heap.size, 4, none⟩ (.slice a9 (N + 1) k9) = W10 at LJ ⊢
          obtain ⟨⟨t0, t1, t2, t3, t4⟩, _, _⟩ := LJ.cells
          have HO : Hid ((W10.alloc (.cells #[.int .u64 (s.term : Int), .int .i64 ((s.vote : Int) - 1), .int .u64 (s.base : Int), .int .u64 (s.bt : Int), .slice a9 (N + 1) k9] 56)).ownsRow (w.heap.size + 2) 56 5 (.slice oa i ok) i (msC ms)) := own_later LJ.row (box_below W10 _)
          have HCE : Hid (∀ j u, (stC s (.slice a9 (N + 1) k9))[j]? = some u → (W10.alloc (.cells #[.int .u64 (s.term : Int), .int .i64 ((s.vote : Int) - 1), .int .u64 (s.base : Int), .int .u64 (s.bt : Int), .slice a9 (N + 1) k9] 56)).cell? ((⟨W10.heap.size, 0, none⟩ : Addr).add j) = some u) := fun j u hj => by
            have hn : (W10.alloc (.cells #[.int .u64 (s.term : Int), .int .i64 ((s.vote : Int) - 1), .int .u64 (s.base : Int), .int .u64 (s.bt : Int), .slice a9 (N + 1) k9] 56)).heap[W10.heap.size]? = some (.cells #[.int .u64 (s.term : Int), .int .i64 ((s.vote : Int) - 1), .int .u64 (s.base : Int), .int .u64 (s.bt : Int), .slice a9 (N + 1) k9] 56 (0, 0)) := heap_alloc_new _ _
            rw [Go.WideShapes.add_plain, Nat.zero_add, (Dk.cellB hn j).1, ← hj, ← Array.getElem?_toList]
            rfl
          have HIB : w.heap.size + 2 ≤ W10.heap.size := (Array.getElem?_eq_some_iff.1 LJ.xb).1
          have HFN : Hid (∀ v' w', w'.ownsRow (w.heap.size + 2) 56 5 v' (i + 1) (msC ms ++ stC s (.slice a9 (N + 1) k9)) → World.grownBy (W10.alloc (.cells #[.int .u64 (s.term : Int), .int .i64 ((s.vote : Int) - 1), .int .u64 (s.base : Int), .int .u64 (s.bt : Int), .slice a9 (N + 1) k9] 56)) w' (Value.ownBlock (.slice oa i ok)) → ∃ oa' ok', v' = .slice oa' (i + 1) ok' ∧ Hid (N + 1 = s.es.length + (i + 1) ∧ LI w w' s (.slice va s.es.length vk) ⟨3, nu, ix, te, vo, .slice (some ⟨b, off, none⟩) es.length lc, es, k, ks⟩ (i + 1) (i + 1) (.slice oa' (i + 1) ok') (.slice a9 (N + 1) k9) (ms ++ [(⟨s.term, s.vote, s.base, s.bt, s.es ++ es.take (i + 1)⟩, .slice a9 (N + 1) k9)]) ∧ ∀ g ∈ es.take (i + 1), g.may = true)) := by
            intro v' w' how hgr
            exact LI.row_more LJ (unhide HG) (unhide HM) (unhide HNE) (unhide HMAY) how hgr
          obtain ⟨i0, hi', hz0, hz1, hz2⟩ := info_parts Tryz.infoSt
          have H1C : Hid (∀ u ∈ stC s (.slice a9 (N + 1) k9), u.oneCell' = true) := fun u hu => by
            simp [stC] at hu
            rcases hu with rfl | rfl | rfl | rfl | rfl <;> rfl
          clear LJ FIN HSK HSW HS5 HS9 HEL HN HF9 hW x9 f9
          go_wp2_with (first
            | (at_builtin; refine wpList_append_own_at _ rfl _ _ 57 rfl (w.heap.size + 2) 56 i0 _ 5 56 Tryz.underlying57 hi' hz0 hz1 hz2 rfl (by decide) _ i (msC ms) rfl (unhide HO) ⟨W10.heap.size, 0, none⟩ 1 1 (stC s (.slice a9 (N + 1) k9)) rfl rfl (unhide HCE) (unhide H1C) (by unfold maxLen; omega) (by omega) (by simp; omega) ?_; intro v12 w12 o12 g12 _ _; obtain ⟨oa', ok', rfl, H12⟩ := unhide HFN v12 w12 o12 g12; clear o12 g12 HFN HO HCE))
          go_roundw
          case rel => exact ⟨trivial, trivial, i + 1, ok', k9, N + 1, oa', a9, _, by omega, rfl, by go_num, unhide H12⟩
          case measure => simp [RowKit.intOf]; omega
      · obtain rfl : i = es.length := by omega
        have hii : ¬ ((es.length : Int) < (es.length : Int)) := by omega
        obtain ⟨_, x5, _⟩ := (unhide hr).2.1.cells
        dsimp only at x5
        have HG : Hid ((∀ g ∈ es, g.may = true) ∧ DoesP w (.slice va s.es.length vk) (prefS s es es.length) 0 (.returned (.tuple #[.slice oa es.length ok, .int .i64 0])) wr) := by
          obtain ⟨_, h1, h2⟩ := unhide hr
          rw [List.take_length] at h2
          refine ⟨h2, ms, oa, ok, by rw [h1.len], ?_, h1.els, h1.below, h1.fst⟩
          have := own_base h1.row (B' := w.heap.size) (by omega)
          rw [h1.len]
          exact this
        clear hr HR HP HOK
        go_wp2_with fail
        go_ret2
        exact .inl (unhide HG)
end
end Go.Proofs.YthphadbcebeoaaaGreatDoor
