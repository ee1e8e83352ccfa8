/- WalPlays: what stands between its steps. -/
import Derived.Test.YthphadbcebeoaaaGreatDoorWaDoApp
import Derived.Test.YthphadbcebeoaaaGreatDoorJWaKnownWaKnown2WaKnown3WaCuts0
import Derived.Test.YthphadbcebeoaaaGreatDoorJWaFewWaStepWaInWaIn2
namespace Go.Proofs.YthphadbcebeoaaaGreatDoor
open Go.RowKit Go.Lib Go.Maps

/-- Every state that a fall may leave is among M. -/
def MayI (rs : List Rc) (ns : Nat) (M : List (Sta × Value)) : Prop := ∀ k sk, ns ≤ k → k ≤ rs.length → runS sta0 (rs.take k) = .ok sk → ∃ y ∈ M, y.1 = sk
/-- The statement's own: the state now (at block nb), the row of those that may be. -/
structure PRz (w : World) (nb : Nat) (t : Sta) (vn mv : Value) (M : List (Sta × Value)) (O : Nat → Prop) : Prop where
  nO : ¬ O nb
  now : w.heap[nb]? = some (.cells #[.int .u64 (t.term : Int), .int .i64 ((t.vote : Int) - 1), .int .u64 (t.base : Int), .int .u64 (t.bt : Int), vn] 56 (0, 0))
  el : EL w vn t.es
  elO : ∀ g, inB vn g → ¬ O g
  row : w.ownsRow (nb + 1) 56 5 mv M.length (msC M)
  rowO : ∀ b, mv.ownBlock = some b → ¬ O b
  els : ∀ y ∈ M, EL w y.2 y.1.es ∧ ∀ g, inB y.2 g → ¬ O g
theorem own_block {w : World} {B : Nat} {v : Value} {n : Nat} {xs : List Value} {b : Nat} (h : w.ownsRow B 56 5 v n xs) (hb : v.ownBlock = some b) : B ≤ b ∧ ∃ cur, w.heap[b]? = some (.cells cur 56 (0, 0)) := by
  rcases h.2 with ⟨rfl, _⟩ | ⟨g, cap, cur, rfl, hB, hc, _⟩
  · cases hb
  · cases hb
    exact ⟨hB, cur, hc⟩
theorem own_keep {w w' : World} {B : Nat} {v : Value} {n : Nat} {xs : List Value} (h : w.ownsRow B 56 5 v n xs) (hk : ∀ b, v.ownBlock = some b → w'.heap[b]? = w.heap[b]?) : w'.ownsRow B 56 5 v n xs := by
  obtain ⟨h1, h2 | ⟨g, cap, cur, rfl, hB, hc, h3⟩⟩ := h
  · exact ⟨h1, .inl h2⟩
  · exact ⟨h1, .inr ⟨g, cap, cur, rfl, hB, (hk g rfl).trans hc, h3⟩⟩
section
variable {w w' : World} {nb : Nat} {t t' : Sta} {vn vn' mv mv' : Value} {M M' : List (Sta × Value)} {O O' : Nat → Prop}
/-- It stays where its blocks stay. -/
theorem PRz.keep (h : PRz w nb t vn mv M O) (hk : ∀ k, k < w.heap.size → ¬ O k → w'.heap[k]? = w.heap[k]?) (ho : ∀ k, O' k → O k ∨ w.heap.size ≤ k) : PRz w' nb t vn mv M O' := by
  have hnl := (Array.getElem?_eq_some_iff.1 h.now).1
  have hno : ∀ k, k < w.heap.size → ¬ O k → ¬ O' k := fun k hk hn hh => (ho k hh).elim hn (fun h' => by omega)
  have hrl : ∀ b, mv.ownBlock = some b → b < w.heap.size := fun b hb => by
    obtain ⟨_, cur, hc⟩ := own_block h.row hb
    exact (Array.getElem?_eq_some_iff.1 hc).1
  refine ⟨hno nb hnl h.nO, (hk nb hnl h.nO).trans h.now, h.el.keep (fun g hg => hk g (h.el.lt hg) (h.elO g hg)), fun g hg => hno g (h.el.lt hg) (h.elO g hg), own_keep h.row (fun b hb => hk b (hrl b hb) (h.rowO b hb)), fun b hb => hno b (hrl b hb) (h.rowO b hb), fun y hy => ?_⟩
  obtain ⟨h1, h2⟩ := h.els y hy
  exact ⟨h1.keep (fun g hg => hk g (h1.lt hg) (h2 g hg)), fun g hg => hno g (h1.lt hg) (h2 g hg)⟩
theorem PRz.fro (h : PRz w nb t vn mv M O) (hf : Dk.FrO O w w') (ho : ∀ k, O' k → O k ∨ w.heap.size ≤ k) : PRz w' nb t vn mv M O' := h.keep (fun k hk hn => hf.blk k hk hn) ho
theorem PRz.below (h : PRz w nb t vn mv M O) (hb : Below w.heap.size w w') : PRz w' nb t vn mv M O := h.keep (fun k hk _ => hb.block k hk) (fun _ hk => .inl hk)
theorem PRz.cells (h : PRz w nb t vn mv M O) : w.cell? ⟨nb, 0, none⟩ = some (.int .u64 (t.term : Int)) ∧ w.cell? ⟨nb, 1, none⟩ = some (.int .i64 ((t.vote : Int) - 1)) ∧ w.cell? ⟨nb, 2, none⟩ = some (.int .u64 (t.base : Int)) ∧ w.cell? ⟨nb, 3, none⟩ = some (.int .u64 (t.bt : Int)) ∧ w.cell? ⟨nb, 4, none⟩ = some vn :=
  ⟨(Dk.cellB h.now 0).1, (Dk.cellB h.now 1).1, (Dk.cellB h.now 2).1, (Dk.cellB h.now 3).1, (Dk.cellB h.now 4).1⟩
theorem PRz.frz (h : PRz w nb t vn mv M O) (i : Nat) : w.frozen? ⟨nb, i, none⟩ = false := (Dk.cellB h.now i).2
/-- Another state is the one now. -/
theorem PRz.turn (h : PRz w nb t vn mv M O) (hw : w'.heap = (((((w.setCell ⟨nb, 0, none⟩ (.int .u64 (t'.term : Int))).setCell ⟨nb, 1, none⟩ (.int .i64 ((t'.vote : Int) - 1))).setCell ⟨nb, 2, none⟩ (.int .u64 (t'.base : Int))).setCell ⟨nb, 3, none⟩ (.int .u64 (t'.bt : Int))).setCell ⟨nb, 4, none⟩ vn').heap) (he : EL w vn' t'.es) (hO : ∀ g, inB vn' g → ¬ O g) : PRz w' nb t' vn' mv M O ∧ (∀ k, k ≠ nb → w'.heap[k]? = w.heap[k]?) ∧ w'.heap.size = w.heap.size := by
  have hne : ∀ k, k ≠ nb → w'.heap[k]? = w.heap[k]? := fun k hk => by
    rw [hw, Dk.heap_setCell_ne _ _ hk, Dk.heap_setCell_ne _ _ hk, Dk.heap_setCell_ne _ _ hk, Dk.heap_setCell_ne _ _ hk, Dk.heap_setCell_ne _ _ hk]
  have hz : w'.heap.size = w.heap.size := by rw [hw]; simp
  have key : ∀ {u : Value} {es : List GE}, EL w u es → EL w' u es := fun hu => hu.keep (fun g hg => hne g (fun e => el_ne hu h.now (by decide) (e ▸ hg)))
  refine ⟨⟨h.nO, ?_, key he, hO, own_keep h.row (fun b hb => hne b (by have := (own_block h.row hb).1; omega)), h.rowO, fun y hy => ⟨key (h.els y hy).1, (h.els y hy).2⟩⟩, hne, hz⟩
  rw [hw]
  exact (Dk.heap_setCell_at (Dk.heap_setCell_at (Dk.heap_setCell_at (Dk.heap_setCell_at (Dk.heap_setCell_at h.now _ _) _ _) _ _) _ _) _ _).trans rfl
/-- The row longer. -/
theorem PRz.more {ms : List (Sta × Value)} (h : PRz w nb t vn mv M O) (hO : ∀ k, O k → k < w.heap.size) (hr : w'.ownsRow (nb + 1) 56 5 mv' (M.length + ms.length) (msC M ++ msC ms)) (hg : w.grownBy w' mv.ownBlock) (hl : mv'.ownBlock = mv.ownBlock ∨ mv'.ownBlock = some w.heap.size) (hms : ∀ y ∈ ms, EL w y.2 y.1.es ∧ ∀ g, inB y.2 g → ¬ O g) : PRz w' nb t vn mv' (M ++ ms) O ∧ ∀ k, k < w.heap.size → O k → w'.heap[k]? = w.heap[k]? := by
  have hnl := (Array.getElem?_eq_some_iff.1 h.now).1
  have key : ∀ {u : Value} {es : List GE}, EL w u es → EL w' u es := fun hu => hu.keep (fun g hg' => hg.block g (hu.lt hg') (fun e => by
    obtain ⟨_, cur, hc⟩ := own_block h.row e.symm
    exact el_ne hu hc (by decide) hg'))
  refine ⟨⟨h.nO, (hg.block nb hnl (fun e => by have := (own_block h.row e.symm).1; omega)).trans h.now, key h.el, h.elO, by rw [List.length_append, msC_app]; exact hr, fun b hb => ?_, fun y hy => ?_⟩, fun k hk hok => hg.block k hk (fun e => h.rowO k e.symm hok)⟩
  · rcases hl with e | e
    · rw [e] at hb; exact h.rowO b hb
    · rw [e] at hb
      cases hb
      exact fun hh => by have := hO _ hh; omega
  · rcases List.mem_append.1 hy with h' | h'
    · exact ⟨key (h.els y h').1, (h.els y h').2⟩
    · exact ⟨key (hms y h').1, (hms y h').2⟩
/-- The row of the state now alone. -/
theorem PRz.alone (h : PRz w nb t vn mv M O) (hO : ∀ k, O k → k < w.heap.size) : PRz (w.alloc (.cells #[.int .u64 (t.term : Int), .int .i64 ((t.vote : Int) - 1), .int .u64 (t.base : Int), .int .u64 (t.bt : Int), vn] 56)) nb t vn (.slice (some ⟨w.heap.size, 0, none⟩) 1 1) [(t, vn)] O := by
  have hb := box_below w (.cells #[.int .u64 (t.term : Int), .int .i64 ((t.vote : Int) - 1), .int .u64 (t.base : Int), .int .u64 (t.bt : Int), vn] 56)
  have h' := h.below hb
  have hnl := (Array.getElem?_eq_some_iff.1 h.now).1
  refine ⟨h'.nO, h'.now, h'.el, h'.elO, ⟨by simp [msC, stC], .inr ⟨w.heap.size, 1, _, rfl, by omega, heap_alloc_new _ _, Nat.le_refl _, by decide, by simp, by simp [msC, stC]⟩⟩, fun b hb => ?_, fun y hy => ?_⟩
  · cases hb
    exact fun hh => by have := hO _ hh; dsimp only at this; omega
  · rw [List.mem_singleton.1 hy]
    exact ⟨h'.el, h'.elO⟩
end
end Go.Proofs.YthphadbcebeoaaaGreatDoor
/- WalPlays: the row of steps that comes in. -/
namespace Go.Proofs.YthphadbcebeoaaaGreatDoor
open Go.ChangeShapes Go.WideShapes Go.ChangeAt Go.RowKit Go.Lib Go.Maps

theorem Tryz.wcellsEs : Tryz.prog.cellsOf 34 = 1 := by kernel_rfl
theorem Tryz.wcellsSp : Tryz.prog.cellsOf 59 = 7 := by kernel_rfl
theorem wlist7 {α : Type} {cs : List α} (h : cs.length = 7) : ∃ a b c d e f g, cs = [a, b, c, d, e, f, g] := by
  match cs, h with
  | [a, b, c, d, e, f, g], _ => exact ⟨a, b, c, d, e, f, g, rfl⟩
/-- A step's numbers; its row of entries. -/
structure XOk (x : GStp) : Prop where
  num : -9223372036854775808 ≤ x.num ∧ x.num < 9223372036854775808
  vote : -9223372036854775808 ≤ x.vote ∧ x.vote < 9223372036854775808
  index : x.index < 18446744073709551616
  term : x.term < 18446744073709551616
  l : ∃ la lc, x.l = .slice la x.es.length lc ∧ (la = none → lc = 0)
section
variable {H : Type} {enc : TypeId × Value → H} {W : World} {base : Nat} {hd : Bool}
set_option maxRecDepth 100000 in
theorem wstep_cells {fuel : Nat} {cs : List Value} {y : DataW H × List MemPlace} (h : DataW.trod enc Tryz.prog W base (fun _ => true) hd fuel 59 cs = some y) :
    ∃ x : GStp, (XOk x ∧ SlE W W.heap.size x.l x.es ∧ Dk.KeepAt W (fun k => W.heap.size ≤ k) x.k x.ks ∧ ∃ ka kc, x.k = .slice ka x.ks.length kc) ∧ cs = x.cells := by
  obtain ⟨xs, n, _, _, hl, hlen, hf⟩ := DataW.trod_struct Tryz.underlying59 h
  rw [Tryz.wcellsSp] at hl
  obtain ⟨c0, c1, c2, c3, c4, c5, c6, rfl⟩ := wlist7 hl
  have g := wfields_some hlen hf
  clear h
  obtain ⟨y0, h0⟩ := g 0 _ rfl
  simp [Tryz.wcellsI] at h0
  obtain ⟨y1, h1⟩ := g 1 _ rfl
  simp [Tryz.wcellsI] at h1
  obtain ⟨y2, h2⟩ := g 2 _ rfl
  simp [Tryz.wcellsU] at h2
  obtain ⟨y3, h3⟩ := g 3 _ rfl
  simp [Tryz.wcellsU] at h3
  obtain ⟨y4, h4⟩ := g 4 _ rfl
  simp [Tryz.wcellsI] at h4
  obtain ⟨y5, h5⟩ := g 5 _ rfl
  simp [Tryz.wcellsEs] at h5
  obtain ⟨y6, h6⟩ := g 6 _ rfl
  simp [Tryz.wcellsCr] at h6
  clear g hf hlen
  obtain ⟨xs', n', _, _, hl', hlen', hf'⟩ := DataW.trod_struct Tryz.underlying25 h6
  obtain ⟨y7, h7⟩ := wfields_some hlen' hf' 0 _ rfl
  simp [Tryz.wcellsIs] at h7
  clear h6 hf' hlen' hl'
  obtain ⟨z0, e0, _, b0⟩ := DataW.trod_int Tryz.underlying3 h0
  obtain ⟨z1, e1, _, b1⟩ := DataW.trod_int Tryz.underlying3 h1
  obtain ⟨z2, e2, _, b2⟩ := DataW.trod_int Tryz.underlying35 h2
  obtain ⟨z3, e3, _, b3⟩ := DataW.trod_int Tryz.underlying35 h3
  obtain ⟨z4, e4, _, b4⟩ := DataW.trod_int Tryz.underlying3 h4
  obtain ⟨la, lc, es, e5, n5, s5⟩ := wents_cells h5
  obtain ⟨ka, kk, ks, e6, b6, hk⟩ := wis_cells h7
  simp at e0 e1 e2 e3 e4 e5 e6
  subst e0 e1 e2 e3 e4 e5 e6
  have r1 := bounds_i64 b1
  have r2 := bounds_u64 b2
  have r3 := bounds_u64 b3
  have r4 := bounds_i64 b4
  obtain ⟨z2, rfl⟩ := Int.eq_ofNat_of_zero_le r2.1
  obtain ⟨z3, rfl⟩ := Int.eq_ofNat_of_zero_le r3.1
  exact ⟨⟨z0, z1, z2, z3, z4, .slice la es.length lc, es, .slice ka ks.length kk, ks⟩, ⟨⟨by dsimp only; omega, by dsimp only; omega, by dsimp only; omega, by dsimp only; omega, la, lc, rfl, n5⟩, s5, hk, ka, kk, rfl⟩, rfl⟩
set_option maxRecDepth 100000 in
theorem wsteps_addr {b0 : Nat} {a : Addr} {len cap : Nat} (h : Value.okWide Tryz.prog W .any b0 53 (.slice (some a) len cap)) : a.spot = none ∧ a.block < W.heap.size := by
  simp only [Value.okWide, Tryz.underlying53, Cell.okWide, Cell.ok] at h
  obtain ⟨_, _, _, h2, row, cells, h3, _⟩ := h
  refine ⟨h2, ?_⟩
  rcases Nat.lt_or_ge a.block W.heap.size with h' | h'
  · exact h'
  · simp [World.shape?, Array.getElem?_eq_none h'] at h3
set_option maxRecDepth 100000 in
theorem wsteps_in {b0 : Nat} {a : Option Addr} {len cap : Nat} {d : DataW H} {ps : List MemPlace}
    (hv : Value.okWide Tryz.prog W .any b0 53 (.slice a len cap)) (hT : DataW.Trod enc Tryz.prog W base (fun _ => true) hd 53 (.slice a len cap) d ps) :
    ∃ xs : List GStp, xs.length = len ∧ SRow W W.heap.size (.slice a xs.length cap) xs ∧ ∀ x ∈ xs, XOk x := by
  obtain ⟨fuel, hf⟩ := hT
  rcases DataW.trod_slice Tryz.underlying53 hf with ⟨hcs, _⟩ | ⟨x, l, c, elems, rest, n, _, hcs, _, hb, hl, hm, hlen, hel, _⟩
  · simp [Value.cells] at hcs
    obtain ⟨rfl, rfl, rfl⟩ := hcs
    exact ⟨[], rfl, ⟨Nat.zero_le _, fun x hx => (by cases hx), none, 0, rfl, fun h => absurd rfl h⟩, fun x hx => (by cases hx)⟩
  · simp [Value.cells] at hcs
    obtain ⟨rfl, rfl, rfl⟩ := hcs
    obtain ⟨hs, hblk⟩ := wsteps_addr hv
    obtain ⟨b, off, spot⟩ := x
    simp only at hs
    subst hs
    rw [Tryz.wcellsSp] at hel
    have each : ∀ i, i < len → ∃ s : GStp, (XOk s ∧ SlE W W.heap.size s.l s.es ∧ Dk.KeepAt W (fun k => W.heap.size ≤ k) s.k s.ks ∧ ∃ ka kc, s.k = .slice ka s.ks.length kc) ∧ ∀ j u, s.cells[j]? = some u → W.cell? ⟨b, off + i * 7 + j, none⟩ = some u := by
      intro i hi
      have he := hel i hi
      rw [List.getElem?_eq_getElem (by omega), Option.bind_eq_some_iff] at he
      obtain ⟨cs, hc, ht⟩ := he
      obtain ⟨s, hok, rfl⟩ := wstep_cells ht
      obtain ⟨_, _, hcell⟩ := World.cells?_some hc
      rw [Go.WideShapes.add_plain] at hcell
      refine ⟨s, hok, fun j u hj => ?_⟩
      have hj6 : j < 7 := by have := (List.getElem?_eq_some_iff.1 hj).1; simpa [GStp.cells] using this
      have := hcell j (by omega)
      rw [Go.WideShapes.add_plain] at this
      rw [this]
      simpa using hj
    obtain ⟨gs, hgl, hgs⟩ := wlist_of _ len each
    have hmem : ∀ x ∈ gs, XOk x ∧ SlE W W.heap.size x.l x.es ∧ Dk.KeepAt W (fun k => W.heap.size ≤ k) x.k x.ks ∧ ∃ ka kc, x.k = .slice ka x.ks.length kc := fun x hx => by
      obtain ⟨i, hi⟩ := List.mem_iff_getElem?.1 hx
      exact (hgs i x hi).1
    exact ⟨gs, hgl, ⟨by omega, fun x hx => (hmem x hx).2, _, _, rfl, fun _ => ⟨b, off, rfl, hblk, fun i x hi => (hgs i x hi).2⟩⟩, fun x hx => (hmem x hx).1⟩
end
end Go.Proofs.YthphadbcebeoaaaGreatDoor
/- WalPlays: what stands at its loop's head. -/
namespace Go.Proofs.YthphadbcebeoaaaGreatDoor
open Go.RowKit Go.Lib Go.Maps

/-- Entries of the states. -/
def EOk (M : List (Sta × Value)) : Prop := ∀ y ∈ M, ∀ g ∈ y.1.es, g.ok
/-- Sizes behind i steps. -/
structure SzI (xs : List GStp) (i : Nat) (rs : List Rc) (s : Sta) (M : List (Sta × Value)) : Prop where
  bytes : (recsB rs).length ≤ 2 * sumX (xs.take i) + 100 * i
  recs : rs.length ≤ 13 * i
  ents : s.es.length ≤ 13 * i
  many : M.length ≤ 1 + 13 * i
/-- At the loop's head. -/
def PI (w1 wr : World) (p nb i : Nat) (vn mv : Value) (M : List (Sta × Value)) (xs : List GStp) : Prop :=
  ∃ rs ns pr s S O, WZ wr w1.heap.size p w1.heap.size 65536 rs ns pr s (9000 - 10 * i) S O ∧ S.off = false ∧ Below w1.heap.size w1 wr ∧ PRz wr nb s vn mv M O ∧ w1.heap.size ≤ nb ∧ MayI rs ns M ∧ EOk M ∧ SzI xs i rs s M
theorem pi_start {w1 w3 : World} {p : Nat} {xs : List GStp} (h : KB w1 w3 w1.heap.size p w1.heap.size 65536 none [] 0 false sta0 9000 []) :
    PI w1 ((w3.alloc (.cells #[.int .u64 0, .int .i64 (-1), .int .u64 0, .int .u64 0, .slice none 0 0] 56)).alloc (.cells #[.int .u64 0, .int .i64 (-1), .int .u64 0, .int .u64 0, .slice none 0 0] 56)) p w3.heap.size 0 (.slice none 0 0) (.slice (some ⟨w3.heap.size + 1, 0, none⟩) 1 1) [(sta0, .slice none 0 0)] xs := by
  obtain ⟨O, h1, h2, _⟩ := h
  obtain ⟨S, hz, hh⟩ := h1.wz
  have b1 := box_below w3 (.cells #[.int .u64 0, .int .i64 (-1), .int .u64 0, .int .u64 0, .slice none 0 0] 56)
  have hlt := hz.lt
  have hbz := hz.info.2.2.2.2.2.1
  have hn : (w3.alloc (.cells #[.int .u64 0, .int .i64 (-1), .int .u64 0, .int .u64 0, .slice none 0 0] 56)).heap[w3.heap.size]? = some (.cells #[.int .u64 0, .int .i64 (-1), .int .u64 0, .int .u64 0, .slice none 0 0] 56 (0, 0)) := heap_alloc_new _ _
  have hP : PRz (w3.alloc (.cells #[.int .u64 0, .int .i64 (-1), .int .u64 0, .int .u64 0, .slice none 0 0] 56)) w3.heap.size sta0 (.slice none 0 0) (.slice none 0 0) [] O :=
    ⟨fun hh => by have := hlt _ hh; omega, hn, EL.nil _, fun g ⟨_, _, _, e⟩ => (by cases e), World.ownsRow_nil _ _ _ _, fun b hb => (by cases hb), fun y hy => (by cases hy)⟩
  have hP2 := hP.alone (fun k hk => by have := hlt _ hk; simp; omega)
  have e1 : (w3.alloc (.cells #[.int .u64 0, .int .i64 (-1), .int .u64 0, .int .u64 0, .slice none 0 0] 56)).heap.size = w3.heap.size + 1 := by simp
  rw [e1] at hP2
  refine ⟨[], 0, false, sta0, S, O, (hz.below b1).below (box_below _ _), hh.1, (h2.trans (b1.mono hbz)).trans ((box_below _ _).mono (by simp; omega)), hP2, hbz, fun k sk _ hk hr => ⟨_, List.mem_singleton.2 rfl, ?_⟩, fun y hy g hg => ?_, ⟨by simp [recsB], by simp, by simp [sta0], by simp⟩⟩
  · simp at hk
    subst hk
    cases hr
    rfl
  · rw [List.mem_singleton.1 hy] at hg
    simp [sta0] at hg
theorem keep_low {w w' : World} {B : Nat} {v : Value} {ks : List Int} (h : Dk.KeepAt w (fun k => w.heap.size ≤ k) v ks) (hb : Below w.heap.size w w') (hB : w.heap.size ≤ B) : Dk.KeepAt w' (fun k => B ≤ k) v ks := by
  obtain ⟨h1, h2 | ⟨b, off, cap, hbl, hn, h3, h4, h5, h6⟩⟩ := h
  · exact ⟨h1, .inl h2⟩
  · exact ⟨h1, .inr ⟨b, off, cap, Nat.lt_of_lt_of_le hbl hb.size, fun hh => by dsimp only at hh; omega, h3, h4, h5, fun i x hi => (hb.cell (p := ⟨b, off + i, none⟩) hbl).trans (h6 i x hi)⟩⟩
theorem SRow.below {w w' : World} {v : Value} {xs : List GStp} (h : SRow w w.heap.size v xs) (hb : Below w.heap.size w w') : SRow w' w.heap.size v xs := by
  obtain ⟨h1, h2, a, cap, rfl, h4⟩ := h
  refine ⟨h1, fun x hx => ?_, a, cap, rfl, fun hne => ?_⟩
  · obtain ⟨q1, q2, q3⟩ := h2 x hx
    exact ⟨q1.later hb (Nat.le_refl _), keep_low q2 hb (Nat.le_refl _), q3⟩
  · obtain ⟨b, off, e, hbl, hc⟩ := h4 hne
    exact ⟨b, off, e, hbl, fun i x hi j u hu => (hb.cell (p := ⟨b, _, none⟩) hbl).trans (hc i x hi j u hu)⟩
end Go.Proofs.YthphadbcebeoaaaGreatDoor
/- WalPlays: a step's own variable, the states that it tells; a call's outcome. -/
namespace Go.Proofs.YthphadbcebeoaaaGreatDoor
open Go.RowKit Go.Lib Go.Maps

/-- The step's variable at block xb; the row of states that it tells. -/
structure NX (w : World) (xb : Nat) (x : GStp) (nv : Value) (ms : List (Sta × Value)) (O : Nat → Prop) : Prop where
  xO : ¬ O xb
  xc : w.heap[xb]? = some (.cells #[.int .i64 x.what, .int .i64 x.num, .int .u64 (x.index : Int), .int .u64 (x.term : Int), .int .i64 x.vote, x.l, x.k] 59 (0, 0))
  row : w.ownsRow (xb + 1) 56 5 nv ms.length (msC ms)
  rowO : ∀ b, nv.ownBlock = some b → ¬ O b
  els : ∀ y ∈ ms, EL w y.2 y.1.es ∧ ∀ g, inB y.2 g → ¬ O g
section
variable {w w' : World} {xb nb : Nat} {x : GStp} {nv vn mv mv' : Value} {ms M : List (Sta × Value)} {t t' : Sta} {O O' : Nat → Prop}
theorem NX.keep (h : NX w xb x nv ms O) (hk : ∀ k, k < w.heap.size → ¬ O k → w'.heap[k]? = w.heap[k]?) (ho : ∀ k, O' k → O k ∨ w.heap.size ≤ k) : NX w' xb x nv ms O' := by
  have hxl := (Array.getElem?_eq_some_iff.1 h.xc).1
  have hno : ∀ k, k < w.heap.size → ¬ O k → ¬ O' k := fun k hk hn hh => (ho k hh).elim hn (fun h' => by omega)
  have hrl : ∀ b, nv.ownBlock = some b → b < w.heap.size := fun b hb => by
    obtain ⟨_, cur, hc⟩ := own_block h.row hb
    exact (Array.getElem?_eq_some_iff.1 hc).1
  refine ⟨hno xb hxl h.xO, (hk xb hxl h.xO).trans h.xc, own_keep h.row (fun b hb => hk b (hrl b hb) (h.rowO b hb)), fun b hb => hno b (hrl b hb) (h.rowO b hb), fun y hy => ?_⟩
  obtain ⟨h1, h2⟩ := h.els y hy
  exact ⟨h1.keep (fun g hg => hk g (h1.lt hg) (h2 g hg)), fun g hg => hno g (h1.lt hg) (h2 g hg)⟩
theorem NX.fro (h : NX w xb x nv ms O) (hf : Dk.FrO O w w') (ho : ∀ k, O' k → O k ∨ w.heap.size ≤ k) : NX w' xb x nv ms O' := h.keep (fun k hk hn => hf.blk k hk hn) ho
theorem NX.below (h : NX w xb x nv ms O) (hb : Below w.heap.size w w') : NX w' xb x nv ms O := h.keep (fun k hk _ => hb.block k hk) (fun _ hk => .inl hk)
theorem NX.cells (h : NX w xb x nv ms O) : w.cell? ⟨xb, 0, none⟩ = some (.int .i64 x.what) ∧ w.cell? ⟨xb, 1, none⟩ = some (.int .i64 x.num) ∧ w.cell? ⟨xb, 2, none⟩ = some (.int .u64 (x.index : Int)) ∧ w.cell? ⟨xb, 3, none⟩ = some (.int .u64 (x.term : Int)) ∧ w.cell? ⟨xb, 4, none⟩ = some (.int .i64 x.vote) ∧ w.cell? ⟨xb, 5, none⟩ = some x.l ∧ w.cell? ⟨xb, 6, none⟩ = some x.k :=
  ⟨(Dk.cellB h.xc 0).1, (Dk.cellB h.xc 1).1, (Dk.cellB h.xc 2).1, (Dk.cellB h.xc 3).1, (Dk.cellB h.xc 4).1, (Dk.cellB h.xc 5).1, (Dk.cellB h.xc 6).1⟩
/-- The step is taken out of its row. -/
theorem NX.start (w : World) (x : GStp) (hO : ∀ k, O k → k < w.heap.size) : NX (w.alloc (.cells #[.int .i64 x.what, .int .i64 x.num, .int .u64 (x.index : Int), .int .u64 (x.term : Int), .int .i64 x.vote, x.l, x.k] 59)) w.heap.size x (.slice none 0 0) [] O :=
  ⟨fun h => by have := hO _ h; omega, heap_alloc_new _ _, World.ownsRow_nil _ _ _ _, fun b hb => (by cases hb), fun y hy => (by cases hy)⟩
/-- What it does is told. -/
theorem NX.told {L : List Sta} {c : Int} {e : Ending} (h : NX w xb x (.slice none 0 0) [] O) (hp : PRz w nb t vn mv M O) (hO : ∀ k, O k → k < w.heap.size) (hd : DoesP w vn L c e w') : ∃ ms ma mk, e = .returned (.tuple #[.slice ma ms.length mk, .int .i64 c]) ∧ NX w' xb x (.slice ma ms.length mk) ms O ∧ Below w.heap.size w w' ∧ ms.map Prod.fst = L := by
  obtain ⟨ms, ma, mk, rfl, h1, h2, h3, h4⟩ := hd
  have hxl := (Array.getElem?_eq_some_iff.1 h.xc).1
  have h' := h.below h3
  refine ⟨ms, ma, mk, rfl, ⟨h'.xO, h'.xc, own_base h1 (by omega), fun b hb hh => ?_, fun y hy => ⟨(h2 y hy).1, fun g hg hh => ?_⟩⟩, h3, h4⟩
  · have := (own_block h1 hb).1
    have := hO b hh
    omega
  · rcases (h2 y hy).2 g hg with h' | h'
    · exact hp.elO g h' hh
    · have := hO g hh
      omega
end
theorem mayI_same {rs : List Rc} {ns : Nat} {M ms : List (Sta × Value)} (h : MayI rs ns M) : MayI rs ns (M ++ ms) := fun k sk h1 h2 h3 => by
  obtain ⟨y, hy, e⟩ := h k sk h1 h2 h3
  exact ⟨y, List.mem_append_left _ hy, e⟩
theorem mayI_more {rs qs : List Rc} {ns : Nat} {s : Sta} {M ms : List (Sta × Value)} (h : MayI rs ns M) (hr : runS sta0 rs = .ok s) (hq : ∀ j sk, 0 < j → j ≤ qs.length → runS s (qs.take j) = .ok sk → ∃ y ∈ ms, y.1 = sk) : MayI (rs ++ qs) ns (M ++ ms) := fun k sk h1 h2 h3 => by
  rcases Nat.lt_or_ge rs.length k with h' | h'
  · have e1 : (rs ++ qs).take k = rs ++ qs.take (k - rs.length) := by rw [List.take_append, List.take_of_length_le (by omega)]
    rw [e1, runS_app hr] at h3
    rw [List.length_append] at h2
    obtain ⟨y, hy, e⟩ := hq (k - rs.length) sk (by omega) (by omega) h3
    exact ⟨y, List.mem_append_right _ hy, e⟩
  · rw [List.take_append_of_le_length h'] at h3
    obtain ⟨y, hy, e⟩ := h k sk h1 h' h3
    exact ⟨y, List.mem_append_left _ hy, e⟩
theorem mayI_alone {rs : List Rc} {s : Sta} {v : Value} (hr : runS sta0 rs = .ok s) : MayI rs rs.length [(s, v)] := fun k sk h1 h2 h3 => by
  obtain rfl : k = rs.length := by omega
  rw [List.take_length, hr] at h3
  cases h3
  exact ⟨_, List.mem_singleton.2 rfl, rfl⟩
theorem one_path {s s2 : Sta} {r : Rc} {ms : List (Sta × Value)} (ht : takeS s r = .ok s2) (hm : ms.map Prod.fst = [s2]) : ∀ j sk, 0 < j → j ≤ [r].length → runS s ([r].take j) = .ok sk → ∃ y ∈ ms, y.1 = sk := fun j sk h1 h2 h3 => by
  obtain rfl : j = 1 := by simp at h2; omega
  simp only [List.take_succ_cons, List.take_nil, runS, ht] at h3
  cases h3
  have : s2 ∈ ms.map Prod.fst := by rw [hm]; simp
  obtain ⟨y, hy, e⟩ := List.mem_map.1 this
  exact ⟨y, hy, e⟩
theorem ents_path {s : Sta} {es : List GE} {ms : List (Sta × Value)} (hm : ms.map Prod.fst = prefS s es es.length) : ∀ j sk, 0 < j → j ≤ (es.map rcE).length → runS s ((es.map rcE).take j) = .ok sk → ∃ y ∈ ms, y.1 = sk := fun j sk h1 h2 h3 => by
  rw [← List.map_take, rcE_run] at h3
  cases h3
  rw [List.length_map] at h2
  have : (⟨s.term, s.vote, s.base, s.bt, s.es ++ es.take j⟩ : Sta) ∈ ms.map Prod.fst := by
    rw [hm]
    exact List.mem_map.2 ⟨j - 1, List.mem_range.2 (by omega), by rw [show j - 1 + 1 = j by omega]⟩
  obtain ⟨y, hy, e⟩ := List.mem_map.1 this
  exact ⟨y, hy, e⟩
end Go.Proofs.YthphadbcebeoaaaGreatDoor
/- WalPlays: what a step does, and the call that it stands for. -/
namespace Go.Proofs.YthphadbcebeoaaaGreatDoor
open Go.RowKit Go.Lib Go.Maps

/-- Where the statement's own blocks lie. -/
def PH5 (w2 : World) (nb xb : Nat) (mv : Value) : Prop := w2.heap.size ≤ nb ∧ ∀ b, mv.ownBlock = some b → b < xb
/-- Within a step: the wal, the state now, the row of those that may be, the step, what it tells. -/
def PJ (w2 wx : World) (p nb xb : Nat) (x : GStp) (vn mv nv : Value) (M ms : List (Sta × Value)) (n : Nat) (rs : List Rc) (ns : Nat) (pr : Bool) (s t : Sta) (S : Dk.St) : Prop :=
  ∃ O, WZ wx w2.heap.size p w2.heap.size 65536 rs ns pr s n S O ∧ Below w2.heap.size w2 wx ∧ PRz wx nb t vn mv M O ∧ NX wx xb x nv ms O ∧ PH5 w2 nb xb mv
/-- What a step tells of its states. -/
def DoR (s : Sta) (x : GStp) (ms : List (Sta × Value)) (c : Int) : Prop :=
  if x.what = 1 ∨ x.what = 2 ∨ x.what = 3 then ((∀ g ∈ x.es, g.may = true) ∧ ms.map Prod.fst = prefS s x.es x.es.length ∧ c = 0) ∨ ((¬ ∀ g ∈ x.es, g.may = true) ∧ ms = [] ∧ c = 20)
  else match takeS s (if x.what = 0 then rcH x.term (plN x.vote) else if x.what = 4 then rcC x.index else rcD x.index x.term) with
    | .ok s2 => ms.map Prod.fst = [s2] ∧ c = 0
    | .error e => ms = [] ∧ c = (e : Int)
section
variable {w2 wx w' : World} {p nb xb i n ns : Nat} {x : GStp} {vn mv nv : Value} {M ms : List (Sta × Value)} {xs : List GStp} {rs : List Rc} {pr : Bool} {s t : Sta} {S : Dk.St}
theorem PJ.below (h : PJ w2 wx p nb xb x vn mv nv M ms n rs ns pr s t S) (hb : Below wx.heap.size wx w') : PJ w2 w' p nb xb x vn mv nv M ms n rs ns pr s t S := by
  obtain ⟨O, h1, h2, h3, h4, h5⟩ := h
  exact ⟨O, h1.below hb, h2.trans (hb.mono h2.size), h3.below hb, h4.below hb, h5⟩
theorem PI.enter (h : PI w2 wx p nb i vn mv M xs) (x : GStp) : ∃ rs ns pr s S, PJ w2 (wx.alloc (.cells #[.int .i64 x.what, .int .i64 x.num, .int .u64 (x.index : Int), .int .u64 (x.term : Int), .int .i64 x.vote, x.l, x.k] 59)) p nb wx.heap.size x vn mv (.slice none 0 0) M [] (9000 - 10 * i) rs ns pr s s S ∧ S.off = false ∧ MayI rs ns M ∧ EOk M ∧ SzI xs i rs s M := by
  obtain ⟨rs, ns, pr, s, S, O, h1, h2, h3, h4, h5, h6, h7, h8⟩ := h
  have hb := box_below wx (.cells #[.int .i64 x.what, .int .i64 x.num, .int .u64 (x.index : Int), .int .u64 (x.term : Int), .int .i64 x.vote, x.l, x.k] 59)
  exact ⟨rs, ns, pr, s, S, ⟨O, h1.below hb, h3.trans (hb.mono h3.size), h4.below hb, NX.start wx x h1.lt, h5, fun b hb => by obtain ⟨_, cur, hc⟩ := own_block h4.row hb; exact (Array.getElem?_eq_some_iff.1 hc).1⟩, h2, h6, h7, h8⟩
/-- does. -/
theorem pj_does (h : PJ w2 wx p nb xb x vn mv (.slice none 0 0) M [] n rs ns pr s s S) (hx : 0 ≤ x.what ∧ x.what ≤ 5) (hxo : XOk x) (hsl : SlE wx wx.heap.size x.l x.es) (hn : s.es.length + x.es.length ≤ 900000) :
    Calls Tryz.prog 21 #[stA s vn, spA x] wx fun e w' => ∃ ms ma mk c, e = .returned (.tuple #[.slice ma ms.length mk, .int .i64 c]) ∧ PJ w2 w' p nb xb x vn mv (.slice ma ms.length mk) M ms n rs ns pr s s S ∧ DoR s x ms c := by
  obtain ⟨O, h1, h2, h3, h4, h5⟩ := h
  have hs := h1.info.2.2.2.1
  have fin : ∀ {L : List Sta} {c : Int} {e : Ending} {w' : World}, DoesP wx vn L c e w' → (∀ ms : List (Sta × Value), ms.map Prod.fst = L → DoR s x ms c) → ∃ ms ma mk c, e = .returned (.tuple #[.slice ma ms.length mk, .int .i64 c]) ∧ PJ w2 w' p nb xb x vn mv (.slice ma ms.length mk) M ms n rs ns pr s s S ∧ DoR s x ms c := fun hd hr => by
    obtain ⟨ms, ma, mk, e1, e2, e3, e4⟩ := h4.told h3 h1.lt hd
    exact ⟨ms, ma, mk, _, e1, ⟨O, h1.below e3, h2.trans (e3.mono h2.size), h3.below e3, e2, h5⟩, hr ms e4⟩
  have hnil : ∀ ms : List (Sta × Value), ms.map Prod.fst = [] → ms = [] := fun ms h => by cases ms with | nil => rfl | cons a b => cases h
  rcases (show x.what = 0 ∨ (x.what = 1 ∨ x.what = 2 ∨ x.what = 3) ∨ x.what = 4 ∨ x.what = 5 by omega) with hw | hw | hw | hw
  · by_cases hb : x.vote < -1 ∨ 1000 < x.vote
    · refine (does_set_bad h3.el hw hb).mono fun e w' hd => fin hd (fun ms hm => ?_)
      have ht : takeS s (rcH x.term (plN x.vote)) = .error 20 := by
        have e : takeS s (rcH x.term (plN x.vote)) = if 1001 < plN x.vote then .error 20 else .ok ⟨x.term, plN x.vote, s.base, s.bt, s.es⟩ := rfl
        rw [e, if_pos (plN_big hb hxo.vote)]
      unfold DoR
      rw [if_neg (by omega), if_pos hw, ht]
      exact ⟨hnil ms hm, rfl⟩
    · refine (does_set_go h3.el hw ⟨by omega, by omega⟩).mono fun e w' hd => fin hd (fun ms hm => ?_)
      have ht : takeS s (rcH x.term (plN x.vote)) = .ok ⟨x.term, plN x.vote, s.base, s.bt, s.es⟩ := by
        have e : takeS s (rcH x.term (plN x.vote)) = if 1001 < plN x.vote then .error 20 else .ok ⟨x.term, plN x.vote, s.base, s.bt, s.es⟩ := rfl
        have := plN_small (v := x.vote) (by omega) (by omega)
        rw [e, if_neg (by omega)]
      unfold DoR
      rw [if_neg (by omega), if_pos hw, ht]
      exact ⟨hm, rfl⟩
  · refine (does_app h3.el hw hsl hn).mono fun e w' hd => ?_
    rcases hd with ⟨hm, hd⟩ | ⟨hm, hd⟩
    · exact fin hd (fun ms h => by unfold DoR; rw [if_pos hw]; exact .inl ⟨hm, h, rfl⟩)
    · exact fin hd (fun ms h => by unfold DoR; rw [if_pos hw]; exact .inr ⟨hm, hnil ms h, rfl⟩)
  · have ht : takeS s (rcC x.index) = if (x.index ≤ s.base ∨ s.base + s.es.length + 1 < x.index) then .error 40 else .ok ⟨s.term, s.vote, s.base, s.bt, s.es.take (x.index - s.base - 1)⟩ := rfl
    have hd0 : ∀ (ms : List (Sta × Value)) (c : Int), (match takeS s (rcC x.index) with | .ok s2 => ms.map Prod.fst = [s2] ∧ c = 0 | .error e => ms = [] ∧ c = (e : Int)) → DoR s x ms c := fun ms c h => by
      unfold DoR
      rw [if_neg (by omega), if_neg (by omega), if_pos hw]
      exact h
    by_cases hb1 : x.index ≤ s.base
    · exact (does_cut_low h3.el hw hs.2.2.1 hs.2.2.2.2.1 hb1).mono fun e w' hd => fin hd (fun ms hm => hd0 ms _ (by rw [ht, if_pos (.inl hb1)]; exact ⟨hnil ms hm, rfl⟩))
    · by_cases hb2 : s.base + s.es.length + 1 < x.index
      · exact (does_cut_high h3.el hw hs.2.2.1 hs.2.2.2.2.1 ⟨by omega, hb2⟩).mono fun e w' hd => fin hd (fun ms hm => hd0 ms _ (by rw [ht, if_pos (.inr hb2)]; exact ⟨hnil ms hm, rfl⟩))
      · exact (does_cut_go h3.el hw hs.2.2.1 hs.2.2.2.2.1 ⟨by omega, by omega⟩).mono fun e w' hd => fin hd (fun ms hm => hd0 ms _ (by rw [ht, if_neg (by omega)]; exact ⟨hm, rfl⟩))
  · have ht : takeS s (rcD x.index x.term) = if (x.index < s.base ∨ 4611686018427387904 < x.index) then .error 40 else .ok ⟨s.term, s.vote, x.index, x.term, s.es.drop (x.index - s.base)⟩ := rfl
    have hd0 : ∀ (ms : List (Sta × Value)) (c : Int), (match takeS s (rcD x.index x.term) with | .ok s2 => ms.map Prod.fst = [s2] ∧ c = 0 | .error e => ms = [] ∧ c = (e : Int)) → DoR s x ms c := fun ms c h => by
      unfold DoR
      rw [if_neg (by omega), if_neg (by omega), if_neg (by omega)]
      exact h
    by_cases hb1 : x.index < s.base
    · exact (does_drop_low h3.el hw hb1).mono fun e w' hd => fin hd (fun ms hm => hd0 ms _ (by rw [ht, if_pos (.inl hb1)]; exact ⟨hnil ms hm, rfl⟩))
    · by_cases hb2 : 4611686018427387904 < x.index
      · exact (does_drop_big h3.el hw hb1 hb2).mono fun e w' hd => fin hd (fun ms hm => hd0 ms _ (by rw [ht, if_pos (.inr hb2)]; exact ⟨hnil ms hm, rfl⟩))
      · have hgo : ∀ ms : List (Sta × Value), ms.map Prod.fst = [⟨s.term, s.vote, x.index, x.term, s.es.drop (x.index - s.base)⟩] → DoR s x ms 0 := fun ms hm => hd0 ms _ (by rw [ht, if_neg (by omega)]; exact ⟨hm, rfl⟩)
        by_cases hb3 : s.base + s.es.length < x.index
        · refine (does_drop_all h3.el hw hs.2.2.1 hs.2.2.2.2.1 ⟨by omega, by omega⟩ hb3).mono fun e w' hd => fin hd (fun ms hm => hgo ms ?_)
          rw [hm, List.drop_of_length_le (by omega)]
        · obtain ⟨a, k, hva, _, _⟩ := h3.el.slice
          by_cases hk : k = x.index - s.base
          · exact (does_drop_same h3.el hw hs.2.2.1 hs.2.2.2.2.1 ⟨by omega, by omega⟩ (by omega) (fun m hm a' n' k' e => by rw [hva] at e; cases e; omega)).mono fun e w' hd => fin hd hgo
          · exact (does_drop_some h3.el hw hs.2.2.1 hs.2.2.2.2.1 ⟨by omega, by omega⟩ (by omega) (fun m hm a' n' k' e => by rw [hva] at e; cases e; omega)).mono fun e w' hd => fin hd hgo
end
end Go.Proofs.YthphadbcebeoaaaGreatDoor
