/- The wal's own rows of entries: how they read, one entry more. -/
import Derived.Test.YthphadbcebeoaaaGreatDoorJBurstWaMath
import Derived.Test.YthphadbcebeoaaaGreatDoorJDErrsDState
import Derived.ArgAppend
import Derived.Deep.RegionLaw
import Derived.Deep.RegionLawGrows
namespace Go.Proofs.YthphadbcebeoaaaGreatDoor
open Go.RowKit Go.Lib Go.Maps

theorem setCells_blk {b : Nat} {T : TypeId} : ∀ (vs : List Value) (o : Nat) (w : World) (cur : Array Value), w.heap[b]? = some (.cells cur T (0, 0)) → o + vs.length ≤ cur.size →
    ∃ cur' : Array Value, (w.setCells b o vs).heap[b]? = some (.cells cur' T (0, 0)) ∧ cur'.size = cur.size ∧ (∀ j, o ≤ j → j < o + vs.length → cur'[j]? = vs[j - o]?) ∧ ∀ j, (j < o ∨ o + vs.length ≤ j) → cur'[j]? = cur[j]?
  | [], o, w, cur, h, _ => ⟨cur, h, rfl, fun j h1 h2 => by simp at h2; omega, fun _ _ => rfl⟩
  | v :: vs, o, w, cur, h, hl => by
    simp only [List.length_cons] at hl
    obtain ⟨cur', h1, h2, h3, h4⟩ := setCells_blk vs (o + 1) (w.setCell ⟨b, o, none⟩ v) (cur.setIfInBounds o v) (Dk.heap_setCell_at h o v) (by simp; omega)
    refine ⟨cur', h1, by simpa using h2, fun j ha hb => ?_, fun j hj => ?_⟩
    · simp only [List.length_cons] at hb
      rcases Nat.lt_or_ge o j with hlt | hge
      · rw [h3 j (by omega) (by omega)]
        have e : j - o = (j - (o + 1)) + 1 := by omega
        rw [e, List.getElem?_cons_succ]
      · obtain rfl : j = o := by omega
        rw [h4 j (.inl (by omega))]
        simp [show j < cur.size by omega]
    · simp only [List.length_cons] at hj
      rw [h4 j (by omega), Array.getElem?_setIfInBounds, if_neg (by omega)]
theorem setCells_other {b : Nat} : ∀ (vs : List Value) (o : Nat) (w : World) (k : Nat), k ≠ b → (w.setCells b o vs).heap[k]? = w.heap[k]?
  | [], _, _, _, _ => rfl
  | v :: vs, o, w, k, h => by rw [World.setCells, setCells_other vs (o + 1) _ k h, Dk.heap_setCell_ne o v h]
theorem setCells_size {b : Nat} : ∀ (vs : List Value) (o : Nat) (w : World), (w.setCells b o vs).heap.size = w.heap.size
  | [], _, _ => rfl
  | v :: vs, o, w => by rw [World.setCells, setCells_size vs (o + 1)]; simp
theorem setCells_env {b : Nat} : ∀ (vs : List Value) (o : Nat) (w : World), Dk.Env w (w.setCells b o vs)
  | [], _, _ => ⟨rfl, rfl, rfl⟩
  | v :: vs, o, w => by
    rw [World.setCells]
    exact Dk.Env.trans ⟨rfl, rfl, rfl⟩ (setCells_env vs (o + 1) (w.setCell ⟨b, o, none⟩ v))

/-- An entry's five cells. -/
def geC (g : GE) : List Value := [.int .u64 (g.term : Int), .int .i64 g.kind, .int .u64 (g.client : Int), .int .u64 (g.seq : Int), .string g.sql]
def esC (es : List GE) : List Value := es.flatMap geC
theorem geC_len (g : GE) : (geC g).length = 5 := rfl
theorem geC_one (g : GE) : ∀ u ∈ geC g, u.oneCell' = true := by
  intro u hu
  simp [geC] at hu
  rcases hu with rfl | rfl | rfl | rfl | rfl <;> rfl
theorem esC_len : ∀ es : List GE, (esC es).length = es.length * 5
  | [] => rfl
  | g :: r => by rw [esC, List.flatMap_cons, List.length_append, geC_len]; have := esC_len r; unfold esC at this; rw [this, List.length_cons]; omega
theorem esC_app (a b : List GE) : esC (a ++ b) = esC a ++ esC b := by simp [esC]
theorem esC_one (g : GE) : esC [g] = geC g := by simp [esC]
theorem esC_take (es : List GE) (n : Nat) : (esC es).take (n * 5) = esC (es.take n) := by
  rcases Nat.lt_or_ge n es.length with h | h
  · conv => lhs; rw [← List.take_append_drop n es, esC_app]
    rw [List.take_append_of_le_length (by rw [esC_len, List.length_take]; omega), List.take_of_length_le (by rw [esC_len, List.length_take]; omega)]
  · rw [List.take_of_length_le (by rw [esC_len]; omega), List.take_of_length_le h]
theorem esC_drop (es : List GE) (n : Nat) : (esC es).drop (n * 5) = esC (es.drop n) := by
  rcases Nat.lt_or_ge n es.length with h | h
  · conv => lhs; rw [← List.take_append_drop n es, esC_app]
    have e : (esC (es.take n)).length = n * 5 := by rw [esC_len, List.length_take]; omega
    rw [← e, List.drop_left]
  · rw [List.drop_of_length_le (by rw [esC_len]; omega), List.drop_of_length_le h]; rfl
theorem esC_get (es : List GE) (i j : Nat) (g : GE) (h : es[i]? = some g) (hj : j < 5) : (esC es)[i * 5 + j]? = (geC g)[j]? := by
  have e1 : (esC es)[i * 5 + j]? = ((esC es).drop (i * 5))[j]? := by rw [List.getElem?_drop]
  have hi := (List.getElem?_eq_some_iff.1 h)
  rw [e1, esC_drop, List.drop_eq_getElem_cons hi.1, hi.2, esC, List.flatMap_cons, List.getElem?_append_left (by rw [geC_len]; exact hj)]

/-- A slice of entries, in a block of its own, with the room behind it. -/
def EL (w : World) (v : Value) (es : List GE) : Prop :=
  (v = .slice none 0 0 ∧ es = []) ∨ ∃ g off k cur, v = .slice (some ⟨g, off, none⟩) es.length k ∧ w.heap[g]? = some (.cells cur 37 (0, 0)) ∧ es.length ≤ k ∧ k ≤ maxLen ∧ off + k * 5 ≤ cur.size ∧ (cur.toList.drop off).take (es.length * 5) = esC es
/-- The block that it lies in. -/
def inB (v : Value) (g : Nat) : Prop := ∃ off n k, v = .slice (some ⟨g, off, none⟩) n k
theorem EL.nil (w : World) : EL w (.slice none 0 0) [] := .inl ⟨rfl, rfl⟩
theorem EL.slice {w : World} {v : Value} {es : List GE} (h : EL w v es) : ∃ a k, v = .slice a es.length k ∧ es.length ≤ k ∧ k ≤ maxLen := by
  rcases h with ⟨rfl, rfl⟩ | ⟨g, off, k, cur, h1, h2, h3, h4, _⟩
  · exact ⟨none, 0, rfl, Nat.le_refl _, Nat.zero_le _⟩
  · exact ⟨_, k, h1, h3, h4⟩
theorem EL.keep {w w' : World} {v : Value} {es : List GE} (h : EL w v es) (hk : ∀ g, inB v g → w'.heap[g]? = w.heap[g]?) : EL w' v es := by
  rcases h with h | ⟨g, off, k, cur, h1, h2, h3⟩
  · exact .inl h
  · exact .inr ⟨g, off, k, cur, h1, (hk g ⟨_, _, _, h1⟩).trans h2, h3⟩
theorem EL.lt {w : World} {v : Value} {es : List GE} (h : EL w v es) {g : Nat} (hg : inB v g) : g < w.heap.size := by
  obtain ⟨o, n, c, rfl⟩ := hg
  rcases h with ⟨h, _⟩ | ⟨g', off, k, cur, h1, h2, h3⟩
  · cases h
  · cases h1; exact (Array.getElem?_eq_some_iff.1 h2).1
theorem EL.below {w w' : World} {v : Value} {es : List GE} (h : EL w v es) (hb : Below w.heap.size w w') : EL w' v es := h.keep (fun _ hg => hb.block _ (h.lt hg))
theorem row_at {w : World} {g off k n : Nat} {cur : Array Value} {T : TypeId} {xs : List Value} (h3 : w.heap[g]? = some (.cells cur T (0, 0))) (h6 : off + k * 5 ≤ cur.size) (h7 : (cur.toList.drop off).take (n * 5) = xs) :
    (∀ j u, xs[j]? = some u → w.cell? ⟨g, off + j, none⟩ = some u) ∧ ∀ j, j < k * 5 → (w.cell? ⟨g, off + j, none⟩).isSome = true ∧ w.frozen? ⟨g, off + j, none⟩ = false := by
  refine ⟨fun j u hj => ?_, fun j hj => ?_⟩
  · rw [(Dk.cellB h3 _).1, ← Array.getElem?_toList]
    rw [← h7, List.getElem?_take] at hj
    split at hj
    · rwa [List.getElem?_drop] at hj
    · cases hj
  · rw [(Dk.cellB h3 _).1]
    exact ⟨by rw [Array.getElem?_eq_getElem (by omega)]; rfl, (Dk.cellB h3 _).2⟩
/-- An entry's cells. -/
theorem EL.cells {w : World} {v : Value} {es : List GE} (h : EL w v es) {i : Nat} {e : GE} (hi : es[i]? = some e) : ∃ g off k, v = .slice (some ⟨g, off, none⟩) es.length k ∧ g < w.heap.size ∧ es.length ≤ k ∧ ∀ j u, (geC e)[j]? = some u → w.cell? ⟨g, off + i * 5 + j, none⟩ = some u := by
  have hl := (List.getElem?_eq_some_iff.1 hi).1
  rcases h with ⟨rfl, rfl⟩ | ⟨g, off, k, cur, h1, h2, h3, h4, h5, h6⟩
  · simp at hl
  · refine ⟨g, off, k, h1, (Array.getElem?_eq_some_iff.1 h2).1, h3, fun j u hj => ?_⟩
    have hj5 : j < 5 := by have := (List.getElem?_eq_some_iff.1 hj).1; simpa [geC] using this
    rw [Nat.add_assoc]
    exact (row_at h2 h5 h6).1 (i * 5 + j) u ((esC_get es i j e hi hj5).trans hj)
/-- The first n of them; those behind. -/
theorem EL.take {w : World} {a : Option Addr} {n k : Nat} {es : List GE} (h : EL w (.slice a n k) es) (m : Nat) (hm : m ≤ es.length) : EL w (.slice a m k) (es.take m) := by
  have hl : (es.take m).length = m := by rw [List.length_take]; omega
  rcases h with ⟨h, rfl⟩ | ⟨g, off, k', cur, h1, h2, h3, h4, h5, h6⟩
  · cases h
    obtain rfl : m = 0 := by simpa using hm
    exact .inl ⟨rfl, rfl⟩
  · cases h1
    refine .inr ⟨g, off, k, cur, by rw [hl], h2, by omega, h4, h5, ?_⟩
    rw [hl, ← esC_take, ← h6, List.take_take]
    congr 1; omega
theorem EL.drop {w : World} {g off k n : Nat} {es : List GE} (h : EL w (.slice (some ⟨g, off, none⟩) n k) es) (m off' : Nat) (hm : m ≤ es.length) (ho : off' = off + m * 5 ∨ (k = m ∧ off' ≤ off + k * 5)) : EL w (.slice (some ⟨g, off', none⟩) (n - m) (k - m)) (es.drop m) := by
  have hl : (es.drop m).length = es.length - m := by rw [List.length_drop]
  rcases h with ⟨h, rfl⟩ | ⟨g', off2, k', cur, h1, h2, h3, h4, h5, h6⟩
  · cases h
  · cases h1
    refine .inr ⟨g, off', k - m, cur, by rw [hl], h2, by omega, by omega, by omega, ?_⟩
    rcases ho with rfl | ⟨rfl, _⟩
    · rw [hl, ← esC_drop, ← h6, List.drop_take, List.drop_drop, Nat.sub_mul]
    · have : es.drop k = [] := List.drop_of_length_le h3
      rw [this]; simp [esC]
/-- v0 is a first part of v's row, or in another block. -/
def Pre (v0 v : Value) : Prop := ∀ g, inB v g → inB v0 g → ∃ off n0 n k, v0 = .slice (some ⟨g, off, none⟩) n0 k ∧ v = .slice (some ⟨g, off, none⟩) n k ∧ n0 ≤ n
theorem Pre.self (v : Value) : Pre v v := by
  intro g ⟨o, n, k, e⟩ _
  exact ⟨o, n, n, k, e, e, Nat.le_refl _⟩
theorem EL.own {w : World} {B n : Nat} {v : Value} {es : List GE} (h : w.ownsRow B 37 5 v n (esC es)) (hn : n = es.length) : EL w v es ∧ ∀ g, inB v g → B ≤ g := by
  subst hn
  obtain ⟨_, ⟨rfl, h0⟩ | ⟨g, cap, cur, h1, h2, h3, h4, h5, h6, h7⟩⟩ := h
  · exact ⟨.inl ⟨rfl, List.eq_nil_of_length_eq_zero h0⟩, fun g ⟨_, _, _, e⟩ => by cases e⟩
  · exact ⟨.inr ⟨g, 0, cap, cur, h1, h3, h4, h5, by omega, by simpa using h7⟩, fun g' ⟨_, _, _, e⟩ => by rw [h1] at e; cases e; exact h2⟩
theorem Tryz.infoEn : (Tryz.prog.info? 37).map (fun i => (i.zero, i.size, i.bytes)) = some (some (.agg #[.int .u64 0, .int .i64 0, .int .u64 0, .int .u64 0, .string ⟨#[]⟩]), 5, 48) := by kernel_rfl

/-- One entry more: what the row is now; what a first part of the elder row reads stays; the rest stays. -/
structure AppP (w w' : World) (v v' : Value) (es : List GE) (e : GE) : Prop where
  now : EL w' v' (es ++ [e])
  blk : ∀ k, k < w.heap.size → ¬ inB v k → w'.heap[k]? = w.heap[k]?
  size : w.heap.size ≤ w'.heap.size
  env : Dk.Env w w'
  at' : ∀ g, inB v' g → inB v g ∨ w.heap.size ≤ g
  old : ∀ v0 es0, EL w v0 es0 → Pre v0 v → EL w' v0 es0 ∧ Pre v0 v'
theorem el_new {w w' : World} {v v' : Value} {es : List GE} {e : GE} (ho' : w'.ownsRow w.heap.size 37 5 v' (es.length + 1) (esC es ++ geC e)) (hg : w.grownBy w' none) : AppP w w' v v' es e := by
  have hk : ∀ k, k < w.heap.size → w'.heap[k]? = w.heap[k]? := fun k hk => hg.block k hk (by simp)
  obtain ⟨h1, h2⟩ := EL.own (es := es ++ [e]) (by rw [esC_app, esC_one]; exact ho') (by simp)
  refine ⟨h1, fun k hk' _ => hk k hk', hg.size, ⟨hg.os, hg.tape, hg.output⟩, fun g hg' => .inr (h2 g hg'), fun v0 es0 h0 _ => ⟨h0.keep (fun g hg' => hk g (h0.lt hg')), fun g hg1 hg2 => ?_⟩⟩
  have := h0.lt hg2
  have := h2 g hg1
  omega
set_option maxHeartbeats 1600000 in
theorem el_room {w : World} {es : List GE} {e : GE} {g off k : Nat} (hm : EL w (.slice (some ⟨g, off, none⟩) es.length k) es) (hk : es.length + 1 ≤ k) : AppP w (w.setCells g (off + es.length * 5) (geC e)) (.slice (some ⟨g, off, none⟩) es.length k) (.slice (some ⟨g, off, none⟩) (es.length + 1) k) es e := by
  rcases hm with ⟨h, _⟩ | ⟨g', off', k', cur, h1, h2, h3, h4, h5, h6⟩
  · cases h
  cases h1
  obtain ⟨cur', c1, c2, c3, c4⟩ := setCells_blk (geC e) (off + es.length * 5) w cur h2 (by rw [geC_len]; omega)
  have hfar : ∀ q, q ≠ g → (w.setCells g (off + es.length * 5) (geC e)).heap[q]? = w.heap[q]? := fun q hq => setCells_other _ _ w q hq
  refine ⟨.inr ⟨g, off, k, cur', by simp, c1, by simpa using hk, h4, by omega, ?_⟩, fun q hq hn => hfar q (fun e' => hn (by rw [e']; exact ⟨_, _, _, rfl⟩)), Nat.le_of_eq (setCells_size _ _ w).symm, setCells_env _ _ w, fun q hq => .inl ?_, fun v0 es0 h0 hp => ?_⟩
  · refine List.ext_getElem? fun j => ?_
    have hl' : (es ++ [e]).length * 5 = es.length * 5 + 5 := by simp; omega
    have hc := esC_len es
    rw [hl', List.getElem?_take, esC_app, esC_one]
    rcases Nat.lt_or_ge j (es.length * 5) with h8 | h8
    · rw [if_pos (by omega), List.getElem?_drop, Array.getElem?_toList, c4 _ (.inl (by omega)), List.getElem?_append_left (by omega), ← h6, List.getElem?_take, if_pos h8, List.getElem?_drop, Array.getElem?_toList]
    · rw [List.getElem?_append_right (by omega), hc]
      split
      · rw [List.getElem?_drop, Array.getElem?_toList, c3 _ (by omega) (by rw [geC_len]; omega), show off + j - (off + es.length * 5) = j - es.length * 5 by omega]
      · rw [List.getElem?_eq_none (by rw [geC_len]; omega)]
  · obtain ⟨o', n', k', e'⟩ := hq
    cases e'
    exact ⟨_, _, _, rfl⟩
  · constructor
    · by_cases hg : inB v0 g
      · obtain ⟨off2, n0, n2, k2, e1, e2, hle⟩ := hp g ⟨_, _, _, rfl⟩ hg
        cases e2
        rcases h0 with ⟨e3, _⟩ | ⟨g3, off3, k3, cur3, e3, q2, q3, q4, q5, q6⟩
        · rw [e1] at e3; cases e3
        · rw [e1] at e3
          cases e3
          obtain rfl : cur = cur3 := (Obj.cells.inj (Option.some.inj (h2.symm.trans q2))).1
          refine .inr ⟨g, off, k, cur', e1, c1, q3, q4, by omega, ?_⟩
          rw [← q6]
          refine List.ext_getElem? fun j => ?_
          rw [List.getElem?_take, List.getElem?_take]
          split
          · rw [List.getElem?_drop, List.getElem?_drop, Array.getElem?_toList, Array.getElem?_toList, c4 _ (.inl (by omega))]
          · rfl
      · exact h0.keep (fun q hq => hfar q (fun e' => hg (by rw [e'] at hq; exact hq)))
    · intro q hq1 hq2
      obtain ⟨o', n', k', e'⟩ := hq1
      cases e'
      obtain ⟨off2, n0, n2, k2, e1, e2, hle⟩ := hp g ⟨_, _, _, rfl⟩ hq2
      cases e2
      exact ⟨_, _, _, _, e1, rfl, by omega⟩
/-- One entry more, as a step of a region that draws. -/
theorem el_step {ops : Array Oper} {o : Oper} {a : Act} {w : World} {K : Act → World → Prop} {Q : Exit → Act → World → Prop} {E : Prop} (hgd : o.guard = none) (s x : Operand)
    (ho : o.op = .call { callee := .builtin .append, args := #[s, x], argTypes := #[34, 34] })
    {v : Value} {es : List GE} (hm : EL w v es) (hs : a.eval s = v) (hf : es.length ≤ 1000000) {nb no c : Nat} {e : GE} (hx : a.eval x = .slice (some ⟨nb, no, none⟩) 1 c) (hr : ∀ j u, (geC e)[j]? = some u → w.cell? ⟨nb, no + j, none⟩ = some u)
    (h : ∀ v' w', AppP w w' v v' es e → K (a.put o.dst v') w') : if Region.wanted o (yielded ops a.tmps) = true then Oper.wp Tryz.prog o a w K Q else E := by
  obtain ⟨i0, hi, hz0, hz1, hz2⟩ := info_parts Tryz.infoEn
  have hby : (es.length + 1) * 48 ≤ 140737488355328 := by omega
  have hnews : ∀ j u, (geC e)[j]? = some u → w.cell? ((⟨nb, no, none⟩ : Addr).add j) = some u := fun j u hj => by
    have := hr j u hj
    rwa [Go.WideShapes.add_plain]
  rcases id hm with ⟨rfl, rfl⟩ | ⟨g, off, k, cur, h1, h2, h3, h4, h5, h6⟩
  · refine step_append_grows hgd s x 34 ho 37 i0 _ 5 48 Tryz.underlying34 hi hz0 hz1 hz2 rfl (by decide) none 0 0 [] hs (fun _ => ⟨rfl, rfl⟩) rfl (fun b hb => by cases hb) ⟨nb, no, none⟩ 1 c (geC e) hx rfl hnews (geC_one e) (by decide) (by unfold maxLen; decide) (by decide) (fun v' w' ho' hg => ?_)
    exact h v' w' (el_new (by simpa [esC] using ho') hg)
  · obtain ⟨hrr, hth⟩ := row_at h2 h5 h6
    subst h1
    by_cases hk : es.length + 1 ≤ k
    · refine step_append_room hgd s x 34 ho 37 i0 5 Tryz.underlying34 hi hz1 g off es.length k hs ⟨nb, no, none⟩ 1 c (geC e) hx rfl hnews (geC_one e) hk (fun j hj => ?_) (h _ _ (el_room hm hk))
      have := hth (es.length * 5 + j) (by simp [geC] at hj; omega)
      rwa [← Nat.add_assoc] at this
    · refine step_append_grows hgd s x 34 ho 37 i0 _ 5 48 Tryz.underlying34 hi hz0 hz1 hz2 rfl (by decide) (some ⟨g, off, none⟩) es.length k (esC es) hs (fun hh => by cases hh) (esC_len es) (fun b hb j u hj => ?_) ⟨nb, no, none⟩ 1 c (geC e) hx rfl hnews (geC_one e) (by omega) (by unfold maxLen; omega) hby (fun v' w' ho' hg => h v' w' (el_new ho' hg))
      cases hb
      rw [Go.WideShapes.add_plain]
      exact hrr j u hj
end Go.Proofs.YthphadbcebeoaaaGreatDoor
