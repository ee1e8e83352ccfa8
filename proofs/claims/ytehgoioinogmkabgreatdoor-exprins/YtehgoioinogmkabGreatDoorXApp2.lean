/- Expressions appended to a row of the call's own: any slice of them. -/
import Derived.Test.YtehgoioinogmkabGreatDoorJXPar9XPar10
import Derived.Test.YtehgoioinogmkabGreatDoorJHandXBaseXLex3HandL
import Derived.Lib.AppendZeros
import Derived.Maps.AppendAt
import Derived.Laws.OwnMore
namespace Go.Proofs.YtehgoioinogmkabGreatDoor
open Go.RowKit Go.Lib

/-- Expressions as a row. -/
def foE : List Ex → Fo
  | [] => .nil
  | x :: l => Fo.cons x.1 x.2 (foE l)
theorem toFo_foE : ∀ Xs : List (List Value × Ex), toFo Xs = foE (Xs.map (·.2))
  | [] => rfl
  | x :: l => by show Fo.cons _ _ (toFo l) = Fo.cons _ _ (foE (l.map (·.2))); rw [toFo_foE l]
theorem foE_snoc (E : Ex) : ∀ l : List Ex, Fo.app (foE l) (Fo.cons E.1 E.2 .nil) = foE (l ++ [E])
  | [] => rfl
  | x :: l => by show Go.Deep.BT.node 0 0 _ _ (Fo.app (foE l) _) = _; rw [foE_snoc E l]; rfl
theorem cnt_foE : ∀ l : List Ex, cnt (foE l) = l.length
  | [] => rfl
  | x :: l => by show cnt (foE l) + 1 = _; rw [cnt_foE l]; rfl
theorem exprsS_foE (T : List Tk) (sub : PS → Ex × PS) : ∀ (n : Nat) (L : List Ex) (S : PS), ∃ K, (exprsS T sub n (foE L) S).1 = foE K
  | 0, L, _ => ⟨L, rfl⟩
  | n + 1, L, S => by
    rw [exprsS]
    split
    · dsimp only
      rw [foE_snoc]
      split
      · exact exprsS_foE T sub n _ _
      · exact ⟨_, rfl⟩
    · exact ⟨L, rfl⟩
/-- A row of expressions as a list of their cells. -/
theorem row_list {w : World} {Q : Nat → Prop} : ∀ (L : List Ex) {b o : Nat}, RowAt w Q (foE L) b o → ∃ Xs : List (List Value × Ex), Xs.map (·.2) = L ∧ (∀ y ∈ Xs, ExM w Q y.1 y.2) ∧ w.rangeAt b o (Xs.flatMap (·.1))
  | [], _, _, _ => ⟨[], rfl, (fun _ h => by cases h), fun j v hv => by cases hv⟩
  | (a, kids) :: L, b, off, h => by
    obtain ⟨⟨args, h1, h2, h3⟩, h4⟩ := h
    obtain ⟨Xs, e, hx, hr⟩ := row_list L h4
    refine ⟨(ndC a args, (a, kids)) :: Xs, by rw [List.map_cons, e], ?_, ?_⟩
    · intro y hy
      rcases List.mem_cons.1 hy with rfl | hy
      · exact ⟨args, rfl, h3⟩
      · exact hx y hy
    · rw [List.flatMap_cons]
      intro j v hv
      by_cases hj : j < 10
      · rw [List.getElem?_append_left (by rw [ndC_len]; exact hj)] at hv
        exact h1 j v hv
      · rw [List.getElem?_append_right (by rw [ndC_len]; omega), ndC_len] at hv
        have := hr (j - 10) v hv
        rwa [show off + 10 + (j - 10) = off + j by omega] at this
theorem flat_one {w : World} {Q : Nat → Prop} {Xs : List (List Value × Ex)} (h : ∀ y ∈ Xs, ExM w Q y.1 y.2) : ∀ u ∈ Xs.flatMap (·.1), u.oneCell' = true := by
  intro u hu
  obtain ⟨y, hy, hu⟩ := List.mem_flatMap.1 hu
  exact (h y hy).one u hu
/-- The same at an operation of a region that draws. -/
theorem append_op {o : Oper} {act : Act} {Q' : Exit → Act → World → Prop} {K : Act → World → Prop} {base : Nat} {W : World} {a : Option Addr} {m c : Nat} {Es : List (List Value × Ex)} (s x : Operand)
    (ho : o.op = .call { callee := .builtin .append, args := #[s, x], argTypes := #[27, 27] }) (h : OE base W a m c Es) (hbase : base ≤ W.heap.size) (hs : act.eval s = .slice a m c)
    (Xs : List (List Value × Ex)) (hx : ∀ y ∈ Xs, ExM W (fun b => base ≤ b ∧ (Value.slice a m c).ownBlock ≠ some b) y.1 y.2) (bx ox kx : Nat) (hev : act.eval x = .slice (some ⟨bx, ox, none⟩) Xs.length kx) (hr : W.rangeAt bx ox (Xs.flatMap (·.1))) (hn : m ≤ 1000000) (hn2 : Xs.length ≤ 1000000)
    (hK : ∀ ad k w', OE base w' ad (m + Xs.length) k (Es ++ Xs) → Below base W w' → (∀ b, b < W.heap.size → (Value.slice a m c).ownBlock ≠ some b → w'.heap[b]? = W.heap[b]?) → ((Value.slice ad (m + Xs.length) k).ownBlock = (Value.slice a m c).ownBlock ∨ (Value.slice ad (m + Xs.length) k).ownBlock = some W.heap.size) → K (act.put o.dst (.slice ad (m + Xs.length) k)) w') : o.wp Tryz.prog act W K Q' := by
  obtain ⟨i0, hi, hz0, hz1, hz2⟩ := info_parts Tryz.infoEx
  obtain ⟨v', w', hrun, ho', hg, _, hown⟩ := run_append_own_at (P := Tryz.prog) W base 27 o.type 29 i0 _ 10 120 Tryz.underlying27 hi hz0 hz1 hz2 rfl (by decide) _ m _ h.row ⟨bx, ox, none⟩ Xs.length kx (Xs.flatMap (·.1)) (flat_len (fun y hy => (hx y hy).len)) (fun j u hj => by rw [Go.WideShapes.add_plain]; exact hr j u hj) (flat_one hx) (by unfold maxLen; omega) (by omega) hbase
  obtain ⟨ad, k, rfl⟩ := ownSX ho'
  refine Lib.wp_append_run W s x 27 27 ho _ _ hs hev _ w' hrun (hK ad k w' ⟨?_, ?_, ?_⟩ ?_ (fun b hb e => hg.block b hb (fun e' => e e'.symm)) hown)
  · rw [List.flatMap_append]; simpa using ho'
  · rw [List.length_append, ← h.len]
  · have hall : ∀ y ∈ Es ++ Xs, ExM W (fun b => base ≤ b ∧ (Value.slice a m c).ownBlock ≠ some b) y.1 y.2 := by
      intro y hy
      rcases List.mem_append.1 hy with hy | hy
      · exact h.ex y hy
      · exact hx y hy
    intro y hy
    refine (hall y hy).keep (fun b q hl => ?_) (fun b hl q => ⟨q.1, ?_⟩)
    · exact hg.block b hl (fun e => q.2 e.symm)
    · rcases hown with e | e
      · rw [e]; exact q.2
      · rw [e]
        intro e'
        injection e' with e'
        omega
  · refine ⟨hg.os, hg.tape, hg.output, hg.size, fun b hb => ?_⟩
    exact hg.block b (by omega) (fun e => by have := (h.own b e.symm).1; omega)
/-- A row of one's own as a slice, whatever is known of its blocks. -/
theorem OE.sliceQ {base : Nat} {w : World} {a : Option Addr} {m c : Nat} {Es : List (List Value × Ex)} (h : OE base w a m c Es) {Q : Nat → Prop} (hx : ∀ x ∈ Es, ExM w Q x.1 x.2) (hq : ∀ g, (Value.slice a m c).ownBlock = some g → Q g) : SlAt w Q (.slice a m c) (toFo Es) := by
  rcases h.row.2 with ⟨e, hm⟩ | ⟨g, cap, cur, e, hb, hc, h1, h2, h3, h4⟩
  · injection e with e1 e2 e3
    subst e1
    have : Es = [] := List.eq_nil_of_length_eq_zero (by rw [← h.len]; exact hm)
    subst this
    exact .inl ⟨rfl, c, by rw [hm]⟩
  · injection e with e1 e2 e3
    subst e1
    subst e3
    refine .inr ⟨g, 0, c, by rw [cnt_toFo, ← h.len], by rw [cnt_toFo, ← h.len]; exact h1, h2, ?_⟩
    refine row_of (hq g (by simp [Value.ownBlock])) hx (fun j v hj => ?_)
    rw [Nat.zero_add, cellX hc]
    rw [← h4] at hj
    have hj2 := (List.getElem?_eq_some_iff.1 hj).1
    rw [List.getElem?_take_of_lt (by simp at hj2; omega)] at hj
    simpa using hj
/-- Nothing appended. -/
theorem append_op_none {o : Oper} {act : Act} {Q' : Exit → Act → World → Prop} {K : Act → World → Prop} {base : Nat} {W : World} {a : Option Addr} {m c : Nat} {Es : List (List Value × Ex)} (s x : Operand)
    (ho : o.op = .call { callee := .builtin .append, args := #[s, x], argTypes := #[27, 27] }) (h : OE base W a m c Es) (hs : act.eval s = .slice a m c) (hev : act.eval x = .slice none 0 0)
    (hK : K (act.put o.dst (.slice a m c)) W) : o.wp Tryz.prog act W K Q' := by
  obtain ⟨i0, hi, _, _, _⟩ := info_parts Tryz.infoEx
  have hrun := run_append_owned_none (P := Tryz.prog) (w := W) base 27 o.type 29 i0 10 Tryz.underlying27 hi _ m _ h.row
  exact Lib.wp_append_run W s x 27 27 ho _ _ hs hev _ W hrun hK
/-- A new row of one. -/
theorem oe_one {base : Nat} {W : World} {M : List Value} {E : Ex} (hb : base ≤ W.heap.size) (hx : ExM W (fun b => base ≤ b) M E) : OE base (W.alloc (.cells M.toArray 29)) (some ⟨W.heap.size, 0, none⟩) 1 1 [(M, E)] := by
  have hl := hx.len
  refine ⟨⟨by simp [hl], .inr ⟨W.heap.size, 1, M.toArray, rfl, hb, heap_alloc_new _ _, Nat.le_refl 1, by unfold maxLen; omega, by simp [hl], ?_⟩⟩, rfl, ?_⟩
  · simp [List.take_of_length_le, hl]
  · intro y hy
    rw [List.mem_singleton.1 hy]
    exact (hx.keep (Q' := fun b => base ≤ b ∧ (Value.slice (some ⟨W.heap.size, 0, none⟩) 1 1).ownBlock ≠ some b) (fun _ _ _ => rfl) (fun b hl q => ⟨q, fun e => by simp only [Value.ownBlock, Option.some.injEq] at e; omega⟩)).below (alX (Below.refl _ _) _)
section
variable {P : Program} {ops : Array Oper} {Q : Exit → Act → World → Prop} {md : Region.Mode} {S : World → Prop} {fin : Nat}
/-- Numbers i and j may come up: in either order. -/
theorem last_two {i j : Nat} {oi oj : Oper} {fuel : Nat} {listed : Array Bool} {a : Act} {w : World} (hr : Region.ready md ops listed = [i, j]) (hi : ops[i]? = some oi) (hj : ops[j]? = some oj)
    (h1 : ∀ K' : Act → World → Prop, Shut (∀ a w, (i ≠ fin → S w) → ((i ≠ fin → S w) → wpAnyL P md ops Q S fin fuel (listed.setIfInBounds i true) a w) → K' a w) → if Region.wanted oi (yielded ops a.tmps) = true then Oper.wp P oi a w K' Q else K' (a.put oi.dst undef) w)
    (h2 : ∀ K' : Act → World → Prop, Shut (∀ a w, (j ≠ fin → S w) → ((j ≠ fin → S w) → wpAnyL P md ops Q S fin fuel (listed.setIfInBounds j true) a w) → K' a w) → if Region.wanted oj (yielded ops a.tmps) = true then Oper.wp P oj a w K' Q else K' (a.put oj.dst undef) w) : wpAnyL P md ops Q S fin (fuel + 1) listed a w := by
  refine ⟨fun h0 => absurd (hr ▸ h0) (by simp), fun k hk => ?_⟩
  rw [hr] at hk
  rcases List.mem_cons.1 hk with rfl | hk
  · exact wpOp_step hi (fun K' hK => h1 K' (fun a w hS hW => hK a w ⟨hS, hW hS⟩))
  · obtain rfl := List.mem_singleton.1 hk
    exact wpOp_step hj (fun K' hK => h2 K' (fun a w hS hW => hK a w ⟨hS, hW hS⟩))
end
end Go.Proofs.YtehgoioinogmkabGreatDoor
