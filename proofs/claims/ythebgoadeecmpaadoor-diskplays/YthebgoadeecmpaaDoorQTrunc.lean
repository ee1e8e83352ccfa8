/- The document's disk: Truncate. -/
import Derived.Test.YthebgoadeecmpaaDoorJQSyncQRem
import Derived.Test.YthebgoadeecmpaaDoorDAbs2
namespace Go.Proofs.YthebgoadeecmpaaDoor
open Go.RowKit Go.Lib Go.Maps Go.WideMaps

/-- append(own, bytes...), as one step of a region that draws. -/
theorem step_bytes_at {w : World} {ops : Array Oper} {o : Oper} {a : Act} {K : Act → World → Prop} {Q : Exit → Act → World → Prop} {E : Prop} (hgd : o.guard = none) (s x : Operand)
    (ho : o.op = .call { callee := .builtin .append, args := #[s, x], argTypes := #[28, 28] })
    (v : Value) (n : Nat) (xs : List Value) (hs : a.eval s = v) (hown : w.ownsRow 0 5 1 v n xs)
    (O : Nat → Prop) (xv : Value) (lx : List UInt8) (hx : a.eval x = xv) (hrb : RBo w O xv lx) (hn : n ≤ 1000000000)
    (h : ∀ v' w', w'.ownsRow 0 5 1 v' (n + lx.length) (xs ++ byteCells lx) → w.grownBy w' v.ownBlock → (v'.ownBlock = v.ownBlock ∨ v'.ownBlock = some w.heap.size) → K (a.put o.dst v') w') :
    if Region.wanted o (yielded ops a.tmps) = true then Oper.wp Tryd.prog o a w K Q else E := by
  obtain ⟨i0, hi, hz0, hz1, hz2⟩ := info_parts Tryd.infoB
  obtain ⟨hlen, ⟨rfl, rfl⟩ | ⟨b, off, cap, hbB, _, hcap, hm, rfl, hcell⟩⟩ := hrb
  · have hw : Region.wanted o (yielded ops a.tmps) = true := by simp [Region.wanted, hgd]
    rw [if_pos hw]
    have hrun := run_append_owned_none (P := Tryd.prog) (w := w) 0 28 o.type 5 i0 1 Tryd.underlying28 hi v n xs hown
    unfold Oper.wp
    simp [execOp, ho, resolve, invoke, builtin, hs, hx, hrun, Result.andThen]
    exact h v w (by simpa [byteCells] using hown) (World.grownBy.refl _ _) (.inl rfl)
  · refine step_append_own_at hgd s x 28 ho 0 5 i0 (.int .u8 0) 1 1 Tryd.underlying28 hi hz0 hz1 hz2 rfl (by decide) v n xs hs hown ⟨b, off, none⟩ lx.length cap (byteCells lx) hx (by rw [Lib.byteCells_length]; omega) ?_ ?_ (by unfold maxLen; omega) (by omega) (Nat.zero_le _) h
    · intro j u hj
      have hjl : j < lx.length := by
        have := (List.getElem?_eq_some_iff.1 hj).1
        rwa [Lib.byteCells_length] at this
      have e2 : (byteCells lx)[j]? = some (.int .u8 ((lx.getD j 0).toNat : Int)) := by
        simp [byteCells, hjl]
      have hj2 := Option.some.inj (e2.symm.trans hj)
      rw [← hj2]
      have e3 : (⟨b, off, none⟩ : Addr).add j = ⟨b, off + j, none⟩ := by unfold Addr.add; split <;> simp_all
      rw [e3]; exact hcell j hjl
    · intro u hu
      simp only [byteCells, List.mem_map] at hu
      obtain ⟨c, _, rfl⟩ := hu
      rfl

set_option maxHeartbeats 6400000 in
set_option maxRecDepth 100000 in
theorem rtrunc_any {w : World} {r : Nat} {R : RSt} {vf : Value} {G : List Ent} {Q : Nat → Prop} (n : List UInt8) (m : Int) (h : RX w r R vf G Q) (hh : -1 ≤ R.halt ∧ R.halt ≤ 9223372036854775807) (hc : 0 ≤ R.count ∧ R.count < 1000000000) (hmb : -9223372036854775808 ≤ m ∧ m ≤ 9223372036854775807) :
    Calls Tryd.prog 13 #[.pointer (some ⟨r, 0, none⟩), .string ⟨n.toArray⟩, .int .i64 m] w fun ev w' => ev = .returned (.int .i64 (mayC R (truncC G n m)).2) ∧ FrO Q w w' ∧
      ((mayC R (truncC G n m)).2 ≠ 0 → RX w' r (mayC R (truncC G n m)).1 vf G Q) ∧ ((mayC R (truncC G n m)).2 = 0 → ∃ (i : Nat) (e : Ent) (v' : Value) (Q' : Nat → Prop), G[i]? = some e ∧ look G n = some e ∧ RX w' r (mayC R (truncC G n m)).1 vf (G.set i ⟨e.name, 0, v', e.data.take m.toNat, min e.sure m.toNat⟩) Q' ∧ (∀ q, Q' q → Q q ∨ w.heap.size ≤ q)) := by
  have HA := hide (at_any n h)
  have HM := hide (may2_any h hh hc)
  obtain ⟨c0, c1, c2, c3, c4⟩ := h.cells
  unfold mayC
  by_cases hoff : R.off = true
  · simp only [if_pos hoff]
    rw [hoff] at c2
    have H := hide h
    clear h
    go_enter Tryd.func13, Tryd.ntmps13
    go_wp2_with (first | (go_at_call 38; refine (unhide HA).mono ?_; rintro e0 w0 ⟨rfl, rfl⟩))
    go_ret
    exact ⟨rfl, FrO.refl _ _, fun _ => unhide H, fun h0 => absurd h0 (by decide)⟩
  · simp only [if_neg hoff]
    have hoff' : R.off = false := by simpa using hoff
    rw [hoff'] at c2
    unfold truncC
    cases hlk : look G n with
    | none =>
      rw [at_none hlk] at HA
      have H := hide h
      have h30 : (30 : Int) ≠ 0 := by decide
      simp only [if_pos h30]
      clear h
      go_enter Tryd.func13, Tryd.ntmps13
      go_wp2_with (first | (go_at_call 38; refine (unhide HA).mono ?_; rintro e0 w0 ⟨rfl, rfl⟩))
      go_ret
      exact ⟨rfl, FrO.refl _ _, fun _ => unhide H, fun h0 => absurd h0 (by decide)⟩
    | some e =>
      obtain ⟨i, hi, hat, hen⟩ := at_some hlk
      rw [hat] at HA
      have hil : i < G.length := (List.getElem?_eq_some_iff.1 hi).1
      have hi1 : (i : Int) < (G.length : Int) := by omega
      have hi0 : ¬ (i : Int) < 0 := by omega
      obtain ⟨g, cap, cur0, rfl, hgr, hQg, hcg0, k00, k10, k20⟩ := h.file hi
      obtain ⟨ea, ek, hev⟩ := (h.dat e (List.mem_of_getElem? hi)).slice
      have hlen := (h.len e (List.mem_of_getElem? hi)).2
      have hsu := (h.len e (List.mem_of_getElem? hi)).1
      have cv0 : w.cell? ⟨g, i * 3 + 1, none⟩ = some (.slice ea e.data.length ek) := by rw [(cellB hcg0 _).1, ← Array.getElem?_toList, k10, hev]
      by_cases hin : ¬ (0 ≤ m ∧ m ≤ (e.data.length : Int))
      · have h40 : (40 : Int) ≠ 0 := by decide
        simp only [if_neg hin, if_pos h40]
        have H := hide h
        clear h
        by_cases hneg : m < 0
        · go_enter Tryd.func13, Tryd.ntmps13
          go_wp2_with (first | (go_at_call 38; refine (unhide HA).mono ?_; rintro e0 w0 ⟨rfl, rfl⟩))
          try go_region
          all_goals (try go_wp2)
          all_goals go_ret
          all_goals exact ⟨rfl, FrO.of_below (O := Q) (by first | exact Below.refl _ _ | exact (Below.refl _ _).drew), fun _ => (unhide H).set rfl (fun _ _ => rfl) (unhide H).blk, fun h0 => absurd h0 (by decide)⟩
        · have hgt : (e.data.length : Int) < m := by omega
          have hneg' : (m < 0) = False := eq_false hneg
          go_enter Tryd.func13, Tryd.ntmps13
          go_wp2_with (first | (go_at_call 38; refine (unhide HA).mono ?_; rintro e0 w0 ⟨rfl, rfl⟩))
          try go_region
          all_goals (try go_wp2)
          all_goals go_ret
          all_goals exact ⟨rfl, FrO.of_below (O := Q) (by first | exact Below.refl _ _ | exact (Below.refl _ _).drew), fun _ => (unhide H).set rfl (fun _ _ => rfl) (unhide H).blk, fun h0 => absurd h0 (by decide)⟩
      have hin' := Classical.not_not.1 hin
      obtain ⟨mm, rfl⟩ := Int.eq_ofNat_of_zero_le hin'.1
      simp only [if_pos hin']
      have hml : mm ≤ e.data.length := by omega
      have hmi : (mm : Int) ≤ (e.data.length : Int) := hin'.2
      have hm0 : ((mm : Int) < 0) = False := eq_false (by omega)
      have hm1 : ((e.data.length : Int) < (mm : Int)) = False := eq_false (by omega)
      have h00 : ¬ ((0 : Int) ≠ 0) := fun h => h rfl
      simp only [if_neg h00]
      cases hm : (mayR R).2 with
      | false =>
        rw [hm] at HM
        simp only [Bool.false_eq_true, if_false]
        clear h
        go_enter Tryd.func13, Tryd.ntmps13
        go_wp2_with (first
          | (go_at_call 38; refine (unhide HA).mono ?_; rintro e0 w0 ⟨rfl, rfl⟩)
          | (go_at_call 40; refine (unhide HM).mono ?_; rintro e0 w1 ⟨rfl, hx1, hf1⟩; have H1 := hide (And.intro hx1 hf1); clear hx1 hf1))
        go_ret
        exact ⟨rfl, (unhide H1).2, fun _ => (unhide H1).1, fun h0 => absurd h0 (by decide)⟩
      | true =>
        rw [hm] at HM
        simp only [if_true]
        have hek : (ea = none ∧ e.data.length = 0 ∧ ek = 0) ∨ ((∃ b off, ea = some ⟨b, off, none⟩) ∧ e.data.length ≤ ek) := by
          rcases h.dat e (List.mem_of_getElem? hi) with ⟨e1, e2⟩ | ⟨b, off, cp, _, _, _, q4, _, q6, _⟩
          · rw [hev] at e1
            injection e1 with e1 e3 e4
            exact .inl ⟨e1, by rw [e2]; rfl, e4⟩
          · rw [hev] at q6
            injection q6 with e1 e3 e4
            exact .inr ⟨⟨b, off, e1⟩, by omega⟩
        have hekc : (mm : Int) ≤ (ek : Int) := by rcases hek with ⟨_, h1, h2⟩ | ⟨_, h2⟩ <;> omega
        have HP : Hid (∀ w1, RX w1 r (mayR R).1 (.slice (some ⟨g, 0, none⟩) G.length cap) G Q → w1.cell? ⟨r, 0, none⟩ = some (.slice (some ⟨g, 0, none⟩) G.length cap) ∧ w1.cell? ⟨g, i * 3 + 1, none⟩ = some (.slice ea e.data.length ek) ∧
            Hid (RBo w1.drew (fun _ => False) (.slice ea mm ek) (e.data.take mm)) ∧
            Hid (∀ v3 w2, w2.ownsRow 0 5 1 v3 (0 + (e.data.take mm).length) ([] ++ byteCells (e.data.take mm)) → w1.drew.grownBy w2 (Value.slice none 0 0).ownBlock → (v3.ownBlock = (Value.slice none 0 0).ownBlock ∨ v3.ownBlock = some w1.drew.heap.size) →
              ∃ a3 n3 k3, v3 = .slice a3 n3 k3 ∧ w2.cell? ⟨r, 0, none⟩ = some (.slice (some ⟨g, 0, none⟩) G.length cap) ∧ w2.cell? ⟨g, i * 3 + 1, none⟩ = some (.slice ea e.data.length ek) ∧ w2.frozen? ⟨g, i * 3 + 1, none⟩ = false ∧ (w2.setCell ⟨g, i * 3 + 1, none⟩ (.slice a3 n3 k3)).cell? ⟨r, 0, none⟩ = some (.slice (some ⟨g, 0, none⟩) G.length cap) ∧ (w2.setCell ⟨g, i * 3 + 1, none⟩ (.slice a3 n3 k3)).cell? ⟨g, i * 3 + 2, none⟩ = some (.int .i64 (e.sure : Int)) ∧ (w2.setCell ⟨g, i * 3 + 1, none⟩ (.slice a3 n3 k3)).frozen? ⟨g, i * 3 + 2, none⟩ = false ∧
                Hid (∀ w4 : World, w4.heap = ((w2.setCell ⟨g, i * 3 + 1, none⟩ (.slice a3 n3 k3)).setCell ⟨g, i * 3 + 2, none⟩ (.int .i64 (min (e.sure : Int) (mm : Int)))).heap → Env w2 w4 → RX w4 r (mayR R).1 (.slice (some ⟨g, 0, none⟩) G.length cap) (G.set i ⟨e.name, 0, .slice a3 n3 k3, e.data.take mm, min e.sure mm⟩) (fun q => Q q ∨ (w1.heap.size ≤ q ∧ q < w4.heap.size)) ∧ FrO Q w1 w4))) := by
          intro w1 h1
          obtain ⟨g', cap', cur, e1, _, _, hcg, k0, k1, k2⟩ := h1.file hi
          injection e1 with e1 _ e3
          injection e1 with e1
          injection e1 with e1
          subst e1 e3
          have htl : (e.data.take mm).length = mm := by rw [List.length_take]; omega
          refine ⟨h1.cells.1, by rw [(cellB hcg _).1, ← Array.getElem?_toList, k1, hev], ?_, fun v3 w2 hrow hg hloc => ?_⟩
          · have hd := h1.dat e (List.mem_of_getElem? hi)
            rw [hev] at hd
            obtain ⟨_, ⟨e1, e2⟩ | ⟨b, off, cp, q1, q2, q3, q4, q5, q6⟩⟩ := hd.o h1.lt hlen
            · injection e1 with e1 e3 e4
              have : mm = 0 := by rw [e2] at hml; simpa using hml
              subst this
              exact ⟨by omega, .inl ⟨by rw [e1, e4], rfl⟩⟩
            · injection q5 with e1 e3 e4
              refine ⟨by omega, .inr ⟨b, off, cp, q1, fun hh => hh, by omega, q4, by rw [e1, e4, htl], fun j hj => ?_⟩⟩
              have := q6 j (by omega)
              show w1.cell? _ = _
              rw [this]
              have hjm : j < mm := by omega
              have e9 : (e.data.take mm).getD j 0 = e.data.getD j 0 := by simp [List.getD_eq_getElem?_getD, hjm]
              rw [e9]
          · have h2o : ∀ b, b < w1.heap.size → w2.heap[b]? = w1.heap[b]? := fun b hb => hg.block b hb (by simp [Value.ownBlock])
            have hgl := (Array.getElem?_eq_some_iff.1 hcg).1
            have hg2 := (h2o g hgl).trans hcg
            obtain ⟨a3, n3, k3, rfl⟩ : ∃ a3 n3 k3, v3 = .slice a3 n3 k3 := by
              rcases hrow.2 with ⟨e1, _⟩ | ⟨g', cap', cur', e1, _⟩
              · exact ⟨_, _, _, e1⟩
              · exact ⟨_, _, _, e1⟩
            have hg3 := heap_setCell_at hg2 (i * 3 + 1) (.slice a3 n3 k3)
            have hr3 : (w2.setCell ⟨g, i * 3 + 1, none⟩ (.slice a3 n3 k3)).heap[r]? = w1.heap[r]? := (heap_setCell_ne _ _ (fun e => hgr e.symm)).trans (h2o r (h1.lt r h1.oR))
            refine ⟨a3, n3, k3, rfl, (cell_same (h2o r (h1.lt r h1.oR)) 0).trans h1.cells.1, by rw [(cellB hg2 _).1, ← Array.getElem?_toList, k1, hev], (cellB hg2 _).2, (cell_same hr3 0).trans h1.cells.1, ?_, (cellB hg3 _).2, fun w4 hw4 henv => ?_⟩
            · rw [(cellB hg3 _).1, ← Array.getElem?_toList, Array.toList_setIfInBounds, List.getElem?_set_ne (by omega)]; exact k2
            · have hmin : ((min e.sure mm : Nat) : Int) = min (e.sure : Int) (mm : Int) := by omega
              have hg4 : w4.heap[g]? = some (.cells ((cur.setIfInBounds (i * 3 + 1) (.slice a3 n3 k3)).setIfInBounds (i * 3 + 2) (.int .i64 (min (e.sure : Int) (mm : Int)))) 61 (0, 0)) := by rw [hw4]; exact heap_setCell_at hg3 (i * 3 + 2) _
              have h4o : ∀ b, b ≠ g → w4.heap[b]? = w2.heap[b]? := fun b hb => by rw [hw4, heap_setCell_ne _ _ hb, heap_setCell_ne _ _ hb]
              have h4z : w4.heap.size = w2.heap.size := by rw [hw4]; simp
              have hz2 : w1.heap.size ≤ w2.heap.size := hg.size
              have hE2 : Env w1 w2 := ⟨hg.os, hg.tape, hg.output⟩
              refine ⟨h1.chg (e' := ⟨e.name, 0, .slice a3 n3 k3, e.data.take mm, min e.sure mm⟩) hcg hil hg4 ?_ (fun k hk hkg => (h4o k hkg).trans (h2o k hk)) ?_ (fun k hk => .inl hk) (fun k hk => ?_) ⟨by show min e.sure mm ≤ (e.data.take mm).length; omega, by show (e.data.take mm).length ≤ 1048576; omega⟩ (h1.nam e (List.mem_of_getElem? hi)), ⟨by omega, fun k hk hn => (h4o k (fun e => hn (e ▸ hQg))).trans (h2o k hk), hE2.trans henv⟩⟩
              · show _ = ((cur.toList.set (i * 3) (.string ⟨e.name.toArray⟩)).set (i * 3 + 1) (.slice a3 n3 k3)).set (i * 3 + 2) (.int .i64 ((min e.sure mm : Nat) : Int))
                rw [set_same k0, hmin, Array.toList_setIfInBounds, Array.toList_setIfInBounds]
              · rcases hrow.2 with ⟨e1, e2⟩ | ⟨g', cap', cur', e1, _, hc', r2, r3, r4, r5⟩
                · refine .inl ⟨e1, List.eq_nil_of_length_eq_zero (by show (e.data.take mm).length = 0; omega)⟩
                · have hgn : g' = w1.heap.size := by
                    rcases hloc with hl | hl
                    · rw [e1] at hl; simp [Value.ownBlock] at hl
                    · rw [e1] at hl
                      have : some g' = some w1.drew.heap.size := hl
                      injection this
                  have hgl' : g' < w2.heap.size := (Array.getElem?_eq_some_iff.1 hc').1
                  have hrl := h1.lt r h1.oR
                  refine .inr ⟨g', 0, cap', .inr ⟨by omega, by omega⟩, by omega, fun hh => ?_, by show (e.data.take mm).length ≤ cap'; omega, r3, ?_, fun j hj => ?_⟩
                  · have : g = g' := by simpa [Value.ownBlock] using hh
                    omega
                  · show Value.slice a3 n3 k3 = .slice (some ⟨g', 0, none⟩) (e.data.take mm).length cap'
                    rw [e1, Nat.zero_add]
                  · have hj' : j < (e.data.take mm).length := hj
                    rw [cell_same ((h4o g' (by omega))) _, Nat.zero_add, (cellB hc' _).1, ← Array.getElem?_toList]
                    have e6 : cur'.toList[j]? = (cur'.toList.take ((0 + (e.data.take mm).length) * 1))[j]? := by rw [List.getElem?_take, if_pos (by omega)]
                    rw [e6, r5]
                    have e7 : ∀ l : List UInt8, j < l.length → ([] ++ byteCells l)[j]? = some (.int .u8 ((l.getD j 0).toNat : Int)) := fun l hl => by simp [byteCells, hl]
                    exact e7 _ hj'
              · rcases hk with hk | hk
                · have := h1.lt k hk; omega
                · exact hk.2
        clear h
        rcases hek with ⟨rfl, hd0, rfl⟩ | ⟨⟨eb, eo, rfl⟩, hd0⟩
        · have HM00 : Hid (mm = 0) := by show mm = 0; omega
          have hmm0 : (mm = 0) = True := eq_true (unhide HM00)
          clear hd0
          go_enter Tryd.func13, Tryd.ntmps13
          go_wp2_with (first
            | (go_at_call 38; refine (unhide HA).mono ?_; rintro e0 w0 ⟨rfl, rfl⟩)
            | (go_at_call 40; refine (unhide HM).mono ?_; rintro e0 w1 ⟨rfl, hx1, hf1⟩; obtain ⟨d0, d1, RB1, HQ⟩ := unhide HP w1 hx1; have H1 := hide hf1; clear hx1 hf1))
          go_region_law (refine step_bytes_at rfl _ _ rfl (.slice none 0 0) 0 [] (by simp [Act.eval]) (World.ownsRow_nil _ _ _ _) (fun _ => False) (.slice none mm 0) (e.data.take mm) (by simp [Act.eval, Act.put]; exact (unhide HM00).symm) (unhide RB1) (by omega) ?_; intro v3 w2 hrow3 hg3 hloc3; obtain ⟨a3, n3, k3, rfl, c2', c3, f3, c4, c5, f5, FIN⟩ := unhide HQ v3 w2 hrow3 hg3 hloc3; clear hrow3 hg3 hloc3)
          all_goals go_wp2
          all_goals go_region
          all_goals go_wp2
          all_goals go_ret
          all_goals
            obtain ⟨hx2, hf2⟩ := unhide FIN (((w2.setCell ⟨g, i * 3 + 1, none⟩ (.slice a3 n3 k3)).setCell ⟨g, i * 3 + 2, none⟩ (.int .i64 (min (e.sure : Int) (mm : Int)))).drew) rfl ⟨rfl, rfl, rfl⟩
            exact ⟨rfl, FrO.trans (unhide H1) hf2 (fun _ _ hh => hh), fun h0 => absurd rfl h0, fun _ => ⟨i, e, _, _, hi, rfl, hx2, fun q hq => hq.elim .inl (fun hh => .inr (Nat.le_trans (unhide H1).size hh.1))⟩⟩
        · have hek' : (e.data.length : Int) ≤ (ek : Int) := by omega
          go_enter Tryd.func13, Tryd.ntmps13
          go_wp2_with (first
            | (go_at_call 38; refine (unhide HA).mono ?_; rintro e0 w0 ⟨rfl, rfl⟩)
            | (go_at_call 40; refine (unhide HM).mono ?_; rintro e0 w1 ⟨rfl, hx1, hf1⟩; obtain ⟨d0, d1, RB1, HQ⟩ := unhide HP w1 hx1; have H1 := hide hf1; clear hx1 hf1))
          go_region_law (refine step_bytes_at rfl _ _ rfl (.slice none 0 0) 0 [] (by simp [Act.eval]) (World.ownsRow_nil _ _ _ _) (fun _ => False) (.slice (some ⟨eb, eo, none⟩) mm ek) (e.data.take mm) (by simp [Act.eval, Act.put]) (unhide RB1) (by omega) ?_; intro v3 w2 hrow3 hg3 hloc3; obtain ⟨a3, n3, k3, rfl, c2', c3, f3, c4, c5, f5, FIN⟩ := unhide HQ v3 w2 hrow3 hg3 hloc3; clear hrow3 hg3 hloc3)
          all_goals go_wp2
          all_goals go_region
          all_goals go_wp2
          all_goals go_ret
          all_goals
            obtain ⟨hx2, hf2⟩ := unhide FIN (((w2.setCell ⟨g, i * 3 + 1, none⟩ (.slice a3 n3 k3)).setCell ⟨g, i * 3 + 2, none⟩ (.int .i64 (min (e.sure : Int) (mm : Int)))).drew) rfl ⟨rfl, rfl, rfl⟩
            exact ⟨rfl, FrO.trans (unhide H1) hf2 (fun _ _ hh => hh), fun h0 => absurd rfl h0, fun _ => ⟨i, e, _, _, hi, rfl, hx2, fun q hq => hq.elim .inl (fun hh => .inr (Nat.le_trans (unhide H1).size hh.1))⟩⟩
end Go.Proofs.YthebgoadeecmpaaDoor
