/- The document's disk: Sync, Remove. -/
import Derived.Test.YthebgoadeecmpaaDoorQOps
namespace Go.Proofs.YthebgoadeecmpaaDoor
open Go.RowKit Go.Lib Go.Maps Go.WideMaps

/-- What a changing call of the document's disk does first: the power, its own refusal, may. -/
def mayC (R : RSt) (c : Int) : RSt × Int := if R.off = true then (R, 32) else if c ≠ 0 then (R, c) else ((mayR R).1, if (mayR R).2 = true then 0 else 32)
theorem RX.file {w : World} {r : Nat} {R : RSt} {vf : Value} {G : List Ent} {Q : Nat → Prop} {i : Nat} {e : Ent} (h : RX w r R vf G Q) (hi : G[i]? = some e) : ∃ g cap cur, vf = .slice (some ⟨g, 0, none⟩) G.length cap ∧ g ≠ r ∧ Q g ∧ w.heap[g]? = some (.cells cur 61 (0, 0)) ∧
    cur.toList[i * 3]? = some (.string ⟨e.name.toArray⟩) ∧ cur.toList[i * 3 + 1]? = some e.v ∧ cur.toList[i * 3 + 2]? = some (.int .i64 (e.sure : Int)) := by
  obtain ⟨r1, ⟨e1, e2⟩ | ⟨g, cap, cur, e1, hb, hc, r2, r3, r4, r5⟩⟩ := h.row
  · have := (List.getElem?_eq_some_iff.1 hi).1; omega
  · have hil := (List.getElem?_eq_some_iff.1 hi).1
    obtain ⟨c0, c1, c2⟩ := gCells_at hi
    rw [← r5, List.getElem?_take, if_pos (by omega)] at c0 c1 c2
    refine ⟨g, cap, cur, e1, ?_, h.oF g (by rw [e1]; rfl), hc, c0, c1, c2⟩
    rintro rfl
    have := h.blk
    rw [hc] at this; injection this with this; injection this with _ h6; exact absurd h6 (by decide)
theorem set_same {l : List Value} {i : Nat} {x : Value} (h : l[i]? = some x) : l.set i x = l := by
  obtain ⟨h1, h2⟩ := List.getElem?_eq_some_iff.1 h
  rw [← h2, List.set_getElem_self]

set_option maxHeartbeats 6400000 in
set_option maxRecDepth 100000 in
theorem rsync_any {w : World} {r : Nat} {R : RSt} {vf : Value} {G : List Ent} {Q : Nat → Prop} (n : List UInt8) (h : RX w r R vf G Q) (hh : -1 ≤ R.halt ∧ R.halt ≤ 9223372036854775807) (hc : 0 ≤ R.count ∧ R.count < 1000000000) :
    Calls Tryd.prog 11 #[.pointer (some ⟨r, 0, none⟩), .string ⟨n.toArray⟩] w fun ev w' => ev = .returned (.int .i64 (mayC R (thereC G n)).2) ∧ FrO Q w w' ∧
      ((mayC R (thereC G n)).2 ≠ 0 → RX w' r (mayC R (thereC G n)).1 vf G Q) ∧ ((mayC R (thereC G n)).2 = 0 → ∃ (i : Nat) (e : Ent), G[i]? = some e ∧ look G n = some e ∧ RX w' r (mayC R (thereC G n)).1 vf (G.set i { e with sure := e.data.length }) Q) := by
  have HA := hide (at_any n h)
  have HM := hide (may2_any h hh hc)
  obtain ⟨c0, c1, c2, c3, c4⟩ := h.cells
  unfold mayC
  by_cases hoff : R.off = true
  · simp only [if_pos hoff]
    rw [hoff] at c2
    have H := hide h
    clear h
    go_enter Tryd.func11, Tryd.ntmps11
    go_wp2_with (first | (go_at_call 38; refine (unhide HA).mono ?_; rintro e0 w0 ⟨rfl, rfl⟩))
    go_ret
    exact ⟨rfl, FrO.refl _ _, fun _ => unhide H, fun h0 => absurd h0 (by decide)⟩
  · simp only [if_neg hoff]
    have hoff' : R.off = false := by simpa using hoff
    rw [hoff'] at c2
    unfold thereC
    cases hlk : look G n with
    | none =>
      rw [at_none hlk] at HA
      have H := hide h
      have h30 : (30 : Int) ≠ 0 := by decide
      simp only [if_pos h30]
      clear h
      go_enter Tryd.func11, Tryd.ntmps11
      go_wp2_with (first | (go_at_call 38; refine (unhide HA).mono ?_; rintro e0 w0 ⟨rfl, rfl⟩))
      go_ret
      exact ⟨rfl, FrO.refl _ _, fun _ => unhide H, fun h0 => absurd h0 (by decide)⟩
    | some e =>
      obtain ⟨i, hi, hat, hen⟩ := at_some hlk
      rw [hat] at HA
      have hil : i < G.length := (List.getElem?_eq_some_iff.1 hi).1
      have hi1 : (i : Int) < (G.length : Int) := by omega
      have hi0 : ¬ (i : Int) < 0 := by omega
      have h00 : ¬ ((0 : Int) ≠ 0) := fun h => h rfl
      simp only [if_neg h00]
      cases hm : (mayR R).2 with
      | false =>
        rw [hm] at HM
        simp only [Bool.false_eq_true, if_false]
        clear h
        go_enter Tryd.func11, Tryd.ntmps11
        go_wp2_with (first
          | (go_at_call 38; refine (unhide HA).mono ?_; rintro e0 w0 ⟨rfl, rfl⟩)
          | (go_at_call 40; refine (unhide HM).mono ?_; rintro e0 w1 ⟨rfl, hx1, hf1⟩; have H1 := hide (And.intro hx1 hf1); clear hx1 hf1))
        go_ret
        exact ⟨rfl, (unhide H1).2, fun _ => (unhide H1).1, fun h0 => absurd h0 (by decide)⟩
      | true =>
        rw [hm] at HM
        simp only [if_true]
        obtain ⟨g, cap, cur0, rfl, hgr, hQg, _⟩ := h.file hi
        obtain ⟨ea, ek, hev⟩ := (h.dat e (List.mem_of_getElem? hi)).slice
        have HP : Hid (∀ w1, RX w1 r (mayR R).1 (.slice (some ⟨g, 0, none⟩) G.length cap) G Q → w1.cell? ⟨r, 0, none⟩ = some (.slice (some ⟨g, 0, none⟩) G.length cap) ∧ w1.cell? ⟨g, i * 3 + 1, none⟩ = some (.slice ea e.data.length ek) ∧ w1.cell? ⟨g, i * 3 + 2, none⟩ = some (.int .i64 (e.sure : Int)) ∧ w1.frozen? ⟨g, i * 3 + 2, none⟩ = false ∧
            Hid (∀ w2 : World, w2.heap = (w1.setCell ⟨g, i * 3 + 2, none⟩ (.int .i64 (e.data.length : Int))).heap → Env w1 w2 → RX w2 r (mayR R).1 (.slice (some ⟨g, 0, none⟩) G.length cap) (G.set i { e with sure := e.data.length }) Q ∧ FrO Q w1 w2)) := by
          intro w1 h1
          obtain ⟨g', cap', cur, e1, _, _, hcg, k0, k1, k2⟩ := h1.file hi
          injection e1 with e1 _ e3
          injection e1 with e1
          injection e1 with e1
          subst e1 e3
          refine ⟨h1.cells.1, by rw [(cellB hcg _).1, ← Array.getElem?_toList, k1, hev], by rw [(cellB hcg _).1, ← Array.getElem?_toList, k2], (cellB hcg _).2, fun w2 hw2 henv => ?_⟩
          have hc2 : w2.heap[g]? = some (.cells (cur.setIfInBounds (i * 3 + 2) (.int .i64 (e.data.length : Int))) 61 (0, 0)) := by rw [hw2]; exact heap_setCell_at hcg (i * 3 + 2) (.int .i64 (e.data.length : Int))
          have hO2 : ∀ k, k ≠ g → w2.heap[k]? = w1.heap[k]? := fun k hk => by rw [hw2]; exact heap_setCell_ne _ _ hk
          have hz2 : w2.heap.size = w1.heap.size := by rw [hw2]; simp
          refine ⟨h1.chg (e' := { e with sure := e.data.length }) hcg hil hc2 ?_ (fun k _ hk => hO2 k hk) ?_ (fun k hk => hk) (fun k hk => by rw [hz2]; exact h1.lt k hk) ⟨Nat.le_refl _, (h1.len e (List.mem_of_getElem? hi)).2⟩ (h1.nam e (List.mem_of_getElem? hi)), ⟨by omega, fun k _ hn => hO2 k (fun e => hn (e ▸ hQg)), henv⟩⟩
          · show (cur.setIfInBounds (i * 3 + 2) (.int .i64 (e.data.length : Int))).toList = ((cur.toList.set (i * 3) (.string ⟨e.name.toArray⟩)).set (i * 3 + 1) e.v).set (i * 3 + 2) (.int .i64 (e.data.length : Int))
            rw [set_same k0, set_same k1, Array.toList_setIfInBounds]
          · rcases h1.dat e (List.mem_of_getElem? hi) with hd' | ⟨b, off, cp, q1, q2, q3, q4, q5, q6, q7⟩
            · exact .inl hd'
            · exact .inr ⟨b, off, cp, q1, q2, q3, q4, q5, q6, fun j hj => (cell_same (hO2 b (fun e => q3 (by rw [e]; rfl))) _).trans (q7 j hj)⟩
        clear h
        go_enter Tryd.func11, Tryd.ntmps11
        go_wp2_with (first
          | (go_at_call 38; refine (unhide HA).mono ?_; rintro e0 w0 ⟨rfl, rfl⟩)
          | (go_at_call 40; refine (unhide HM).mono ?_; rintro e0 w1 ⟨rfl, hx1, hf1⟩; obtain ⟨d0, d1, d2, d3, FIN⟩ := unhide HP w1 hx1; have H1 := hide hf1; clear hx1 hf1))
        go_region
        all_goals go_wp2
        all_goals go_ret
        all_goals
          obtain ⟨hx2, hf2⟩ := unhide FIN (w1.setCell ⟨g, i * 3 + 2, none⟩ (.int .i64 (e.data.length : Int))).drew rfl ⟨rfl, rfl, rfl⟩
          exact ⟨rfl, FrO.trans (unhide H1) hf2 (fun _ _ hh => hh), fun h0 => absurd rfl h0, fun _ => ⟨i, e, hi, rfl, hx2⟩⟩
end Go.Proofs.YthebgoadeecmpaaDoor
/- The document's disk: Remove. -/
namespace Go.Proofs.YthebgoadeecmpaaDoor
open Go.RowKit Go.Lib Go.Maps Go.WideMaps

set_option maxHeartbeats 6400000 in
set_option maxRecDepth 100000 in
theorem rremove_any {w : World} {r : Nat} {R : RSt} {vf : Value} {G : List Ent} {Q : Nat → Prop} (n : List UInt8) (h : RX w r R vf G Q) (hh : -1 ≤ R.halt ∧ R.halt ≤ 9223372036854775807) (hc : 0 ≤ R.count ∧ R.count < 1000000000) :
    Calls Tryd.prog 17 #[.pointer (some ⟨r, 0, none⟩), .string ⟨n.toArray⟩] w fun ev w' => ev = .returned (.int .i64 (mayC R (thereC G n)).2) ∧ FrO Q w w' ∧
      ((mayC R (thereC G n)).2 ≠ 0 → RX w' r (mayC R (thereC G n)).1 vf G Q) ∧ ((mayC R (thereC G n)).2 = 0 → ∃ (i : Nat) (e : Ent) (vf' : Value) (Q' : Nat → Prop), G[i]? = some e ∧ look G n = some e ∧ RX w' r (mayC R (thereC G n)).1 vf' (G.eraseIdx i) Q' ∧ (∀ q, Q' q → Q q ∨ w.heap.size ≤ q)) := by
  have HA := hide (at_any n h)
  have HM := hide (may2_any h hh hc)
  obtain ⟨c0, c1, c2, c3, c4⟩ := h.cells
  unfold mayC
  by_cases hoff : R.off = true
  · simp only [if_pos hoff]
    rw [hoff] at c2
    have H := hide h
    clear h
    go_enter Tryd.func17, Tryd.ntmps17
    go_wp2_with (first | (go_at_call 38; refine (unhide HA).mono ?_; rintro e0 w0 ⟨rfl, rfl⟩))
    go_ret
    exact ⟨rfl, FrO.refl _ _, fun _ => unhide H, fun h0 => absurd h0 (by decide)⟩
  · simp only [if_neg hoff]
    have hoff' : R.off = false := by simpa using hoff
    rw [hoff'] at c2
    unfold thereC
    cases hlk : look G n with
    | none =>
      rw [at_none hlk] at HA
      have H := hide h
      have h30 : (30 : Int) ≠ 0 := by decide
      simp only [if_pos h30]
      clear h
      go_enter Tryd.func17, Tryd.ntmps17
      go_wp2_with (first | (go_at_call 38; refine (unhide HA).mono ?_; rintro e0 w0 ⟨rfl, rfl⟩))
      go_ret
      exact ⟨rfl, FrO.refl _ _, fun _ => unhide H, fun h0 => absurd h0 (by decide)⟩
    | some e =>
      obtain ⟨i, hi, hat, hen⟩ := at_some hlk
      rw [hat] at HA
      have hil : i < G.length := (List.getElem?_eq_some_iff.1 hi).1
      have hi1 : (i : Int) < (G.length : Int) := by omega
      have hi0 : ¬ (i : Int) < 0 := by omega
      have h00 : ¬ ((0 : Int) ≠ 0) := fun h => h rfl
      simp only [if_neg h00]
      cases hm : (mayR R).2 with
      | false =>
        rw [hm] at HM
        simp only [Bool.false_eq_true, if_false]
        clear h
        go_enter Tryd.func17, Tryd.ntmps17
        go_wp2_with (first
          | (go_at_call 38; refine (unhide HA).mono ?_; rintro e0 w0 ⟨rfl, rfl⟩)
          | (go_at_call 40; refine (unhide HM).mono ?_; rintro e0 w1 ⟨rfl, hx1, hf1⟩; have H1 := hide (And.intro hx1 hf1); clear hx1 hf1))
        go_ret
        exact ⟨rfl, (unhide H1).2, fun _ => (unhide H1).1, fun h0 => absurd h0 (by decide)⟩
      | true =>
        rw [hm] at HM
        simp only [if_true]
        have HT : Hid (∀ w1, RX w1 r (mayR R).1 vf G Q → Calls Tryd.prog 44 #[.pointer (some ⟨r, 0, none⟩), .int .i64 (i : Int)] w1 fun ev w' => ∃ ag vf' Q', ev = .returned (.agg ag) ∧ Hid (RX w' r (mayR R).1 vf' (G.eraseIdx i) Q' ∧ FrO Q w1 w' ∧ (∀ q, Q' q → Q q ∨ w1.heap.size ≤ q))) := by
          intro w1 h1
          refine (take_any i e h1 hi).mono ?_
          rintro ev w' ⟨vf', Q', rfl, hx, hf, hq, _⟩
          exact ⟨_, vf', Q', rfl, hx, hf, hq⟩
        clear h
        go_enter Tryd.func17, Tryd.ntmps17
        go_wp2_with (first
          | (go_at_call 38; refine (unhide HA).mono ?_; rintro e0 w0 ⟨rfl, rfl⟩)
          | (go_at_call 40; refine (unhide HM).mono ?_; rintro e0 w1 ⟨rfl, hx1, hf1⟩; have P1 := hide (unhide HT w1 hx1); have H1 := hide hf1; clear hx1 hf1)
          | (go_at_call 44; refine (unhide P1).mono ?_; rintro e0 w2 ⟨ag, vf2, Q2, rfl, H2⟩))
        go_ret
        obtain ⟨hx2, hf2, hq2⟩ := unhide H2
        exact ⟨rfl, FrO.trans (unhide H1) hf2 (fun _ _ hh => hh), fun h0 => absurd rfl h0, fun _ => ⟨i, e, vf2, Q2, hi, rfl, hx2, fun q hq => (hq2 q hq).imp id (fun hh => Nat.le_trans (unhide H1).size hh)⟩⟩
end Go.Proofs.YthebgoadeecmpaaDoor
