/- What the document's Append does to a file. -/
import Derived.Test.YthebgoadeecmpaaDoorQTrunc
namespace Go.Proofs.YthebgoadeecmpaaDoor
open Go.RowKit Go.Lib Go.Maps Go.WideMaps

theorem RBo.weak {w : World} {O : Nat → Prop} {v : Value} {l : List UInt8} (h : RBo w O v l) : RBo w (fun _ => False) v l := by
  obtain ⟨h1, h2 | ⟨b, off, cap, hb, _, h3, h4, h5, h6⟩⟩ := h
  · exact ⟨h1, .inl h2⟩
  · exact ⟨h1, .inr ⟨b, off, cap, hb, fun hh => hh, h3, h4, h5, h6⟩⟩
/-- Bytes that came in: one without any may lie anywhere. -/
def RBz (w : World) (O : Nat → Prop) (v : Value) (l : List UInt8) : Prop := RBo w O v l ∨ (l = [] ∧ ∃ ad c, v = .slice (some ad) 0 c ∧ c ≤ maxLen)
theorem RBz.slice {w : World} {O : Nat → Prop} {v : Value} {l : List UInt8} (h : RBz w O v l) : ∃ a k, v = .slice a l.length k := by
  rcases h with h | ⟨rfl, ad, c, rfl, _⟩
  · exact h.slice
  · exact ⟨_, _, rfl⟩
theorem RBz.fr {w w' : World} {O : Nat → Prop} {v : Value} {l : List UInt8} (h : RBz w O v l) (hf : FrO O w w') : RBz w' O v l := by
  rcases h with h | h
  · exact .inl (h.fr hf)
  · exact .inr h
theorem RBz.weak {w : World} {O : Nat → Prop} {v : Value} {l : List UInt8} (h : RBz w O v l) : RBz w (fun _ => False) v l := by
  rcases h with h | h
  · exact .inl h.weak
  · exact .inr h
theorem step_bytes_z {w : World} {ops : Array Oper} {o : Oper} {a : Act} {K : Act → World → Prop} {Q : Exit → Act → World → Prop} {E : Prop} (hgd : o.guard = none) (s x : Operand)
    (ho : o.op = .call { callee := .builtin .append, args := #[s, x], argTypes := #[28, 28] })
    (v : Value) (n : Nat) (xs : List Value) (hs : a.eval s = v) (hown : w.ownsRow 0 5 1 v n xs)
    (O : Nat → Prop) (xv : Value) (lx : List UInt8) (hx : a.eval x = xv) (hrb : RBz w O xv lx) (hn : n ≤ 1000000000)
    (h : ∀ v' w', w'.ownsRow 0 5 1 v' (n + lx.length) (xs ++ byteCells lx) → w.grownBy w' v.ownBlock → (v'.ownBlock = v.ownBlock ∨ v'.ownBlock = some w.heap.size) → K (a.put o.dst v') w') :
    if Region.wanted o (yielded ops a.tmps) = true then Oper.wp Tryd.prog o a w K Q else E := by
  rcases hrb with hrb | ⟨rfl, ad, c, rfl, hcm⟩
  · exact step_bytes_at hgd s x ho v n xs hs hown O xv lx hx hrb hn h
  · obtain ⟨i0, hi, hz0, hz1, hz2⟩ := info_parts Tryd.infoB
    exact step_append_own_at hgd s x 28 ho 0 5 i0 (.int .u8 0) 1 1 Tryd.underlying28 hi hz0 hz1 hz2 rfl (by decide) v n xs hs hown ad 0 c [] hx rfl (fun j u hj => by simp at hj) (fun u hu => by cases hu) (by unfold maxLen; omega) (by omega) (Nat.zero_le _) (fun v' w' h1 h2 h3 => h v' w' h1 h2 h3)
/-- A row of bytes in a new block is what a file may hold. -/
theorem rbq_new {w0 w2 w4 : World} {Q : Nat → Prop} {r g cap n : Nat} {G : Nat} {v : Value} {l : List UInt8} (hrow : w2.ownsRow 0 5 1 v n (byteCells l)) (hn : n = l.length) (hnew : ∀ k, v.ownBlock = some k → w0.heap.size ≤ k) (hr : r < w0.heap.size) (hg : g < w0.heap.size) (h4 : ∀ b, b ≠ g → w4.heap[b]? = w2.heap[b]?) (hz : w4.heap.size = w2.heap.size) :
    RBq w4 (fun q => Q q ∨ (w0.heap.size ≤ q ∧ q < w4.heap.size)) r (.slice (some ⟨g, 0, none⟩) G cap) v l := by
  subst hn
  rcases hrow.2 with ⟨e1, e2⟩ | ⟨g', cap', cur', e1, _, hc', r2, r3, r4, r5⟩
  · exact .inl ⟨e1, List.eq_nil_of_length_eq_zero e2⟩
  · have hgn := hnew g' (by rw [e1]; rfl)
    have hgl' : g' < w2.heap.size := (Array.getElem?_eq_some_iff.1 hc').1
    refine .inr ⟨g', 0, cap', .inr ⟨hgn, by omega⟩, by omega, fun hh => ?_, r2, r3, e1, fun j hj => ?_⟩
    · have : g = g' := by simpa [Value.ownBlock] using hh
      omega
    · rw [cell_same (h4 g' (by omega)) _, Nat.zero_add, (cellB hc' _).1, ← Array.getElem?_toList]
      have e6 : cur'.toList[j]? = (cur'.toList.take (l.length * 1))[j]? := by rw [List.getElem?_take, if_pos (by omega)]
      rw [e6, r5]
      simp [byteCells, hj]

theorem app_mem {w1 : World} {r : Nat} {R : RSt} {vf : Value} {G : List Ent} {Q : Nat → Prop} {i : Nat} {e : Ent} {bv : Value} {lb : List UInt8} {Z : Nat → Prop} (h1 : RX w1 r R vf G Q) (hi : G[i]? = some e) (hb : RBz w1 Z bv lb) (hsum : e.data.length + lb.length ≤ 1048576) :
    ∃ g cap ea ek, vf = .slice (some ⟨g, 0, none⟩) G.length cap ∧ w1.cell? ⟨r, 0, none⟩ = some (.slice (some ⟨g, 0, none⟩) G.length cap) ∧ w1.cell? ⟨g, i * 3 + 1, none⟩ = some (.slice ea e.data.length ek) ∧ Hid (RBo w1.drew (fun _ => False) (.slice ea e.data.length ek) e.data) ∧
      Hid (∀ v2 w2, w2.ownsRow 0 5 1 v2 (0 + e.data.length) ([] ++ byteCells e.data) → w1.drew.grownBy w2 (Value.slice none 0 0).ownBlock → (v2.ownBlock = (Value.slice none 0 0).ownBlock ∨ v2.ownBlock = some w1.drew.heap.size) →
        w2.cell? ⟨r, 0, none⟩ = some (.slice (some ⟨g, 0, none⟩) G.length cap) ∧ Hid (RBz w2 (fun _ => False) bv lb) ∧ Hid (w2.ownsRow 0 5 1 v2 (0 + e.data.length) ([] ++ byteCells e.data)) ∧
        Hid (∀ v3 w3, w3.ownsRow 0 5 1 v3 (0 + e.data.length + lb.length) ([] ++ byteCells e.data ++ byteCells lb) → w2.grownBy w3 v2.ownBlock → (v3.ownBlock = v2.ownBlock ∨ v3.ownBlock = some w2.heap.size) →
          ∃ a3 n3 k3, v3 = .slice a3 n3 k3 ∧ w3.cell? ⟨r, 0, none⟩ = some (.slice (some ⟨g, 0, none⟩) G.length cap) ∧ w3.cell? ⟨g, i * 3 + 1, none⟩ = some (.slice ea e.data.length ek) ∧ w3.frozen? ⟨g, i * 3 + 1, none⟩ = false ∧
            Hid (∀ w4 : World, w4.heap = (w3.setCell ⟨g, i * 3 + 1, none⟩ (.slice a3 n3 k3)).heap → Env w3 w4 → RX w4 r R (.slice (some ⟨g, 0, none⟩) G.length cap) (G.set i ⟨e.name, 0, .slice a3 n3 k3, e.data ++ lb, e.sure⟩) (fun q => Q q ∨ (w1.heap.size ≤ q ∧ q < w4.heap.size)) ∧ FrO Q w1 w4))) := by
  obtain ⟨g, cap, cur, rfl, hgr, hQg, hcg, k0, k1, k2⟩ := h1.file hi
  have hd := h1.dat e (List.mem_of_getElem? hi)
  obtain ⟨ea, ek, hev⟩ := hd.slice
  have hlen := h1.len e (List.mem_of_getElem? hi)
  have hil : i < G.length := (List.getElem?_eq_some_iff.1 hi).1
  have hgl := (Array.getElem?_eq_some_iff.1 hcg).1
  have hrl := h1.lt r h1.oR
  refine ⟨g, cap, ea, ek, rfl, h1.cells.1, by rw [(cellB hcg _).1, ← Array.getElem?_toList, k1, hev], ?_, fun v2 w2 hrow2 hg2 hloc2 => ?_⟩
  · rw [hev] at hd
    exact hd.o h1.lt hlen.2
  · have h2o : ∀ b, b < w1.heap.size → w2.heap[b]? = w1.heap[b]? := fun b hb => hg2.block b hb (by simp [Value.ownBlock])
    have hv2 : ∀ k, v2.ownBlock = some k → w1.heap.size ≤ k := fun k hk => by
      rcases hloc2 with hl | hl
      · rw [hl] at hk; simp [Value.ownBlock] at hk
      · rw [hl] at hk; cases hk; exact Nat.le_refl _
    have hz2 : w1.heap.size ≤ w2.heap.size := hg2.size
    refine ⟨(cell_same (h2o r hrl) 0).trans h1.cells.1, ?_, hrow2, fun v3 w3 hrow3 hg3 hloc3 => ?_⟩
    · rcases hb with ⟨q1, q2 | ⟨b, off, cp, qb, _, q3, q4, q5, q6⟩⟩ | hb
      · exact .inl ⟨q1, .inl q2⟩
      · exact .inl ⟨q1, .inr ⟨b, off, cp, by omega, fun hh => hh, q3, q4, q5, fun j hj => (cell_same (h2o b qb) _).trans (q6 j hj)⟩⟩
      · exact .inr hb
    · have h3o : ∀ b, b < w1.heap.size → w3.heap[b]? = w1.heap[b]? := fun b hb => (hg3.block b (by omega) (fun e => by have := hv2 b e.symm; omega)).trans (h2o b hb)
      obtain ⟨a3, n3, k3, rfl⟩ : ∃ a3 n3 k3, v3 = .slice a3 n3 k3 := by
        rcases hrow3.2 with ⟨e1, _⟩ | ⟨g', cap', cur', e1, _⟩
        · exact ⟨_, _, _, e1⟩
        · exact ⟨_, _, _, e1⟩
      have hgc3 := (h3o g hgl).trans hcg
      refine ⟨a3, n3, k3, rfl, (cell_same (h3o r hrl) 0).trans h1.cells.1, by rw [(cellB hgc3 _).1, ← Array.getElem?_toList, k1, hev], (cellB hgc3 _).2, fun w4 hw4 henv => ?_⟩
      have hg4 : w4.heap[g]? = some (.cells (cur.setIfInBounds (i * 3 + 1) (.slice a3 n3 k3)) 61 (0, 0)) := by rw [hw4]; exact heap_setCell_at hgc3 (i * 3 + 1) _
      have h4o : ∀ b, b ≠ g → w4.heap[b]? = w3.heap[b]? := fun b hb => by rw [hw4, heap_setCell_ne _ _ hb]
      have h4z : w4.heap.size = w3.heap.size := by rw [hw4]; simp
      have hz3 : w2.heap.size ≤ w3.heap.size := hg3.size
      have hE : Env w1 w3 := ⟨hg3.os.trans hg2.os, hg3.tape.trans hg2.tape, hg3.output.trans hg2.output⟩
      refine ⟨h1.chg (e' := ⟨e.name, 0, .slice a3 n3 k3, e.data ++ lb, e.sure⟩) hcg hil hg4 ?_ (fun k hk hkg => (h4o k hkg).trans (h3o k hk)) ?_ (fun k hk => .inl hk) (fun k hk => ?_) ⟨by show e.sure ≤ (e.data ++ lb).length; rw [List.length_append]; omega, by show (e.data ++ lb).length ≤ 1048576; rw [List.length_append]; omega⟩ (h1.nam e (List.mem_of_getElem? hi)), ⟨by omega, fun k hk hn => (h4o k (fun e => hn (e ▸ hQg))).trans (h3o k hk), hE.trans henv⟩⟩
      · show _ = ((cur.toList.set (i * 3) (.string ⟨e.name.toArray⟩)).set (i * 3 + 1) (.slice a3 n3 k3)).set (i * 3 + 2) (.int .i64 (e.sure : Int))
        rw [set_same k0, Array.toList_setIfInBounds]
        rw [set_same (l := cur.toList.set (i * 3 + 1) (.slice a3 n3 k3)) (by rw [List.getElem?_set_ne (by omega)]; exact k2)]
      · refine rbq_new (w0 := w1) (w2 := w3) (n := 0 + e.data.length + lb.length) ?_ (by show _ = (e.data ++ lb).length; rw [List.length_append]; omega) (fun k hk => ?_) hrl hgl h4o h4z
        · have : byteCells (e.data ++ lb) = [] ++ byteCells e.data ++ byteCells lb := by unfold byteCells; rw [List.map_append]; rfl
          show w3.ownsRow 0 5 1 (.slice a3 n3 k3) _ (byteCells (e.data ++ lb))
          rw [this]; exact hrow3
        · rcases hloc3 with hl | hl
          · rw [hl] at hk; exact hv2 k hk
          · rw [hl] at hk; cases hk; exact hz2
      · rcases hk with hk | hk
        · have := h1.lt k hk; omega
        · exact hk.2
end Go.Proofs.YthebgoadeecmpaaDoor
