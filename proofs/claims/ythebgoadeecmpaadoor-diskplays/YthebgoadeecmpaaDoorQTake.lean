/- The document's disk: take. -/
import Derived.Test.YthebgoadeecmpaaDoorQAdd2
import Derived.Deep.RegionLaw
namespace Go.Proofs.YthebgoadeecmpaaDoor
open Go.RowKit Go.Lib Go.Maps Go.WideMaps

/-- append to a row of one's own, as one step of a region that draws. -/
theorem step_append_own_at {P : Program} {ops : Array Oper} {o : Oper} {a : Act} {w : World} {K : Act → World → Prop} {Q : Exit → Act → World → Prop} {E : Prop}
    (hgd : o.guard = none) (s x : Operand) (t : TypeId) (ho : o.op = .call { callee := .builtin .append, args := #[s, x], argTypes := #[t, t] })
    (base : Nat) (e : TypeId) (i : TypeInfo) (z : Value) (size bytes : Nat) (ht : P.underlying t = some (.slice e)) (hi : P.info? e = some i) (hz : i.zero = some z)
    (hsize : i.size = size) (hby : i.bytes = bytes) (hzs : z.cells.size = size) (hsz : 0 < size)
    (v : Value) (n : Nat) (xs : List Value) (hs : a.eval s = v) (hown : w.ownsRow base e size v n xs)
    (ad : Addr) (m c : Nat) (news : List Value) (hx : a.eval x = .slice (some ad) m c) (hl : news.length = m * size) (hnews : ∀ j u, news[j]? = some u → w.cell? (ad.add j) = some u) (h1 : ∀ u ∈ news, u.oneCell' = true)
    (h63 : n + m ≤ maxLen) (hbytes : (n + m) * bytes ≤ 140737488355328) (hbase : base ≤ w.heap.size)
    (h : ∀ v' w', w'.ownsRow base e size v' (n + m) (xs ++ news) → w.grownBy w' v.ownBlock → (v'.ownBlock = v.ownBlock ∨ v'.ownBlock = some w.heap.size) → K (a.put o.dst v') w') :
    if Region.wanted o (yielded ops a.tmps) = true then Oper.wp P o a w K Q else E := by
  have hw : Region.wanted o (yielded ops a.tmps) = true := by simp [Region.wanted, hgd]
  rw [if_pos hw]
  obtain ⟨v', w', hrun, h2, h3, _, h5⟩ := run_append_own_at (P := P) w base t o.type e i z size bytes ht hi hz hsize hby hzs hsz v n xs hown ad m c news hl hnews h1 h63 hbytes hbase
  unfold Oper.wp
  simp [execOp, ho, resolve, invoke, builtin, hs, hx, hrun, Result.andThen]
  exact h v' w' h2 h3 h5

theorem gCells_erase {G : List Ent} {i : Nat} : gCells (G.eraseIdx i) = gCells (G.take i) ++ gCells (G.drop (i + 1)) := by
  rw [List.eraseIdx_eq_take_drop_succ, gCells_append]
theorem gOne {G : List Ent} (h : ∀ e ∈ G, ∃ a k, e.v = .slice a e.data.length k) : ∀ {L : List Ent}, (∀ e ∈ L, e ∈ G) → ∀ u ∈ gCells L, u.oneCell' = true
  | [], _, u, hu => by cases hu
  | x :: r, hL, u, hu => by
    simp only [gCells, List.mem_cons] at hu
    rcases hu with rfl | rfl | rfl | hu
    · rfl
    · obtain ⟨a', k', e'⟩ := h x (hL x (by simp))
      rw [e']; rfl
    · rfl
    · exact gOne h (fun e he => hL e (by simp [he])) u hu
/-- Another row of files for the disk, in new blocks. -/
theorem RX.renew {w w' : World} {r : Nat} {R : RSt} {vf vf' : Value} {G G' : List Ent} {Q : Nat → Prop} (h : RX w r R vf G Q) (hz : w.heap.size ≤ w'.heap.size) (hO : ∀ k, k < w.heap.size → k ≠ r → w'.heap[k]? = w.heap[k]?)
    (hb : w'.heap[r]? = some (.cells #[vf', .int .i64 R.room, .bool R.off, .int .i64 R.halt, .int .i64 R.count] 54 (0, 0))) (hrow : w'.ownsRow 0 61 3 vf' G'.length (gCells G')) (hnew : ∀ k, vf'.ownBlock = some k → w.heap.size ≤ k) (hG : ∀ e ∈ G', e ∈ G) (hfew : G'.length ≤ 64) :
    RX w' r R vf' G' (fun q => Q q ∨ (w.heap.size ≤ q ∧ q < w'.heap.size)) := by
  refine ⟨hb, hrow, fun e he => ?_, hfew, fun e he => h.len e (hG e he), fun e he => h.nam e (hG e he), .inl h.oR, fun k hk => .inr ⟨hnew k hk, ?_⟩, fun k hk => ?_⟩
  · rcases h.dat e (hG e he) with hd | ⟨b, off, cp, q1, q2, q3, q4, q5, q6, q7⟩
    · exact .inl hd
    · have := h.lt b q1
      exact .inr ⟨b, off, cp, .inl q1, q2, fun e => by have := hnew b e; omega, q4, q5, q6, fun i hi => (cell_same (hO b this q2) _).trans (q7 i hi)⟩
  · rcases hrow.2 with ⟨e1, _⟩ | ⟨g, cap, cur, e1, _, hc, _⟩
    · rw [e1] at hk; simp [Value.ownBlock] at hk
    · rw [e1] at hk; simp [Value.ownBlock] at hk; subst hk
      exact (Array.getElem?_eq_some_iff.1 hc).1
  · rcases hk with hk | hk
    · exact Nat.lt_of_lt_of_le (h.lt k hk) hz
    · exact hk.2

set_option maxHeartbeats 6400000 in
set_option maxRecDepth 100000 in
theorem take_any {w : World} {r : Nat} {R : RSt} {vf : Value} {G : List Ent} {Q : Nat → Prop} (i : Nat) (e : Ent) (h : RX w r R vf G Q) (hi : G[i]? = some e) :
    Calls Tryd.prog 44 #[.pointer (some ⟨r, 0, none⟩), .int .i64 (i : Int)] w fun ev w' => ∃ vf' Q', ev = .returned (.agg #[.string ⟨e.name.toArray⟩, e.v, .int .i64 (e.sure : Int)]) ∧ RX w' r R vf' (G.eraseIdx i) Q' ∧ FrO Q w w' ∧ (∀ q, Q' q → Q q ∨ w.heap.size ≤ q) ∧ (∀ v d, RBq w Q r vf v d → RBq w' Q' r vf' v d) := by
  obtain ⟨i0, hif, hz0, hz1, hz2⟩ := info_parts Tryd.infoF
  obtain ⟨a, cap, rfl, hcap, hfl⟩ := h.files
  obtain ⟨g, rfl, hgr, hgl, cn, cv, cs, hfz⟩ := hfl i e hi
  obtain ⟨ea, ek, hev⟩ := (h.dat e (List.mem_of_getElem? hi)).slice
  rw [hev] at cv ⊢
  have c0 := h.cells.1
  have f0 := (cellB h.blk 0).2
  have hil : i < G.length := (List.getElem?_eq_some_iff.1 hi).1
  have hfew := h.few
  have hi1 : (i : Int) < (G.length : Int) := by omega
  have hi2 : (i : Int) + 1 ≤ (G.length : Int) := by omega
  have hi3 : (i : Int) ≤ (G.length : Int) := by omega
  have hwi : IntKind.i64.wrap ((i : Int) + 1) = (i : Int) + 1 := by rw [IntKind.wrap_i64] <;> omega
  have hp0 : (0 : Int) ≤ (i : Int) + 1 := by omega
  have hp2 : ((i : Int) + 1).toNat = i + 1 := by omega
  have hcap' : (G.length : Int) ≤ (cap : Int) := by omega
  have hic : (i : Int) ≤ (cap : Int) := by omega
  have hrlt : r < w.heap.size := h.lt r h.oR
  obtain ⟨w0, hW0⟩ : ∃ w0, w.alloc zObj = w0 := ⟨_, rfl⟩
  have hw0 : ∀ b o, b < w.heap.size → w0.cell? ⟨b, o, none⟩ = w.cell? ⟨b, o, none⟩ := fun b o hb => by
    rw [← hW0]; exact cell_same (Below.heap_alloc _ _ b hb) o
  have hz : w0.heap[w.heap.size]? = some (.cells #[.string ⟨#[]⟩, .slice none 0 0, .int .i64 0] 61 (0, 0)) := by rw [← hW0]; exact (MapKept.heap_alloc w zObj).1
  have c00 := (hw0 r 0 hrlt).trans c0
  have cn0 := (hw0 g (i * 3) hgl).trans cn
  have cv0 := (hw0 g (i * 3 + 1) hgl).trans cv
  have cs0 := (hw0 g (i * 3 + 2) hgl).trans cs
  have z0 : w0.cell? ⟨w.heap.size, 0, none⟩ = some (.string ⟨#[]⟩) := by rw [(cellB hz 0).1]; rfl
  have z1 : w0.cell? ⟨w.heap.size, 1, none⟩ = some (.slice none 0 0) := by rw [(cellB hz 1).1]; rfl
  have z2 : w0.cell? ⟨w.heap.size, 2, none⟩ = some (.int .i64 0) := by rw [(cellB hz 2).1]; rfl
  have y0 := (cellB hz 0).2
  have y1 := (cellB hz 1).2
  have y2 := (cellB hz 2).2
  have hner : ¬ r = w.heap.size := by omega
  have hner' : ¬ w.heap.size = r := by omega
  have hneg : ¬ g = w.heap.size := by omega
  have hneg' : ¬ w.heap.size = g := by omega
  have hz0s : w0.heap.size = w.heap.size + 1 := by rw [← hW0]; simp
  obtain ⟨w1, hW1⟩ : ∃ w1, w0.alloc (.cells #[.string ⟨e.name.toArray⟩, .slice ea e.data.length ek, .int .i64 (e.sure : Int)] 61) = w1 := ⟨_, rfl⟩
  have h1s : w1.heap[w0.heap.size]? = some (.cells #[.string ⟨e.name.toArray⟩, .slice ea e.data.length ek, .int .i64 (e.sure : Int)] 61 (0, 0)) := by
    rw [← hW1]
    exact (MapKept.heap_alloc w0 _).1
  have h1t : w1.heap[w.heap.size]? = some (.cells #[.string ⟨#[]⟩, .slice none 0 0, .int .i64 0] 61 (0, 0)) := by
    rw [← hW1, Below.heap_alloc _ _ _ (by omega)]
    exact hz
  have h1o : ∀ b, b < w.heap.size → w1.heap[b]? = w.heap[b]? := fun b hb => by
    rw [← hW1, Below.heap_alloc _ _ b (by omega), ← hW0]
    exact Below.heap_alloc _ _ b hb
  have h1z : w1.heap.size = w.heap.size + 2 := by rw [← hW1]; simp [hz0s]
  have hONE : ∀ L : List Ent, (∀ e ∈ L, e ∈ G) → ∀ u ∈ gCells L, u.oneCell' = true := fun L hL => gOne (G := G) (fun e he => (h.dat e he).slice) hL
  have hcells : ∀ (W : World) (o k : Nat) (L : List Ent), W.heap[g]? = w.heap[g]? → gCells L = (gCells G).drop (k * 3) ∨ (∃ q, gCells L = (gCells G).take q ∧ k = 0) → (o = k * 3 ∨ L = []) → ∀ j u, (gCells L)[j]? = some u → W.cell? ((⟨g, o, none⟩ : Addr).add j) = some u := by
    intro W o k L hWg hL ho j u hj
    rcases ho with rfl | rfl
    · rw [Go.WideShapes.add_plain, cell_same hWg]
      obtain ⟨hr1, ⟨e1, _⟩ | ⟨g', cap', cur', e1, _, hc', r2, r3, r4, r5⟩⟩ := h.row
      · cases e1
      · injection e1 with e1 _ _
        injection e1 with e1
        injection e1 with e1
        subst e1
        rw [(cellB hc' _).1, ← Array.getElem?_toList]
        have hju : (gCells G)[k * 3 + j]? = some u := by
          rcases hL with hL | ⟨q, hL, rfl⟩
          · rw [hL, List.getElem?_drop] at hj; exact hj
          · rw [hL, List.getElem?_take] at hj
            simp only [Nat.zero_mul, Nat.zero_add]
            split at hj
            · exact hj
            · cases hj
        rw [← r5, List.getElem?_take] at hju
        split at hju
        · exact hju
        · cases hju
    · simp [gCells] at hj
  obtain ⟨off', hofe, hof⟩ : ∃ off', (if cap = i + 1 then some (⟨g, 0, none⟩ : Addr) else some ⟨g, (i + 1) * 3, none⟩) = some ⟨g, off', none⟩ ∧ (off' = (i + 1) * 3 ∨ G.drop (i + 1) = []) := by
    split
    · exact ⟨0, rfl, .inr (List.drop_of_length_le (by omega))⟩
    · exact ⟨_, rfl, .inl rfl⟩
  have hn1 : ¬ r = w0.heap.size := by omega
  have hn2 : ¬ w0.heap.size = r := by omega
  have hn3 : ¬ w.heap.size = w0.heap.size := by omega
  have hn4 : ¬ w0.heap.size = w.heap.size := by omega
  have c10 : w1.cell? ⟨r, 0, none⟩ = some (.slice (some ⟨g, 0, none⟩) G.length cap) := (cell_same (h1o r hrlt) 0).trans c0
  have hlen : 0 + i + (G.length - (i + 1)) = (G.eraseIdx i).length := by rw [List.length_eraseIdx]; simp [hil]; omega
  have HN1 := hide (hcells _ 0 0 _ (h1o g hgl) (.inr ⟨i * 3, (gCells_take G i).symm, rfl⟩) (.inl rfl))
  have HO1 := hide (hONE (G.take i) (fun e he => List.mem_of_mem_take he))
  have HO2 := hide (hONE (G.drop (i + 1)) (fun e he => List.mem_of_mem_drop he))
  have HA : Hid (∀ v1 w2, w2.ownsRow 0 61 3 v1 (0 + i) ([] ++ gCells (G.take i)) → w1.drew.grownBy w2 (Value.slice none 0 0).ownBlock → (v1.ownBlock = (Value.slice none 0 0).ownBlock ∨ v1.ownBlock = some w1.drew.heap.size) →
      w2.cell? ⟨r, 0, none⟩ = some (.slice (some ⟨g, 0, none⟩) G.length cap) ∧ Hid (∀ j u, (gCells (G.drop (i + 1)))[j]? = some u → w2.cell? ((⟨g, off', none⟩ : Addr).add j) = some u) ∧
      Hid (∀ v2 w3, w3.ownsRow 0 61 3 v2 (0 + i + (G.length - (i + 1))) ([] ++ gCells (G.take i) ++ gCells (G.drop (i + 1))) → w2.grownBy w3 v1.ownBlock → (v2.ownBlock = v1.ownBlock ∨ v2.ownBlock = some w2.heap.size) →
        ∃ a2 k2, v2 = .slice a2 (0 + i + (G.length - (i + 1))) k2 ∧ w3.cell? ⟨r, 0, none⟩ = some (.slice (some ⟨g, 0, none⟩) G.length cap) ∧ w3.frozen? ⟨r, 0, none⟩ = false ∧
          w3.cell? ⟨w0.heap.size, 0, none⟩ = some (.string ⟨e.name.toArray⟩) ∧ w3.cell? ⟨w0.heap.size, 1, none⟩ = some (.slice ea e.data.length ek) ∧ w3.cell? ⟨w0.heap.size, 2, none⟩ = some (.int .i64 (e.sure : Int)) ∧
          w3.cell? ⟨w.heap.size, 0, none⟩ = some (.string ⟨#[]⟩) ∧ w3.cell? ⟨w.heap.size, 1, none⟩ = some (.slice none 0 0) ∧ w3.cell? ⟨w.heap.size, 2, none⟩ = some (.int .i64 0) ∧
          w3.frozen? ⟨w.heap.size, 0, none⟩ = false ∧ w3.frozen? ⟨w.heap.size, 1, none⟩ = false ∧ w3.frozen? ⟨w.heap.size, 2, none⟩ = false ∧ Hid (∀ w' : World, (∀ b, b ≠ w.heap.size → w'.heap[b]? = (w3.setCell ⟨r, 0, none⟩ (.slice a2 (0 + i + (G.length - (i + 1))) k2)).heap[b]?) → w'.heap.size = w3.heap.size → Env w3 w' → RX w' r R (.slice a2 (0 + i + (G.length - (i + 1))) k2) (G.eraseIdx i) (fun q => Q q ∨ (w.heap.size ≤ q ∧ q < w'.heap.size)) ∧ FrO Q w w' ∧ (∀ v d, RBq w Q r (.slice (some ⟨g, 0, none⟩) G.length cap) v d → RBq w' (fun q => Q q ∨ (w.heap.size ≤ q ∧ q < w'.heap.size)) r (.slice a2 (0 + i + (G.length - (i + 1))) k2) v d)))) := by
    intro v1 w2 hrow1 hg1 hloc1
    have h2o : ∀ b, b < w1.heap.size → w2.heap[b]? = w1.heap[b]? := fun b hb => hg1.block b hb (by simp [Value.ownBlock])
    have hv1 : ∀ k, v1.ownBlock = some k → w1.heap.size ≤ k := fun k hk => by
      rcases hloc1 with hl | hl
      · rw [hl] at hk; simp [Value.ownBlock] at hk
      · rw [hl] at hk; cases hk; exact Nat.le_refl _
    have c20 : w2.cell? ⟨r, 0, none⟩ = some (.slice (some ⟨g, 0, none⟩) G.length cap) := (cell_same (h2o r (by omega)) 0).trans c10
    refine ⟨c20, hcells _ off' (i + 1) _ ((h2o g (by omega)).trans (h1o g hgl)) (.inl (gCells_drop G (i + 1)).symm) hof, fun v2 w3 hrow2 hg2 hloc2 => ?_⟩
    have h3o : ∀ b, b < w1.heap.size → w3.heap[b]? = w1.heap[b]? := fun b hb => (hg2.block b (Nat.lt_of_lt_of_le hb hg1.size) (fun e => by have := hv1 b e.symm; omega)).trans (h2o b hb)
    obtain ⟨a2, k2, rfl⟩ : ∃ a2 k2, v2 = .slice a2 (0 + i + (G.length - (i + 1))) k2 := by
      rcases hrow2.2 with ⟨e1, e2⟩ | ⟨g', cap', cur', e1, _⟩
      · exact ⟨none, 0, by rw [e1, e2]⟩
      · exact ⟨_, _, e1⟩
    have c3 : w3.cell? ⟨r, 0, none⟩ = some (.slice (some ⟨g, 0, none⟩) G.length cap) := (cell_same ((h3o r (by omega)).trans (h1o r hrlt)) 0).trans c0
    have f3 : w3.frozen? ⟨r, 0, none⟩ = false := (cellB (((h3o r (by omega)).trans (h1o r hrlt)).trans h.blk) 0).2
    have s30 : w3.cell? ⟨w0.heap.size, 0, none⟩ = some (.string ⟨e.name.toArray⟩) := by rw [(cellB ((h3o _ (by omega)).trans h1s) 0).1]; rfl
    have s31 : w3.cell? ⟨w0.heap.size, 1, none⟩ = some (.slice ea e.data.length ek) := by rw [(cellB ((h3o _ (by omega)).trans h1s) 1).1]; rfl
    have s32 : w3.cell? ⟨w0.heap.size, 2, none⟩ = some (.int .i64 (e.sure : Int)) := by rw [(cellB ((h3o _ (by omega)).trans h1s) 2).1]; rfl
    have t30 : w3.cell? ⟨w.heap.size, 0, none⟩ = some (.string ⟨#[]⟩) := by rw [(cellB ((h3o _ (by omega)).trans h1t) 0).1]; rfl
    have t31 : w3.cell? ⟨w.heap.size, 1, none⟩ = some (.slice none 0 0) := by rw [(cellB ((h3o _ (by omega)).trans h1t) 1).1]; rfl
    have t32 : w3.cell? ⟨w.heap.size, 2, none⟩ = some (.int .i64 0) := by rw [(cellB ((h3o _ (by omega)).trans h1t) 2).1]; rfl
    have y30 := (cellB ((h3o _ (by omega)).trans h1t) 0).2
    have y31 := (cellB ((h3o _ (by omega)).trans h1t) 1).2
    have y32 := (cellB ((h3o _ (by omega)).trans h1t) 2).2
    refine ⟨a2, k2, rfl, c3, f3, s30, s31, s32, t30, t31, t32, y30, y31, y32, ?_⟩
    intro w' hw' hz' henv
    have hz3 : w1.heap.size ≤ w3.heap.size := Nat.le_trans hg1.size hg2.size
    have hO' : ∀ k, k < w.heap.size → k ≠ r → w'.heap[k]? = w.heap[k]? := fun k hk hkr => by
      rw [hw' k (by omega), heap_setCell_ne 0 _ hkr, h3o k (by omega)]; exact h1o k hk
    have hE1 : Env w w3 := by
      have e1 := hg1.os
      have e2 := hg1.tape
      have e3 := hg1.output
      rw [← hW1, ← hW0] at e1 e2 e3
      exact ⟨hg2.os.trans e1, hg2.tape.trans e2, hg2.output.trans e3⟩
    have hnew : ∀ k, (Value.slice a2 (0 + i + (G.length - (i + 1))) k2).ownBlock = some k → w.heap.size ≤ k := fun k hk => by
      rcases hloc2 with hl | hl
      · rw [hl] at hk; have := hv1 k hk; omega
      · rw [hl] at hk; cases hk; have := hg1.size; show w.heap.size ≤ w2.heap.size; have : w1.drew.heap.size = w1.heap.size := rfl; omega
    refine ⟨h.renew (by omega) hO' ?_ ?_ hnew (fun e he => List.mem_of_mem_eraseIdx he) ?_, ⟨by omega, fun k hk hn => hO' k hk (fun e => hn (e ▸ h.oR)), hE1.trans henv⟩, fun v d hd => ?_⟩
    · rw [hw' r (by omega)]
      exact heap_setCell_at (((h3o r (by omega)).trans (h1o r hrlt)).trans h.blk) 0 _
    · rw [← hlen, gCells_erase]
      have : (w3.setCell ⟨r, 0, none⟩ (.slice a2 (0 + i + (G.length - (i + 1))) k2)).ownsRow 0 61 3 (.slice a2 (0 + i + (G.length - (i + 1))) k2) (0 + i + (G.length - (i + 1))) (gCells (G.take i) ++ gCells (G.drop (i + 1))) := by
        obtain ⟨r1, r2 | ⟨g', cap', cur', e1, hb', hc', rr⟩⟩ := hrow2
        · exact ⟨r1, .inl r2⟩
        · refine ⟨r1, .inr ⟨g', cap', cur', e1, hb', (heap_setCell_ne 0 _ ?_).trans hc', rr⟩⟩
          rintro rfl
          rw [((h3o g' (by omega)).trans (h1o g' hrlt)).trans h.blk] at hc'
          injection hc' with hc'; injection hc' with _ h6; exact absurd h6 (by decide)
      obtain ⟨r1, r2 | ⟨g', cap', cur', e1, hb', hc', rr⟩⟩ := this
      · exact ⟨r1, .inl r2⟩
      · have hgs : g' ≠ w.heap.size := by
          have hh : w1.heap.size ≤ g' := by
            have e1' : (Value.slice a2 (0 + i + (G.length - (i + 1))) k2).ownBlock = some g' := by rw [e1]; rfl
            rcases hloc2 with hl | hl
            · rw [hl] at e1'; exact hv1 g' e1'
            · rw [hl] at e1'; cases e1'; exact hg1.size
          omega
        exact ⟨r1, .inr ⟨g', cap', cur', e1, hb', (hw' g' hgs).trans hc', rr⟩⟩
    · rw [List.length_eraseIdx]; split <;> omega
    · rcases hd with hd | ⟨b, off, cp, q1, q2, q3, q4, q5, q6, q7⟩
      · exact .inl hd
      · have hbl := h.lt b q1
        exact .inr ⟨b, off, cp, .inl q1, q2, fun hh => by have := hnew b hh; omega, q4, q5, q6, fun jj hj => (cell_same (hO' b hbl q2) _).trans (q7 jj hj)⟩
  clear hfl hfz hw0 hz c0 cn cv cs h1s h1t h1o hcells hONE hlen hof h hz0s h1z
  go_enter Tryd.func44, Tryd.ntmps44
  go_wp2
  go_region_law (first
    | (refine step_append_own_at rfl (.const (.slice none 0 0)) (.tmp 19) 52 rfl 0 61 i0 _ 3 48 Tryd.underlying52 hif hz0 hz1 hz2 rfl (by decide) (.slice none 0 0) 0 [] (by simp [Act.eval]) (World.ownsRow_nil _ _ _ _) ⟨g, 0, none⟩ i cap (gCells (G.take i)) (by simp [Act.eval, Act.put]) (by rw [gCells_length, List.length_take]; omega) (unhide HN1) (unhide HO1) (by unfold maxLen; omega) (by omega) (Nat.zero_le _) ?_; intro v1 w2 hrow1 hg1 hloc1; obtain ⟨c20, HN2, HB⟩ := unhide HA v1 w2 hrow1 hg1 hloc1; have HR1 := hide hrow1; clear hrow1 hg1 hloc1)
    | (refine step_append_own_at rfl (.tmp 20) (.tmp 27) 52 rfl 0 61 i0 _ 3 48 Tryd.underlying52 hif hz0 hz1 hz2 rfl (by decide) v1 (0 + i) ([] ++ gCells (G.take i)) (by simp [Act.eval, Act.put]) (unhide HR1) ⟨g, off', none⟩ (G.length - (i + 1)) (cap - (i + 1)) (gCells (G.drop (i + 1))) (by simp [Act.eval, Act.put]) (by rw [gCells_length, List.length_drop]) (unhide HN2) (unhide HO2) (by unfold maxLen; omega) (by omega) (Nat.zero_le _) ?_; intro v2 w3 hrow2 hg2 hloc2; obtain ⟨a2, k2, rfl, c3, f3, s30, s31, s32, t30, t31, t32, y30, y31, y32, FIN⟩ := unhide HB v2 w3 hrow2 hg2 hloc2; clear hrow2 hg2 hloc2))
  all_goals go_wp2
  all_goals
    have FIN' := unhide FIN
    simp only [Nat.zero_add] at FIN'
    obtain ⟨hrx, hfr, hrb⟩ := FIN' ((((w3.setCell ⟨r, 0, none⟩ (.slice a2 (i + (G.length - (i + 1))) k2)).setCell ⟨w.heap.size, 0, none⟩ (.string ⟨e.name.toArray⟩)).setCell ⟨w.heap.size, 1, none⟩ (.slice ea e.data.length ek)).setCell ⟨w.heap.size, 2, none⟩ (.int .i64 (e.sure : Int))) (fun b hb => by rw [heap_setCell_ne _ _ hb, heap_setCell_ne _ _ hb, heap_setCell_ne _ _ hb]) (by simp) ⟨rfl, rfl, rfl⟩
    refine bodyPost_ret (v := .agg #[.string ⟨e.name.toArray⟩, .slice ea e.data.length ek, .int .i64 (e.sure : Int)]) (by simp [results, Tryd.results44, go_sem, t30, t31, t32]) rfl ⟨_, _, rfl, hrx, hfr, fun q hq => hq.elim .inl (fun e => .inr e.1), hrb⟩
end Go.Proofs.YthebgoadeecmpaaDoor
