/- What add leaves in memory. -/
import Derived.Test.YthebgoadeecmpaaDoorJQUsedQCopyQAdd
namespace Go.Proofs.YthebgoadeecmpaaDoor
open Go.RowKit Go.Lib Go.Maps Go.WideMaps

def zCells : List Value := [.string ⟨#[]⟩, .slice none 0 0, .int .i64 0]
abbrev zObj : Obj := .cells #[.string ⟨#[]⟩, .slice none 0 0, .int .i64 0] 61
theorem gCells_take (G : List Ent) (k : Nat) : (gCells G).take (k * 3) = gCells (G.take k) := by
  induction G generalizing k with
  | nil => simp [gCells]
  | cons x r ih =>
    cases k with
    | zero => rfl
    | succ k =>
      have e : (k + 1) * 3 = k * 3 + 1 + 1 + 1 := by omega
      rw [e]
      simp [gCells, ih]
theorem gCells_drop (G : List Ent) (k : Nat) : (gCells G).drop (k * 3) = gCells (G.drop k) := by
  induction G generalizing k with
  | nil => simp [gCells]
  | cons x r ih =>
    cases k with
    | zero => rfl
    | succ k =>
      have e : (k + 1) * 3 = k * 3 + 1 + 1 + 1 := by omega
      rw [e]
      simp [gCells, ih]
theorem three_of {l : List Value} (h : 3 ≤ l.length) : ∃ a b c t, l = a :: b :: c :: t := by
  match l, h with
  | a :: b :: c :: t, _ => exact ⟨a, b, c, t, rfl⟩
/-- The row behind the copy and the store. -/
theorem add_list {C : List Value} {G : List Ent} {k : Nat} (hk : k ≤ G.length) (hC : C.take ((G.length + 1) * 3) = gCells G ++ zCells) (hl : (G.length + 1) * 3 ≤ C.length) (s v u : Value) :
    ∃ X T, C.take ((k + 1) * 3) ++ (gCells (G.drop k) ++ C.drop ((k + 1) * 3 + (gCells (G.drop k)).length)) = X ∧ X.length = C.length ∧ ((X.set (k * 3) s).set (k * 3 + 1) v).set (k * 3 + 2) u = T ∧ T.take ((G.length + 1) * 3) = gCells (G.take k) ++ (s :: v :: u :: gCells (G.drop k)) ∧ T.length = C.length := by
  have hD : (gCells (G.drop k)).length = (G.length - k) * 3 := by rw [gCells_length, List.length_drop]
  have hA : C.take (k * 3) = gCells (G.take k) := by
    have e : C.take (k * 3) = (C.take ((G.length + 1) * 3)).take (k * 3) := by rw [List.take_take]; congr 1; omega
    rw [e, hC, List.take_append_of_le_length (by rw [gCells_length]; omega), gCells_take]
  have hAl : (gCells (G.take k)).length = k * 3 := by rw [gCells_length, List.length_take]; omega
  obtain ⟨b0, b1, b2, t, hB⟩ := three_of (l := (C.take ((k + 1) * 3)).drop (k * 3)) (by rw [List.length_drop, List.length_take]; omega)
  have ht : t = [] := by
    have := congrArg List.length hB
    rw [List.length_drop, List.length_take] at this
    simp at this
    exact List.eq_nil_of_length_eq_zero (by omega)
  subst ht
  have hAB : C.take ((k + 1) * 3) = gCells (G.take k) ++ [b0, b1, b2] := by
    have e : C.take ((k + 1) * 3) = (C.take ((k + 1) * 3)).take (k * 3) ++ (C.take ((k + 1) * 3)).drop (k * 3) := (List.take_append_drop _ _).symm
    rw [e, hB, List.take_take]
    have e2 : min (k * 3) ((k + 1) * 3) = k * 3 := by omega
    rw [e2, hA]
  refine ⟨_, _, rfl, ?_, rfl, ?_, ?_⟩
  · rw [List.length_append, List.length_append, List.length_take, List.length_drop, hD]; omega
  · rw [hAB, List.append_assoc]
    have e1 : ∀ (l : List Value) (x : Value) (i : Nat), (gCells (G.take k) ++ l).set (k * 3 + i) x = gCells (G.take k) ++ l.set i x := fun l x i => by
      rw [List.set_append_right _ _ (by omega)]
      congr 2
      omega
    have e0 : ∀ (l : List Value) (x : Value), (gCells (G.take k) ++ l).set (k * 3) x = gCells (G.take k) ++ l.set 0 x := fun l x => e1 l x 0
    rw [e0, e1, e1]
    show (gCells (G.take k) ++ (s :: v :: u :: (gCells (G.drop k) ++ C.drop ((k + 1) * 3 + (gCells (G.drop k)).length)))).take ((G.length + 1) * 3) = _
    rw [List.take_append, List.take_of_length_le (by omega)]
    congr 1
    have e3 : (G.length + 1) * 3 - (gCells (G.take k)).length = (gCells (G.drop k)).length + 1 + 1 + 1 := by omega
    rw [e3]
    simp
  · rw [List.length_set, List.length_set, List.length_set, List.length_append, List.length_append, List.length_take, List.length_drop, hD]; omega

/-- What add finds and leaves. -/
theorem add_mem {w w3 : World} {r k M : Nat} {R : RSt} {vf v3 v : Value} {G : List Ent} {Q : Nat → Prop} {n dt : List UInt8} {su : Nat} (h : RX w r R vf G Q) (hv : RBq w Q r vf v dt) (hsu : su ≤ dt.length ∧ dt.length ≤ 1048576) (hn : n.length ≤ 40) (hfew : G.length < 64) (hk : k ≤ G.length)
    (hrow : w3.ownsRow 0 61 3 v3 (G.length + 1) (gCells G ++ zCells)) (hg : (((w.alloc (.cells #[.string ⟨n.toArray⟩, v, .int .i64 (su : Int)] 61)).drewN M).alloc zObj).grownBy w3 vf.ownBlock)
    (hloc : v3.ownBlock = vf.ownBlock ∨ v3.ownBlock = some (((w.alloc (.cells #[.string ⟨n.toArray⟩, v, .int .i64 (su : Int)] 61)).drewN M).alloc zObj).heap.size) :
    ∃ g cap cur, v3 = .slice (some ⟨g, 0, none⟩) (G.length + 1) cap ∧ G.length + 1 ≤ cap ∧ cap ≤ maxLen ∧ w3.cell? ⟨r, 0, none⟩ = some vf ∧ w3.frozen? ⟨r, 0, none⟩ = false ∧ (w3.setCell ⟨r, 0, none⟩ v3).cell? ⟨r, 0, none⟩ = some v3 ∧
      Hid ((w3.setCell ⟨r, 0, none⟩ v3).heap[g]? = some (.cells cur 61 (0, 0))) ∧ Hid (cur.size = cap * 3) ∧ Hid (∀ j x, (gCells (G.drop k))[j]? = some x → (w3.setCell ⟨r, 0, none⟩ v3).cell? ((⟨g, k * 3, none⟩ : Addr).add j) = some x) ∧
      Hid (∀ w5 : World, w5.heap = ((w3.setCell ⟨r, 0, none⟩ v3).setRow g (cur.toList.take ((k + 1) * 3) ++ (gCells (G.drop k) ++ cur.toList.drop ((k + 1) * 3 + (gCells (G.drop k)).length))).toArray).heap →
        w5.cell? ⟨r, 0, none⟩ = some v3 ∧ w5.cell? ⟨w.heap.size, 0, none⟩ = some (.string ⟨n.toArray⟩) ∧ w5.cell? ⟨w.heap.size, 1, none⟩ = some v ∧ w5.cell? ⟨w.heap.size, 2, none⟩ = some (.int .i64 (su : Int)) ∧
        (∃ u0 u1 u2, w5.cell? ⟨g, k * 3, none⟩ = some u0 ∧ w5.cell? ⟨g, k * 3 + 1, none⟩ = some u1 ∧ w5.cell? ⟨g, k * 3 + 2, none⟩ = some u2) ∧ (∀ j, w5.frozen? ⟨g, j, none⟩ = false) ∧
        Hid (∀ w6 : World, w6.heap = (((w5.setCell ⟨g, k * 3, none⟩ (.string ⟨n.toArray⟩)).setCell ⟨g, k * 3 + 1, none⟩ v).setCell ⟨g, k * 3 + 2, none⟩ (.int .i64 (su : Int))).heap → Env w w6 →
          RX w6 r R v3 (G.take k ++ ⟨n, 0, v, dt, su⟩ :: G.drop k) (fun q => Q q ∨ q = g) ∧ FrO Q w w6 ∧ (Q g ∨ w.heap.size ≤ g))) := by
  obtain ⟨W1, hW1⟩ : ∃ W1, ((w.alloc (.cells #[.string ⟨n.toArray⟩, v, .int .i64 (su : Int)] 61)).drewN M).alloc zObj = W1 := ⟨_, rfl⟩
  rw [hW1] at hg hloc
  have hz1 : W1.heap.size = w.heap.size + 2 := by rw [← hW1]; simp
  have hb1 : ∀ b, b < w.heap.size → W1.heap[b]? = w.heap[b]? := fun b hb => by
    rw [← hW1, Below.heap_alloc _ _ b (by simp; omega)]
    exact Below.heap_alloc _ _ b hb
  have hf1 : W1.heap[w.heap.size]? = some (.cells #[.string ⟨n.toArray⟩, v, .int .i64 (su : Int)] 61 (0, 0)) := by
    rw [← hW1, Below.heap_alloc _ _ _ (by simp)]
    exact (MapKept.heap_alloc w _).1
  have hvf : ∀ q, vf.ownBlock = some q → Q q ∧ q ≠ r := fun q hq => ⟨h.oF q hq, by
    rintro rfl
    rcases h.row.2 with ⟨e1, _⟩ | ⟨g', cap', cur', e1, _, hc', _⟩
    · rw [e1] at hq; simp [Value.ownBlock] at hq
    · rw [e1] at hq; simp [Value.ownBlock] at hq; subst hq
      rw [h.blk] at hc'; injection hc' with hc'; injection hc' with _ h6; exact absurd h6 (by decide)⟩
  have hb3 : ∀ b, b < w.heap.size → vf.ownBlock ≠ some b → w3.heap[b]? = w.heap[b]? := fun b hb hne => (hg.block b (by omega) (fun e => hne e.symm)).trans (hb1 b hb)
  have hrlt : r < w.heap.size := h.lt r h.oR
  have hr3 := (hb3 r hrlt (fun e => (hvf r e).2 rfl)).trans h.blk
  have hf3 : w3.heap[w.heap.size]? = some (.cells #[.string ⟨n.toArray⟩, v, .int .i64 (su : Int)] 61 (0, 0)) := (hg.block _ (by omega) (fun e => by have := h.lt _ (hvf _ e.symm).1; omega)).trans hf1
  rcases hrow.2 with ⟨_, e2⟩ | ⟨g, cap, cur, rfl, _, hc, h1, h2, h3, h4⟩
  · omega
  have hgb : (Q g ∧ g ≠ r ∧ g < w.heap.size ∧ vf.ownBlock = some g) ∨ g = w.heap.size + 2 := by
    rcases hloc with hl | hl
    · have hl' : vf.ownBlock = some g := hl.symm
      exact .inl ⟨(hvf g hl').1, (hvf g hl').2, h.lt g (hvf g hl').1, hl'⟩
    · have : some g = some W1.heap.size := hl
      injection this with this
      exact .inr (by omega)
  have hgr : g ≠ r := by rcases hgb with ⟨_, h, _⟩ | h <;> omega
  have hgs : g ≠ w.heap.size := by rcases hgb with ⟨_, _, h, _⟩ | h <;> omega
  obtain ⟨V3, hV3⟩ : ∃ V3, Value.slice (some ⟨g, 0, none⟩) (G.length + 1) cap = V3 := ⟨_, rfl⟩
  have h4b := heap_setCell_at hr3 0 V3
  have h4g : (w3.setCell ⟨r, 0, none⟩ V3).heap[g]? = some (.cells cur 61 (0, 0)) := (heap_setCell_ne 0 V3 hgr).trans hc
  have h4f : (w3.setCell ⟨r, 0, none⟩ V3).heap[w.heap.size]? = _ := (heap_setCell_ne 0 V3 (by omega)).trans hf3
  have hcl : (G.length + 1) * 3 ≤ cur.toList.length := by have e : cur.toList.length = cur.size := Array.length_toList; omega
  refine ⟨g, cap, cur, rfl, h1, h2, by rw [(cellB hr3 0).1]; rfl, (cellB hr3 0).2, ?_⟩
  rw [hV3]
  refine ⟨by rw [(cellB h4b 0).1]; rfl, h4g, h3, fun j x hj => ?_, fun w5 hw5 => ?_⟩
  · rw [Go.WideShapes.add_plain, (cellB h4g _).1, ← Array.getElem?_toList]
    have hjl : j < (G.length - k) * 3 := by
      have := (List.getElem?_eq_some_iff.1 hj).1
      rwa [gCells_length, List.length_drop] at this
    have e1 : cur.toList[k * 3 + j]? = (cur.toList.take ((G.length + 1) * 3))[k * 3 + j]? := by rw [List.getElem?_take, if_pos (by omega)]
    rw [e1, h4, List.getElem?_append_left (by rw [gCells_length]; omega), ← List.getElem?_drop, gCells_drop]
    exact hj
  · obtain ⟨X, T, hX, hXl, hT, hTt, hTl⟩ := add_list hk h4 hcl (.string ⟨n.toArray⟩) v (.int .i64 (su : Int))
    rw [hX] at hw5
    have h5g : w5.heap[g]? = some (.cells X.toArray 61 (0, 0)) := by rw [hw5]; exact setRow_heap (w3.setCell ⟨r, 0, none⟩ V3) g cur X.toArray _ _ h4g
    have h5o : ∀ b, b ≠ g → w5.heap[b]? = (w3.setCell ⟨r, 0, none⟩ V3).heap[b]? := fun b hb => by rw [hw5]; exact setRow_other _ g b _ hb
    have h5r := (h5o r (fun e => hgr e.symm)).trans h4b
    have h5f := (h5o w.heap.size (fun e => hgs e.symm)).trans h4f
    have hXc : ∀ j, j < X.length → ∃ u, w5.cell? ⟨g, j, none⟩ = some u := fun j hj => by
      rw [(cellB h5g j).1]
      exact ⟨X[j], by simp [hj]⟩
    obtain ⟨u0, hu0⟩ := hXc (k * 3) (by omega)
    obtain ⟨u1, hu1⟩ := hXc (k * 3 + 1) (by omega)
    obtain ⟨u2, hu2⟩ := hXc (k * 3 + 2) (by omega)
    refine ⟨by rw [(cellB h5r 0).1]; rfl, by rw [(cellB h5f 0).1]; rfl, by rw [(cellB h5f 1).1]; rfl, by rw [(cellB h5f 2).1]; rfl, ⟨u0, u1, u2, hu0, hu1, hu2⟩, fun j => (cellB h5g j).2, fun w6 hw6 henv => ?_⟩
    have h6g := heap_setCell_at (heap_setCell_at (heap_setCell_at h5g (k * 3) (.string ⟨n.toArray⟩)) (k * 3 + 1) v) (k * 3 + 2) (.int .i64 (su : Int))
    rw [← hw6] at h6g
    have h6o : ∀ b, b ≠ g → w6.heap[b]? = (w3.setCell ⟨r, 0, none⟩ V3).heap[b]? := fun b hb => by
      rw [hw6, heap_setCell_ne _ _ hb, heap_setCell_ne _ _ hb, heap_setCell_ne _ _ hb]
      exact h5o b hb
    have h6z : w6.heap.size = w3.heap.size := by
      have e5 : w5.heap.size = w3.heap.size := by rw [hw5]; simp [World.setRow]
      rw [hw6]; simpa using e5
    have hz3 : w.heap.size + 2 ≤ w3.heap.size := by have := hg.size; omega
    have hg3 : g < w3.heap.size := (Array.getElem?_eq_some_iff.1 hc).1
    have hkeep : ∀ b, b < w.heap.size → b ≠ r → vf.ownBlock ≠ some b → w6.heap[b]? = w.heap[b]? := fun b hb hbr hbv => by
      have hbg : b ≠ g := by rcases hgb with ⟨_, _, _, h⟩ | h
                             · rintro rfl; exact hbv h
                             · omega
      rw [h6o b hbg, heap_setCell_ne 0 V3 hbr]
      exact hb3 b hb hbv
    have hTa : (((X.toArray.setIfInBounds (k * 3) (.string ⟨n.toArray⟩)).setIfInBounds (k * 3 + 1) v).setIfInBounds (k * 3 + 2) (.int .i64 (su : Int))).toList = T := by
      rw [← hT]; simp
    have hdat : ∀ e' d', RBq w Q r vf e' d' → RBq w6 (fun q => Q q ∨ q = g) r V3 e' d' := fun e' d' hd => by
      rcases hd with hd | ⟨b, off, cp, q1, q2, q3, q4, q5, q6, q7⟩
      · exact .inl hd
      · refine .inr ⟨b, off, cp, .inl q1, q2, ?_, q4, q5, q6, fun i hi => (cell_same (hkeep b (h.lt b q1) q2 q3) _).trans (q7 i hi)⟩
        rw [← hV3]
        intro e
        have : g = b := by simpa [Value.ownBlock] using e
        subst this
        rcases hgb with ⟨_, _, _, h'⟩ | h'
        · exact q3 h'
        · have := h.lt _ q1; omega
    have hGk : (G.take k ++ (⟨n, 0, v, dt, su⟩ : Ent) :: G.drop k).length = G.length + 1 := by simp; omega
    refine ⟨⟨?_, ?_, fun e he => ?_, by omega, fun e he => ?_, fun e he => ?_, .inl h.oR, fun q hq => ?_, fun q hq => ?_⟩, ⟨by omega, fun b hb hnb => hkeep b hb (fun e => hnb (e ▸ h.oR)) (fun e => hnb (h.oF b e)), henv⟩, ?_⟩
    · rw [h6o r (fun e => hgr e.symm)]; exact h4b
    · rw [hGk, gCells_append]
      show w6.ownsRow 0 61 3 V3 (G.length + 1) (gCells (G.take k) ++ (.string ⟨n.toArray⟩ :: v :: .int .i64 (su : Int) :: gCells (G.drop k)))
      refine ⟨?_, .inr ⟨g, cap, _, hV3.symm, Nat.zero_le _, h6g, h1, h2, ?_, ?_⟩⟩
      · simp [gCells_length]; omega
      · have e : cur.toList.length = cur.size := Array.length_toList
        have e2 := congrArg List.length hTa
        rw [Array.length_toList] at e2
        omega
      · rw [hTa]; exact hTt
    · rcases List.mem_append.1 he with he | he
      · exact hdat _ _ (h.dat e (List.mem_of_mem_take he))
      · rcases List.mem_cons.1 he with rfl | he
        · exact hdat _ _ hv
        · exact hdat _ _ (h.dat e (List.mem_of_mem_drop he))
    · rcases List.mem_append.1 he with he | he
      · exact h.len e (List.mem_of_mem_take he)
      · rcases List.mem_cons.1 he with rfl | he
        · exact hsu
        · exact h.len e (List.mem_of_mem_drop he)
    · rcases List.mem_append.1 he with he | he
      · exact h.nam e (List.mem_of_mem_take he)
      · rcases List.mem_cons.1 he with rfl | he
        · exact hn
        · exact h.nam e (List.mem_of_mem_drop he)
    · rw [← hV3] at hq
      have : g = q := by simpa [Value.ownBlock] using hq
      exact .inr this.symm
    · rcases hq with hq | hq
      · have := h.lt q hq; omega
      · omega
    · rcases hgb with ⟨h', _⟩ | h'
      · exact .inl h'
      · exact .inr (by omega)
end Go.Proofs.YthebgoadeecmpaaDoor
