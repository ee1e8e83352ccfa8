/- The builder's Snapshot of what is whole; the statement's own same. -/
import Derived.Test.YtpminalccnhkjaaGreatDoorSBuild
namespace Go.Proofs.YtpminalccnhkjaaGreatDoor
open Go.RowKit Go.Lib

/-- The builder's three cells, and a variable of three cells. -/
def HSn (w : World) (p q i t : Nat) (a : Option Addr) (n k : Nat) : Prop := w.cell? ⟨p, 0, none⟩ = some (.int .u64 (i : Int)) ∧ w.cell? ⟨p, 1, none⟩ = some (.int .u64 (t : Int)) ∧ w.cell? ⟨p, 2, none⟩ = some (.slice a n k) ∧ p < w.heap.size ∧ p ≠ q ∧ ∃ x y z, Sv w q x y z
theorem hs_later {w w' : World} {p q i t : Nat} {a : Option Addr} {n k : Nat} (h : HSn w p q i t a n k) (hb : Below w.heap.size w w') : HSn w' p q i t a n k := by
  obtain ⟨h0, h1, h2, h3, h4, h5⟩ := h
  obtain ⟨x, y, z, h5⟩ := h5
  exact ⟨(hb.cell (p := ⟨p, 0, none⟩) h3).trans h0, (hb.cell (p := ⟨p, 1, none⟩) h3).trans h1, (hb.cell (p := ⟨p, 2, none⟩) h3).trans h2, Nat.lt_of_lt_of_le h3 hb.size, h4, x, y, z, h5.below hb h5.lt⟩
theorem sv_set3 {w : World} {q : Nat} {x y z : Value} (h : Sv w q x y z) (a b c : Value) : Sv (((w.setCell ⟨q, 0, none⟩ a).setCell ⟨q, 1, none⟩ b).setCell ⟨q, 2, none⟩ c) q a b c := Dk.heap_setCell_at (Dk.heap_setCell_at (Dk.heap_setCell_at h 0 a) 1 b) 2 c
theorem hs_set3 {w : World} {p q i t : Nat} {a : Option Addr} {n k : Nat} (h : HSn w p q i t a n k) (x y z : Value) : HSn (((w.setCell ⟨q, 0, none⟩ x).setCell ⟨q, 1, none⟩ y).setCell ⟨q, 2, none⟩ z) p q i t a n k := by
  obtain ⟨h0, h1, h2, h3, h4, x0, y0, z0, h5⟩ := h
  have e := set3_block w q p x y z h4
  exact ⟨(World.cell?_of_block (w := w) e).trans h0, (World.cell?_of_block (w := w) e).trans h1, (World.cell?_of_block (w := w) e).trans h2, by rw [set3_size]; exact h3, h4, _, _, _, sv_set3 h5 x y z⟩
set_option maxHeartbeats 3200000 in
set_option maxRecDepth 100000 in
theorem snap_some {w : World} {p i t : Nat} {l : List UInt8} (h : BL w p i t l true) (hl : l.length ≤ 1000000) :
    Calls Tryz.prog 22 #[.pointer (some ⟨p, 0, none⟩)] w fun e w' => ∃ a1 k1, e = .returned (.tuple #[.agg #[.int .u64 (i : Int), .int .u64 (t : Int), .slice a1 l.length k1], .bool true]) ∧ RBp w' w'.heap.size (.slice a1 l.length k1) l ∧ Below w.heap.size w w' := by
  have hlt := h.lt
  obtain ⟨a, k, h1, ho⟩ := h
  have hb0 := below_alloc (B := w.heap.size) (.cells #[.int .u64 0, .int .u64 0, .slice none 0 0] 34) (Nat.le_refl w.heap.size)
  obtain ⟨W, hW⟩ : ∃ W, W = w.alloc (.cells #[.int .u64 0, .int .u64 0, .slice none 0 0] 34) := ⟨_, rfl⟩
  have hSv : Sv W w.heap.size (.int .u64 0) (.int .u64 0) (.slice none 0 0) := by rw [hW]; exact Sv.new w _ _ _
  have hbW : Below w.heap.size w W := by rw [hW]; exact hb0
  have h2 : W.heap[p]? = _ := (hbW.block p hlt).trans h1
  have c3 : W.cell? ⟨p, 3, none⟩ = some (.bool true) := (Dk.cellB h2 3).1
  obtain ⟨n, hn⟩ : ∃ n, n = l.length := ⟨_, rfl⟩
  rw [← hn] at h2 ho ⊢
  have HH : Hid (HSn W.drew p w.heap.size i t a n k) := hide ⟨(Dk.cellB h2 0).1, (Dk.cellB h2 1).1, (Dk.cellB h2 2).1, Nat.lt_of_lt_of_le hlt hbW.size, Nat.ne_of_lt hlt, _, _, _, hSv⟩
  have hr : RBp w w.heap.size (.slice a n k) l := rb_own (by rw [← hn]; exact ho) (by omega)
  have HC : Hid (∀ V, Below w.heap.size w V → Calls Tryz.prog 38 #[.slice a n k] V fun e w' => ∃ v', e = .returned v' ∧ w'.ownsRow V.heap.size 5 1 v' n (byteCells l) ∧ Below V.heap.size V w') := hide fun V hV => by rw [hn]; exact clone_bytes _ l V (by omega) (rb_later (by rw [← hn]; exact hr) hV hV.size)
  have HW : Hid (Below w.heap.size w W.drew) := hide (bt hbW (drew_below _ 1))
  have HN := hide hn
  have HZ : Hid (w.heap.size < W.drew.heap.size) := hide (by rw [hW]; simp)
  clear hn hr hbW hSv h2 ho h1 hb0
  go_enter Tryz.func22, Tryz.ntmps22
  go_upto_region 1 with fail
  rw [← hW]
  clear hW
  go_upto_region 3 with fail
  refine wp_region_held_drew (S := fun w' => HSn w' p w.heap.size i t a n k) (by kernel_rfl) (unhide HH) (fun hHeld => ?_)
  refine hand_to (i := 0) (d := 10) (v := .pointer (some ⟨p, 0, none⟩)) rfl rfl (by kernel_rfl) (by kernel_rfl) (by kernel_rfl) (fun _ _ _ h => h) (Or.inl ⟨by rfl, ?_⟩) hHeld ?_
  · (intro w' hSw; obtain ⟨hx0, hx1, hx2, hx3, hx4, hx5⟩ := hSw; go_simp)
  simp only [Act.put, List.setIfInBounds_toArray, List.set_cons_zero, List.set_cons_succ]
  refine hand_to (i := 1) (d := 11) (v := .pointer (some ⟨p, 0, none⟩)) rfl rfl (by kernel_rfl) (by kernel_rfl) (by kernel_rfl) (fun _ _ _ h => h) (Or.inl ⟨by rfl, ?_⟩) hHeld ?_
  · (intro w' hSw; obtain ⟨hx0, hx1, hx2, hx3, hx4, hx5⟩ := hSw; go_simp)
  simp only [Act.put, List.setIfInBounds_toArray, List.set_cons_zero, List.set_cons_succ]
  refine hand_to (i := 2) (d := 12) (v := .pointer (some ⟨p, 0, none⟩)) rfl rfl (by kernel_rfl) (by kernel_rfl) (by kernel_rfl) (fun _ _ _ h => h) (Or.inl ⟨by rfl, ?_⟩) hHeld ?_
  · (intro w' hSw; obtain ⟨hx0, hx1, hx2, hx3, hx4, hx5⟩ := hSw; go_simp)
  simp only [Act.put, List.setIfInBounds_toArray, List.set_cons_zero, List.set_cons_succ]
  refine hand_to (i := 3) (d := 13) (v := .int .u64 (i : Int)) rfl rfl (by kernel_rfl) (by kernel_rfl) (by kernel_rfl) (fun _ _ _ h => h) (Or.inl ⟨by rfl, ?_⟩) hHeld ?_
  · (intro w' hSw; obtain ⟨hx0, hx1, hx2, hx3, hx4, hx5⟩ := hSw; go_simp)
  simp only [Act.put, List.setIfInBounds_toArray, List.set_cons_zero, List.set_cons_succ]
  refine hand_to (i := 4) (d := 14) (v := .pointer (some ⟨p, 0, none⟩)) rfl rfl (by kernel_rfl) (by kernel_rfl) (by kernel_rfl) (fun _ _ _ h => h) (Or.inl ⟨by rfl, ?_⟩) hHeld ?_
  · (intro w' hSw; obtain ⟨hx0, hx1, hx2, hx3, hx4, hx5⟩ := hSw; go_simp)
  simp only [Act.put, List.setIfInBounds_toArray, List.set_cons_zero, List.set_cons_succ]
  refine hand_to (i := 5) (d := 15) (v := .pointer (some ⟨p, 0, none⟩)) rfl rfl (by kernel_rfl) (by kernel_rfl) (by kernel_rfl) (fun _ _ _ h => h) (Or.inl ⟨by rfl, ?_⟩) hHeld ?_
  · (intro w' hSw; obtain ⟨hx0, hx1, hx2, hx3, hx4, hx5⟩ := hSw; go_simp)
  simp only [Act.put, List.setIfInBounds_toArray, List.set_cons_zero, List.set_cons_succ]
  refine hand_to (i := 6) (d := 16) (v := .pointer (some ⟨p, 1, none⟩)) rfl rfl (by kernel_rfl) (by kernel_rfl) (by kernel_rfl) (fun _ _ _ h => h) (Or.inl ⟨by rfl, ?_⟩) hHeld ?_
  · (intro w' hSw; obtain ⟨hx0, hx1, hx2, hx3, hx4, hx5⟩ := hSw; go_simp)
  simp only [Act.put, List.setIfInBounds_toArray, List.set_cons_zero, List.set_cons_succ]
  refine hand_to (i := 7) (d := 17) (v := .int .u64 (t : Int)) rfl rfl (by kernel_rfl) (by kernel_rfl) (by kernel_rfl) (fun _ _ _ h => h) (Or.inl ⟨by rfl, ?_⟩) hHeld ?_
  · (intro w' hSw; obtain ⟨hx0, hx1, hx2, hx3, hx4, hx5⟩ := hSw; go_simp)
  simp only [Act.put, List.setIfInBounds_toArray, List.set_cons_zero, List.set_cons_succ]
  refine hand_to (i := 8) (d := 18) (v := .pointer (some ⟨p, 0, none⟩)) rfl rfl (by kernel_rfl) (by kernel_rfl) (by kernel_rfl) (fun _ _ _ h => h) (Or.inl ⟨by rfl, ?_⟩) hHeld ?_
  · (intro w' hSw; obtain ⟨hx0, hx1, hx2, hx3, hx4, hx5⟩ := hSw; go_simp)
  simp only [Act.put, List.setIfInBounds_toArray, List.set_cons_zero, List.set_cons_succ]
  refine hand_to (i := 9) (d := 19) (v := .pointer (some ⟨p, 0, none⟩)) rfl rfl (by kernel_rfl) (by kernel_rfl) (by kernel_rfl) (fun _ _ _ h => h) (Or.inl ⟨by rfl, ?_⟩) hHeld ?_
  · (intro w' hSw; obtain ⟨hx0, hx1, hx2, hx3, hx4, hx5⟩ := hSw; go_simp)
  simp only [Act.put, List.setIfInBounds_toArray, List.set_cons_zero, List.set_cons_succ]
  refine hand_to (i := 10) (d := 20) (v := .pointer (some ⟨p, 2, none⟩)) rfl rfl (by kernel_rfl) (by kernel_rfl) (by kernel_rfl) (fun _ _ _ h => h) (Or.inl ⟨by rfl, ?_⟩) hHeld ?_
  · (intro w' hSw; obtain ⟨hx0, hx1, hx2, hx3, hx4, hx5⟩ := hSw; go_simp)
  simp only [Act.put, List.setIfInBounds_toArray, List.set_cons_zero, List.set_cons_succ]
  refine hand_to (i := 11) (d := 21) (v := .slice a n k) rfl rfl (by kernel_rfl) (by kernel_rfl) (by kernel_rfl) (fun _ _ _ h => h) (Or.inl ⟨by rfl, ?_⟩) hHeld ?_
  · (intro w' hSw; obtain ⟨hx0, hx1, hx2, hx3, hx4, hx5⟩ := hSw; go_simp)
  simp only [Act.put, List.setIfInBounds_toArray, List.set_cons_zero, List.set_cons_succ]
  refine wpAnyH_ready (rs := [12]) (by kernel_rfl) (by simp) ?_
  refine AllReadyH.cons rfl (fun K hK => ?_) AllReadyH.nil
  go_simp
  (go_at_call 38; refine (unhide HC _ (unhide HW)).mono ?_; rintro e w1 ⟨v1, rfl, o1, b1⟩; obtain ⟨a1, k1, rfl⟩ := own_slice o1; have HO := hide o1; have s1 := hs_later hHeld b1; have HB1 := hide b1; clear o1 b1 HC)
  (go_wp2_with fail)
  refine hK.out _ _ s1 (fun hHeld2 => ?_)
  clear hK K hHeld
  have hHeld := hHeld2
  clear hHeld2
  refine hand_to (i := 13) (d := 23) (v := .agg #[.int .u64 (i : Int), .int .u64 (t : Int), .slice a1 n k1]) rfl rfl (by kernel_rfl) (by kernel_rfl) (by kernel_rfl) (fun _ _ _ h => h) (Or.inl ⟨by rfl, ?_⟩) hHeld ?_
  · (intro w' hSw; obtain ⟨hx0, hx1, hx2, hx3, hx4, hx5⟩ := hSw; go_simp)
  simp only [Act.put, List.setIfInBounds_toArray, List.set_cons_zero, List.set_cons_succ]
  refine wpAnyH_ready (rs := [14]) (by kernel_rfl) (by simp) ?_
  refine AllReadyH.cons rfl (fun K hK => ?_) AllReadyH.nil
  obtain ⟨hx0, hx1, hx2, hx3, hx4, x9, y9, z9, hv9⟩ := hHeld
  obtain ⟨f0, f1, f2, f3, f4, f5⟩ := hv9.cells
  have s2 := hs_set3 ⟨hx0, hx1, hx2, hx3, hx4, x9, y9, z9, hv9⟩ (.int .u64 (i : Int)) (.int .u64 (t : Int)) (.slice a1 n k1)
  have s3 := sv_set3 hv9 (.int .u64 (i : Int)) (.int .u64 (t : Int)) (.slice a1 n k1)
  have ho1 := unhide HO
  have HR : Hid (RBp (((w1.setCell ⟨w.heap.size, 0, none⟩ (.int .u64 (i : Int))).setCell ⟨w.heap.size, 1, none⟩ (.int .u64 (t : Int))).setCell ⟨w.heap.size, 2, none⟩ (.slice a1 n k1)) (((w1.setCell ⟨w.heap.size, 0, none⟩ (.int .u64 (i : Int))).setCell ⟨w.heap.size, 1, none⟩ (.int .u64 (t : Int))).setCell ⟨w.heap.size, 2, none⟩ (.slice a1 n k1)).heap.size (.slice a1 n k1) l) := hide (by
    have e := unhide HN
    subst e
    exact rb_own (ownsRow_setCell_below (ownsRow_setCell_below (ownsRow_setCell_below ho1 (unhide HZ) _) (unhide HZ) _) (unhide HZ) _) (by omega))
  have HB2 : Hid (Below w.heap.size w (((w1.setCell ⟨w.heap.size, 0, none⟩ (.int .u64 (i : Int))).setCell ⟨w.heap.size, 1, none⟩ (.int .u64 (t : Int))).setCell ⟨w.heap.size, 2, none⟩ (.slice a1 n k1))) := hide (set3_below ((unhide HW).trans ((unhide HB1).mono (unhide HW).size)) (Nat.le_refl _) _ _ _)
  clear ho1 hv9 HO HB1 hx0 hx1 hx2
  go_simp
  (go_wp2_with fail)
  generalize ((w1.setCell ⟨w.heap.size, 0, none⟩ (.int .u64 (i : Int))).setCell ⟨w.heap.size, 1, none⟩ (.int .u64 (t : Int))).setCell ⟨w.heap.size, 2, none⟩ (.slice a1 n k1) = W9 at s2 s3 HR HB2 ⊢
  refine hK.out _ _ s2 (fun hHeld => ?_)
  clear hK K f0 f1 f2 f3 f4 f5
  refine hand_to (i := 15) (d := 3) (v := .bool true) rfl rfl (by kernel_rfl) (by kernel_rfl) (by kernel_rfl) (fun _ _ _ h => h) (Or.inl ⟨by rfl, ?_⟩) hHeld ?_
  · (intro w' hSw; obtain _ := hSw; go_simp)
  simp only [Act.put, List.setIfInBounds_toArray, List.set_cons_zero, List.set_cons_succ]
  refine wpAnyH_done (by kernel_rfl) ?_ _
  obtain ⟨f0, f1, f2, f3, f4, f5⟩ := s3.cells
  go_wp2
  refine bodyPost_ret (v := .tuple #[.agg #[.int .u64 (i : Int), .int .u64 (t : Int), .slice a1 n k1], .bool true]) ?_ rfl ?_
  · rw [results_cell_tmp rfl]
    go_simp
    try rfl
  · exact ⟨a1, k1, rfl, unhide HR, unhide HB2⟩
end Go.Proofs.YtpminalccnhkjaaGreatDoor
