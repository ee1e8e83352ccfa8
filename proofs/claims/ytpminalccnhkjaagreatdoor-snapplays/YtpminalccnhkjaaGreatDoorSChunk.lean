/- Package snap's Chunk. -/
import Derived.Test.YtpminalccnhkjaaGreatDoorSUn
namespace Go.Proofs.YtpminalccnhkjaaGreatDoor
open Go.RowKit Go.Lib

set_option maxHeartbeats 3200000 in
set_option maxRecDepth 100000 in
theorem clone_bytes (v : Value) (l : List UInt8) (w : World) (hl : l.length ≤ 1000000000) (hv : RBp w w.heap.size v l) :
    Calls Tryz.prog 38 #[v] w fun e w' => ∃ v', e = .returned v' ∧ w'.ownsRow w.heap.size 5 1 v' l.length (byteCells l) ∧ Below w.heap.size w w' := by
  obtain ⟨_, ⟨rfl, rfl⟩ | ⟨b, off, cap, hb, h1, h2, rfl, hc⟩⟩ := hv
  · have hnil := run_eql_slice_nil_nil (P := Tryz.prog) w 0 0 Tryz.underlying29
    go_enter Tryz.func38, Tryz.ntmps38
    go_wp2
    go_ret
    exact ⟨_, rfl, World.ownsRow_nil _ _ _ _, Below.refl _ _⟩
  · exact clone_new _ _ _ l w hl ⟨by omega, .inr ⟨b, off, cap, hb, h1, h2, rfl, hc⟩⟩

set_option maxHeartbeats 3200000 in
set_option maxRecDepth 100000 in
theorem chunk_some (i t off b o o2 cap : Nat) (l : List UInt8) (w : World) (hl : l.length ≤ 1000000) (ho : off ≤ l.length) (hcap : l.length ≤ cap) (hm : cap ≤ maxLen) (hsl : (cap = off ∧ o2 = o) ∨ (cap ≠ off ∧ o2 = o + off)) (hb : b < w.heap.size)
    (hcell : ∀ j, j < l.length → w.cell? ⟨b, o + j, none⟩ = some (.int .u8 ((l.getD j 0).toNat : Int))) :
    Calls Tryz.prog 20 #[.agg #[.int .u64 (i : Int), .int .u64 (t : Int), .slice (some ⟨b, o, none⟩) l.length cap], .int .i64 (off : Int)] w fun e w' => ∃ c, e = .returned (.tuple #[c, .bool (decide (l.length ≤ off + 200)), .nilIface]) ∧ w'.ownsRow w.heap.size 5 1 c ((l.drop off).take 200).length (byteCells ((l.drop off).take 200)) ∧ Below w.heap.size w w' := by
  have h0 : ¬ ((off : Int) < 0) := by omega
  have h1 : ¬ ((l.length : Int) < (off : Int)) := by omega
  obtain ⟨en, hen⟩ : ∃ x, x = min l.length (off + 200) := ⟨_, rfl⟩
  have hmin : min (l.length : Int) ((off : Int) + 200) = (en : Int) := by omega
  have e1 : off ≤ en := by omega
  have e2 : en ≤ l.length := by omega
  have hdn : ((en : Int) == (l.length : Int)) = decide (l.length ≤ off + 200) := by
    by_cases hh : l.length ≤ off + 200
    · have : en = l.length := by omega
      simp [this, hh]
    · have : en ≠ l.length := by omega
      simp [hh]; omega
  have hlen : ((l.drop off).take 200).length = en - off := by simp; omega
  have hrb : RBp w w.heap.size (.slice (some ⟨b, o2, none⟩) (en - off) (cap - off)) ((l.drop off).take 200) := by
    refine ⟨by rw [hlen]; omega, .inr ⟨b, o2, cap - off, hb, by rw [hlen]; omega, by omega, by rw [hlen], fun j hj => ?_⟩⟩
    rw [hlen] at hj
    obtain rfl : o2 = o + off := by rcases hsl with h | h <;> omega
    have h3 := hcell (off + j) (by omega)
    rw [← Nat.add_assoc] at h3
    rw [h3]
    have : ((l.drop off).take 200).getD j 0 = l.getD (off + j) 0 := by
      simp only [List.getD_eq_getElem?_getD]
      rw [List.getElem?_take_of_lt (by omega), List.getElem?_drop]
    rw [this]
  have hb0 := below_alloc (B := w.heap.size) (.cells #[.int .u64 (i : Int), .int .u64 (t : Int), .slice (some ⟨b, o, none⟩) l.length cap] 34) (Nat.le_refl w.heap.size)
  have HC : Hid (∀ W, Below w.heap.size w W → Calls Tryz.prog 38 #[.slice (some ⟨b, o2, none⟩) (en - off) (cap - off)] W fun e w' => ∃ v', e = .returned v' ∧ w'.ownsRow W.heap.size 5 1 v' ((l.drop off).take 200).length (byteCells ((l.drop off).take 200)) ∧ Below W.heap.size W w') := fun W hW => clone_bytes _ _ W (by rw [hlen]; omega) (rb_later hrb hW hW.size)
  have HS0 := hide (Sn3.new w (.int .u64 (i : Int)) (.int .u64 (t : Int)) (.slice (some ⟨b, o, none⟩) l.length cap) 34)
  have HB0 : Hid (Below w.heap.size w (w.alloc (.cells #[.int .u64 (i : Int), .int .u64 (t : Int), .slice (some ⟨b, o, none⟩) l.length cap] 34)).drew) := hide (bt hb0 (drew_below _ 1))
  clear hrb hlen hen hcell hb hb0
  go_enter Tryz.func20, Tryz.ntmps20
  go_upto_region 4 with fail
  refine wp_region_held_drew (S := fun w' => Sn3 w' w.heap.size (.int .u64 (i : Int)) (.int .u64 (t : Int)) (.slice (some ⟨b, o, none⟩) l.length cap)) (by kernel_rfl) (unhide HS0) (fun hHeld => ?_)
  refine hand_to (i := 0) (d := 28) (v := .pointer (some ⟨w.heap.size, 2, none⟩)) rfl rfl (by kernel_rfl) (by kernel_rfl) (by kernel_rfl) (fun _ _ _ h => h) (Or.inl ⟨by rfl, ?_⟩) hHeld ?_
  · (intro w' hSw; obtain ⟨hx0, hx1, hx2⟩ := hSw; go_simp)
  simp only [Act.put, List.setIfInBounds_toArray, List.set_cons_zero, List.set_cons_succ]
  refine hand_to (i := 1) (d := 29) (v := .slice (some ⟨b, o, none⟩) l.length cap) rfl rfl (by kernel_rfl) (by kernel_rfl) (by kernel_rfl) (fun _ _ _ h => h) (Or.inl ⟨by rfl, ?_⟩) hHeld ?_
  · (intro w' hSw; obtain ⟨hx0, hx1, hx2⟩ := hSw; go_simp)
  simp only [Act.put, List.setIfInBounds_toArray, List.set_cons_zero, List.set_cons_succ]
  refine hand_to (i := 2) (d := 30) (v := .int .i64 (off : Int)) rfl rfl (by kernel_rfl) (by kernel_rfl) (by kernel_rfl) (fun _ _ _ h => h) (Or.inl ⟨by rfl, ?_⟩) hHeld ?_
  · (intro w' hSw; obtain ⟨hx0, hx1, hx2⟩ := hSw; go_simp)
  simp only [Act.put, List.setIfInBounds_toArray, List.set_cons_zero, List.set_cons_succ]
  refine hand_to (i := 3) (d := 31) (v := .int .i64 (en : Int)) rfl rfl (by kernel_rfl) (by kernel_rfl) (by kernel_rfl) (fun _ _ _ h => h) (Or.inl ⟨by rfl, ?_⟩) hHeld ?_
  · (intro w' hSw; obtain ⟨hx0, hx1, hx2⟩ := hSw; go_simp)
  simp only [Act.put, List.setIfInBounds_toArray, List.set_cons_zero, List.set_cons_succ]
  refine hand_to (i := 4) (d := 32) (v := .slice (some ⟨b, o2, none⟩) (en - off) (cap - off)) rfl rfl (by kernel_rfl) (by kernel_rfl) (by kernel_rfl) (fun _ _ _ h => h) (Or.inl ⟨by rfl, ?_⟩) hHeld ?_
  · (intro w' hSw; obtain ⟨hx0, hx1, hx2⟩ := hSw; (rcases hsl with ⟨h5, h6⟩ | ⟨h5, h6⟩ <;> subst h6 <;> go_simp <;> (try (intro hh; exfalso; omega))))
  simp only [Act.put, List.setIfInBounds_toArray, List.set_cons_zero, List.set_cons_succ]
  refine hand_to (i := 6) (d := 34) (v := .int .i64 (en : Int)) rfl rfl (by kernel_rfl) (by kernel_rfl) (by kernel_rfl) (fun _ _ _ h => h) (Or.inl ⟨by rfl, ?_⟩) hHeld ?_
  · (intro w' hSw; obtain ⟨hx0, hx1, hx2⟩ := hSw; go_simp)
  simp only [Act.put, List.setIfInBounds_toArray, List.set_cons_zero, List.set_cons_succ]
  refine hand_to (i := 7) (d := 35) (v := .pointer (some ⟨w.heap.size, 2, none⟩)) rfl rfl (by kernel_rfl) (by kernel_rfl) (by kernel_rfl) (fun _ _ _ h => h) (Or.inl ⟨by rfl, ?_⟩) hHeld ?_
  · (intro w' hSw; obtain ⟨hx0, hx1, hx2⟩ := hSw; go_simp)
  simp only [Act.put, List.setIfInBounds_toArray, List.set_cons_zero, List.set_cons_succ]
  refine hand_to (i := 8) (d := 36) (v := .slice (some ⟨b, o, none⟩) l.length cap) rfl rfl (by kernel_rfl) (by kernel_rfl) (by kernel_rfl) (fun _ _ _ h => h) (Or.inl ⟨by rfl, ?_⟩) hHeld ?_
  · (intro w' hSw; obtain ⟨hx0, hx1, hx2⟩ := hSw; go_simp)
  simp only [Act.put, List.setIfInBounds_toArray, List.set_cons_zero, List.set_cons_succ]
  refine hand_to (i := 9) (d := 37) (v := .int .i64 (l.length : Int)) rfl rfl (by kernel_rfl) (by kernel_rfl) (by kernel_rfl) (fun _ _ _ h => h) (Or.inl ⟨by rfl, ?_⟩) hHeld ?_
  · (intro w' hSw; obtain ⟨hx0, hx1, hx2⟩ := hSw; go_simp)
  simp only [Act.put, List.setIfInBounds_toArray, List.set_cons_zero, List.set_cons_succ]
  refine hand_to (i := 10) (d := 38) (v := .bool (decide (l.length ≤ off + 200))) rfl rfl (by kernel_rfl) (by kernel_rfl) (by kernel_rfl) (fun _ _ _ h => h) (Or.inl ⟨by rfl, ?_⟩) hHeld ?_
  · (intro w' hSw; obtain ⟨hx0, hx1, hx2⟩ := hSw; go_simp)
  simp only [Act.put, List.setIfInBounds_toArray, List.set_cons_zero, List.set_cons_succ]
  refine wpAnyH_ready (rs := [5]) (by kernel_rfl) (by simp) ?_
  refine AllReadyH.cons rfl (fun K hK => ?_) AllReadyH.nil
  go_simp
  go_at_call 38
  refine (unhide HC _ (unhide HB0)).mono ?_
  rintro e w1 ⟨c, rfl, o1, b1⟩
  have HO1 := hide o1
  have HC1 := hide (bt (unhide HB0) b1)
  have s1 := Sn3.later hHeld b1
  clear o1 b1
  (go_wp2_with fail)
  refine hK.out _ _ s1 (fun hHeld2 => ?_)
  clear hK K hHeld
  have hHeld := hHeld2
  clear hHeld2
  refine hand_to (i := 11) (d := 4) (v := c) rfl rfl (by kernel_rfl) (by kernel_rfl) (by kernel_rfl) (fun _ _ _ h => h) (Or.inl ⟨by rfl, ?_⟩) hHeld ?_
  · (intro w' hSw; obtain ⟨hx0, hx1, hx2⟩ := hSw; go_simp)
  simp only [Act.put, List.setIfInBounds_toArray, List.set_cons_zero, List.set_cons_succ]
  refine hand_to (i := 12) (d := 5) (v := .bool (decide (l.length ≤ off + 200))) rfl rfl (by kernel_rfl) (by kernel_rfl) (by kernel_rfl) (fun _ _ _ h => h) (Or.inl ⟨by rfl, ?_⟩) hHeld ?_
  · (intro w' hSw; obtain ⟨hx0, hx1, hx2⟩ := hSw; go_simp)
  simp only [Act.put, List.setIfInBounds_toArray, List.set_cons_zero, List.set_cons_succ]
  refine hand_to (i := 13) (d := 6) (v := .nilIface) rfl rfl (by kernel_rfl) (by kernel_rfl) (by kernel_rfl) (fun _ _ _ h => h) (Or.inl ⟨by rfl, ?_⟩) hHeld ?_
  · (intro w' hSw; obtain ⟨hx0, hx1, hx2⟩ := hSw; go_simp)
  simp only [Act.put, List.setIfInBounds_toArray, List.set_cons_zero, List.set_cons_succ]
  refine wpAnyH_done (by kernel_rfl) ?_ _
  have HS9 := hide hHeld
  clear hHeld
  go_wp2
  go_ret3
  exact ⟨_, rfl, own_weaker (unhide HB0).size (unhide HO1), unhide HC1⟩
end Go.Proofs.YtpminalccnhkjaaGreatDoor
