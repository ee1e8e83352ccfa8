/- Two kids of a node, and the item between them, as one: joined. -/
import Derived.Test.YtlmjmhpdpgeplaaGreatDoorTVar
namespace Go.Proofs.YtlmjmhpdpgeplaaGreatDoor
open Go.RowKit Go.Lib

set_option maxHeartbeats 25600000 in
set_option maxRecDepth 100000 in
theorem joined_any (vi vk li lk ri rk : Value) (I ks LI LK RI RK : List (Value × Value)) (i : Nat) (w : World) (hI : R2 w vi I) (hK : R2 w vk ks) (hl : ks[i]? = some (li, lk)) (hr : ks[i + 1]? = some (ri, rk)) (hli : R2 w li LI) (hlk : R2 w lk LK) (hri : R2 w ri RI) (hrk : R2 w rk RK) (hi : i < I.length) (hn : I.length ≤ 50 ∧ ks.length ≤ 50 ∧ LI.length ≤ 50 ∧ LK.length ≤ 50 ∧ RI.length ≤ 50 ∧ RK.length ≤ 50) :
    Calls Tryz.prog 53 #[.agg #[vi, vk], .int .i64 (i : Int)] w fun e w' => ∃ ni nk ji jk, e = .returned (.agg #[ni, nk]) ∧ RN w' w.heap.size ni (I.take i ++ I.drop (i + 1)) ∧ RN w' w.heap.size nk (ks.take i ++ (ji, jk) :: ks.drop (i + 2)) ∧ RN w' w.heap.size ji (LI ++ (I.drop i).take 1 ++ RI) ∧ RN w' w.heap.size jk (LK ++ RK) ∧ Below w.heap.size w w' := by
  obtain ⟨ia, ik, rfl, hik1, hik2⟩ := id hI.slice
  obtain ⟨ka, kk, rfl, hkk1, hkk2⟩ := id hK.slice
  obtain ⟨kb, ko, rfl, hkb, l0, l1⟩ := hK.at hl
  obtain ⟨kb', ko', e, _, r0, r1⟩ := hK.at hr
  cases e
  obtain ⟨lia, lik, rfl, _, _⟩ := id hli.slice
  obtain ⟨lka, lkk, rfl, _, _⟩ := id hlk.slice
  obtain ⟨ria, rik, rfl, _, _⟩ := id hri.slice
  obtain ⟨rka, rkk, rfl, _, _⟩ := id hrk.slice
  have hkl := (List.getElem?_eq_some_iff.1 hr).1
  have hi0 : (0 : Int) ≤ (i : Int) := by omega
  have hik : (i : Int) < (ks.length : Int) := by omega
  have hik' : (i : Int) + 1 < (ks.length : Int) := by omega
  have hi0' : (0 : Int) ≤ (i : Int) + 1 := by omega
  have hwi : IntKind.i64.wrap ((i : Int) + 1) = (i : Int) + 1 := by rw [IntKind.wrap_i64] <;> omega
  have hwi2 : IntKind.i64.wrap ((i : Int) + 2) = (i : Int) + 2 := by rw [IntKind.wrap_i64] <;> omega
  have hti : ((i : Int) + 1).toNat = i + 1 := by omega
  obtain ⟨W0, hW0⟩ : ∃ W0, W0 = (w.alloc (.cells #[.slice ia I.length ik, .slice (some ⟨kb, ko, none⟩) ks.length kk] 54)).alloc (.cells #[.slice none 0 0, .slice none 0 0] 54) := ⟨_, rfl⟩
  have HB0 : Hid (Below w.heap.size w W0) := by rw [hW0]; exact ((Below.refl _ _).alloc (Nat.le_refl _) _).alloc (by simp) _
  have H2 : Hid (NV W0 w.heap.size (.slice ia I.length ik) (.slice (some ⟨kb, ko, none⟩) ks.length kk)) := by
    rw [hW0]; exact NV.below (NV.new w _ _) ((Below.refl _ _).alloc (Nat.le_refl _) _)
  have H4 : Hid (NV W0 (w.heap.size + 1) (.slice none 0 0) (.slice none 0 0)) := by
    have := NV.new (w.alloc (.cells #[.slice ia I.length ik, .slice (some ⟨kb, ko, none⟩) ks.length kk] 54)) (.slice none 0 0) (.slice none 0 0)
    rw [World.size_alloc] at this
    rw [hW0]; exact this
  have hz0 : W0.heap.size = w.heap.size + 2 := by rw [hW0]; simp
  have HZ0 := hide hz0
  have HS1 : Hid (∀ W : World, Below W0.heap.size W0 W → W.cell? ⟨w.heap.size, 1, none⟩ = some (.slice (some ⟨kb, ko, none⟩) ks.length kk) ∧ W.cell? ⟨kb, ko + i * 2, none⟩ = some (.slice lia LI.length lik) ∧ W.cell? ⟨kb, ko + i * 2 + 1, none⟩ = some (.slice lka LK.length lkk) ∧ W.cell? ⟨kb, ko + (i + 1) * 2, none⟩ = some (.slice ria RI.length rik) ∧ W.cell? ⟨kb, ko + (i + 1) * 2 + 1, none⟩ = some (.slice rka RK.length rkk)) := by
    intro W hW
    have hb : Below w.heap.size w W := below_tr (unhide HB0) hW
    exact ⟨((unhide H2).below hW).cells.2.1, (hb.cell (p := ⟨kb, _, none⟩) hkb).trans l0, (hb.cell (p := ⟨kb, _, none⟩) hkb).trans l1, (hb.cell (p := ⟨kb, _, none⟩) hkb).trans r0, (hb.cell (p := ⟨kb, _, none⟩) hkb).trans r1⟩
  have HA := hide (And.intro hI (And.intro hK (And.intro hli (And.intro hlk (And.intro hri hrk)))))
  have HN := hide hn
  have HI := hide hi
  clear hI hK hl hr hli hlk hri hrk hn l0 l1 r0 r1 hkb
  go_enter Tryz.func53, Tryz.ntmps53
  go_upto_region 1 with fail
  rw [← hW0]
  clear hW0 hz0
  go_cut [5, 6] from 8 to 18 (fun s5 s6 wx => ∃ b5 b6 : Nat, s5 = .pointer (some ⟨b5, 0, none⟩) ∧ s6 = .pointer (some ⟨b6, 0, none⟩) ∧ Hid (NV wx b5 (.slice lia LI.length lik) (.slice lka LK.length lkk) ∧ NV wx b6 (.slice ria RI.length rik) (.slice rka RK.length rkk) ∧ W0.heap.size ≤ b5 ∧ W0.heap.size ≤ b6 ∧ Below W0.heap.size W0 wx))
  case first =>
    refine wp_region_held_drew (S := fun w' => w'.cell? ⟨w.heap.size, 1, none⟩ = some (.slice (some ⟨kb, ko, none⟩) ks.length kk) ∧ w'.cell? ⟨kb, ko + i * 2, none⟩ = some (.slice lia LI.length lik) ∧ w'.cell? ⟨kb, ko + i * 2 + 1, none⟩ = some (.slice lka LK.length lkk) ∧ w'.cell? ⟨kb, ko + (i + 1) * 2, none⟩ = some (.slice ria RI.length rik) ∧ w'.cell? ⟨kb, ko + (i + 1) * 2 + 1, none⟩ = some (.slice rka RK.length rkk)) (by kernel_rfl) (unhide HS1 _ (Below.refl _ _).drew) (fun hHeld => ?_)
    obtain ⟨WS, hWS⟩ : ∃ WS, WS = W0.drew := ⟨_, rfl⟩
    rw [← hWS] at hHeld ⊢
    have HB : Hid (Below W0.heap.size W0 WS) := by rw [hWS]; exact (Below.refl _ _).drew
    clear hWS
    refine hand_to (i := 0) (d := 8) (v := (.pointer (some ⟨w.heap.size, 1, none⟩))) rfl rfl (by kernel_rfl) (by kernel_rfl) (by kernel_rfl) (fun _ _ _ h => h) (Or.inl ⟨by rfl, ?_⟩) hHeld ?_
    · (intro w' hSw; obtain ⟨y0, y1, y2, y3, y4⟩ := hSw; go_simp)
    simp only [Act.put, List.setIfInBounds_toArray, List.set_cons_zero, List.set_cons_succ]
    refine hand_to (i := 1) (d := 9) (v := (.slice (some ⟨kb, ko, none⟩) ks.length kk)) rfl rfl (by kernel_rfl) (by kernel_rfl) (by kernel_rfl) (fun _ _ _ h => h) (Or.inl ⟨by rfl, ?_⟩) hHeld ?_
    · (intro w' hSw; obtain ⟨y0, y1, y2, y3, y4⟩ := hSw; go_simp)
    simp only [Act.put, List.setIfInBounds_toArray, List.set_cons_zero, List.set_cons_succ]
    refine hand_to (i := 2) (d := 10) (v := (.int .i64 (i : Int))) rfl rfl (by kernel_rfl) (by kernel_rfl) (by kernel_rfl) (fun _ _ _ h => h) (Or.inl ⟨by rfl, ?_⟩) hHeld ?_
    · (intro w' hSw; obtain ⟨y0, y1, y2, y3, y4⟩ := hSw; go_simp)
    simp only [Act.put, List.setIfInBounds_toArray, List.set_cons_zero, List.set_cons_succ]
    refine hand_to (i := 3) (d := 11) (v := (.pointer (some ⟨kb, ko + i * 2, none⟩))) rfl rfl (by kernel_rfl) (by kernel_rfl) (by kernel_rfl) (fun _ _ _ h => h) (Or.inl ⟨by rfl, ?_⟩) hHeld ?_
    · (intro w' hSw; obtain ⟨y0, y1, y2, y3, y4⟩ := hSw; go_simp)
    simp only [Act.put, List.setIfInBounds_toArray, List.set_cons_zero, List.set_cons_succ]
    refine hand_to (i := 4) (d := 12) (v := (.agg #[.slice lia LI.length lik, .slice lka LK.length lkk])) rfl rfl (by kernel_rfl) (by kernel_rfl) (by kernel_rfl) (fun _ _ _ h => h) (Or.inl ⟨by rfl, ?_⟩) hHeld ?_
    · (intro w' hSw; obtain ⟨y0, y1, y2, y3, y4⟩ := hSw; go_simp)
    simp only [Act.put, List.setIfInBounds_toArray, List.set_cons_zero, List.set_cons_succ]
    refine hand_to (i := 5) (d := 13) (v := (.pointer (some ⟨w.heap.size, 1, none⟩))) rfl rfl (by kernel_rfl) (by kernel_rfl) (by kernel_rfl) (fun _ _ _ h => h) (Or.inl ⟨by rfl, ?_⟩) hHeld ?_
    · (intro w' hSw; obtain ⟨y0, y1, y2, y3, y4⟩ := hSw; go_simp)
    simp only [Act.put, List.setIfInBounds_toArray, List.set_cons_zero, List.set_cons_succ]
    refine hand_to (i := 6) (d := 14) (v := (.slice (some ⟨kb, ko, none⟩) ks.length kk)) rfl rfl (by kernel_rfl) (by kernel_rfl) (by kernel_rfl) (fun _ _ _ h => h) (Or.inl ⟨by rfl, ?_⟩) hHeld ?_
    · (intro w' hSw; obtain ⟨y0, y1, y2, y3, y4⟩ := hSw; go_simp)
    simp only [Act.put, List.setIfInBounds_toArray, List.set_cons_zero, List.set_cons_succ]
    refine hand_to (i := 7) (d := 15) (v := (.int .i64 (i : Int))) rfl rfl (by kernel_rfl) (by kernel_rfl) (by kernel_rfl) (fun _ _ _ h => h) (Or.inl ⟨by rfl, ?_⟩) hHeld ?_
    · (intro w' hSw; obtain ⟨y0, y1, y2, y3, y4⟩ := hSw; go_simp)
    simp only [Act.put, List.setIfInBounds_toArray, List.set_cons_zero, List.set_cons_succ]
    refine hand_to (i := 8) (d := 16) (v := (.int .i64 ((i : Int) + 1))) rfl rfl (by kernel_rfl) (by kernel_rfl) (by kernel_rfl) (fun _ _ _ h => h) (Or.inl ⟨by rfl, ?_⟩) hHeld ?_
    · (intro w' hSw; obtain ⟨y0, y1, y2, y3, y4⟩ := hSw; go_simp)
    simp only [Act.put, List.setIfInBounds_toArray, List.set_cons_zero, List.set_cons_succ]
    refine hand_to (i := 9) (d := 17) (v := (.pointer (some ⟨kb, ko + (i + 1) * 2, none⟩))) rfl rfl (by kernel_rfl) (by kernel_rfl) (by kernel_rfl) (fun _ _ _ h => h) (Or.inl ⟨by rfl, ?_⟩) hHeld ?_
    · (intro w' hSw; obtain ⟨y0, y1, y2, y3, y4⟩ := hSw; go_simp)
    simp only [Act.put, List.setIfInBounds_toArray, List.set_cons_zero, List.set_cons_succ]
    refine hand_to (i := 10) (d := 18) (v := (.agg #[.slice ria RI.length rik, .slice rka RK.length rkk])) rfl rfl (by kernel_rfl) (by kernel_rfl) (by kernel_rfl) (fun _ _ _ h => h) (Or.inl ⟨by rfl, ?_⟩) hHeld ?_
    · (intro w' hSw; obtain ⟨y0, y1, y2, y3, y4⟩ := hSw; go_simp)
    simp only [Act.put, List.setIfInBounds_toArray, List.set_cons_zero, List.set_cons_succ]
    refine wpAnyH_ready (rs := [11, 12]) (by kernel_rfl) (by simp) ?_
    refine (AllReadyH.cons rfl (fun K hK => ?_) (AllReadyH.cons rfl (fun K hK => ?_) AllReadyH.nil))
    · skip
      skip
      go_simp
      skip
      (go_wp2_with fail)
      obtain ⟨W11, hW⟩ : ∃ W11, W11 = WS.alloc (.cells #[.slice none 0 0, .slice none 0 0] 54) := ⟨_, rfl⟩
      obtain ⟨b5, hb⟩ : ∃ b5, b5 = WS.heap.size := ⟨_, rfl⟩
      rw [← hW, ← hb]
      have hbb : Below WS.heap.size WS W11 := by rw [hW]; exact (Below.refl _ _).alloc (Nat.le_refl _) _
      have H5 : Hid (NV W11 b5 (.slice none 0 0) (.slice none 0 0) ∧ W0.heap.size ≤ b5) := by
        have hz := (unhide HB).size
        exact ⟨(by rw [hW, hb]; exact NV.new _ _ _), by omega⟩
      replace HB := hide (below_tr (unhide HB) hbb)
      clear hbb hW hb
      refine hK.out _ _ (unhide HS1 W11 (unhide HB)) (fun hHeld2 => ?_)
      clear hK K hHeld
      have hHeld := hHeld2
      clear hHeld2
      try simp only [Act.put, List.setIfInBounds_toArray, List.set_cons_zero, List.set_cons_succ]
      refine wpAnyH_ready (rs := [12]) (by kernel_rfl) (by simp) ?_
      refine AllReadyH.cons rfl (fun K hK => ?_) AllReadyH.nil
      skip
      go_simp
      skip
      (go_wp2_with fail)
      obtain ⟨W12, hW⟩ : ∃ W12, W12 = W11.alloc (.cells #[.slice none 0 0, .slice none 0 0] 54) := ⟨_, rfl⟩
      obtain ⟨b6, hb⟩ : ∃ b6, b6 = W11.heap.size := ⟨_, rfl⟩
      rw [← hW, ← hb]
      have hbb : Below W11.heap.size W11 W12 := by rw [hW]; exact (Below.refl _ _).alloc (Nat.le_refl _) _
      have H6 : Hid (NV W12 b6 (.slice none 0 0) (.slice none 0 0) ∧ W0.heap.size ≤ b6 ∧ b6 ≠ b5) := by
        have hz := (unhide HB).size
        exact ⟨(by rw [hW, hb]; exact NV.new _ _ _), by omega, fun e => by have := blk_lt (unhide H5).1; omega⟩
      replace H5 := hide (And.intro ((unhide H5).1.below hbb) (unhide H5).2)
      replace HB := hide (below_tr (unhide HB) hbb)
      clear hbb hW hb
      refine hK.out _ _ (unhide HS1 W12 (unhide HB)) (fun hHeld2 => ?_)
      clear hK K hHeld
      have hHeld := hHeld2
      clear hHeld2
      try simp only [Act.put, List.setIfInBounds_toArray, List.set_cons_zero, List.set_cons_succ]
      refine wpAnyH_ready (rs := [13]) (by kernel_rfl) (by simp) ?_
      refine AllReadyH.cons rfl (fun K hK => ?_) AllReadyH.nil
      have HNE : Hid (b5 ≠ b6) := Ne.symm (unhide H6).2.2
      replace H6 := hide (And.intro (unhide H6).1 (unhide H6).2.1)
      obtain ⟨e0, e1, f0, f1⟩ := (unhide H5).1.cells
      go_simp
      skip
      (go_wp2_with fail)
      obtain ⟨W13, hW⟩ : ∃ W13, W13 = (W12.setCell ⟨b5, 0, none⟩ (.slice lia LI.length lik)).setCell ⟨b5, 1, none⟩ (.slice lka LK.length lkk) := ⟨_, rfl⟩
      rw [← hW]
      have hz := (unhide H5).2
      replace H5 : Hid (NV W13 b5 (.slice lia LI.length lik) (.slice lka LK.length lkk) ∧ W0.heap.size ≤ b5) := by rw [hW]; exact ⟨set2_at (unhide H5).1, hz⟩
      replace H6 : Hid (NV W13 b6 (.slice none 0 0) (.slice none 0 0) ∧ W0.heap.size ≤ b6) := by rw [hW]; exact ⟨(set2_ne (Ne.symm (unhide HNE))).trans (unhide H6).1, (unhide H6).2⟩
      replace HB : Hid (Below W0.heap.size W0 W13) := by rw [hW]; exact set2_below (unhide HB) hz
      clear hW hz e0 e1 f0 f1
      refine hK.out _ _ (unhide HS1 W13 (unhide HB)) (fun hHeld2 => ?_)
      clear hK K hHeld
      have hHeld := hHeld2
      clear hHeld2
      try simp only [Act.put, List.setIfInBounds_toArray, List.set_cons_zero, List.set_cons_succ]
      refine wpAnyH_ready (rs := [14]) (by kernel_rfl) (by simp) ?_
      refine AllReadyH.cons rfl (fun K hK => ?_) AllReadyH.nil
      obtain ⟨e0, e1, f0, f1⟩ := (unhide H6).1.cells
      go_simp
      skip
      (go_wp2_with fail)
      obtain ⟨W14, hW⟩ : ∃ W14, W14 = (W13.setCell ⟨b6, 0, none⟩ (.slice ria RI.length rik)).setCell ⟨b6, 1, none⟩ (.slice rka RK.length rkk) := ⟨_, rfl⟩
      rw [← hW]
      have hz := (unhide H6).2
      replace H6 : Hid (NV W14 b6 (.slice ria RI.length rik) (.slice rka RK.length rkk) ∧ W0.heap.size ≤ b6) := by rw [hW]; exact ⟨set2_at (unhide H6).1, hz⟩
      replace H5 : Hid (NV W14 b5 (.slice lia LI.length lik) (.slice lka LK.length lkk) ∧ W0.heap.size ≤ b5) := by rw [hW]; exact ⟨(set2_ne (unhide HNE)).trans (unhide H5).1, (unhide H5).2⟩
      replace HB : Hid (Below W0.heap.size W0 W14) := by rw [hW]; exact set2_below (unhide HB) hz
      clear hW hz e0 e1 f0 f1
      refine hK.out _ _ (unhide HS1 W14 (unhide HB)) (fun hHeld2 => ?_)
      clear hK K hHeld
      have hHeld := hHeld2
      clear hHeld2
      try simp only [Act.put, List.setIfInBounds_toArray, List.set_cons_zero, List.set_cons_succ]
      refine wpAnyH_done (by kernel_rfl) ?_ _
      go_wp2_with fail
      go_meet
      exact ⟨b5, b6, rfl, rfl, (unhide H5).1, (unhide H6).1, (unhide H5).2, (unhide H6).2, unhide HB⟩
    · skip
      skip
      go_simp
      skip
      (go_wp2_with fail)
      obtain ⟨W12, hW⟩ : ∃ W12, W12 = WS.alloc (.cells #[.slice none 0 0, .slice none 0 0] 54) := ⟨_, rfl⟩
      obtain ⟨b6, hb⟩ : ∃ b6, b6 = WS.heap.size := ⟨_, rfl⟩
      rw [← hW, ← hb]
      have hbb : Below WS.heap.size WS W12 := by rw [hW]; exact (Below.refl _ _).alloc (Nat.le_refl _) _
      have H6 : Hid (NV W12 b6 (.slice none 0 0) (.slice none 0 0) ∧ W0.heap.size ≤ b6) := by
        have hz := (unhide HB).size
        exact ⟨(by rw [hW, hb]; exact NV.new _ _ _), by omega⟩
      replace HB := hide (below_tr (unhide HB) hbb)
      clear hbb hW hb
      refine hK.out _ _ (unhide HS1 W12 (unhide HB)) (fun hHeld2 => ?_)
      clear hK K hHeld
      have hHeld := hHeld2
      clear hHeld2
      try simp only [Act.put, List.setIfInBounds_toArray, List.set_cons_zero, List.set_cons_succ]
      refine wpAnyH_ready (rs := [11]) (by kernel_rfl) (by simp) ?_
      refine AllReadyH.cons rfl (fun K hK => ?_) AllReadyH.nil
      skip
      go_simp
      skip
      (go_wp2_with fail)
      obtain ⟨W11, hW⟩ : ∃ W11, W11 = W12.alloc (.cells #[.slice none 0 0, .slice none 0 0] 54) := ⟨_, rfl⟩
      obtain ⟨b5, hb⟩ : ∃ b5, b5 = W12.heap.size := ⟨_, rfl⟩
      rw [← hW, ← hb]
      have hbb : Below W12.heap.size W12 W11 := by rw [hW]; exact (Below.refl _ _).alloc (Nat.le_refl _) _
      have H5 : Hid (NV W11 b5 (.slice none 0 0) (.slice none 0 0) ∧ W0.heap.size ≤ b5 ∧ b5 ≠ b6) := by
        have hz := (unhide HB).size
        exact ⟨(by rw [hW, hb]; exact NV.new _ _ _), by omega, fun e => by have := blk_lt (unhide H6).1; omega⟩
      replace H6 := hide (And.intro ((unhide H6).1.below hbb) (unhide H6).2)
      replace HB := hide (below_tr (unhide HB) hbb)
      clear hbb hW hb
      refine hK.out _ _ (unhide HS1 W11 (unhide HB)) (fun hHeld2 => ?_)
      clear hK K hHeld
      have hHeld := hHeld2
      clear hHeld2
      try simp only [Act.put, List.setIfInBounds_toArray, List.set_cons_zero, List.set_cons_succ]
      refine wpAnyH_ready (rs := [13]) (by kernel_rfl) (by simp) ?_
      refine AllReadyH.cons rfl (fun K hK => ?_) AllReadyH.nil
      have HNE : Hid (b5 ≠ b6) := (unhide H5).2.2
      replace H5 := hide (And.intro (unhide H5).1 (unhide H5).2.1)
      obtain ⟨e0, e1, f0, f1⟩ := (unhide H5).1.cells
      go_simp
      skip
      (go_wp2_with fail)
      obtain ⟨W13, hW⟩ : ∃ W13, W13 = (W11.setCell ⟨b5, 0, none⟩ (.slice lia LI.length lik)).setCell ⟨b5, 1, none⟩ (.slice lka LK.length lkk) := ⟨_, rfl⟩
      rw [← hW]
      have hz := (unhide H5).2
      replace H5 : Hid (NV W13 b5 (.slice lia LI.length lik) (.slice lka LK.length lkk) ∧ W0.heap.size ≤ b5) := by rw [hW]; exact ⟨set2_at (unhide H5).1, hz⟩
      replace H6 : Hid (NV W13 b6 (.slice none 0 0) (.slice none 0 0) ∧ W0.heap.size ≤ b6) := by rw [hW]; exact ⟨(set2_ne (Ne.symm (unhide HNE))).trans (unhide H6).1, (unhide H6).2⟩
      replace HB : Hid (Below W0.heap.size W0 W13) := by rw [hW]; exact set2_below (unhide HB) hz
      clear hW hz e0 e1 f0 f1
      refine hK.out _ _ (unhide HS1 W13 (unhide HB)) (fun hHeld2 => ?_)
      clear hK K hHeld
      have hHeld := hHeld2
      clear hHeld2
      try simp only [Act.put, List.setIfInBounds_toArray, List.set_cons_zero, List.set_cons_succ]
      refine wpAnyH_ready (rs := [14]) (by kernel_rfl) (by simp) ?_
      refine AllReadyH.cons rfl (fun K hK => ?_) AllReadyH.nil
      obtain ⟨e0, e1, f0, f1⟩ := (unhide H6).1.cells
      go_simp
      skip
      (go_wp2_with fail)
      obtain ⟨W14, hW⟩ : ∃ W14, W14 = (W13.setCell ⟨b6, 0, none⟩ (.slice ria RI.length rik)).setCell ⟨b6, 1, none⟩ (.slice rka RK.length rkk) := ⟨_, rfl⟩
      rw [← hW]
      have hz := (unhide H6).2
      replace H6 : Hid (NV W14 b6 (.slice ria RI.length rik) (.slice rka RK.length rkk) ∧ W0.heap.size ≤ b6) := by rw [hW]; exact ⟨set2_at (unhide H6).1, hz⟩
      replace H5 : Hid (NV W14 b5 (.slice lia LI.length lik) (.slice lka LK.length lkk) ∧ W0.heap.size ≤ b5) := by rw [hW]; exact ⟨(set2_ne (unhide HNE)).trans (unhide H5).1, (unhide H5).2⟩
      replace HB : Hid (Below W0.heap.size W0 W14) := by rw [hW]; exact set2_below (unhide HB) hz
      clear hW hz e0 e1 f0 f1
      refine hK.out _ _ (unhide HS1 W14 (unhide HB)) (fun hHeld2 => ?_)
      clear hK K hHeld
      have hHeld := hHeld2
      clear hHeld2
      try simp only [Act.put, List.setIfInBounds_toArray, List.set_cons_zero, List.set_cons_succ]
      refine wpAnyH_done (by kernel_rfl) ?_ _
      go_wp2_with fail
      go_meet
      exact ⟨b5, b6, rfl, rfl, (unhide H5).1, (unhide H6).1, (unhide H5).2, (unhide H6).2, unhide HB⟩
  case rest =>
    generalize wc = wa at *
    obtain ⟨b5, b6, rfl, rfl, HV⟩ := hcut
    replace H2 := hide ((unhide H2).below (unhide HV).2.2.2.2)
    replace H4 := hide ((unhide H4).below (unhide HV).2.2.2.2)
    have HBc : Hid (Below w.heap.size w wa) := below_tr (unhide HB0) (unhide HV).2.2.2.2
    have HS2 : Hid (∀ W : World, Below wa.heap.size wa W → W.cell? ⟨b5, 0, none⟩ = some (.slice lia LI.length lik) ∧ W.cell? ⟨b5, 1, none⟩ = some (.slice lka LK.length lkk) ∧ W.cell? ⟨w.heap.size, 0, none⟩ = some (.slice ia I.length ik) ∧ W.cell? ⟨b6, 0, none⟩ = some (.slice ria RI.length rik) ∧ W.cell? ⟨b6, 1, none⟩ = some (.slice rka RK.length rkk)) := fun W hW => ⟨((unhide HV).1.below hW).cells.1, ((unhide HV).1.below hW).cells.2.1, ((unhide H2).below hW).cells.1, ((unhide HV).2.1.below hW).cells.1, ((unhide HV).2.1.below hW).cells.2.1⟩
    obtain ⟨p1, k1, hX1⟩ : ∃ p1 k1, cutV ia i (i + 1) ik = .slice p1 1 k1 := ⟨_, _, by unfold cutV; rw [Nat.add_sub_cancel_left]⟩
    have HX1 := hide hX1
    have hI1 := (unhide HA).1.cut (i := i) (j := i + 1) (by omega) (by have := unhide HI; omega)
    rw [hX1] at hI1
    have e1 : (I.take (i + 1)).drop i = (I.drop i).take 1 := by rw [List.drop_take]; congr 1; omega
    rw [e1] at hI1
    have HR1 := hide hI1
    have hii1 : (i : Int) ≤ (i : Int) + 1 := by omega
    have hii2 : (i : Int) + 1 ≤ (ik : Int) := by have := unhide HI; omega
    have HC30 : Hid (∀ (W : World) (c : Nat), Below w.heap.size w W → W.heap[c]? = some (.cells #[.slice lia LI.length lik, .slice p1 1 k1, .slice ria RI.length rik] 51 (0, 0)) → Calls Tryz.prog 51 #[.slice (some ⟨c, 0, none⟩) 3 3] W fun e w' => ∃ a n k, e = .returned (.slice a n k) ∧ RN w' W.heap.size (.slice a n k) (LI ++ (I.drop i).take 1 ++ RI) ∧ Below W.heap.size W w') := by
      intro W c hb hc
      obtain ⟨_, _, a3, _, a5, _⟩ := unhide HA
      obtain ⟨m1, m2, m3, m4, m5, m6⟩ := unhide HN
      refine (concat_item c 3 [(.slice lia LI.length lik, LI), (.slice p1 1 k1, (I.drop i).take 1), (.slice ria RI.length rik, RI)] W rfl (Nat.le_refl _) (fun n y hy => ?_) (blk_lt hc) (fun y hy => ?_) ?_).mono ?_
      · match n, hy with
        | 0, hy => cases hy; exact cellB2 hc _
        | 1, hy => cases hy; exact cellB2 hc _
        | 2, hy => cases hy; exact cellB2 hc _
        | n + 3, hy => simp at hy
      · simp only [List.mem_cons, List.not_mem_nil, or_false] at hy
        rcases hy with rfl | rfl | rfl
        · exact a3.below hb
        · exact (unhide HR1).below hb
        · exact a5.below hb
      · simp [joinR]; omega
      · rintro e w' ⟨v, rfl, q1, q2⟩
        obtain ⟨a, k, rfl, _, _⟩ := id q1.1.slice
        exact ⟨a, _, k, rfl, by simpa [joinR] using q1, q2⟩
    have HC36 : Hid (∀ (W : World) (c : Nat), Below w.heap.size w W → W.heap[c]? = some (.cells #[.slice lka LK.length lkk, .slice rka RK.length rkk] 52 (0, 0)) → Calls Tryz.prog 65 #[.slice (some ⟨c, 0, none⟩) 2 2] W fun e w' => ∃ a n k, e = .returned (.slice a n k) ∧ RN w' W.heap.size (.slice a n k) (LK ++ RK) ∧ Below W.heap.size W w') := by
      intro W c hb hc
      obtain ⟨_, _, _, a4, _, a6⟩ := unhide HA
      obtain ⟨m1, m2, m3, m4, m5, m6⟩ := unhide HN
      refine (concat_node c 2 [(.slice lka LK.length lkk, LK), (.slice rka RK.length rkk, RK)] W rfl (by decide) (fun n y hy => ?_) (blk_lt hc) (fun y hy => ?_) ?_).mono ?_
      · match n, hy with
        | 0, hy => cases hy; exact cellB2 hc _
        | 1, hy => cases hy; exact cellB2 hc _
        | n + 2, hy => simp at hy
      · simp only [List.mem_cons, List.not_mem_nil, or_false] at hy
        rcases hy with rfl | rfl
        · exact a4.below hb
        · exact a6.below hb
      · simp [joinR]; omega
      · rintro e w' ⟨v, rfl, q1, q2⟩
        obtain ⟨a, k, rfl, _, _⟩ := id q1.1.slice
        exact ⟨a, _, k, rfl, by simpa [joinR] using q1, q2⟩
    clear hX1 hI1 e1 HS1
    go_upto_region 2 with fail
    go_cut [7] from 19 to 37 (fun s7 wx => ∃ (b7 jn jc kn kc : Nat) (ja kA : Option Addr), s7 = .pointer (some ⟨b7, 0, none⟩) ∧ Hid (NV wx b7 (.slice ja jn jc) (.slice kA kn kc) ∧ RN wx wa.heap.size (.slice ja jn jc) (LI ++ (I.drop i).take 1 ++ RI) ∧ RN wx wa.heap.size (.slice kA kn kc) (LK ++ RK) ∧ wa.heap.size ≤ b7 ∧ Below wa.heap.size wa wx))
    case first =>
      refine wp_region_held_drew (S := fun w' => w'.cell? ⟨b5, 0, none⟩ = some (.slice lia LI.length lik) ∧ w'.cell? ⟨b5, 1, none⟩ = some (.slice lka LK.length lkk) ∧ w'.cell? ⟨w.heap.size, 0, none⟩ = some (.slice ia I.length ik) ∧ w'.cell? ⟨b6, 0, none⟩ = some (.slice ria RI.length rik) ∧ w'.cell? ⟨b6, 1, none⟩ = some (.slice rka RK.length rkk)) (by kernel_rfl) (unhide HS2 _ (Below.refl _ _).drew) (fun hHeld => ?_)
      obtain ⟨WS, hWS⟩ : ∃ WS, WS = wa.drew := ⟨_, rfl⟩
      rw [← hWS] at hHeld ⊢
      have HB : Hid (Below wa.heap.size wa WS) := by rw [hWS]; exact (Below.refl _ _).drew
      clear hWS
      refine hand_to (i := 0) (d := 19) (v := (.pointer (some ⟨b5, 0, none⟩))) rfl rfl (by kernel_rfl) (by kernel_rfl) (by kernel_rfl) (fun _ _ _ h => h) (Or.inl ⟨by rfl, ?_⟩) hHeld ?_
      · (intro w' hSw; obtain ⟨y0, y1, y2, y3, y4⟩ := hSw; go_simp)
      simp only [Act.put, List.setIfInBounds_toArray, List.set_cons_zero, List.set_cons_succ]
      refine hand_to (i := 1) (d := 20) (v := (.slice lia LI.length lik)) rfl rfl (by kernel_rfl) (by kernel_rfl) (by kernel_rfl) (fun _ _ _ h => h) (Or.inl ⟨by rfl, ?_⟩) hHeld ?_
      · (intro w' hSw; obtain ⟨y0, y1, y2, y3, y4⟩ := hSw; go_simp)
      simp only [Act.put, List.setIfInBounds_toArray, List.set_cons_zero, List.set_cons_succ]
      refine hand_to (i := 2) (d := 21) (v := (.pointer (some ⟨w.heap.size, 0, none⟩))) rfl rfl (by kernel_rfl) (by kernel_rfl) (by kernel_rfl) (fun _ _ _ h => h) (Or.inl ⟨by rfl, ?_⟩) hHeld ?_
      · (intro w' hSw; obtain ⟨y0, y1, y2, y3, y4⟩ := hSw; go_simp)
      simp only [Act.put, List.setIfInBounds_toArray, List.set_cons_zero, List.set_cons_succ]
      refine hand_to (i := 3) (d := 22) (v := (.slice ia I.length ik)) rfl rfl (by kernel_rfl) (by kernel_rfl) (by kernel_rfl) (fun _ _ _ h => h) (Or.inl ⟨by rfl, ?_⟩) hHeld ?_
      · (intro w' hSw; obtain ⟨y0, y1, y2, y3, y4⟩ := hSw; go_simp)
      simp only [Act.put, List.setIfInBounds_toArray, List.set_cons_zero, List.set_cons_succ]
      refine hand_to (i := 4) (d := 23) (v := (.int .i64 (i : Int))) rfl rfl (by kernel_rfl) (by kernel_rfl) (by kernel_rfl) (fun _ _ _ h => h) (Or.inl ⟨by rfl, ?_⟩) hHeld ?_
      · (intro w' hSw; obtain ⟨y0, y1, y2, y3, y4⟩ := hSw; go_simp)
      simp only [Act.put, List.setIfInBounds_toArray, List.set_cons_zero, List.set_cons_succ]
      refine hand_to (i := 5) (d := 24) (v := (.int .i64 (i : Int))) rfl rfl (by kernel_rfl) (by kernel_rfl) (by kernel_rfl) (fun _ _ _ h => h) (Or.inl ⟨by rfl, ?_⟩) hHeld ?_
      · (intro w' hSw; obtain ⟨y0, y1, y2, y3, y4⟩ := hSw; go_simp)
      simp only [Act.put, List.setIfInBounds_toArray, List.set_cons_zero, List.set_cons_succ]
      refine hand_to (i := 6) (d := 25) (v := (.int .i64 ((i : Int) + 1))) rfl rfl (by kernel_rfl) (by kernel_rfl) (by kernel_rfl) (fun _ _ _ h => h) (Or.inl ⟨by rfl, ?_⟩) hHeld ?_
      · (intro w' hSw; obtain ⟨y0, y1, y2, y3, y4⟩ := hSw; go_simp)
      simp only [Act.put, List.setIfInBounds_toArray, List.set_cons_zero, List.set_cons_succ]
      refine hand_to (i := 7) (d := 26) (v := (.slice p1 1 k1)) rfl rfl (by kernel_rfl) (by kernel_rfl) (by kernel_rfl) (fun _ _ _ h => h) (Or.inl ⟨by rfl, ?_⟩) hHeld ?_
      · (intro w' hSw; obtain ⟨y0, y1, y2, y3, y4⟩ := hSw; (rw [← unhide HX1]; unfold cutV; go_simp))
      simp only [Act.put, List.setIfInBounds_toArray, List.set_cons_zero, List.set_cons_succ]
      refine hand_to (i := 8) (d := 27) (v := (.pointer (some ⟨b6, 0, none⟩))) rfl rfl (by kernel_rfl) (by kernel_rfl) (by kernel_rfl) (fun _ _ _ h => h) (Or.inl ⟨by rfl, ?_⟩) hHeld ?_
      · (intro w' hSw; obtain ⟨y0, y1, y2, y3, y4⟩ := hSw; go_simp)
      simp only [Act.put, List.setIfInBounds_toArray, List.set_cons_zero, List.set_cons_succ]
      refine hand_to (i := 9) (d := 28) (v := (.slice ria RI.length rik)) rfl rfl (by kernel_rfl) (by kernel_rfl) (by kernel_rfl) (fun _ _ _ h => h) (Or.inl ⟨by rfl, ?_⟩) hHeld ?_
      · (intro w' hSw; obtain ⟨y0, y1, y2, y3, y4⟩ := hSw; go_simp)
      simp only [Act.put, List.setIfInBounds_toArray, List.set_cons_zero, List.set_cons_succ]
      refine hand_to (i := 12) (d := 31) (v := (.pointer (some ⟨b5, 1, none⟩))) rfl rfl (by kernel_rfl) (by kernel_rfl) (by kernel_rfl) (fun _ _ _ h => h) (Or.inl ⟨by rfl, ?_⟩) hHeld ?_
      · (intro w' hSw; obtain ⟨y0, y1, y2, y3, y4⟩ := hSw; go_simp)
      simp only [Act.put, List.setIfInBounds_toArray, List.set_cons_zero, List.set_cons_succ]
      refine hand_to (i := 13) (d := 32) (v := (.slice lka LK.length lkk)) rfl rfl (by kernel_rfl) (by kernel_rfl) (by kernel_rfl) (fun _ _ _ h => h) (Or.inl ⟨by rfl, ?_⟩) hHeld ?_
      · (intro w' hSw; obtain ⟨y0, y1, y2, y3, y4⟩ := hSw; go_simp)
      simp only [Act.put, List.setIfInBounds_toArray, List.set_cons_zero, List.set_cons_succ]
      refine hand_to (i := 14) (d := 33) (v := (.pointer (some ⟨b6, 1, none⟩))) rfl rfl (by kernel_rfl) (by kernel_rfl) (by kernel_rfl) (fun _ _ _ h => h) (Or.inl ⟨by rfl, ?_⟩) hHeld ?_
      · (intro w' hSw; obtain ⟨y0, y1, y2, y3, y4⟩ := hSw; go_simp)
      simp only [Act.put, List.setIfInBounds_toArray, List.set_cons_zero, List.set_cons_succ]
      refine hand_to (i := 15) (d := 34) (v := (.slice rka RK.length rkk)) rfl rfl (by kernel_rfl) (by kernel_rfl) (by kernel_rfl) (fun _ _ _ h => h) (Or.inl ⟨by rfl, ?_⟩) hHeld ?_
      · (intro w' hSw; obtain ⟨y0, y1, y2, y3, y4⟩ := hSw; go_simp)
      simp only [Act.put, List.setIfInBounds_toArray, List.set_cons_zero, List.set_cons_succ]
      refine wpAnyH_ready (rs := [10, 16, 19]) (by kernel_rfl) (by simp) ?_
      refine (AllReadyH.cons rfl (fun K hK => ?_) (AllReadyH.cons rfl (fun K hK => ?_) (AllReadyH.cons rfl (fun K hK => ?_) AllReadyH.nil)))
      · skip
        skip
        go_simp
        skip
        (go_wp2_with fail)
        obtain ⟨W10, hW⟩ : ∃ W10, W10 = WS.alloc (.cells #[.slice lia LI.length lik, .slice p1 1 k1, .slice ria RI.length rik] 51) := ⟨_, rfl⟩
        obtain ⟨c29, hb⟩ : ∃ c29, c29 = WS.heap.size := ⟨_, rfl⟩
        rw [← hW, ← hb]
        have hbb : Below WS.heap.size WS W10 := by rw [hW]; exact (Below.refl _ _).alloc (Nat.le_refl _) _
        have H29 : Hid (W10.heap[c29]? = some (.cells #[.slice lia LI.length lik, .slice p1 1 k1, .slice ria RI.length rik] 51 (0, 0))) := by rw [hW, hb]; exact heap_alloc_new _ _
        replace HB := hide (below_tr (unhide HB) hbb)
        clear hbb hW hb
        refine hK.out _ _ (unhide HS2 W10 (unhide HB)) (fun hHeld2 => ?_)
        clear hK K hHeld
        have hHeld := hHeld2
        clear hHeld2
        try simp only [Act.put, List.setIfInBounds_toArray, List.set_cons_zero, List.set_cons_succ]
        refine wpAnyH_ready (rs := [11, 16, 19]) (by kernel_rfl) (by simp) ?_
        refine (AllReadyH.cons rfl (fun K hK => ?_) (AllReadyH.cons rfl (fun K hK => ?_) (AllReadyH.cons rfl (fun K hK => ?_) AllReadyH.nil)))
        · skip
          skip
          go_simp
          (go_at_call 51; refine (unhide HC30 W10 c29 (below_tr (unhide HBc) (unhide HB)) (unhide H29)).mono ?_; rintro e W11 ⟨a30, n30, k30, rfl, q1, hbb⟩)
          (go_wp2_with fail)
          replace H29 := hide (blk_below (unhide H29) hbb)
          have H30 : Hid (RN W11 wa.heap.size (.slice a30 n30 k30) _) := ⟨q1.1, fun g hg => Nat.le_trans (unhide HB).size (q1.2 g hg)⟩
          replace HB := hide (below_tr (unhide HB) hbb)
          clear hbb q1
          refine hK.out _ _ (unhide HS2 W11 (unhide HB)) (fun hHeld2 => ?_)
          clear hK K hHeld
          have hHeld := hHeld2
          clear hHeld2
          try simp only [Act.put, List.setIfInBounds_toArray, List.set_cons_zero, List.set_cons_succ]
          refine wpAnyH_ready (rs := [16, 19]) (by kernel_rfl) (by simp) ?_
          refine (AllReadyH.cons rfl (fun K hK => ?_) (AllReadyH.cons rfl (fun K hK => ?_) AllReadyH.nil))
          · skip
            skip
            go_simp
            skip
            (go_wp2_with fail)
            obtain ⟨W16, hW⟩ : ∃ W16, W16 = W11.alloc (.cells #[.slice lka LK.length lkk, .slice rka RK.length rkk] 52) := ⟨_, rfl⟩
            obtain ⟨c35, hb⟩ : ∃ c35, c35 = W11.heap.size := ⟨_, rfl⟩
            rw [← hW, ← hb]
            have hbb : Below W11.heap.size W11 W16 := by rw [hW]; exact (Below.refl _ _).alloc (Nat.le_refl _) _
            replace H29 := hide (blk_below (unhide H29) hbb)
            replace H30 := hide ((unhide H30).below hbb)
            have H35 : Hid (W16.heap[c35]? = some (.cells #[.slice lka LK.length lkk, .slice rka RK.length rkk] 52 (0, 0))) := by rw [hW, hb]; exact heap_alloc_new _ _
            replace HB := hide (below_tr (unhide HB) hbb)
            clear hbb hW hb
            refine hK.out _ _ (unhide HS2 W16 (unhide HB)) (fun hHeld2 => ?_)
            clear hK K hHeld
            have hHeld := hHeld2
            clear hHeld2
            try simp only [Act.put, List.setIfInBounds_toArray, List.set_cons_zero, List.set_cons_succ]
            refine wpAnyH_ready (rs := [17, 19]) (by kernel_rfl) (by simp) ?_
            refine (AllReadyH.cons rfl (fun K hK => ?_) (AllReadyH.cons rfl (fun K hK => ?_) AllReadyH.nil))
            · skip
              skip
              go_simp
              (go_at_call 65; refine (unhide HC36 W16 c35 (below_tr (unhide HBc) (unhide HB)) (unhide H35)).mono ?_; rintro e W17 ⟨a36, n36, k36, rfl, q1, hbb⟩)
              (go_wp2_with fail)
              replace H29 := hide (blk_below (unhide H29) hbb)
              replace H30 := hide ((unhide H30).below hbb)
              replace H35 := hide (blk_below (unhide H35) hbb)
              have H36 : Hid (RN W17 wa.heap.size (.slice a36 n36 k36) _) := ⟨q1.1, fun g hg => Nat.le_trans (unhide HB).size (q1.2 g hg)⟩
              replace HB := hide (below_tr (unhide HB) hbb)
              clear hbb q1
              refine hK.out _ _ (unhide HS2 W17 (unhide HB)) (fun hHeld2 => ?_)
              clear hK K hHeld
              have hHeld := hHeld2
              clear hHeld2
              try simp only [Act.put, List.setIfInBounds_toArray, List.set_cons_zero, List.set_cons_succ]
              refine hand_to (i := 18) (d := 37) (v := (.agg #[.slice a30 n30 k30, .slice a36 n36 k36])) rfl rfl (by kernel_rfl) (by kernel_rfl) (by kernel_rfl) (fun _ _ _ h => h) (Or.inl ⟨by rfl, ?_⟩) hHeld ?_
              · (intro w' hSw; obtain ⟨y0, y1, y2, y3, y4⟩ := hSw; go_simp)
              simp only [Act.put, List.setIfInBounds_toArray, List.set_cons_zero, List.set_cons_succ]
              refine wpAnyH_ready (rs := [19]) (by kernel_rfl) (by simp) ?_
              refine AllReadyH.cons rfl (fun K hK => ?_) AllReadyH.nil
              skip
              go_simp
              skip
              (go_wp2_with fail)
              obtain ⟨W19, hW⟩ : ∃ W19, W19 = W17.alloc (.cells #[.slice none 0 0, .slice none 0 0] 54) := ⟨_, rfl⟩
              obtain ⟨b7, hb⟩ : ∃ b7, b7 = W17.heap.size := ⟨_, rfl⟩
              rw [← hW, ← hb]
              have hbb : Below W17.heap.size W17 W19 := by rw [hW]; exact (Below.refl _ _).alloc (Nat.le_refl _) _
              have HN30 : Hid (∀ g, inB2 (.slice a30 n30 k30) g → g ≠ b7) := fun g hg => by have h1 := (unhide H30).1.lt g hg; omega
              have HN36 : Hid (∀ g, inB2 (.slice a36 n36 k36) g → g ≠ b7) := fun g hg => by have h1 := (unhide H36).1.lt g hg; omega
              replace H29 := hide (blk_below (unhide H29) hbb)
              replace H30 := hide ((unhide H30).below hbb)
              replace H35 := hide (blk_below (unhide H35) hbb)
              replace H36 := hide ((unhide H36).below hbb)
              have H7 : Hid (NV W19 b7 (.slice none 0 0) (.slice none 0 0) ∧ wa.heap.size ≤ b7) := by
                have hz := (unhide HB).size
                exact ⟨(by rw [hW, hb]; exact NV.new _ _ _), by omega⟩
              replace HB := hide (below_tr (unhide HB) hbb)
              clear hbb hW hb
              refine hK.out _ _ (unhide HS2 W19 (unhide HB)) (fun hHeld2 => ?_)
              clear hK K hHeld
              have hHeld := hHeld2
              clear hHeld2
              try simp only [Act.put, List.setIfInBounds_toArray, List.set_cons_zero, List.set_cons_succ]
              refine wpAnyH_ready (rs := [20]) (by kernel_rfl) (by simp) ?_
              refine AllReadyH.cons rfl (fun K hK => ?_) AllReadyH.nil
              obtain ⟨e0, e1, f0, f1⟩ := (unhide H7).1.cells
              go_simp
              skip
              (go_wp2_with fail)
              obtain ⟨W20, hW⟩ : ∃ W20, W20 = (W19.setCell ⟨b7, 0, none⟩ (.slice a30 n30 k30)).setCell ⟨b7, 1, none⟩ (.slice a36 n36 k36) := ⟨_, rfl⟩
              rw [← hW]
              have hz := (unhide H7).2
              replace H7 : Hid (NV W20 b7 (.slice a30 n30 k30) (.slice a36 n36 k36) ∧ wa.heap.size ≤ b7) := by rw [hW]; exact ⟨set2_at (unhide H7).1, hz⟩
              replace H30 : Hid (RN W20 wa.heap.size (.slice a30 n30 k30) (LI ++ (I.drop i).take 1 ++ RI)) := by rw [hW]; exact ⟨(unhide H30).1.keep (by simp) (fun g hg => set2_ne (unhide HN30 g hg)), (unhide H30).2⟩
              replace H36 : Hid (RN W20 wa.heap.size (.slice a36 n36 k36) (LK ++ RK)) := by rw [hW]; exact ⟨(unhide H36).1.keep (by simp) (fun g hg => set2_ne (unhide HN36 g hg)), (unhide H36).2⟩
              replace HB : Hid (Below wa.heap.size wa W20) := by rw [hW]; exact set2_below (unhide HB) hz
              clear hW hz e0 e1 f0 f1
              refine hK.out _ _ (unhide HS2 W20 (unhide HB)) (fun hHeld2 => ?_)
              clear hK K hHeld
              have hHeld := hHeld2
              clear hHeld2
              try simp only [Act.put, List.setIfInBounds_toArray, List.set_cons_zero, List.set_cons_succ]
              refine wpAnyH_done (by kernel_rfl) ?_ _
              go_wp2_with fail
              go_meet
              exact ⟨b7, n30, k30, n36, k36, a30, a36, rfl, (unhide H7).1, unhide H30, unhide H36, (unhide H7).2, unhide HB⟩
            · skip
              skip
              go_simp
              skip
              (go_wp2_with fail)
              obtain ⟨W19, hW⟩ : ∃ W19, W19 = W16.alloc (.cells #[.slice none 0 0, .slice none 0 0] 54) := ⟨_, rfl⟩
              obtain ⟨b7, hb⟩ : ∃ b7, b7 = W16.heap.size := ⟨_, rfl⟩
              rw [← hW, ← hb]
              have hbb : Below W16.heap.size W16 W19 := by rw [hW]; exact (Below.refl _ _).alloc (Nat.le_refl _) _
              have HN30 : Hid (∀ g, inB2 (.slice a30 n30 k30) g → g ≠ b7) := fun g hg => by have h1 := (unhide H30).1.lt g hg; omega
              replace H29 := hide (blk_below (unhide H29) hbb)
              replace H30 := hide ((unhide H30).below hbb)
              replace H35 := hide (blk_below (unhide H35) hbb)
              have H7 : Hid (NV W19 b7 (.slice none 0 0) (.slice none 0 0) ∧ wa.heap.size ≤ b7) := by
                have hz := (unhide HB).size
                exact ⟨(by rw [hW, hb]; exact NV.new _ _ _), by omega⟩
              replace HB := hide (below_tr (unhide HB) hbb)
              clear hbb hW hb
              refine hK.out _ _ (unhide HS2 W19 (unhide HB)) (fun hHeld2 => ?_)
              clear hK K hHeld
              have hHeld := hHeld2
              clear hHeld2
              try simp only [Act.put, List.setIfInBounds_toArray, List.set_cons_zero, List.set_cons_succ]
              refine wpAnyH_ready (rs := [17]) (by kernel_rfl) (by simp) ?_
              refine AllReadyH.cons rfl (fun K hK => ?_) AllReadyH.nil
              skip
              go_simp
              (go_at_call 65; refine (unhide HC36 W19 c35 (below_tr (unhide HBc) (unhide HB)) (unhide H35)).mono ?_; rintro e W17 ⟨a36, n36, k36, rfl, q1, hbb⟩)
              (go_wp2_with fail)
              have HN36 : Hid (∀ g, inB2 (.slice a36 n36 k36) g → g ≠ b7) := fun g hg => by have h1 := q1.2 g hg; have h2 := blk_lt (unhide H7).1; omega
              replace H29 := hide (blk_below (unhide H29) hbb)
              replace H30 := hide ((unhide H30).below hbb)
              replace H35 := hide (blk_below (unhide H35) hbb)
              replace H7 := hide (And.intro ((unhide H7).1.below hbb) (unhide H7).2)
              have H36 : Hid (RN W17 wa.heap.size (.slice a36 n36 k36) _) := ⟨q1.1, fun g hg => Nat.le_trans (unhide HB).size (q1.2 g hg)⟩
              replace HB := hide (below_tr (unhide HB) hbb)
              clear hbb q1
              refine hK.out _ _ (unhide HS2 W17 (unhide HB)) (fun hHeld2 => ?_)
              clear hK K hHeld
              have hHeld := hHeld2
              clear hHeld2
              try simp only [Act.put, List.setIfInBounds_toArray, List.set_cons_zero, List.set_cons_succ]
              refine hand_to (i := 18) (d := 37) (v := (.agg #[.slice a30 n30 k30, .slice a36 n36 k36])) rfl rfl (by kernel_rfl) (by kernel_rfl) (by kernel_rfl) (fun _ _ _ h => h) (Or.inl ⟨by rfl, ?_⟩) hHeld ?_
              · (intro w' hSw; obtain ⟨y0, y1, y2, y3, y4⟩ := hSw; go_simp)
              simp only [Act.put, List.setIfInBounds_toArray, List.set_cons_zero, List.set_cons_succ]
              refine wpAnyH_ready (rs := [20]) (by kernel_rfl) (by simp) ?_
              refine AllReadyH.cons rfl (fun K hK => ?_) AllReadyH.nil
              obtain ⟨e0, e1, f0, f1⟩ := (unhide H7).1.cells
              go_simp
              skip
              (go_wp2_with fail)
              obtain ⟨W20, hW⟩ : ∃ W20, W20 = (W17.setCell ⟨b7, 0, none⟩ (.slice a30 n30 k30)).setCell ⟨b7, 1, none⟩ (.slice a36 n36 k36) := ⟨_, rfl⟩
              rw [← hW]
              have hz := (unhide H7).2
              replace H7 : Hid (NV W20 b7 (.slice a30 n30 k30) (.slice a36 n36 k36) ∧ wa.heap.size ≤ b7) := by rw [hW]; exact ⟨set2_at (unhide H7).1, hz⟩
              replace H30 : Hid (RN W20 wa.heap.size (.slice a30 n30 k30) (LI ++ (I.drop i).take 1 ++ RI)) := by rw [hW]; exact ⟨(unhide H30).1.keep (by simp) (fun g hg => set2_ne (unhide HN30 g hg)), (unhide H30).2⟩
              replace H36 : Hid (RN W20 wa.heap.size (.slice a36 n36 k36) (LK ++ RK)) := by rw [hW]; exact ⟨(unhide H36).1.keep (by simp) (fun g hg => set2_ne (unhide HN36 g hg)), (unhide H36).2⟩
              replace HB : Hid (Below wa.heap.size wa W20) := by rw [hW]; exact set2_below (unhide HB) hz
              clear hW hz e0 e1 f0 f1
              refine hK.out _ _ (unhide HS2 W20 (unhide HB)) (fun hHeld2 => ?_)
              clear hK K hHeld
              have hHeld := hHeld2
              clear hHeld2
              try simp only [Act.put, List.setIfInBounds_toArray, List.set_cons_zero, List.set_cons_succ]
              refine wpAnyH_done (by kernel_rfl) ?_ _
              go_wp2_with fail
              go_meet
              exact ⟨b7, n30, k30, n36, k36, a30, a36, rfl, (unhide H7).1, unhide H30, unhide H36, (unhide H7).2, unhide HB⟩
          · skip
            skip
            go_simp
            skip
            (go_wp2_with fail)
            obtain ⟨W19, hW⟩ : ∃ W19, W19 = W11.alloc (.cells #[.slice none 0 0, .slice none 0 0] 54) := ⟨_, rfl⟩
            obtain ⟨b7, hb⟩ : ∃ b7, b7 = W11.heap.size := ⟨_, rfl⟩
            rw [← hW, ← hb]
            have hbb : Below W11.heap.size W11 W19 := by rw [hW]; exact (Below.refl _ _).alloc (Nat.le_refl _) _
            have HN30 : Hid (∀ g, inB2 (.slice a30 n30 k30) g → g ≠ b7) := fun g hg => by have h1 := (unhide H30).1.lt g hg; omega
            replace H29 := hide (blk_below (unhide H29) hbb)
            replace H30 := hide ((unhide H30).below hbb)
            have H7 : Hid (NV W19 b7 (.slice none 0 0) (.slice none 0 0) ∧ wa.heap.size ≤ b7) := by
              have hz := (unhide HB).size
              exact ⟨(by rw [hW, hb]; exact NV.new _ _ _), by omega⟩
            replace HB := hide (below_tr (unhide HB) hbb)
            clear hbb hW hb
            refine hK.out _ _ (unhide HS2 W19 (unhide HB)) (fun hHeld2 => ?_)
            clear hK K hHeld
            have hHeld := hHeld2
            clear hHeld2
            try simp only [Act.put, List.setIfInBounds_toArray, List.set_cons_zero, List.set_cons_succ]
            refine wpAnyH_ready (rs := [16]) (by kernel_rfl) (by simp) ?_
            refine AllReadyH.cons rfl (fun K hK => ?_) AllReadyH.nil
            skip
            go_simp
            skip
            (go_wp2_with fail)
            obtain ⟨W16, hW⟩ : ∃ W16, W16 = W19.alloc (.cells #[.slice lka LK.length lkk, .slice rka RK.length rkk] 52) := ⟨_, rfl⟩
            obtain ⟨c35, hb⟩ : ∃ c35, c35 = W19.heap.size := ⟨_, rfl⟩
            rw [← hW, ← hb]
            have hbb : Below W19.heap.size W19 W16 := by rw [hW]; exact (Below.refl _ _).alloc (Nat.le_refl _) _
            replace H29 := hide (blk_below (unhide H29) hbb)
            replace H30 := hide ((unhide H30).below hbb)
            replace H7 := hide (And.intro ((unhide H7).1.below hbb) (unhide H7).2)
            have H35 : Hid (W16.heap[c35]? = some (.cells #[.slice lka LK.length lkk, .slice rka RK.length rkk] 52 (0, 0))) := by rw [hW, hb]; exact heap_alloc_new _ _
            replace HB := hide (below_tr (unhide HB) hbb)
            clear hbb hW hb
            refine hK.out _ _ (unhide HS2 W16 (unhide HB)) (fun hHeld2 => ?_)
            clear hK K hHeld
            have hHeld := hHeld2
            clear hHeld2
            try simp only [Act.put, List.setIfInBounds_toArray, List.set_cons_zero, List.set_cons_succ]
            refine wpAnyH_ready (rs := [17]) (by kernel_rfl) (by simp) ?_
            refine AllReadyH.cons rfl (fun K hK => ?_) AllReadyH.nil
            skip
            go_simp
            (go_at_call 65; refine (unhide HC36 W16 c35 (below_tr (unhide HBc) (unhide HB)) (unhide H35)).mono ?_; rintro e W17 ⟨a36, n36, k36, rfl, q1, hbb⟩)
            (go_wp2_with fail)
            have HN36 : Hid (∀ g, inB2 (.slice a36 n36 k36) g → g ≠ b7) := fun g hg => by have h1 := q1.2 g hg; have h2 := blk_lt (unhide H7).1; omega
            replace H29 := hide (blk_below (unhide H29) hbb)
            replace H30 := hide ((unhide H30).below hbb)
            replace H7 := hide (And.intro ((unhide H7).1.below hbb) (unhide H7).2)
            replace H35 := hide (blk_below (unhide H35) hbb)
            have H36 : Hid (RN W17 wa.heap.size (.slice a36 n36 k36) _) := ⟨q1.1, fun g hg => Nat.le_trans (unhide HB).size (q1.2 g hg)⟩
            replace HB := hide (below_tr (unhide HB) hbb)
            clear hbb q1
            refine hK.out _ _ (unhide HS2 W17 (unhide HB)) (fun hHeld2 => ?_)
            clear hK K hHeld
            have hHeld := hHeld2
            clear hHeld2
            try simp only [Act.put, List.setIfInBounds_toArray, List.set_cons_zero, List.set_cons_succ]
            refine hand_to (i := 18) (d := 37) (v := (.agg #[.slice a30 n30 k30, .slice a36 n36 k36])) rfl rfl (by kernel_rfl) (by kernel_rfl) (by kernel_rfl) (fun _ _ _ h => h) (Or.inl ⟨by rfl, ?_⟩) hHeld ?_
            · (intro w' hSw; obtain ⟨y0, y1, y2, y3, y4⟩ := hSw; go_simp)
            simp only [Act.put, List.setIfInBounds_toArray, List.set_cons_zero, List.set_cons_succ]
            refine wpAnyH_ready (rs := [20]) (by kernel_rfl) (by simp) ?_
            refine AllReadyH.cons rfl (fun K hK => ?_) AllReadyH.nil
            obtain ⟨e0, e1, f0, f1⟩ := (unhide H7).1.cells
            go_simp
            skip
            (go_wp2_with fail)
            obtain ⟨W20, hW⟩ : ∃ W20, W20 = (W17.setCell ⟨b7, 0, none⟩ (.slice a30 n30 k30)).setCell ⟨b7, 1, none⟩ (.slice a36 n36 k36) := ⟨_, rfl⟩
            rw [← hW]
            have hz := (unhide H7).2
            replace H7 : Hid (NV W20 b7 (.slice a30 n30 k30) (.slice a36 n36 k36) ∧ wa.heap.size ≤ b7) := by rw [hW]; exact ⟨set2_at (unhide H7).1, hz⟩
            replace H30 : Hid (RN W20 wa.heap.size (.slice a30 n30 k30) (LI ++ (I.drop i).take 1 ++ RI)) := by rw [hW]; exact ⟨(unhide H30).1.keep (by simp) (fun g hg => set2_ne (unhide HN30 g hg)), (unhide H30).2⟩
            replace H36 : Hid (RN W20 wa.heap.size (.slice a36 n36 k36) (LK ++ RK)) := by rw [hW]; exact ⟨(unhide H36).1.keep (by simp) (fun g hg => set2_ne (unhide HN36 g hg)), (unhide H36).2⟩
            replace HB : Hid (Below wa.heap.size wa W20) := by rw [hW]; exact set2_below (unhide HB) hz
            clear hW hz e0 e1 f0 f1
            refine hK.out _ _ (unhide HS2 W20 (unhide HB)) (fun hHeld2 => ?_)
            clear hK K hHeld
            have hHeld := hHeld2
            clear hHeld2
            try simp only [Act.put, List.setIfInBounds_toArray, List.set_cons_zero, List.set_cons_succ]
            refine wpAnyH_done (by kernel_rfl) ?_ _
            go_wp2_with fail
            go_meet
            exact ⟨b7, n30, k30, n36, k36, a30, a36, rfl, (unhide H7).1, unhide H30, unhide H36, (unhide H7).2, unhide HB⟩
        · skip
          skip
          go_simp
          skip
          (go_wp2_with fail)
          obtain ⟨W16, hW⟩ : ∃ W16, W16 = W10.alloc (.cells #[.slice lka LK.length lkk, .slice rka RK.length rkk] 52) := ⟨_, rfl⟩
          obtain ⟨c35, hb⟩ : ∃ c35, c35 = W10.heap.size := ⟨_, rfl⟩
          rw [← hW, ← hb]
          have hbb : Below W10.heap.size W10 W16 := by rw [hW]; exact (Below.refl _ _).alloc (Nat.le_refl _) _
          replace H29 := hide (blk_below (unhide H29) hbb)
          have H35 : Hid (W16.heap[c35]? = some (.cells #[.slice lka LK.length lkk, .slice rka RK.length rkk] 52 (0, 0))) := by rw [hW, hb]; exact heap_alloc_new _ _
          replace HB := hide (below_tr (unhide HB) hbb)
          clear hbb hW hb
          refine hK.out _ _ (unhide HS2 W16 (unhide HB)) (fun hHeld2 => ?_)
          clear hK K hHeld
          have hHeld := hHeld2
          clear hHeld2
          try simp only [Act.put, List.setIfInBounds_toArray, List.set_cons_zero, List.set_cons_succ]
          refine wpAnyH_ready (rs := [11, 19]) (by kernel_rfl) (by simp) ?_
          refine (AllReadyH.cons rfl (fun K hK => ?_) (AllReadyH.cons rfl (fun K hK => ?_) AllReadyH.nil))
          · skip
            skip
            go_simp
            (go_at_call 51; refine (unhide HC30 W16 c29 (below_tr (unhide HBc) (unhide HB)) (unhide H29)).mono ?_; rintro e W11 ⟨a30, n30, k30, rfl, q1, hbb⟩)
            (go_wp2_with fail)
            replace H29 := hide (blk_below (unhide H29) hbb)
            replace H35 := hide (blk_below (unhide H35) hbb)
            have H30 : Hid (RN W11 wa.heap.size (.slice a30 n30 k30) _) := ⟨q1.1, fun g hg => Nat.le_trans (unhide HB).size (q1.2 g hg)⟩
            replace HB := hide (below_tr (unhide HB) hbb)
            clear hbb q1
            refine hK.out _ _ (unhide HS2 W11 (unhide HB)) (fun hHeld2 => ?_)
            clear hK K hHeld
            have hHeld := hHeld2
            clear hHeld2
            try simp only [Act.put, List.setIfInBounds_toArray, List.set_cons_zero, List.set_cons_succ]
            refine wpAnyH_ready (rs := [17, 19]) (by kernel_rfl) (by simp) ?_
            refine (AllReadyH.cons rfl (fun K hK => ?_) (AllReadyH.cons rfl (fun K hK => ?_) AllReadyH.nil))
            · skip
              skip
              go_simp
              (go_at_call 65; refine (unhide HC36 W11 c35 (below_tr (unhide HBc) (unhide HB)) (unhide H35)).mono ?_; rintro e W17 ⟨a36, n36, k36, rfl, q1, hbb⟩)
              (go_wp2_with fail)
              replace H29 := hide (blk_below (unhide H29) hbb)
              replace H35 := hide (blk_below (unhide H35) hbb)
              replace H30 := hide ((unhide H30).below hbb)
              have H36 : Hid (RN W17 wa.heap.size (.slice a36 n36 k36) _) := ⟨q1.1, fun g hg => Nat.le_trans (unhide HB).size (q1.2 g hg)⟩
              replace HB := hide (below_tr (unhide HB) hbb)
              clear hbb q1
              refine hK.out _ _ (unhide HS2 W17 (unhide HB)) (fun hHeld2 => ?_)
              clear hK K hHeld
              have hHeld := hHeld2
              clear hHeld2
              try simp only [Act.put, List.setIfInBounds_toArray, List.set_cons_zero, List.set_cons_succ]
              refine hand_to (i := 18) (d := 37) (v := (.agg #[.slice a30 n30 k30, .slice a36 n36 k36])) rfl rfl (by kernel_rfl) (by kernel_rfl) (by kernel_rfl) (fun _ _ _ h => h) (Or.inl ⟨by rfl, ?_⟩) hHeld ?_
              · (intro w' hSw; obtain ⟨y0, y1, y2, y3, y4⟩ := hSw; go_simp)
              simp only [Act.put, List.setIfInBounds_toArray, List.set_cons_zero, List.set_cons_succ]
              refine wpAnyH_ready (rs := [19]) (by kernel_rfl) (by simp) ?_
              refine AllReadyH.cons rfl (fun K hK => ?_) AllReadyH.nil
              skip
              go_simp
              skip
              (go_wp2_with fail)
              obtain ⟨W19, hW⟩ : ∃ W19, W19 = W17.alloc (.cells #[.slice none 0 0, .slice none 0 0] 54) := ⟨_, rfl⟩
              obtain ⟨b7, hb⟩ : ∃ b7, b7 = W17.heap.size := ⟨_, rfl⟩
              rw [← hW, ← hb]
              have hbb : Below W17.heap.size W17 W19 := by rw [hW]; exact (Below.refl _ _).alloc (Nat.le_refl _) _
              have HN30 : Hid (∀ g, inB2 (.slice a30 n30 k30) g → g ≠ b7) := fun g hg => by have h1 := (unhide H30).1.lt g hg; omega
              have HN36 : Hid (∀ g, inB2 (.slice a36 n36 k36) g → g ≠ b7) := fun g hg => by have h1 := (unhide H36).1.lt g hg; omega
              replace H29 := hide (blk_below (unhide H29) hbb)
              replace H35 := hide (blk_below (unhide H35) hbb)
              replace H30 := hide ((unhide H30).below hbb)
              replace H36 := hide ((unhide H36).below hbb)
              have H7 : Hid (NV W19 b7 (.slice none 0 0) (.slice none 0 0) ∧ wa.heap.size ≤ b7) := by
                have hz := (unhide HB).size
                exact ⟨(by rw [hW, hb]; exact NV.new _ _ _), by omega⟩
              replace HB := hide (below_tr (unhide HB) hbb)
              clear hbb hW hb
              refine hK.out _ _ (unhide HS2 W19 (unhide HB)) (fun hHeld2 => ?_)
              clear hK K hHeld
              have hHeld := hHeld2
              clear hHeld2
              try simp only [Act.put, List.setIfInBounds_toArray, List.set_cons_zero, List.set_cons_succ]
              refine wpAnyH_ready (rs := [20]) (by kernel_rfl) (by simp) ?_
              refine AllReadyH.cons rfl (fun K hK => ?_) AllReadyH.nil
              obtain ⟨e0, e1, f0, f1⟩ := (unhide H7).1.cells
              go_simp
              skip
              (go_wp2_with fail)
              obtain ⟨W20, hW⟩ : ∃ W20, W20 = (W19.setCell ⟨b7, 0, none⟩ (.slice a30 n30 k30)).setCell ⟨b7, 1, none⟩ (.slice a36 n36 k36) := ⟨_, rfl⟩
              rw [← hW]
              have hz := (unhide H7).2
              replace H7 : Hid (NV W20 b7 (.slice a30 n30 k30) (.slice a36 n36 k36) ∧ wa.heap.size ≤ b7) := by rw [hW]; exact ⟨set2_at (unhide H7).1, hz⟩
              replace H30 : Hid (RN W20 wa.heap.size (.slice a30 n30 k30) (LI ++ (I.drop i).take 1 ++ RI)) := by rw [hW]; exact ⟨(unhide H30).1.keep (by simp) (fun g hg => set2_ne (unhide HN30 g hg)), (unhide H30).2⟩
              replace H36 : Hid (RN W20 wa.heap.size (.slice a36 n36 k36) (LK ++ RK)) := by rw [hW]; exact ⟨(unhide H36).1.keep (by simp) (fun g hg => set2_ne (unhide HN36 g hg)), (unhide H36).2⟩
              replace HB : Hid (Below wa.heap.size wa W20) := by rw [hW]; exact set2_below (unhide HB) hz
              clear hW hz e0 e1 f0 f1
              refine hK.out _ _ (unhide HS2 W20 (unhide HB)) (fun hHeld2 => ?_)
              clear hK K hHeld
              have hHeld := hHeld2
              clear hHeld2
              try simp only [Act.put, List.setIfInBounds_toArray, List.set_cons_zero, List.set_cons_succ]
              refine wpAnyH_done (by kernel_rfl) ?_ _
              go_wp2_with fail
              go_meet
              exact ⟨b7, n30, k30, n36, k36, a30, a36, rfl, (unhide H7).1, unhide H30, unhide H36, (unhide H7).2, unhide HB⟩
            · skip
              skip
              go_simp
              skip
              (go_wp2_with fail)
              obtain ⟨W19, hW⟩ : ∃ W19, W19 = W11.alloc (.cells #[.slice none 0 0, .slice none 0 0] 54) := ⟨_, rfl⟩
              obtain ⟨b7, hb⟩ : ∃ b7, b7 = W11.heap.size := ⟨_, rfl⟩
              rw [← hW, ← hb]
              have hbb : Below W11.heap.size W11 W19 := by rw [hW]; exact (Below.refl _ _).alloc (Nat.le_refl _) _
              have HN30 : Hid (∀ g, inB2 (.slice a30 n30 k30) g → g ≠ b7) := fun g hg => by have h1 := (unhide H30).1.lt g hg; omega
              replace H29 := hide (blk_below (unhide H29) hbb)
              replace H35 := hide (blk_below (unhide H35) hbb)
              replace H30 := hide ((unhide H30).below hbb)
              have H7 : Hid (NV W19 b7 (.slice none 0 0) (.slice none 0 0) ∧ wa.heap.size ≤ b7) := by
                have hz := (unhide HB).size
                exact ⟨(by rw [hW, hb]; exact NV.new _ _ _), by omega⟩
              replace HB := hide (below_tr (unhide HB) hbb)
              clear hbb hW hb
              refine hK.out _ _ (unhide HS2 W19 (unhide HB)) (fun hHeld2 => ?_)
              clear hK K hHeld
              have hHeld := hHeld2
              clear hHeld2
              try simp only [Act.put, List.setIfInBounds_toArray, List.set_cons_zero, List.set_cons_succ]
              refine wpAnyH_ready (rs := [17]) (by kernel_rfl) (by simp) ?_
              refine AllReadyH.cons rfl (fun K hK => ?_) AllReadyH.nil
              skip
              go_simp
              (go_at_call 65; refine (unhide HC36 W19 c35 (below_tr (unhide HBc) (unhide HB)) (unhide H35)).mono ?_; rintro e W17 ⟨a36, n36, k36, rfl, q1, hbb⟩)
              (go_wp2_with fail)
              have HN36 : Hid (∀ g, inB2 (.slice a36 n36 k36) g → g ≠ b7) := fun g hg => by have h1 := q1.2 g hg; have h2 := blk_lt (unhide H7).1; omega
              replace H29 := hide (blk_below (unhide H29) hbb)
              replace H35 := hide (blk_below (unhide H35) hbb)
              replace H30 := hide ((unhide H30).below hbb)
              replace H7 := hide (And.intro ((unhide H7).1.below hbb) (unhide H7).2)
              have H36 : Hid (RN W17 wa.heap.size (.slice a36 n36 k36) _) := ⟨q1.1, fun g hg => Nat.le_trans (unhide HB).size (q1.2 g hg)⟩
              replace HB := hide (below_tr (unhide HB) hbb)
              clear hbb q1
              refine hK.out _ _ (unhide HS2 W17 (unhide HB)) (fun hHeld2 => ?_)
              clear hK K hHeld
              have hHeld := hHeld2
              clear hHeld2
              try simp only [Act.put, List.setIfInBounds_toArray, List.set_cons_zero, List.set_cons_succ]
              refine hand_to (i := 18) (d := 37) (v := (.agg #[.slice a30 n30 k30, .slice a36 n36 k36])) rfl rfl (by kernel_rfl) (by kernel_rfl) (by kernel_rfl) (fun _ _ _ h => h) (Or.inl ⟨by rfl, ?_⟩) hHeld ?_
              · (intro w' hSw; obtain ⟨y0, y1, y2, y3, y4⟩ := hSw; go_simp)
              simp only [Act.put, List.setIfInBounds_toArray, List.set_cons_zero, List.set_cons_succ]
              refine wpAnyH_ready (rs := [20]) (by kernel_rfl) (by simp) ?_
              refine AllReadyH.cons rfl (fun K hK => ?_) AllReadyH.nil
              obtain ⟨e0, e1, f0, f1⟩ := (unhide H7).1.cells
              go_simp
              skip
              (go_wp2_with fail)
              obtain ⟨W20, hW⟩ : ∃ W20, W20 = (W17.setCell ⟨b7, 0, none⟩ (.slice a30 n30 k30)).setCell ⟨b7, 1, none⟩ (.slice a36 n36 k36) := ⟨_, rfl⟩
              rw [← hW]
              have hz := (unhide H7).2
              replace H7 : Hid (NV W20 b7 (.slice a30 n30 k30) (.slice a36 n36 k36) ∧ wa.heap.size ≤ b7) := by rw [hW]; exact ⟨set2_at (unhide H7).1, hz⟩
              replace H30 : Hid (RN W20 wa.heap.size (.slice a30 n30 k30) (LI ++ (I.drop i).take 1 ++ RI)) := by rw [hW]; exact ⟨(unhide H30).1.keep (by simp) (fun g hg => set2_ne (unhide HN30 g hg)), (unhide H30).2⟩
              replace H36 : Hid (RN W20 wa.heap.size (.slice a36 n36 k36) (LK ++ RK)) := by rw [hW]; exact ⟨(unhide H36).1.keep (by simp) (fun g hg => set2_ne (unhide HN36 g hg)), (unhide H36).2⟩
              replace HB : Hid (Below wa.heap.size wa W20) := by rw [hW]; exact set2_below (unhide HB) hz
              clear hW hz e0 e1 f0 f1
              refine hK.out _ _ (unhide HS2 W20 (unhide HB)) (fun hHeld2 => ?_)
              clear hK K hHeld
              have hHeld := hHeld2
              clear hHeld2
              try simp only [Act.put, List.setIfInBounds_toArray, List.set_cons_zero, List.set_cons_succ]
              refine wpAnyH_done (by kernel_rfl) ?_ _
              go_wp2_with fail
              go_meet
              exact ⟨b7, n30, k30, n36, k36, a30, a36, rfl, (unhide H7).1, unhide H30, unhide H36, (unhide H7).2, unhide HB⟩
          · skip
            skip
            go_simp
            skip
            (go_wp2_with fail)
            obtain ⟨W19, hW⟩ : ∃ W19, W19 = W16.alloc (.cells #[.slice none 0 0, .slice none 0 0] 54) := ⟨_, rfl⟩
            obtain ⟨b7, hb⟩ : ∃ b7, b7 = W16.heap.size := ⟨_, rfl⟩
            rw [← hW, ← hb]
            have hbb : Below W16.heap.size W16 W19 := by rw [hW]; exact (Below.refl _ _).alloc (Nat.le_refl _) _
            replace H29 := hide (blk_below (unhide H29) hbb)
            replace H35 := hide (blk_below (unhide H35) hbb)
            have H7 : Hid (NV W19 b7 (.slice none 0 0) (.slice none 0 0) ∧ wa.heap.size ≤ b7) := by
              have hz := (unhide HB).size
              exact ⟨(by rw [hW, hb]; exact NV.new _ _ _), by omega⟩
            replace HB := hide (below_tr (unhide HB) hbb)
            clear hbb hW hb
            refine hK.out _ _ (unhide HS2 W19 (unhide HB)) (fun hHeld2 => ?_)
            clear hK K hHeld
            have hHeld := hHeld2
            clear hHeld2
            try simp only [Act.put, List.setIfInBounds_toArray, List.set_cons_zero, List.set_cons_succ]
            refine wpAnyH_ready (rs := [11]) (by kernel_rfl) (by simp) ?_
            refine AllReadyH.cons rfl (fun K hK => ?_) AllReadyH.nil
            skip
            go_simp
            (go_at_call 51; refine (unhide HC30 W19 c29 (below_tr (unhide HBc) (unhide HB)) (unhide H29)).mono ?_; rintro e W11 ⟨a30, n30, k30, rfl, q1, hbb⟩)
            (go_wp2_with fail)
            have HN30 : Hid (∀ g, inB2 (.slice a30 n30 k30) g → g ≠ b7) := fun g hg => by have h1 := q1.2 g hg; have h2 := blk_lt (unhide H7).1; omega
            replace H29 := hide (blk_below (unhide H29) hbb)
            replace H35 := hide (blk_below (unhide H35) hbb)
            replace H7 := hide (And.intro ((unhide H7).1.below hbb) (unhide H7).2)
            have H30 : Hid (RN W11 wa.heap.size (.slice a30 n30 k30) _) := ⟨q1.1, fun g hg => Nat.le_trans (unhide HB).size (q1.2 g hg)⟩
            replace HB := hide (below_tr (unhide HB) hbb)
            clear hbb q1
            refine hK.out _ _ (unhide HS2 W11 (unhide HB)) (fun hHeld2 => ?_)
            clear hK K hHeld
            have hHeld := hHeld2
            clear hHeld2
            try simp only [Act.put, List.setIfInBounds_toArray, List.set_cons_zero, List.set_cons_succ]
            refine wpAnyH_ready (rs := [17]) (by kernel_rfl) (by simp) ?_
            refine AllReadyH.cons rfl (fun K hK => ?_) AllReadyH.nil
            skip
            go_simp
            (go_at_call 65; refine (unhide HC36 W11 c35 (below_tr (unhide HBc) (unhide HB)) (unhide H35)).mono ?_; rintro e W17 ⟨a36, n36, k36, rfl, q1, hbb⟩)
            (go_wp2_with fail)
            have HN36 : Hid (∀ g, inB2 (.slice a36 n36 k36) g → g ≠ b7) := fun g hg => by have h1 := q1.2 g hg; have h2 := blk_lt (unhide H7).1; omega
            replace H29 := hide (blk_below (unhide H29) hbb)
            replace H35 := hide (blk_below (unhide H35) hbb)
            replace H7 := hide (And.intro ((unhide H7).1.below hbb) (unhide H7).2)
            replace H30 := hide ((unhide H30).below hbb)
            have H36 : Hid (RN W17 wa.heap.size (.slice a36 n36 k36) _) := ⟨q1.1, fun g hg => Nat.le_trans (unhide HB).size (q1.2 g hg)⟩
            replace HB := hide (below_tr (unhide HB) hbb)
            clear hbb q1
            refine hK.out _ _ (unhide HS2 W17 (unhide HB)) (fun hHeld2 => ?_)
            clear hK K hHeld
            have hHeld := hHeld2
            clear hHeld2
            try simp only [Act.put, List.setIfInBounds_toArray, List.set_cons_zero, List.set_cons_succ]
            refine hand_to (i := 18) (d := 37) (v := (.agg #[.slice a30 n30 k30, .slice a36 n36 k36])) rfl rfl (by kernel_rfl) (by kernel_rfl) (by kernel_rfl) (fun _ _ _ h => h) (Or.inl ⟨by rfl, ?_⟩) hHeld ?_
            · (intro w' hSw; obtain ⟨y0, y1, y2, y3, y4⟩ := hSw; go_simp)
            simp only [Act.put, List.setIfInBounds_toArray, List.set_cons_zero, List.set_cons_succ]
            refine wpAnyH_ready (rs := [20]) (by kernel_rfl) (by simp) ?_
            refine AllReadyH.cons rfl (fun K hK => ?_) AllReadyH.nil
            obtain ⟨e0, e1, f0, f1⟩ := (unhide H7).1.cells
            go_simp
            skip
            (go_wp2_with fail)
            obtain ⟨W20, hW⟩ : ∃ W20, W20 = (W17.setCell ⟨b7, 0, none⟩ (.slice a30 n30 k30)).setCell ⟨b7, 1, none⟩ (.slice a36 n36 k36) := ⟨_, rfl⟩
            rw [← hW]
            have hz := (unhide H7).2
            replace H7 : Hid (NV W20 b7 (.slice a30 n30 k30) (.slice a36 n36 k36) ∧ wa.heap.size ≤ b7) := by rw [hW]; exact ⟨set2_at (unhide H7).1, hz⟩
            replace H30 : Hid (RN W20 wa.heap.size (.slice a30 n30 k30) (LI ++ (I.drop i).take 1 ++ RI)) := by rw [hW]; exact ⟨(unhide H30).1.keep (by simp) (fun g hg => set2_ne (unhide HN30 g hg)), (unhide H30).2⟩
            replace H36 : Hid (RN W20 wa.heap.size (.slice a36 n36 k36) (LK ++ RK)) := by rw [hW]; exact ⟨(unhide H36).1.keep (by simp) (fun g hg => set2_ne (unhide HN36 g hg)), (unhide H36).2⟩
            replace HB : Hid (Below wa.heap.size wa W20) := by rw [hW]; exact set2_below (unhide HB) hz
            clear hW hz e0 e1 f0 f1
            refine hK.out _ _ (unhide HS2 W20 (unhide HB)) (fun hHeld2 => ?_)
            clear hK K hHeld
            have hHeld := hHeld2
            clear hHeld2
            try simp only [Act.put, List.setIfInBounds_toArray, List.set_cons_zero, List.set_cons_succ]
            refine wpAnyH_done (by kernel_rfl) ?_ _
            go_wp2_with fail
            go_meet
            exact ⟨b7, n30, k30, n36, k36, a30, a36, rfl, (unhide H7).1, unhide H30, unhide H36, (unhide H7).2, unhide HB⟩
        · skip
          skip
          go_simp
          skip
          (go_wp2_with fail)
          obtain ⟨W19, hW⟩ : ∃ W19, W19 = W10.alloc (.cells #[.slice none 0 0, .slice none 0 0] 54) := ⟨_, rfl⟩
          obtain ⟨b7, hb⟩ : ∃ b7, b7 = W10.heap.size := ⟨_, rfl⟩
          rw [← hW, ← hb]
          have hbb : Below W10.heap.size W10 W19 := by rw [hW]; exact (Below.refl _ _).alloc (Nat.le_refl _) _
          replace H29 := hide (blk_below (unhide H29) hbb)
          have H7 : Hid (NV W19 b7 (.slice none 0 0) (.slice none 0 0) ∧ wa.heap.size ≤ b7) := by
            have hz := (unhide HB).size
            exact ⟨(by rw [hW, hb]; exact NV.new _ _ _), by omega⟩
          replace HB := hide (below_tr (unhide HB) hbb)
          clear hbb hW hb
          refine hK.out _ _ (unhide HS2 W19 (unhide HB)) (fun hHeld2 => ?_)
          clear hK K hHeld
          have hHeld := hHeld2
          clear hHeld2
          try simp only [Act.put, List.setIfInBounds_toArray, List.set_cons_zero, List.set_cons_succ]
          refine wpAnyH_ready (rs := [11, 16]) (by kernel_rfl) (by simp) ?_
          refine (AllReadyH.cons rfl (fun K hK => ?_) (AllReadyH.cons rfl (fun K hK => ?_) AllReadyH.nil))
          · skip
            skip
            go_simp
            (go_at_call 51; refine (unhide HC30 W19 c29 (below_tr (unhide HBc) (unhide HB)) (unhide H29)).mono ?_; rintro e W11 ⟨a30, n30, k30, rfl, q1, hbb⟩)
            (go_wp2_with fail)
            have HN30 : Hid (∀ g, inB2 (.slice a30 n30 k30) g → g ≠ b7) := fun g hg => by have h1 := q1.2 g hg; have h2 := blk_lt (unhide H7).1; omega
            replace H29 := hide (blk_below (unhide H29) hbb)
            replace H7 := hide (And.intro ((unhide H7).1.below hbb) (unhide H7).2)
            have H30 : Hid (RN W11 wa.heap.size (.slice a30 n30 k30) _) := ⟨q1.1, fun g hg => Nat.le_trans (unhide HB).size (q1.2 g hg)⟩
            replace HB := hide (below_tr (unhide HB) hbb)
            clear hbb q1
            refine hK.out _ _ (unhide HS2 W11 (unhide HB)) (fun hHeld2 => ?_)
            clear hK K hHeld
            have hHeld := hHeld2
            clear hHeld2
            try simp only [Act.put, List.setIfInBounds_toArray, List.set_cons_zero, List.set_cons_succ]
            refine wpAnyH_ready (rs := [16]) (by kernel_rfl) (by simp) ?_
            refine AllReadyH.cons rfl (fun K hK => ?_) AllReadyH.nil
            skip
            go_simp
            skip
            (go_wp2_with fail)
            obtain ⟨W16, hW⟩ : ∃ W16, W16 = W11.alloc (.cells #[.slice lka LK.length lkk, .slice rka RK.length rkk] 52) := ⟨_, rfl⟩
            obtain ⟨c35, hb⟩ : ∃ c35, c35 = W11.heap.size := ⟨_, rfl⟩
            rw [← hW, ← hb]
            have hbb : Below W11.heap.size W11 W16 := by rw [hW]; exact (Below.refl _ _).alloc (Nat.le_refl _) _
            replace H29 := hide (blk_below (unhide H29) hbb)
            replace H7 := hide (And.intro ((unhide H7).1.below hbb) (unhide H7).2)
            replace H30 := hide ((unhide H30).below hbb)
            have H35 : Hid (W16.heap[c35]? = some (.cells #[.slice lka LK.length lkk, .slice rka RK.length rkk] 52 (0, 0))) := by rw [hW, hb]; exact heap_alloc_new _ _
            replace HB := hide (below_tr (unhide HB) hbb)
            clear hbb hW hb
            refine hK.out _ _ (unhide HS2 W16 (unhide HB)) (fun hHeld2 => ?_)
            clear hK K hHeld
            have hHeld := hHeld2
            clear hHeld2
            try simp only [Act.put, List.setIfInBounds_toArray, List.set_cons_zero, List.set_cons_succ]
            refine wpAnyH_ready (rs := [17]) (by kernel_rfl) (by simp) ?_
            refine AllReadyH.cons rfl (fun K hK => ?_) AllReadyH.nil
            skip
            go_simp
            (go_at_call 65; refine (unhide HC36 W16 c35 (below_tr (unhide HBc) (unhide HB)) (unhide H35)).mono ?_; rintro e W17 ⟨a36, n36, k36, rfl, q1, hbb⟩)
            (go_wp2_with fail)
            have HN36 : Hid (∀ g, inB2 (.slice a36 n36 k36) g → g ≠ b7) := fun g hg => by have h1 := q1.2 g hg; have h2 := blk_lt (unhide H7).1; omega
            replace H29 := hide (blk_below (unhide H29) hbb)
            replace H7 := hide (And.intro ((unhide H7).1.below hbb) (unhide H7).2)
            replace H30 := hide ((unhide H30).below hbb)
            replace H35 := hide (blk_below (unhide H35) hbb)
            have H36 : Hid (RN W17 wa.heap.size (.slice a36 n36 k36) _) := ⟨q1.1, fun g hg => Nat.le_trans (unhide HB).size (q1.2 g hg)⟩
            replace HB := hide (below_tr (unhide HB) hbb)
            clear hbb q1
            refine hK.out _ _ (unhide HS2 W17 (unhide HB)) (fun hHeld2 => ?_)
            clear hK K hHeld
            have hHeld := hHeld2
            clear hHeld2
            try simp only [Act.put, List.setIfInBounds_toArray, List.set_cons_zero, List.set_cons_succ]
            refine hand_to (i := 18) (d := 37) (v := (.agg #[.slice a30 n30 k30, .slice a36 n36 k36])) rfl rfl (by kernel_rfl) (by kernel_rfl) (by kernel_rfl) (fun _ _ _ h => h) (Or.inl ⟨by rfl, ?_⟩) hHeld ?_
            · (intro w' hSw; obtain ⟨y0, y1, y2, y3, y4⟩ := hSw; go_simp)
            simp only [Act.put, List.setIfInBounds_toArray, List.set_cons_zero, List.set_cons_succ]
            refine wpAnyH_ready (rs := [20]) (by kernel_rfl) (by simp) ?_
            refine AllReadyH.cons rfl (fun K hK => ?_) AllReadyH.nil
            obtain ⟨e0, e1, f0, f1⟩ := (unhide H7).1.cells
            go_simp
            skip
            (go_wp2_with fail)
            obtain ⟨W20, hW⟩ : ∃ W20, W20 = (W17.setCell ⟨b7, 0, none⟩ (.slice a30 n30 k30)).setCell ⟨b7, 1, none⟩ (.slice a36 n36 k36) := ⟨_, rfl⟩
            rw [← hW]
            have hz := (unhide H7).2
            replace H7 : Hid (NV W20 b7 (.slice a30 n30 k30) (.slice a36 n36 k36) ∧ wa.heap.size ≤ b7) := by rw [hW]; exact ⟨set2_at (unhide H7).1, hz⟩
            replace H30 : Hid (RN W20 wa.heap.size (.slice a30 n30 k30) (LI ++ (I.drop i).take 1 ++ RI)) := by rw [hW]; exact ⟨(unhide H30).1.keep (by simp) (fun g hg => set2_ne (unhide HN30 g hg)), (unhide H30).2⟩
            replace H36 : Hid (RN W20 wa.heap.size (.slice a36 n36 k36) (LK ++ RK)) := by rw [hW]; exact ⟨(unhide H36).1.keep (by simp) (fun g hg => set2_ne (unhide HN36 g hg)), (unhide H36).2⟩
            replace HB : Hid (Below wa.heap.size wa W20) := by rw [hW]; exact set2_below (unhide HB) hz
            clear hW hz e0 e1 f0 f1
            refine hK.out _ _ (unhide HS2 W20 (unhide HB)) (fun hHeld2 => ?_)
            clear hK K hHeld
            have hHeld := hHeld2
            clear hHeld2
            try simp only [Act.put, List.setIfInBounds_toArray, List.set_cons_zero, List.set_cons_succ]
            refine wpAnyH_done (by kernel_rfl) ?_ _
            go_wp2_with fail
            go_meet
            exact ⟨b7, n30, k30, n36, k36, a30, a36, rfl, (unhide H7).1, unhide H30, unhide H36, (unhide H7).2, unhide HB⟩
          · skip
            skip
            go_simp
            skip
            (go_wp2_with fail)
            obtain ⟨W16, hW⟩ : ∃ W16, W16 = W19.alloc (.cells #[.slice lka LK.length lkk, .slice rka RK.length rkk] 52) := ⟨_, rfl⟩
            obtain ⟨c35, hb⟩ : ∃ c35, c35 = W19.heap.size := ⟨_, rfl⟩
            rw [← hW, ← hb]
            have hbb : Below W19.heap.size W19 W16 := by rw [hW]; exact (Below.refl _ _).alloc (Nat.le_refl _) _
            replace H29 := hide (blk_below (unhide H29) hbb)
            replace H7 := hide (And.intro ((unhide H7).1.below hbb) (unhide H7).2)
            have H35 : Hid (W16.heap[c35]? = some (.cells #[.slice lka LK.length lkk, .slice rka RK.length rkk] 52 (0, 0))) := by rw [hW, hb]; exact heap_alloc_new _ _
            replace HB := hide (below_tr (unhide HB) hbb)
            clear hbb hW hb
            refine hK.out _ _ (unhide HS2 W16 (unhide HB)) (fun hHeld2 => ?_)
            clear hK K hHeld
            have hHeld := hHeld2
            clear hHeld2
            try simp only [Act.put, List.setIfInBounds_toArray, List.set_cons_zero, List.set_cons_succ]
            refine wpAnyH_ready (rs := [11]) (by kernel_rfl) (by simp) ?_
            refine AllReadyH.cons rfl (fun K hK => ?_) AllReadyH.nil
            skip
            go_simp
            (go_at_call 51; refine (unhide HC30 W16 c29 (below_tr (unhide HBc) (unhide HB)) (unhide H29)).mono ?_; rintro e W11 ⟨a30, n30, k30, rfl, q1, hbb⟩)
            (go_wp2_with fail)
            have HN30 : Hid (∀ g, inB2 (.slice a30 n30 k30) g → g ≠ b7) := fun g hg => by have h1 := q1.2 g hg; have h2 := blk_lt (unhide H7).1; omega
            replace H29 := hide (blk_below (unhide H29) hbb)
            replace H7 := hide (And.intro ((unhide H7).1.below hbb) (unhide H7).2)
            replace H35 := hide (blk_below (unhide H35) hbb)
            have H30 : Hid (RN W11 wa.heap.size (.slice a30 n30 k30) _) := ⟨q1.1, fun g hg => Nat.le_trans (unhide HB).size (q1.2 g hg)⟩
            replace HB := hide (below_tr (unhide HB) hbb)
            clear hbb q1
            refine hK.out _ _ (unhide HS2 W11 (unhide HB)) (fun hHeld2 => ?_)
            clear hK K hHeld
            have hHeld := hHeld2
            clear hHeld2
            try simp only [Act.put, List.setIfInBounds_toArray, List.set_cons_zero, List.set_cons_succ]
            refine wpAnyH_ready (rs := [17]) (by kernel_rfl) (by simp) ?_
            refine AllReadyH.cons rfl (fun K hK => ?_) AllReadyH.nil
            skip
            go_simp
            (go_at_call 65; refine (unhide HC36 W11 c35 (below_tr (unhide HBc) (unhide HB)) (unhide H35)).mono ?_; rintro e W17 ⟨a36, n36, k36, rfl, q1, hbb⟩)
            (go_wp2_with fail)
            have HN36 : Hid (∀ g, inB2 (.slice a36 n36 k36) g → g ≠ b7) := fun g hg => by have h1 := q1.2 g hg; have h2 := blk_lt (unhide H7).1; omega
            replace H29 := hide (blk_below (unhide H29) hbb)
            replace H7 := hide (And.intro ((unhide H7).1.below hbb) (unhide H7).2)
            replace H35 := hide (blk_below (unhide H35) hbb)
            replace H30 := hide ((unhide H30).below hbb)
            have H36 : Hid (RN W17 wa.heap.size (.slice a36 n36 k36) _) := ⟨q1.1, fun g hg => Nat.le_trans (unhide HB).size (q1.2 g hg)⟩
            replace HB := hide (below_tr (unhide HB) hbb)
            clear hbb q1
            refine hK.out _ _ (unhide HS2 W17 (unhide HB)) (fun hHeld2 => ?_)
            clear hK K hHeld
            have hHeld := hHeld2
            clear hHeld2
            try simp only [Act.put, List.setIfInBounds_toArray, List.set_cons_zero, List.set_cons_succ]
            refine hand_to (i := 18) (d := 37) (v := (.agg #[.slice a30 n30 k30, .slice a36 n36 k36])) rfl rfl (by kernel_rfl) (by kernel_rfl) (by kernel_rfl) (fun _ _ _ h => h) (Or.inl ⟨by rfl, ?_⟩) hHeld ?_
            · (intro w' hSw; obtain ⟨y0, y1, y2, y3, y4⟩ := hSw; go_simp)
            simp only [Act.put, List.setIfInBounds_toArray, List.set_cons_zero, List.set_cons_succ]
            refine wpAnyH_ready (rs := [20]) (by kernel_rfl) (by simp) ?_
            refine AllReadyH.cons rfl (fun K hK => ?_) AllReadyH.nil
            obtain ⟨e0, e1, f0, f1⟩ := (unhide H7).1.cells
            go_simp
            skip
            (go_wp2_with fail)
            obtain ⟨W20, hW⟩ : ∃ W20, W20 = (W17.setCell ⟨b7, 0, none⟩ (.slice a30 n30 k30)).setCell ⟨b7, 1, none⟩ (.slice a36 n36 k36) := ⟨_, rfl⟩
            rw [← hW]
            have hz := (unhide H7).2
            replace H7 : Hid (NV W20 b7 (.slice a30 n30 k30) (.slice a36 n36 k36) ∧ wa.heap.size ≤ b7) := by rw [hW]; exact ⟨set2_at (unhide H7).1, hz⟩
            replace H30 : Hid (RN W20 wa.heap.size (.slice a30 n30 k30) (LI ++ (I.drop i).take 1 ++ RI)) := by rw [hW]; exact ⟨(unhide H30).1.keep (by simp) (fun g hg => set2_ne (unhide HN30 g hg)), (unhide H30).2⟩
            replace H36 : Hid (RN W20 wa.heap.size (.slice a36 n36 k36) (LK ++ RK)) := by rw [hW]; exact ⟨(unhide H36).1.keep (by simp) (fun g hg => set2_ne (unhide HN36 g hg)), (unhide H36).2⟩
            replace HB : Hid (Below wa.heap.size wa W20) := by rw [hW]; exact set2_below (unhide HB) hz
            clear hW hz e0 e1 f0 f1
            refine hK.out _ _ (unhide HS2 W20 (unhide HB)) (fun hHeld2 => ?_)
            clear hK K hHeld
            have hHeld := hHeld2
            clear hHeld2
            try simp only [Act.put, List.setIfInBounds_toArray, List.set_cons_zero, List.set_cons_succ]
            refine wpAnyH_done (by kernel_rfl) ?_ _
            go_wp2_with fail
            go_meet
            exact ⟨b7, n30, k30, n36, k36, a30, a36, rfl, (unhide H7).1, unhide H30, unhide H36, (unhide H7).2, unhide HB⟩
      · skip
        skip
        go_simp
        skip
        (go_wp2_with fail)
        obtain ⟨W16, hW⟩ : ∃ W16, W16 = WS.alloc (.cells #[.slice lka LK.length lkk, .slice rka RK.length rkk] 52) := ⟨_, rfl⟩
        obtain ⟨c35, hb⟩ : ∃ c35, c35 = WS.heap.size := ⟨_, rfl⟩
        rw [← hW, ← hb]
        have hbb : Below WS.heap.size WS W16 := by rw [hW]; exact (Below.refl _ _).alloc (Nat.le_refl _) _
        have H35 : Hid (W16.heap[c35]? = some (.cells #[.slice lka LK.length lkk, .slice rka RK.length rkk] 52 (0, 0))) := by rw [hW, hb]; exact heap_alloc_new _ _
        replace HB := hide (below_tr (unhide HB) hbb)
        clear hbb hW hb
        refine hK.out _ _ (unhide HS2 W16 (unhide HB)) (fun hHeld2 => ?_)
        clear hK K hHeld
        have hHeld := hHeld2
        clear hHeld2
        try simp only [Act.put, List.setIfInBounds_toArray, List.set_cons_zero, List.set_cons_succ]
        refine wpAnyH_ready (rs := [10, 19]) (by kernel_rfl) (by simp) ?_
        refine (AllReadyH.cons rfl (fun K hK => ?_) (AllReadyH.cons rfl (fun K hK => ?_) AllReadyH.nil))
        · skip
          skip
          go_simp
          skip
          (go_wp2_with fail)
          obtain ⟨W10, hW⟩ : ∃ W10, W10 = W16.alloc (.cells #[.slice lia LI.length lik, .slice p1 1 k1, .slice ria RI.length rik] 51) := ⟨_, rfl⟩
          obtain ⟨c29, hb⟩ : ∃ c29, c29 = W16.heap.size := ⟨_, rfl⟩
          rw [← hW, ← hb]
          have hbb : Below W16.heap.size W16 W10 := by rw [hW]; exact (Below.refl _ _).alloc (Nat.le_refl _) _
          replace H35 := hide (blk_below (unhide H35) hbb)
          have H29 : Hid (W10.heap[c29]? = some (.cells #[.slice lia LI.length lik, .slice p1 1 k1, .slice ria RI.length rik] 51 (0, 0))) := by rw [hW, hb]; exact heap_alloc_new _ _
          replace HB := hide (below_tr (unhide HB) hbb)
          clear hbb hW hb
          refine hK.out _ _ (unhide HS2 W10 (unhide HB)) (fun hHeld2 => ?_)
          clear hK K hHeld
          have hHeld := hHeld2
          clear hHeld2
          try simp only [Act.put, List.setIfInBounds_toArray, List.set_cons_zero, List.set_cons_succ]
          refine wpAnyH_ready (rs := [11, 19]) (by kernel_rfl) (by simp) ?_
          refine (AllReadyH.cons rfl (fun K hK => ?_) (AllReadyH.cons rfl (fun K hK => ?_) AllReadyH.nil))
          · skip
            skip
            go_simp
            (go_at_call 51; refine (unhide HC30 W10 c29 (below_tr (unhide HBc) (unhide HB)) (unhide H29)).mono ?_; rintro e W11 ⟨a30, n30, k30, rfl, q1, hbb⟩)
            (go_wp2_with fail)
            replace H35 := hide (blk_below (unhide H35) hbb)
            replace H29 := hide (blk_below (unhide H29) hbb)
            have H30 : Hid (RN W11 wa.heap.size (.slice a30 n30 k30) _) := ⟨q1.1, fun g hg => Nat.le_trans (unhide HB).size (q1.2 g hg)⟩
            replace HB := hide (below_tr (unhide HB) hbb)
            clear hbb q1
            refine hK.out _ _ (unhide HS2 W11 (unhide HB)) (fun hHeld2 => ?_)
            clear hK K hHeld
            have hHeld := hHeld2
            clear hHeld2
            try simp only [Act.put, List.setIfInBounds_toArray, List.set_cons_zero, List.set_cons_succ]
            refine wpAnyH_ready (rs := [17, 19]) (by kernel_rfl) (by simp) ?_
            refine (AllReadyH.cons rfl (fun K hK => ?_) (AllReadyH.cons rfl (fun K hK => ?_) AllReadyH.nil))
            · skip
              skip
              go_simp
              (go_at_call 65; refine (unhide HC36 W11 c35 (below_tr (unhide HBc) (unhide HB)) (unhide H35)).mono ?_; rintro e W17 ⟨a36, n36, k36, rfl, q1, hbb⟩)
              (go_wp2_with fail)
              replace H35 := hide (blk_below (unhide H35) hbb)
              replace H29 := hide (blk_below (unhide H29) hbb)
              replace H30 := hide ((unhide H30).below hbb)
              have H36 : Hid (RN W17 wa.heap.size (.slice a36 n36 k36) _) := ⟨q1.1, fun g hg => Nat.le_trans (unhide HB).size (q1.2 g hg)⟩
              replace HB := hide (below_tr (unhide HB) hbb)
              clear hbb q1
              refine hK.out _ _ (unhide HS2 W17 (unhide HB)) (fun hHeld2 => ?_)
              clear hK K hHeld
              have hHeld := hHeld2
              clear hHeld2
              try simp only [Act.put, List.setIfInBounds_toArray, List.set_cons_zero, List.set_cons_succ]
              refine hand_to (i := 18) (d := 37) (v := (.agg #[.slice a30 n30 k30, .slice a36 n36 k36])) rfl rfl (by kernel_rfl) (by kernel_rfl) (by kernel_rfl) (fun _ _ _ h => h) (Or.inl ⟨by rfl, ?_⟩) hHeld ?_
              · (intro w' hSw; obtain ⟨y0, y1, y2, y3, y4⟩ := hSw; go_simp)
              simp only [Act.put, List.setIfInBounds_toArray, List.set_cons_zero, List.set_cons_succ]
              refine wpAnyH_ready (rs := [19]) (by kernel_rfl) (by simp) ?_
              refine AllReadyH.cons rfl (fun K hK => ?_) AllReadyH.nil
              skip
              go_simp
              skip
              (go_wp2_with fail)
              obtain ⟨W19, hW⟩ : ∃ W19, W19 = W17.alloc (.cells #[.slice none 0 0, .slice none 0 0] 54) := ⟨_, rfl⟩
              obtain ⟨b7, hb⟩ : ∃ b7, b7 = W17.heap.size := ⟨_, rfl⟩
              rw [← hW, ← hb]
              have hbb : Below W17.heap.size W17 W19 := by rw [hW]; exact (Below.refl _ _).alloc (Nat.le_refl _) _
              have HN30 : Hid (∀ g, inB2 (.slice a30 n30 k30) g → g ≠ b7) := fun g hg => by have h1 := (unhide H30).1.lt g hg; omega
              have HN36 : Hid (∀ g, inB2 (.slice a36 n36 k36) g → g ≠ b7) := fun g hg => by have h1 := (unhide H36).1.lt g hg; omega
              replace H35 := hide (blk_below (unhide H35) hbb)
              replace H29 := hide (blk_below (unhide H29) hbb)
              replace H30 := hide ((unhide H30).below hbb)
              replace H36 := hide ((unhide H36).below hbb)
              have H7 : Hid (NV W19 b7 (.slice none 0 0) (.slice none 0 0) ∧ wa.heap.size ≤ b7) := by
                have hz := (unhide HB).size
                exact ⟨(by rw [hW, hb]; exact NV.new _ _ _), by omega⟩
              replace HB := hide (below_tr (unhide HB) hbb)
              clear hbb hW hb
              refine hK.out _ _ (unhide HS2 W19 (unhide HB)) (fun hHeld2 => ?_)
              clear hK K hHeld
              have hHeld := hHeld2
              clear hHeld2
              try simp only [Act.put, List.setIfInBounds_toArray, List.set_cons_zero, List.set_cons_succ]
              refine wpAnyH_ready (rs := [20]) (by kernel_rfl) (by simp) ?_
              refine AllReadyH.cons rfl (fun K hK => ?_) AllReadyH.nil
              obtain ⟨e0, e1, f0, f1⟩ := (unhide H7).1.cells
              go_simp
              skip
              (go_wp2_with fail)
              obtain ⟨W20, hW⟩ : ∃ W20, W20 = (W19.setCell ⟨b7, 0, none⟩ (.slice a30 n30 k30)).setCell ⟨b7, 1, none⟩ (.slice a36 n36 k36) := ⟨_, rfl⟩
              rw [← hW]
              have hz := (unhide H7).2
              replace H7 : Hid (NV W20 b7 (.slice a30 n30 k30) (.slice a36 n36 k36) ∧ wa.heap.size ≤ b7) := by rw [hW]; exact ⟨set2_at (unhide H7).1, hz⟩
              replace H30 : Hid (RN W20 wa.heap.size (.slice a30 n30 k30) (LI ++ (I.drop i).take 1 ++ RI)) := by rw [hW]; exact ⟨(unhide H30).1.keep (by simp) (fun g hg => set2_ne (unhide HN30 g hg)), (unhide H30).2⟩
              replace H36 : Hid (RN W20 wa.heap.size (.slice a36 n36 k36) (LK ++ RK)) := by rw [hW]; exact ⟨(unhide H36).1.keep (by simp) (fun g hg => set2_ne (unhide HN36 g hg)), (unhide H36).2⟩
              replace HB : Hid (Below wa.heap.size wa W20) := by rw [hW]; exact set2_below (unhide HB) hz
              clear hW hz e0 e1 f0 f1
              refine hK.out _ _ (unhide HS2 W20 (unhide HB)) (fun hHeld2 => ?_)
              clear hK K hHeld
              have hHeld := hHeld2
              clear hHeld2
              try simp only [Act.put, List.setIfInBounds_toArray, List.set_cons_zero, List.set_cons_succ]
              refine wpAnyH_done (by kernel_rfl) ?_ _
              go_wp2_with fail
              go_meet
              exact ⟨b7, n30, k30, n36, k36, a30, a36, rfl, (unhide H7).1, unhide H30, unhide H36, (unhide H7).2, unhide HB⟩
            · skip
              skip
              go_simp
              skip
              (go_wp2_with fail)
              obtain ⟨W19, hW⟩ : ∃ W19, W19 = W11.alloc (.cells #[.slice none 0 0, .slice none 0 0] 54) := ⟨_, rfl⟩
              obtain ⟨b7, hb⟩ : ∃ b7, b7 = W11.heap.size := ⟨_, rfl⟩
              rw [← hW, ← hb]
              have hbb : Below W11.heap.size W11 W19 := by rw [hW]; exact (Below.refl _ _).alloc (Nat.le_refl _) _
              have HN30 : Hid (∀ g, inB2 (.slice a30 n30 k30) g → g ≠ b7) := fun g hg => by have h1 := (unhide H30).1.lt g hg; omega
              replace H35 := hide (blk_below (unhide H35) hbb)
              replace H29 := hide (blk_below (unhide H29) hbb)
              replace H30 := hide ((unhide H30).below hbb)
              have H7 : Hid (NV W19 b7 (.slice none 0 0) (.slice none 0 0) ∧ wa.heap.size ≤ b7) := by
                have hz := (unhide HB).size
                exact ⟨(by rw [hW, hb]; exact NV.new _ _ _), by omega⟩
              replace HB := hide (below_tr (unhide HB) hbb)
              clear hbb hW hb
              refine hK.out _ _ (unhide HS2 W19 (unhide HB)) (fun hHeld2 => ?_)
              clear hK K hHeld
              have hHeld := hHeld2
              clear hHeld2
              try simp only [Act.put, List.setIfInBounds_toArray, List.set_cons_zero, List.set_cons_succ]
              refine wpAnyH_ready (rs := [17]) (by kernel_rfl) (by simp) ?_
              refine AllReadyH.cons rfl (fun K hK => ?_) AllReadyH.nil
              skip
              go_simp
              (go_at_call 65; refine (unhide HC36 W19 c35 (below_tr (unhide HBc) (unhide HB)) (unhide H35)).mono ?_; rintro e W17 ⟨a36, n36, k36, rfl, q1, hbb⟩)
              (go_wp2_with fail)
              have HN36 : Hid (∀ g, inB2 (.slice a36 n36 k36) g → g ≠ b7) := fun g hg => by have h1 := q1.2 g hg; have h2 := blk_lt (unhide H7).1; omega
              replace H35 := hide (blk_below (unhide H35) hbb)
              replace H29 := hide (blk_below (unhide H29) hbb)
              replace H30 := hide ((unhide H30).below hbb)
              replace H7 := hide (And.intro ((unhide H7).1.below hbb) (unhide H7).2)
              have H36 : Hid (RN W17 wa.heap.size (.slice a36 n36 k36) _) := ⟨q1.1, fun g hg => Nat.le_trans (unhide HB).size (q1.2 g hg)⟩
              replace HB := hide (below_tr (unhide HB) hbb)
              clear hbb q1
              refine hK.out _ _ (unhide HS2 W17 (unhide HB)) (fun hHeld2 => ?_)
              clear hK K hHeld
              have hHeld := hHeld2
              clear hHeld2
              try simp only [Act.put, List.setIfInBounds_toArray, List.set_cons_zero, List.set_cons_succ]
              refine hand_to (i := 18) (d := 37) (v := (.agg #[.slice a30 n30 k30, .slice a36 n36 k36])) rfl rfl (by kernel_rfl) (by kernel_rfl) (by kernel_rfl) (fun _ _ _ h => h) (Or.inl ⟨by rfl, ?_⟩) hHeld ?_
              · (intro w' hSw; obtain ⟨y0, y1, y2, y3, y4⟩ := hSw; go_simp)
              simp only [Act.put, List.setIfInBounds_toArray, List.set_cons_zero, List.set_cons_succ]
              refine wpAnyH_ready (rs := [20]) (by kernel_rfl) (by simp) ?_
              refine AllReadyH.cons rfl (fun K hK => ?_) AllReadyH.nil
              obtain ⟨e0, e1, f0, f1⟩ := (unhide H7).1.cells
              go_simp
              skip
              (go_wp2_with fail)
              obtain ⟨W20, hW⟩ : ∃ W20, W20 = (W17.setCell ⟨b7, 0, none⟩ (.slice a30 n30 k30)).setCell ⟨b7, 1, none⟩ (.slice a36 n36 k36) := ⟨_, rfl⟩
              rw [← hW]
              have hz := (unhide H7).2
              replace H7 : Hid (NV W20 b7 (.slice a30 n30 k30) (.slice a36 n36 k36) ∧ wa.heap.size ≤ b7) := by rw [hW]; exact ⟨set2_at (unhide H7).1, hz⟩
              replace H30 : Hid (RN W20 wa.heap.size (.slice a30 n30 k30) (LI ++ (I.drop i).take 1 ++ RI)) := by rw [hW]; exact ⟨(unhide H30).1.keep (by simp) (fun g hg => set2_ne (unhide HN30 g hg)), (unhide H30).2⟩
              replace H36 : Hid (RN W20 wa.heap.size (.slice a36 n36 k36) (LK ++ RK)) := by rw [hW]; exact ⟨(unhide H36).1.keep (by simp) (fun g hg => set2_ne (unhide HN36 g hg)), (unhide H36).2⟩
              replace HB : Hid (Below wa.heap.size wa W20) := by rw [hW]; exact set2_below (unhide HB) hz
              clear hW hz e0 e1 f0 f1
              refine hK.out _ _ (unhide HS2 W20 (unhide HB)) (fun hHeld2 => ?_)
              clear hK K hHeld
              have hHeld := hHeld2
              clear hHeld2
              try simp only [Act.put, List.setIfInBounds_toArray, List.set_cons_zero, List.set_cons_succ]
              refine wpAnyH_done (by kernel_rfl) ?_ _
              go_wp2_with fail
              go_meet
              exact ⟨b7, n30, k30, n36, k36, a30, a36, rfl, (unhide H7).1, unhide H30, unhide H36, (unhide H7).2, unhide HB⟩
          · skip
            skip
            go_simp
            skip
            (go_wp2_with fail)
            obtain ⟨W19, hW⟩ : ∃ W19, W19 = W10.alloc (.cells #[.slice none 0 0, .slice none 0 0] 54) := ⟨_, rfl⟩
            obtain ⟨b7, hb⟩ : ∃ b7, b7 = W10.heap.size := ⟨_, rfl⟩
            rw [← hW, ← hb]
            have hbb : Below W10.heap.size W10 W19 := by rw [hW]; exact (Below.refl _ _).alloc (Nat.le_refl _) _
            replace H35 := hide (blk_below (unhide H35) hbb)
            replace H29 := hide (blk_below (unhide H29) hbb)
            have H7 : Hid (NV W19 b7 (.slice none 0 0) (.slice none 0 0) ∧ wa.heap.size ≤ b7) := by
              have hz := (unhide HB).size
              exact ⟨(by rw [hW, hb]; exact NV.new _ _ _), by omega⟩
            replace HB := hide (below_tr (unhide HB) hbb)
            clear hbb hW hb
            refine hK.out _ _ (unhide HS2 W19 (unhide HB)) (fun hHeld2 => ?_)
            clear hK K hHeld
            have hHeld := hHeld2
            clear hHeld2
            try simp only [Act.put, List.setIfInBounds_toArray, List.set_cons_zero, List.set_cons_succ]
            refine wpAnyH_ready (rs := [11]) (by kernel_rfl) (by simp) ?_
            refine AllReadyH.cons rfl (fun K hK => ?_) AllReadyH.nil
            skip
            go_simp
            (go_at_call 51; refine (unhide HC30 W19 c29 (below_tr (unhide HBc) (unhide HB)) (unhide H29)).mono ?_; rintro e W11 ⟨a30, n30, k30, rfl, q1, hbb⟩)
            (go_wp2_with fail)
            have HN30 : Hid (∀ g, inB2 (.slice a30 n30 k30) g → g ≠ b7) := fun g hg => by have h1 := q1.2 g hg; have h2 := blk_lt (unhide H7).1; omega
            replace H35 := hide (blk_below (unhide H35) hbb)
            replace H29 := hide (blk_below (unhide H29) hbb)
            replace H7 := hide (And.intro ((unhide H7).1.below hbb) (unhide H7).2)
            have H30 : Hid (RN W11 wa.heap.size (.slice a30 n30 k30) _) := ⟨q1.1, fun g hg => Nat.le_trans (unhide HB).size (q1.2 g hg)⟩
            replace HB := hide (below_tr (unhide HB) hbb)
            clear hbb q1
            refine hK.out _ _ (unhide HS2 W11 (unhide HB)) (fun hHeld2 => ?_)
            clear hK K hHeld
            have hHeld := hHeld2
            clear hHeld2
            try simp only [Act.put, List.setIfInBounds_toArray, List.set_cons_zero, List.set_cons_succ]
            refine wpAnyH_ready (rs := [17]) (by kernel_rfl) (by simp) ?_
            refine AllReadyH.cons rfl (fun K hK => ?_) AllReadyH.nil
            skip
            go_simp
            (go_at_call 65; refine (unhide HC36 W11 c35 (below_tr (unhide HBc) (unhide HB)) (unhide H35)).mono ?_; rintro e W17 ⟨a36, n36, k36, rfl, q1, hbb⟩)
            (go_wp2_with fail)
            have HN36 : Hid (∀ g, inB2 (.slice a36 n36 k36) g → g ≠ b7) := fun g hg => by have h1 := q1.2 g hg; have h2 := blk_lt (unhide H7).1; omega
            replace H35 := hide (blk_below (unhide H35) hbb)
            replace H29 := hide (blk_below (unhide H29) hbb)
            replace H7 := hide (And.intro ((unhide H7).1.below hbb) (unhide H7).2)
            replace H30 := hide ((unhide H30).below hbb)
            have H36 : Hid (RN W17 wa.heap.size (.slice a36 n36 k36) _) := ⟨q1.1, fun g hg => Nat.le_trans (unhide HB).size (q1.2 g hg)⟩
            replace HB := hide (below_tr (unhide HB) hbb)
            clear hbb q1
            refine hK.out _ _ (unhide HS2 W17 (unhide HB)) (fun hHeld2 => ?_)
            clear hK K hHeld
            have hHeld := hHeld2
            clear hHeld2
            try simp only [Act.put, List.setIfInBounds_toArray, List.set_cons_zero, List.set_cons_succ]
            refine hand_to (i := 18) (d := 37) (v := (.agg #[.slice a30 n30 k30, .slice a36 n36 k36])) rfl rfl (by kernel_rfl) (by kernel_rfl) (by kernel_rfl) (fun _ _ _ h => h) (Or.inl ⟨by rfl, ?_⟩) hHeld ?_
            · (intro w' hSw; obtain ⟨y0, y1, y2, y3, y4⟩ := hSw; go_simp)
            simp only [Act.put, List.setIfInBounds_toArray, List.set_cons_zero, List.set_cons_succ]
            refine wpAnyH_ready (rs := [20]) (by kernel_rfl) (by simp) ?_
            refine AllReadyH.cons rfl (fun K hK => ?_) AllReadyH.nil
            obtain ⟨e0, e1, f0, f1⟩ := (unhide H7).1.cells
            go_simp
            skip
            (go_wp2_with fail)
            obtain ⟨W20, hW⟩ : ∃ W20, W20 = (W17.setCell ⟨b7, 0, none⟩ (.slice a30 n30 k30)).setCell ⟨b7, 1, none⟩ (.slice a36 n36 k36) := ⟨_, rfl⟩
            rw [← hW]
            have hz := (unhide H7).2
            replace H7 : Hid (NV W20 b7 (.slice a30 n30 k30) (.slice a36 n36 k36) ∧ wa.heap.size ≤ b7) := by rw [hW]; exact ⟨set2_at (unhide H7).1, hz⟩
            replace H30 : Hid (RN W20 wa.heap.size (.slice a30 n30 k30) (LI ++ (I.drop i).take 1 ++ RI)) := by rw [hW]; exact ⟨(unhide H30).1.keep (by simp) (fun g hg => set2_ne (unhide HN30 g hg)), (unhide H30).2⟩
            replace H36 : Hid (RN W20 wa.heap.size (.slice a36 n36 k36) (LK ++ RK)) := by rw [hW]; exact ⟨(unhide H36).1.keep (by simp) (fun g hg => set2_ne (unhide HN36 g hg)), (unhide H36).2⟩
            replace HB : Hid (Below wa.heap.size wa W20) := by rw [hW]; exact set2_below (unhide HB) hz
            clear hW hz e0 e1 f0 f1
            refine hK.out _ _ (unhide HS2 W20 (unhide HB)) (fun hHeld2 => ?_)
            clear hK K hHeld
            have hHeld := hHeld2
            clear hHeld2
            try simp only [Act.put, List.setIfInBounds_toArray, List.set_cons_zero, List.set_cons_succ]
            refine wpAnyH_done (by kernel_rfl) ?_ _
            go_wp2_with fail
            go_meet
            exact ⟨b7, n30, k30, n36, k36, a30, a36, rfl, (unhide H7).1, unhide H30, unhide H36, (unhide H7).2, unhide HB⟩
        · skip
          skip
          go_simp
          skip
          (go_wp2_with fail)
          obtain ⟨W19, hW⟩ : ∃ W19, W19 = W16.alloc (.cells #[.slice none 0 0, .slice none 0 0] 54) := ⟨_, rfl⟩
          obtain ⟨b7, hb⟩ : ∃ b7, b7 = W16.heap.size := ⟨_, rfl⟩
          rw [← hW, ← hb]
          have hbb : Below W16.heap.size W16 W19 := by rw [hW]; exact (Below.refl _ _).alloc (Nat.le_refl _) _
          replace H35 := hide (blk_below (unhide H35) hbb)
          have H7 : Hid (NV W19 b7 (.slice none 0 0) (.slice none 0 0) ∧ wa.heap.size ≤ b7) := by
            have hz := (unhide HB).size
            exact ⟨(by rw [hW, hb]; exact NV.new _ _ _), by omega⟩
          replace HB := hide (below_tr (unhide HB) hbb)
          clear hbb hW hb
          refine hK.out _ _ (unhide HS2 W19 (unhide HB)) (fun hHeld2 => ?_)
          clear hK K hHeld
          have hHeld := hHeld2
          clear hHeld2
          try simp only [Act.put, List.setIfInBounds_toArray, List.set_cons_zero, List.set_cons_succ]
          refine wpAnyH_ready (rs := [10]) (by kernel_rfl) (by simp) ?_
          refine AllReadyH.cons rfl (fun K hK => ?_) AllReadyH.nil
          skip
          go_simp
          skip
          (go_wp2_with fail)
          obtain ⟨W10, hW⟩ : ∃ W10, W10 = W19.alloc (.cells #[.slice lia LI.length lik, .slice p1 1 k1, .slice ria RI.length rik] 51) := ⟨_, rfl⟩
          obtain ⟨c29, hb⟩ : ∃ c29, c29 = W19.heap.size := ⟨_, rfl⟩
          rw [← hW, ← hb]
          have hbb : Below W19.heap.size W19 W10 := by rw [hW]; exact (Below.refl _ _).alloc (Nat.le_refl _) _
          replace H35 := hide (blk_below (unhide H35) hbb)
          replace H7 := hide (And.intro ((unhide H7).1.below hbb) (unhide H7).2)
          have H29 : Hid (W10.heap[c29]? = some (.cells #[.slice lia LI.length lik, .slice p1 1 k1, .slice ria RI.length rik] 51 (0, 0))) := by rw [hW, hb]; exact heap_alloc_new _ _
          replace HB := hide (below_tr (unhide HB) hbb)
          clear hbb hW hb
          refine hK.out _ _ (unhide HS2 W10 (unhide HB)) (fun hHeld2 => ?_)
          clear hK K hHeld
          have hHeld := hHeld2
          clear hHeld2
          try simp only [Act.put, List.setIfInBounds_toArray, List.set_cons_zero, List.set_cons_succ]
          refine wpAnyH_ready (rs := [11]) (by kernel_rfl) (by simp) ?_
          refine AllReadyH.cons rfl (fun K hK => ?_) AllReadyH.nil
          skip
          go_simp
          (go_at_call 51; refine (unhide HC30 W10 c29 (below_tr (unhide HBc) (unhide HB)) (unhide H29)).mono ?_; rintro e W11 ⟨a30, n30, k30, rfl, q1, hbb⟩)
          (go_wp2_with fail)
          have HN30 : Hid (∀ g, inB2 (.slice a30 n30 k30) g → g ≠ b7) := fun g hg => by have h1 := q1.2 g hg; have h2 := blk_lt (unhide H7).1; omega
          replace H35 := hide (blk_below (unhide H35) hbb)
          replace H7 := hide (And.intro ((unhide H7).1.below hbb) (unhide H7).2)
          replace H29 := hide (blk_below (unhide H29) hbb)
          have H30 : Hid (RN W11 wa.heap.size (.slice a30 n30 k30) _) := ⟨q1.1, fun g hg => Nat.le_trans (unhide HB).size (q1.2 g hg)⟩
          replace HB := hide (below_tr (unhide HB) hbb)
          clear hbb q1
          refine hK.out _ _ (unhide HS2 W11 (unhide HB)) (fun hHeld2 => ?_)
          clear hK K hHeld
          have hHeld := hHeld2
          clear hHeld2
          try simp only [Act.put, List.setIfInBounds_toArray, List.set_cons_zero, List.set_cons_succ]
          refine wpAnyH_ready (rs := [17]) (by kernel_rfl) (by simp) ?_
          refine AllReadyH.cons rfl (fun K hK => ?_) AllReadyH.nil
          skip
          go_simp
          (go_at_call 65; refine (unhide HC36 W11 c35 (below_tr (unhide HBc) (unhide HB)) (unhide H35)).mono ?_; rintro e W17 ⟨a36, n36, k36, rfl, q1, hbb⟩)
          (go_wp2_with fail)
          have HN36 : Hid (∀ g, inB2 (.slice a36 n36 k36) g → g ≠ b7) := fun g hg => by have h1 := q1.2 g hg; have h2 := blk_lt (unhide H7).1; omega
          replace H35 := hide (blk_below (unhide H35) hbb)
          replace H7 := hide (And.intro ((unhide H7).1.below hbb) (unhide H7).2)
          replace H29 := hide (blk_below (unhide H29) hbb)
          replace H30 := hide ((unhide H30).below hbb)
          have H36 : Hid (RN W17 wa.heap.size (.slice a36 n36 k36) _) := ⟨q1.1, fun g hg => Nat.le_trans (unhide HB).size (q1.2 g hg)⟩
          replace HB := hide (below_tr (unhide HB) hbb)
          clear hbb q1
          refine hK.out _ _ (unhide HS2 W17 (unhide HB)) (fun hHeld2 => ?_)
          clear hK K hHeld
          have hHeld := hHeld2
          clear hHeld2
          try simp only [Act.put, List.setIfInBounds_toArray, List.set_cons_zero, List.set_cons_succ]
          refine hand_to (i := 18) (d := 37) (v := (.agg #[.slice a30 n30 k30, .slice a36 n36 k36])) rfl rfl (by kernel_rfl) (by kernel_rfl) (by kernel_rfl) (fun _ _ _ h => h) (Or.inl ⟨by rfl, ?_⟩) hHeld ?_
          · (intro w' hSw; obtain ⟨y0, y1, y2, y3, y4⟩ := hSw; go_simp)
          simp only [Act.put, List.setIfInBounds_toArray, List.set_cons_zero, List.set_cons_succ]
          refine wpAnyH_ready (rs := [20]) (by kernel_rfl) (by simp) ?_
          refine AllReadyH.cons rfl (fun K hK => ?_) AllReadyH.nil
          obtain ⟨e0, e1, f0, f1⟩ := (unhide H7).1.cells
          go_simp
          skip
          (go_wp2_with fail)
          obtain ⟨W20, hW⟩ : ∃ W20, W20 = (W17.setCell ⟨b7, 0, none⟩ (.slice a30 n30 k30)).setCell ⟨b7, 1, none⟩ (.slice a36 n36 k36) := ⟨_, rfl⟩
          rw [← hW]
          have hz := (unhide H7).2
          replace H7 : Hid (NV W20 b7 (.slice a30 n30 k30) (.slice a36 n36 k36) ∧ wa.heap.size ≤ b7) := by rw [hW]; exact ⟨set2_at (unhide H7).1, hz⟩
          replace H30 : Hid (RN W20 wa.heap.size (.slice a30 n30 k30) (LI ++ (I.drop i).take 1 ++ RI)) := by rw [hW]; exact ⟨(unhide H30).1.keep (by simp) (fun g hg => set2_ne (unhide HN30 g hg)), (unhide H30).2⟩
          replace H36 : Hid (RN W20 wa.heap.size (.slice a36 n36 k36) (LK ++ RK)) := by rw [hW]; exact ⟨(unhide H36).1.keep (by simp) (fun g hg => set2_ne (unhide HN36 g hg)), (unhide H36).2⟩
          replace HB : Hid (Below wa.heap.size wa W20) := by rw [hW]; exact set2_below (unhide HB) hz
          clear hW hz e0 e1 f0 f1
          refine hK.out _ _ (unhide HS2 W20 (unhide HB)) (fun hHeld2 => ?_)
          clear hK K hHeld
          have hHeld := hHeld2
          clear hHeld2
          try simp only [Act.put, List.setIfInBounds_toArray, List.set_cons_zero, List.set_cons_succ]
          refine wpAnyH_done (by kernel_rfl) ?_ _
          go_wp2_with fail
          go_meet
          exact ⟨b7, n30, k30, n36, k36, a30, a36, rfl, (unhide H7).1, unhide H30, unhide H36, (unhide H7).2, unhide HB⟩
      · skip
        skip
        go_simp
        skip
        (go_wp2_with fail)
        obtain ⟨W19, hW⟩ : ∃ W19, W19 = WS.alloc (.cells #[.slice none 0 0, .slice none 0 0] 54) := ⟨_, rfl⟩
        obtain ⟨b7, hb⟩ : ∃ b7, b7 = WS.heap.size := ⟨_, rfl⟩
        rw [← hW, ← hb]
        have hbb : Below WS.heap.size WS W19 := by rw [hW]; exact (Below.refl _ _).alloc (Nat.le_refl _) _
        have H7 : Hid (NV W19 b7 (.slice none 0 0) (.slice none 0 0) ∧ wa.heap.size ≤ b7) := by
          have hz := (unhide HB).size
          exact ⟨(by rw [hW, hb]; exact NV.new _ _ _), by omega⟩
        replace HB := hide (below_tr (unhide HB) hbb)
        clear hbb hW hb
        refine hK.out _ _ (unhide HS2 W19 (unhide HB)) (fun hHeld2 => ?_)
        clear hK K hHeld
        have hHeld := hHeld2
        clear hHeld2
        try simp only [Act.put, List.setIfInBounds_toArray, List.set_cons_zero, List.set_cons_succ]
        refine wpAnyH_ready (rs := [10, 16]) (by kernel_rfl) (by simp) ?_
        refine (AllReadyH.cons rfl (fun K hK => ?_) (AllReadyH.cons rfl (fun K hK => ?_) AllReadyH.nil))
        · skip
          skip
          go_simp
          skip
          (go_wp2_with fail)
          obtain ⟨W10, hW⟩ : ∃ W10, W10 = W19.alloc (.cells #[.slice lia LI.length lik, .slice p1 1 k1, .slice ria RI.length rik] 51) := ⟨_, rfl⟩
          obtain ⟨c29, hb⟩ : ∃ c29, c29 = W19.heap.size := ⟨_, rfl⟩
          rw [← hW, ← hb]
          have hbb : Below W19.heap.size W19 W10 := by rw [hW]; exact (Below.refl _ _).alloc (Nat.le_refl _) _
          replace H7 := hide (And.intro ((unhide H7).1.below hbb) (unhide H7).2)
          have H29 : Hid (W10.heap[c29]? = some (.cells #[.slice lia LI.length lik, .slice p1 1 k1, .slice ria RI.length rik] 51 (0, 0))) := by rw [hW, hb]; exact heap_alloc_new _ _
          replace HB := hide (below_tr (unhide HB) hbb)
          clear hbb hW hb
          refine hK.out _ _ (unhide HS2 W10 (unhide HB)) (fun hHeld2 => ?_)
          clear hK K hHeld
          have hHeld := hHeld2
          clear hHeld2
          try simp only [Act.put, List.setIfInBounds_toArray, List.set_cons_zero, List.set_cons_succ]
          refine wpAnyH_ready (rs := [11, 16]) (by kernel_rfl) (by simp) ?_
          refine (AllReadyH.cons rfl (fun K hK => ?_) (AllReadyH.cons rfl (fun K hK => ?_) AllReadyH.nil))
          · skip
            skip
            go_simp
            (go_at_call 51; refine (unhide HC30 W10 c29 (below_tr (unhide HBc) (unhide HB)) (unhide H29)).mono ?_; rintro e W11 ⟨a30, n30, k30, rfl, q1, hbb⟩)
            (go_wp2_with fail)
            have HN30 : Hid (∀ g, inB2 (.slice a30 n30 k30) g → g ≠ b7) := fun g hg => by have h1 := q1.2 g hg; have h2 := blk_lt (unhide H7).1; omega
            replace H7 := hide (And.intro ((unhide H7).1.below hbb) (unhide H7).2)
            replace H29 := hide (blk_below (unhide H29) hbb)
            have H30 : Hid (RN W11 wa.heap.size (.slice a30 n30 k30) _) := ⟨q1.1, fun g hg => Nat.le_trans (unhide HB).size (q1.2 g hg)⟩
            replace HB := hide (below_tr (unhide HB) hbb)
            clear hbb q1
            refine hK.out _ _ (unhide HS2 W11 (unhide HB)) (fun hHeld2 => ?_)
            clear hK K hHeld
            have hHeld := hHeld2
            clear hHeld2
            try simp only [Act.put, List.setIfInBounds_toArray, List.set_cons_zero, List.set_cons_succ]
            refine wpAnyH_ready (rs := [16]) (by kernel_rfl) (by simp) ?_
            refine AllReadyH.cons rfl (fun K hK => ?_) AllReadyH.nil
            skip
            go_simp
            skip
            (go_wp2_with fail)
            obtain ⟨W16, hW⟩ : ∃ W16, W16 = W11.alloc (.cells #[.slice lka LK.length lkk, .slice rka RK.length rkk] 52) := ⟨_, rfl⟩
            obtain ⟨c35, hb⟩ : ∃ c35, c35 = W11.heap.size := ⟨_, rfl⟩
            rw [← hW, ← hb]
            have hbb : Below W11.heap.size W11 W16 := by rw [hW]; exact (Below.refl _ _).alloc (Nat.le_refl _) _
            replace H7 := hide (And.intro ((unhide H7).1.below hbb) (unhide H7).2)
            replace H29 := hide (blk_below (unhide H29) hbb)
            replace H30 := hide ((unhide H30).below hbb)
            have H35 : Hid (W16.heap[c35]? = some (.cells #[.slice lka LK.length lkk, .slice rka RK.length rkk] 52 (0, 0))) := by rw [hW, hb]; exact heap_alloc_new _ _
            replace HB := hide (below_tr (unhide HB) hbb)
            clear hbb hW hb
            refine hK.out _ _ (unhide HS2 W16 (unhide HB)) (fun hHeld2 => ?_)
            clear hK K hHeld
            have hHeld := hHeld2
            clear hHeld2
            try simp only [Act.put, List.setIfInBounds_toArray, List.set_cons_zero, List.set_cons_succ]
            refine wpAnyH_ready (rs := [17]) (by kernel_rfl) (by simp) ?_
            refine AllReadyH.cons rfl (fun K hK => ?_) AllReadyH.nil
            skip
            go_simp
            (go_at_call 65; refine (unhide HC36 W16 c35 (below_tr (unhide HBc) (unhide HB)) (unhide H35)).mono ?_; rintro e W17 ⟨a36, n36, k36, rfl, q1, hbb⟩)
            (go_wp2_with fail)
            have HN36 : Hid (∀ g, inB2 (.slice a36 n36 k36) g → g ≠ b7) := fun g hg => by have h1 := q1.2 g hg; have h2 := blk_lt (unhide H7).1; omega
            replace H7 := hide (And.intro ((unhide H7).1.below hbb) (unhide H7).2)
            replace H29 := hide (blk_below (unhide H29) hbb)
            replace H30 := hide ((unhide H30).below hbb)
            replace H35 := hide (blk_below (unhide H35) hbb)
            have H36 : Hid (RN W17 wa.heap.size (.slice a36 n36 k36) _) := ⟨q1.1, fun g hg => Nat.le_trans (unhide HB).size (q1.2 g hg)⟩
            replace HB := hide (below_tr (unhide HB) hbb)
            clear hbb q1
            refine hK.out _ _ (unhide HS2 W17 (unhide HB)) (fun hHeld2 => ?_)
            clear hK K hHeld
            have hHeld := hHeld2
            clear hHeld2
            try simp only [Act.put, List.setIfInBounds_toArray, List.set_cons_zero, List.set_cons_succ]
            refine hand_to (i := 18) (d := 37) (v := (.agg #[.slice a30 n30 k30, .slice a36 n36 k36])) rfl rfl (by kernel_rfl) (by kernel_rfl) (by kernel_rfl) (fun _ _ _ h => h) (Or.inl ⟨by rfl, ?_⟩) hHeld ?_
            · (intro w' hSw; obtain ⟨y0, y1, y2, y3, y4⟩ := hSw; go_simp)
            simp only [Act.put, List.setIfInBounds_toArray, List.set_cons_zero, List.set_cons_succ]
            refine wpAnyH_ready (rs := [20]) (by kernel_rfl) (by simp) ?_
            refine AllReadyH.cons rfl (fun K hK => ?_) AllReadyH.nil
            obtain ⟨e0, e1, f0, f1⟩ := (unhide H7).1.cells
            go_simp
            skip
            (go_wp2_with fail)
            obtain ⟨W20, hW⟩ : ∃ W20, W20 = (W17.setCell ⟨b7, 0, none⟩ (.slice a30 n30 k30)).setCell ⟨b7, 1, none⟩ (.slice a36 n36 k36) := ⟨_, rfl⟩
            rw [← hW]
            have hz := (unhide H7).2
            replace H7 : Hid (NV W20 b7 (.slice a30 n30 k30) (.slice a36 n36 k36) ∧ wa.heap.size ≤ b7) := by rw [hW]; exact ⟨set2_at (unhide H7).1, hz⟩
            replace H30 : Hid (RN W20 wa.heap.size (.slice a30 n30 k30) (LI ++ (I.drop i).take 1 ++ RI)) := by rw [hW]; exact ⟨(unhide H30).1.keep (by simp) (fun g hg => set2_ne (unhide HN30 g hg)), (unhide H30).2⟩
            replace H36 : Hid (RN W20 wa.heap.size (.slice a36 n36 k36) (LK ++ RK)) := by rw [hW]; exact ⟨(unhide H36).1.keep (by simp) (fun g hg => set2_ne (unhide HN36 g hg)), (unhide H36).2⟩
            replace HB : Hid (Below wa.heap.size wa W20) := by rw [hW]; exact set2_below (unhide HB) hz
            clear hW hz e0 e1 f0 f1
            refine hK.out _ _ (unhide HS2 W20 (unhide HB)) (fun hHeld2 => ?_)
            clear hK K hHeld
            have hHeld := hHeld2
            clear hHeld2
            try simp only [Act.put, List.setIfInBounds_toArray, List.set_cons_zero, List.set_cons_succ]
            refine wpAnyH_done (by kernel_rfl) ?_ _
            go_wp2_with fail
            go_meet
            exact ⟨b7, n30, k30, n36, k36, a30, a36, rfl, (unhide H7).1, unhide H30, unhide H36, (unhide H7).2, unhide HB⟩
          · skip
            skip
            go_simp
            skip
            (go_wp2_with fail)
            obtain ⟨W16, hW⟩ : ∃ W16, W16 = W10.alloc (.cells #[.slice lka LK.length lkk, .slice rka RK.length rkk] 52) := ⟨_, rfl⟩
            obtain ⟨c35, hb⟩ : ∃ c35, c35 = W10.heap.size := ⟨_, rfl⟩
            rw [← hW, ← hb]
            have hbb : Below W10.heap.size W10 W16 := by rw [hW]; exact (Below.refl _ _).alloc (Nat.le_refl _) _
            replace H7 := hide (And.intro ((unhide H7).1.below hbb) (unhide H7).2)
            replace H29 := hide (blk_below (unhide H29) hbb)
            have H35 : Hid (W16.heap[c35]? = some (.cells #[.slice lka LK.length lkk, .slice rka RK.length rkk] 52 (0, 0))) := by rw [hW, hb]; exact heap_alloc_new _ _
            replace HB := hide (below_tr (unhide HB) hbb)
            clear hbb hW hb
            refine hK.out _ _ (unhide HS2 W16 (unhide HB)) (fun hHeld2 => ?_)
            clear hK K hHeld
            have hHeld := hHeld2
            clear hHeld2
            try simp only [Act.put, List.setIfInBounds_toArray, List.set_cons_zero, List.set_cons_succ]
            refine wpAnyH_ready (rs := [11]) (by kernel_rfl) (by simp) ?_
            refine AllReadyH.cons rfl (fun K hK => ?_) AllReadyH.nil
            skip
            go_simp
            (go_at_call 51; refine (unhide HC30 W16 c29 (below_tr (unhide HBc) (unhide HB)) (unhide H29)).mono ?_; rintro e W11 ⟨a30, n30, k30, rfl, q1, hbb⟩)
            (go_wp2_with fail)
            have HN30 : Hid (∀ g, inB2 (.slice a30 n30 k30) g → g ≠ b7) := fun g hg => by have h1 := q1.2 g hg; have h2 := blk_lt (unhide H7).1; omega
            replace H7 := hide (And.intro ((unhide H7).1.below hbb) (unhide H7).2)
            replace H29 := hide (blk_below (unhide H29) hbb)
            replace H35 := hide (blk_below (unhide H35) hbb)
            have H30 : Hid (RN W11 wa.heap.size (.slice a30 n30 k30) _) := ⟨q1.1, fun g hg => Nat.le_trans (unhide HB).size (q1.2 g hg)⟩
            replace HB := hide (below_tr (unhide HB) hbb)
            clear hbb q1
            refine hK.out _ _ (unhide HS2 W11 (unhide HB)) (fun hHeld2 => ?_)
            clear hK K hHeld
            have hHeld := hHeld2
            clear hHeld2
            try simp only [Act.put, List.setIfInBounds_toArray, List.set_cons_zero, List.set_cons_succ]
            refine wpAnyH_ready (rs := [17]) (by kernel_rfl) (by simp) ?_
            refine AllReadyH.cons rfl (fun K hK => ?_) AllReadyH.nil
            skip
            go_simp
            (go_at_call 65; refine (unhide HC36 W11 c35 (below_tr (unhide HBc) (unhide HB)) (unhide H35)).mono ?_; rintro e W17 ⟨a36, n36, k36, rfl, q1, hbb⟩)
            (go_wp2_with fail)
            have HN36 : Hid (∀ g, inB2 (.slice a36 n36 k36) g → g ≠ b7) := fun g hg => by have h1 := q1.2 g hg; have h2 := blk_lt (unhide H7).1; omega
            replace H7 := hide (And.intro ((unhide H7).1.below hbb) (unhide H7).2)
            replace H29 := hide (blk_below (unhide H29) hbb)
            replace H35 := hide (blk_below (unhide H35) hbb)
            replace H30 := hide ((unhide H30).below hbb)
            have H36 : Hid (RN W17 wa.heap.size (.slice a36 n36 k36) _) := ⟨q1.1, fun g hg => Nat.le_trans (unhide HB).size (q1.2 g hg)⟩
            replace HB := hide (below_tr (unhide HB) hbb)
            clear hbb q1
            refine hK.out _ _ (unhide HS2 W17 (unhide HB)) (fun hHeld2 => ?_)
            clear hK K hHeld
            have hHeld := hHeld2
            clear hHeld2
            try simp only [Act.put, List.setIfInBounds_toArray, List.set_cons_zero, List.set_cons_succ]
            refine hand_to (i := 18) (d := 37) (v := (.agg #[.slice a30 n30 k30, .slice a36 n36 k36])) rfl rfl (by kernel_rfl) (by kernel_rfl) (by kernel_rfl) (fun _ _ _ h => h) (Or.inl ⟨by rfl, ?_⟩) hHeld ?_
            · (intro w' hSw; obtain ⟨y0, y1, y2, y3, y4⟩ := hSw; go_simp)
            simp only [Act.put, List.setIfInBounds_toArray, List.set_cons_zero, List.set_cons_succ]
            refine wpAnyH_ready (rs := [20]) (by kernel_rfl) (by simp) ?_
            refine AllReadyH.cons rfl (fun K hK => ?_) AllReadyH.nil
            obtain ⟨e0, e1, f0, f1⟩ := (unhide H7).1.cells
            go_simp
            skip
            (go_wp2_with fail)
            obtain ⟨W20, hW⟩ : ∃ W20, W20 = (W17.setCell ⟨b7, 0, none⟩ (.slice a30 n30 k30)).setCell ⟨b7, 1, none⟩ (.slice a36 n36 k36) := ⟨_, rfl⟩
            rw [← hW]
            have hz := (unhide H7).2
            replace H7 : Hid (NV W20 b7 (.slice a30 n30 k30) (.slice a36 n36 k36) ∧ wa.heap.size ≤ b7) := by rw [hW]; exact ⟨set2_at (unhide H7).1, hz⟩
            replace H30 : Hid (RN W20 wa.heap.size (.slice a30 n30 k30) (LI ++ (I.drop i).take 1 ++ RI)) := by rw [hW]; exact ⟨(unhide H30).1.keep (by simp) (fun g hg => set2_ne (unhide HN30 g hg)), (unhide H30).2⟩
            replace H36 : Hid (RN W20 wa.heap.size (.slice a36 n36 k36) (LK ++ RK)) := by rw [hW]; exact ⟨(unhide H36).1.keep (by simp) (fun g hg => set2_ne (unhide HN36 g hg)), (unhide H36).2⟩
            replace HB : Hid (Below wa.heap.size wa W20) := by rw [hW]; exact set2_below (unhide HB) hz
            clear hW hz e0 e1 f0 f1
            refine hK.out _ _ (unhide HS2 W20 (unhide HB)) (fun hHeld2 => ?_)
            clear hK K hHeld
            have hHeld := hHeld2
            clear hHeld2
            try simp only [Act.put, List.setIfInBounds_toArray, List.set_cons_zero, List.set_cons_succ]
            refine wpAnyH_done (by kernel_rfl) ?_ _
            go_wp2_with fail
            go_meet
            exact ⟨b7, n30, k30, n36, k36, a30, a36, rfl, (unhide H7).1, unhide H30, unhide H36, (unhide H7).2, unhide HB⟩
        · skip
          skip
          go_simp
          skip
          (go_wp2_with fail)
          obtain ⟨W16, hW⟩ : ∃ W16, W16 = W19.alloc (.cells #[.slice lka LK.length lkk, .slice rka RK.length rkk] 52) := ⟨_, rfl⟩
          obtain ⟨c35, hb⟩ : ∃ c35, c35 = W19.heap.size := ⟨_, rfl⟩
          rw [← hW, ← hb]
          have hbb : Below W19.heap.size W19 W16 := by rw [hW]; exact (Below.refl _ _).alloc (Nat.le_refl _) _
          replace H7 := hide (And.intro ((unhide H7).1.below hbb) (unhide H7).2)
          have H35 : Hid (W16.heap[c35]? = some (.cells #[.slice lka LK.length lkk, .slice rka RK.length rkk] 52 (0, 0))) := by rw [hW, hb]; exact heap_alloc_new _ _
          replace HB := hide (below_tr (unhide HB) hbb)
          clear hbb hW hb
          refine hK.out _ _ (unhide HS2 W16 (unhide HB)) (fun hHeld2 => ?_)
          clear hK K hHeld
          have hHeld := hHeld2
          clear hHeld2
          try simp only [Act.put, List.setIfInBounds_toArray, List.set_cons_zero, List.set_cons_succ]
          refine wpAnyH_ready (rs := [10]) (by kernel_rfl) (by simp) ?_
          refine AllReadyH.cons rfl (fun K hK => ?_) AllReadyH.nil
          skip
          go_simp
          skip
          (go_wp2_with fail)
          obtain ⟨W10, hW⟩ : ∃ W10, W10 = W16.alloc (.cells #[.slice lia LI.length lik, .slice p1 1 k1, .slice ria RI.length rik] 51) := ⟨_, rfl⟩
          obtain ⟨c29, hb⟩ : ∃ c29, c29 = W16.heap.size := ⟨_, rfl⟩
          rw [← hW, ← hb]
          have hbb : Below W16.heap.size W16 W10 := by rw [hW]; exact (Below.refl _ _).alloc (Nat.le_refl _) _
          replace H7 := hide (And.intro ((unhide H7).1.below hbb) (unhide H7).2)
          replace H35 := hide (blk_below (unhide H35) hbb)
          have H29 : Hid (W10.heap[c29]? = some (.cells #[.slice lia LI.length lik, .slice p1 1 k1, .slice ria RI.length rik] 51 (0, 0))) := by rw [hW, hb]; exact heap_alloc_new _ _
          replace HB := hide (below_tr (unhide HB) hbb)
          clear hbb hW hb
          refine hK.out _ _ (unhide HS2 W10 (unhide HB)) (fun hHeld2 => ?_)
          clear hK K hHeld
          have hHeld := hHeld2
          clear hHeld2
          try simp only [Act.put, List.setIfInBounds_toArray, List.set_cons_zero, List.set_cons_succ]
          refine wpAnyH_ready (rs := [11]) (by kernel_rfl) (by simp) ?_
          refine AllReadyH.cons rfl (fun K hK => ?_) AllReadyH.nil
          skip
          go_simp
          (go_at_call 51; refine (unhide HC30 W10 c29 (below_tr (unhide HBc) (unhide HB)) (unhide H29)).mono ?_; rintro e W11 ⟨a30, n30, k30, rfl, q1, hbb⟩)
          (go_wp2_with fail)
          have HN30 : Hid (∀ g, inB2 (.slice a30 n30 k30) g → g ≠ b7) := fun g hg => by have h1 := q1.2 g hg; have h2 := blk_lt (unhide H7).1; omega
          replace H7 := hide (And.intro ((unhide H7).1.below hbb) (unhide H7).2)
          replace H35 := hide (blk_below (unhide H35) hbb)
          replace H29 := hide (blk_below (unhide H29) hbb)
          have H30 : Hid (RN W11 wa.heap.size (.slice a30 n30 k30) _) := ⟨q1.1, fun g hg => Nat.le_trans (unhide HB).size (q1.2 g hg)⟩
          replace HB := hide (below_tr (unhide HB) hbb)
          clear hbb q1
          refine hK.out _ _ (unhide HS2 W11 (unhide HB)) (fun hHeld2 => ?_)
          clear hK K hHeld
          have hHeld := hHeld2
          clear hHeld2
          try simp only [Act.put, List.setIfInBounds_toArray, List.set_cons_zero, List.set_cons_succ]
          refine wpAnyH_ready (rs := [17]) (by kernel_rfl) (by simp) ?_
          refine AllReadyH.cons rfl (fun K hK => ?_) AllReadyH.nil
          skip
          go_simp
          (go_at_call 65; refine (unhide HC36 W11 c35 (below_tr (unhide HBc) (unhide HB)) (unhide H35)).mono ?_; rintro e W17 ⟨a36, n36, k36, rfl, q1, hbb⟩)
          (go_wp2_with fail)
          have HN36 : Hid (∀ g, inB2 (.slice a36 n36 k36) g → g ≠ b7) := fun g hg => by have h1 := q1.2 g hg; have h2 := blk_lt (unhide H7).1; omega
          replace H7 := hide (And.intro ((unhide H7).1.below hbb) (unhide H7).2)
          replace H35 := hide (blk_below (unhide H35) hbb)
          replace H29 := hide (blk_below (unhide H29) hbb)
          replace H30 := hide ((unhide H30).below hbb)
          have H36 : Hid (RN W17 wa.heap.size (.slice a36 n36 k36) _) := ⟨q1.1, fun g hg => Nat.le_trans (unhide HB).size (q1.2 g hg)⟩
          replace HB := hide (below_tr (unhide HB) hbb)
          clear hbb q1
          refine hK.out _ _ (unhide HS2 W17 (unhide HB)) (fun hHeld2 => ?_)
          clear hK K hHeld
          have hHeld := hHeld2
          clear hHeld2
          try simp only [Act.put, List.setIfInBounds_toArray, List.set_cons_zero, List.set_cons_succ]
          refine hand_to (i := 18) (d := 37) (v := (.agg #[.slice a30 n30 k30, .slice a36 n36 k36])) rfl rfl (by kernel_rfl) (by kernel_rfl) (by kernel_rfl) (fun _ _ _ h => h) (Or.inl ⟨by rfl, ?_⟩) hHeld ?_
          · (intro w' hSw; obtain ⟨y0, y1, y2, y3, y4⟩ := hSw; go_simp)
          simp only [Act.put, List.setIfInBounds_toArray, List.set_cons_zero, List.set_cons_succ]
          refine wpAnyH_ready (rs := [20]) (by kernel_rfl) (by simp) ?_
          refine AllReadyH.cons rfl (fun K hK => ?_) AllReadyH.nil
          obtain ⟨e0, e1, f0, f1⟩ := (unhide H7).1.cells
          go_simp
          skip
          (go_wp2_with fail)
          obtain ⟨W20, hW⟩ : ∃ W20, W20 = (W17.setCell ⟨b7, 0, none⟩ (.slice a30 n30 k30)).setCell ⟨b7, 1, none⟩ (.slice a36 n36 k36) := ⟨_, rfl⟩
          rw [← hW]
          have hz := (unhide H7).2
          replace H7 : Hid (NV W20 b7 (.slice a30 n30 k30) (.slice a36 n36 k36) ∧ wa.heap.size ≤ b7) := by rw [hW]; exact ⟨set2_at (unhide H7).1, hz⟩
          replace H30 : Hid (RN W20 wa.heap.size (.slice a30 n30 k30) (LI ++ (I.drop i).take 1 ++ RI)) := by rw [hW]; exact ⟨(unhide H30).1.keep (by simp) (fun g hg => set2_ne (unhide HN30 g hg)), (unhide H30).2⟩
          replace H36 : Hid (RN W20 wa.heap.size (.slice a36 n36 k36) (LK ++ RK)) := by rw [hW]; exact ⟨(unhide H36).1.keep (by simp) (fun g hg => set2_ne (unhide HN36 g hg)), (unhide H36).2⟩
          replace HB : Hid (Below wa.heap.size wa W20) := by rw [hW]; exact set2_below (unhide HB) hz
          clear hW hz e0 e1 f0 f1
          refine hK.out _ _ (unhide HS2 W20 (unhide HB)) (fun hHeld2 => ?_)
          clear hK K hHeld
          have hHeld := hHeld2
          clear hHeld2
          try simp only [Act.put, List.setIfInBounds_toArray, List.set_cons_zero, List.set_cons_succ]
          refine wpAnyH_done (by kernel_rfl) ?_ _
          go_wp2_with fail
          go_meet
          exact ⟨b7, n30, k30, n36, k36, a30, a36, rfl, (unhide H7).1, unhide H30, unhide H36, (unhide H7).2, unhide HB⟩
    case rest =>
      obtain ⟨b7, jn, jc, kn, kc, ja, kA, rfl, HV7⟩ := hcut
      have hBw : Below wa.heap.size wa wc := (unhide HV7).2.2.2.2
      replace H2 := hide ((unhide H2).below hBw)
      replace H4 := hide ((unhide H4).below hBw)
      have HBd := hide (below_tr (unhide HBc) hBw)
      have HZc : Hid (w.heap.size + 2 ≤ wa.heap.size) := by have h1 := unhide HZ0; have h2 := (unhide HV).2.2.2.2.size; show w.heap.size + 2 ≤ wa.heap.size; omega
      clear hBw HS2 HC30 HC36 HX1 HR1
      have HS3 : Hid (∀ W : World, NV W w.heap.size (.slice ia I.length ik) (.slice (some ⟨kb, ko, none⟩) ks.length kk) → NV W b7 (.slice ja jn jc) (.slice kA kn kc) → W.cell? ⟨w.heap.size, 0, none⟩ = some (.slice ia I.length ik) ∧ W.cell? ⟨w.heap.size, 1, none⟩ = some (.slice (some ⟨kb, ko, none⟩) ks.length kk) ∧ W.cell? ⟨b7, 0, none⟩ = some (.slice ja jn jc) ∧ W.cell? ⟨b7, 1, none⟩ = some (.slice kA kn kc)) := fun W h1 h2 => ⟨h1.cells.1, h1.cells.2.1, h2.cells.1, h2.cells.2.1⟩
      have HC43 : Hid (∀ W : World, Below w.heap.size w W → Calls Tryz.prog 35 #[.slice ia I.length ik, .int .i64 (i : Int), .int .i64 ((i : Int) + 1), .slice none 0 0] W fun e w' => ∃ a n k, e = .returned (.slice a n k) ∧ RN w' W.heap.size (.slice a n k) (I.take i ++ I.drop (i + 1)) ∧ Below W.heap.size W w') := by
        intro W hb
        have h1 := unhide HI
        obtain ⟨m1, m2, m3, m4, m5, m6⟩ := unhide HN
        refine (spliced_item (.slice ia I.length ik) (.slice none 0 0) I [] i (i + 1) W ((unhide HA).1.below hb) (R2.nil _) (by omega) (by omega) (by simp; omega)).mono ?_
        rintro e w' ⟨v, rfl, q1, q2⟩
        rw [List.append_nil] at q1
        obtain ⟨a, k, rfl, _, _⟩ := id q1.1.slice
        exact ⟨a, _, k, rfl, q1, q2⟩
      have HC51 : Hid (∀ (W : World) (c : Nat), Below w.heap.size w W → NV W c (.slice ja jn jc) (.slice kA kn kc) → Calls Tryz.prog 52 #[.slice (some ⟨kb, ko, none⟩) ks.length kk, .int .i64 (i : Int), .int .i64 ((i : Int) + 2), .slice (some ⟨c, 0, none⟩) 1 1] W fun e w' => ∃ a n k, e = .returned (.slice a n k) ∧ RN w' W.heap.size (.slice a n k) (ks.take i ++ (.slice ja jn jc, .slice kA kn kc) :: ks.drop (i + 2)) ∧ Below W.heap.size W w') := by
        intro W c hb hc
        obtain ⟨m1, m2, m3, m4, m5, m6⟩ := unhide HN
        have hx : R2 W (.slice (some ⟨c, 0, none⟩) 1 1) [((.slice ja jn jc : Value), (.slice kA kn kc : Value))] := ⟨fun x hx => (by rw [List.mem_singleton.1 hx]; exact ⟨rfl, rfl⟩), .inr ⟨c, 0, 1, rfl, blk_lt hc, Nat.le_refl _, (by decide), fun n y hy => by
          match n, hy with
          | 0, hy => cases hy; exact ⟨hc.cells.1, hc.cells.2.1⟩
          | n + 1, hy => simp at hy⟩⟩
        refine (spliced_node (.slice (some ⟨kb, ko, none⟩) ks.length kk) _ ks _ i (i + 2) W ((unhide HA).2.1.below hb) hx (by omega) (by omega) (by simp; omega)).mono ?_
        rintro e w' ⟨v, rfl, q1, q2⟩
        obtain ⟨a, k, rfl, _, _⟩ := id q1.1.slice
        exact ⟨a, _, k, rfl, by simpa using q1, q2⟩
      clear HA
      go_upto_region 3 with fail
      refine wp_region_held_drew (S := fun w' => w'.cell? ⟨w.heap.size, 0, none⟩ = some (.slice ia I.length ik) ∧ w'.cell? ⟨w.heap.size, 1, none⟩ = some (.slice (some ⟨kb, ko, none⟩) ks.length kk) ∧ w'.cell? ⟨b7, 0, none⟩ = some (.slice ja jn jc) ∧ w'.cell? ⟨b7, 1, none⟩ = some (.slice kA kn kc)) (by kernel_rfl) (unhide HS3 _ ((unhide H2).below (Below.refl _ _).drew) ((unhide HV7).1.below (Below.refl _ _).drew)) (fun hHeld => ?_)
      obtain ⟨WS, hWS⟩ : ∃ WS, WS = wc.drew := ⟨_, rfl⟩
      rw [← hWS] at hHeld ⊢
      have HM : Hid (Below wc.heap.size wc WS ∧ NV WS w.heap.size (.slice ia I.length ik) (.slice (some ⟨kb, ko, none⟩) ks.length kk) ∧ NV WS b7 (.slice ja jn jc) (.slice kA kn kc)) := by
        rw [hWS]
        exact ⟨(Below.refl _ _).drew, (unhide H2).below (Below.refl _ _).drew, (unhide HV7).1.below (Below.refl _ _).drew⟩
      clear hWS
      refine hand_to (i := 0) (d := 38) (v := (.pointer (some ⟨w.heap.size, 0, none⟩))) rfl rfl (by kernel_rfl) (by kernel_rfl) (by kernel_rfl) (fun _ _ _ h => h) (Or.inl ⟨by rfl, ?_⟩) hHeld ?_
      · (intro w' hSw; obtain ⟨y0, y1, y2, y3⟩ := hSw; go_simp)
      simp only [Act.put, List.setIfInBounds_toArray, List.set_cons_zero, List.set_cons_succ]
      refine hand_to (i := 1) (d := 39) (v := (.slice ia I.length ik)) rfl rfl (by kernel_rfl) (by kernel_rfl) (by kernel_rfl) (fun _ _ _ h => h) (Or.inl ⟨by rfl, ?_⟩) hHeld ?_
      · (intro w' hSw; obtain ⟨y0, y1, y2, y3⟩ := hSw; go_simp)
      simp only [Act.put, List.setIfInBounds_toArray, List.set_cons_zero, List.set_cons_succ]
      refine hand_to (i := 2) (d := 40) (v := (.int .i64 (i : Int))) rfl rfl (by kernel_rfl) (by kernel_rfl) (by kernel_rfl) (fun _ _ _ h => h) (Or.inl ⟨by rfl, ?_⟩) hHeld ?_
      · (intro w' hSw; obtain ⟨y0, y1, y2, y3⟩ := hSw; go_simp)
      simp only [Act.put, List.setIfInBounds_toArray, List.set_cons_zero, List.set_cons_succ]
      refine hand_to (i := 3) (d := 41) (v := (.int .i64 (i : Int))) rfl rfl (by kernel_rfl) (by kernel_rfl) (by kernel_rfl) (fun _ _ _ h => h) (Or.inl ⟨by rfl, ?_⟩) hHeld ?_
      · (intro w' hSw; obtain ⟨y0, y1, y2, y3⟩ := hSw; go_simp)
      simp only [Act.put, List.setIfInBounds_toArray, List.set_cons_zero, List.set_cons_succ]
      refine hand_to (i := 4) (d := 42) (v := (.int .i64 ((i : Int) + 1))) rfl rfl (by kernel_rfl) (by kernel_rfl) (by kernel_rfl) (fun _ _ _ h => h) (Or.inl ⟨by rfl, ?_⟩) hHeld ?_
      · (intro w' hSw; obtain ⟨y0, y1, y2, y3⟩ := hSw; go_simp)
      simp only [Act.put, List.setIfInBounds_toArray, List.set_cons_zero, List.set_cons_succ]
      refine hand_to (i := 6) (d := 44) (v := (.pointer (some ⟨w.heap.size, 1, none⟩))) rfl rfl (by kernel_rfl) (by kernel_rfl) (by kernel_rfl) (fun _ _ _ h => h) (Or.inl ⟨by rfl, ?_⟩) hHeld ?_
      · (intro w' hSw; obtain ⟨y0, y1, y2, y3⟩ := hSw; go_simp)
      simp only [Act.put, List.setIfInBounds_toArray, List.set_cons_zero, List.set_cons_succ]
      refine hand_to (i := 7) (d := 45) (v := (.slice (some ⟨kb, ko, none⟩) ks.length kk)) rfl rfl (by kernel_rfl) (by kernel_rfl) (by kernel_rfl) (fun _ _ _ h => h) (Or.inl ⟨by rfl, ?_⟩) hHeld ?_
      · (intro w' hSw; obtain ⟨y0, y1, y2, y3⟩ := hSw; go_simp)
      simp only [Act.put, List.setIfInBounds_toArray, List.set_cons_zero, List.set_cons_succ]
      refine hand_to (i := 8) (d := 46) (v := (.int .i64 (i : Int))) rfl rfl (by kernel_rfl) (by kernel_rfl) (by kernel_rfl) (fun _ _ _ h => h) (Or.inl ⟨by rfl, ?_⟩) hHeld ?_
      · (intro w' hSw; obtain ⟨y0, y1, y2, y3⟩ := hSw; go_simp)
      simp only [Act.put, List.setIfInBounds_toArray, List.set_cons_zero, List.set_cons_succ]
      refine hand_to (i := 9) (d := 47) (v := (.int .i64 (i : Int))) rfl rfl (by kernel_rfl) (by kernel_rfl) (by kernel_rfl) (fun _ _ _ h => h) (Or.inl ⟨by rfl, ?_⟩) hHeld ?_
      · (intro w' hSw; obtain ⟨y0, y1, y2, y3⟩ := hSw; go_simp)
      simp only [Act.put, List.setIfInBounds_toArray, List.set_cons_zero, List.set_cons_succ]
      refine hand_to (i := 10) (d := 48) (v := (.int .i64 ((i : Int) + 2))) rfl rfl (by kernel_rfl) (by kernel_rfl) (by kernel_rfl) (fun _ _ _ h => h) (Or.inl ⟨by rfl, ?_⟩) hHeld ?_
      · (intro w' hSw; obtain ⟨y0, y1, y2, y3⟩ := hSw; go_simp)
      simp only [Act.put, List.setIfInBounds_toArray, List.set_cons_zero, List.set_cons_succ]
      refine hand_to (i := 11) (d := 49) (v := (.agg #[.slice ja jn jc, .slice kA kn kc])) rfl rfl (by kernel_rfl) (by kernel_rfl) (by kernel_rfl) (fun _ _ _ h => h) (Or.inl ⟨by rfl, ?_⟩) hHeld ?_
      · (intro w' hSw; obtain ⟨y0, y1, y2, y3⟩ := hSw; go_simp)
      simp only [Act.put, List.setIfInBounds_toArray, List.set_cons_zero, List.set_cons_succ]
      refine wpAnyH_ready (rs := [5, 12]) (by kernel_rfl) (by simp) ?_
      refine (AllReadyH.cons rfl (fun K hK => ?_) (AllReadyH.cons rfl (fun K hK => ?_) AllReadyH.nil))
      · skip
        skip
        go_simp
        (go_at_call 35; refine (unhide HC43 WS (below_tr (unhide HBd) (unhide HM).1)).mono ?_; rintro e W5 ⟨a43, n43, k43, rfl, q1, hbb⟩)
        (go_wp2_with fail)
        have H43 : Hid (RN W5 wc.heap.size (.slice a43 n43 k43) _) := ⟨q1.1, fun g hg => Nat.le_trans (unhide HM).1.size (q1.2 g hg)⟩
        replace HM : Hid (Below wc.heap.size wc W5 ∧ NV W5 w.heap.size (.slice ia I.length ik) (.slice (some ⟨kb, ko, none⟩) ks.length kk) ∧ NV W5 b7 (.slice ja jn jc) (.slice kA kn kc)) := ⟨below_tr (unhide HM).1 hbb, (unhide HM).2.1.below hbb, (unhide HM).2.2.below hbb⟩
        clear hbb q1
        refine hK.out _ _ (unhide HS3 W5 (unhide HM).2.1 (unhide HM).2.2) (fun hHeld2 => ?_)
        clear hK K hHeld
        have hHeld := hHeld2
        clear hHeld2
        try simp only [Act.put, List.setIfInBounds_toArray, List.set_cons_zero, List.set_cons_succ]
        refine wpAnyH_ready (rs := [12]) (by kernel_rfl) (by simp) ?_
        refine AllReadyH.cons rfl (fun K hK => ?_) AllReadyH.nil
        skip
        go_simp
        skip
        (go_wp2_with fail)
        obtain ⟨W12, hW⟩ : ∃ W12, W12 = W5.alloc (.cells #[.slice ja jn jc, .slice kA kn kc] 54) := ⟨_, rfl⟩
        obtain ⟨c50, hb⟩ : ∃ c50, c50 = W5.heap.size := ⟨_, rfl⟩
        rw [← hW, ← hb]
        have hbb : Below W5.heap.size W5 W12 := by rw [hW]; exact (Below.refl _ _).alloc (Nat.le_refl _) _
        replace H43 := hide ((unhide H43).below hbb)
        have H50 : Hid (NV W12 c50 (.slice ja jn jc) (.slice kA kn kc)) := by rw [hW, hb]; exact NV.new _ _ _
        replace HM : Hid (Below wc.heap.size wc W12 ∧ NV W12 w.heap.size (.slice ia I.length ik) (.slice (some ⟨kb, ko, none⟩) ks.length kk) ∧ NV W12 b7 (.slice ja jn jc) (.slice kA kn kc)) := ⟨below_tr (unhide HM).1 hbb, (unhide HM).2.1.below hbb, (unhide HM).2.2.below hbb⟩
        clear hbb hW hb
        refine hK.out _ _ (unhide HS3 W12 (unhide HM).2.1 (unhide HM).2.2) (fun hHeld2 => ?_)
        clear hK K hHeld
        have hHeld := hHeld2
        clear hHeld2
        try simp only [Act.put, List.setIfInBounds_toArray, List.set_cons_zero, List.set_cons_succ]
        refine wpAnyH_ready (rs := [13]) (by kernel_rfl) (by simp) ?_
        refine AllReadyH.cons rfl (fun K hK => ?_) AllReadyH.nil
        skip
        go_simp
        (go_at_call 52; refine (unhide HC51 W12 c50 (below_tr (unhide HBd) (unhide HM).1) (unhide H50)).mono ?_; rintro e W13 ⟨a51, n51, k51, rfl, q1, hbb⟩)
        (go_wp2_with fail)
        replace H43 := hide ((unhide H43).below hbb)
        replace H50 := hide ((unhide H50).below hbb)
        have H51 : Hid (RN W13 wc.heap.size (.slice a51 n51 k51) _) := ⟨q1.1, fun g hg => Nat.le_trans (unhide HM).1.size (q1.2 g hg)⟩
        replace HM : Hid (Below wc.heap.size wc W13 ∧ NV W13 w.heap.size (.slice ia I.length ik) (.slice (some ⟨kb, ko, none⟩) ks.length kk) ∧ NV W13 b7 (.slice ja jn jc) (.slice kA kn kc)) := ⟨below_tr (unhide HM).1 hbb, (unhide HM).2.1.below hbb, (unhide HM).2.2.below hbb⟩
        clear hbb q1
        refine hK.out _ _ (unhide HS3 W13 (unhide HM).2.1 (unhide HM).2.2) (fun hHeld2 => ?_)
        clear hK K hHeld
        have hHeld := hHeld2
        clear hHeld2
        try simp only [Act.put, List.setIfInBounds_toArray, List.set_cons_zero, List.set_cons_succ]
        refine hand_to (i := 14) (d := 52) (v := (.agg #[.slice a43 n43 k43, .slice a51 n51 k51])) rfl rfl (by kernel_rfl) (by kernel_rfl) (by kernel_rfl) (fun _ _ _ h => h) (Or.inl ⟨by rfl, ?_⟩) hHeld ?_
        · (intro w' hSw; obtain ⟨y0, y1, y2, y3⟩ := hSw; go_simp)
        simp only [Act.put, List.setIfInBounds_toArray, List.set_cons_zero, List.set_cons_succ]
        refine wpAnyH_ready (rs := [15]) (by kernel_rfl) (by simp) ?_
        refine AllReadyH.cons rfl (fun K hK => ?_) AllReadyH.nil
        have h4 : NV W13 (w.heap.size + 1) (.slice none 0 0) (.slice none 0 0) := (unhide H4).below (unhide HM).1
        obtain ⟨e0, e1, f0, f1⟩ := h4.cells
        have H4c := hide h4
        clear h4
        go_simp
        skip
        (go_wp2_with fail)
        obtain ⟨W15, hW⟩ : ∃ W15, W15 = (W13.setCell ⟨w.heap.size + 1, 0, none⟩ (.slice a43 n43 k43)).setCell ⟨w.heap.size + 1, 1, none⟩ (.slice a51 n51 k51) := ⟨_, rfl⟩
        rw [← hW]
        have hz := unhide HZc
        have hz7 := (unhide HV7).2.2.2.1
        have hzc := (unhide HV7).2.2.2.2.size
        have H4d : Hid (NV W15 (w.heap.size + 1) (.slice a43 n43 k43) (.slice a51 n51 k51)) := by rw [hW]; exact set2_at (unhide H4c)
        replace H43 : Hid (RN W15 w.heap.size (.slice a43 n43 k43) (I.take i ++ I.drop (i + 1))) := by rw [hW]; exact ⟨(unhide H43).1.keep (by simp) (fun g hg => set2_ne (by have := (unhide H43).2 g hg; omega)), fun g hg => by have := (unhide H43).2 g hg; omega⟩
        replace H51 : Hid (RN W15 w.heap.size (.slice a51 n51 k51) (ks.take i ++ (.slice ja jn jc, .slice kA kn kc) :: ks.drop (i + 2))) := by rw [hW]; exact ⟨(unhide H51).1.keep (by simp) (fun g hg => set2_ne (by have := (unhide H51).2 g hg; omega)), fun g hg => by have := (unhide H51).2 g hg; omega⟩
        have HJ : Hid (RN W15 w.heap.size (.slice ja jn jc) (LI ++ (I.drop i).take 1 ++ RI) ∧ RN W15 w.heap.size (.slice kA kn kc) (LK ++ RK)) := by
          rw [hW]
          exact ⟨⟨((unhide HV7).2.1.below (unhide HM).1).1.keep (by simp) (fun g hg => set2_ne (by have := (unhide HV7).2.1.2 g hg; omega)), fun g hg => by have := (unhide HV7).2.1.2 g hg; omega⟩, ⟨((unhide HV7).2.2.1.below (unhide HM).1).1.keep (by simp) (fun g hg => set2_ne (by have := (unhide HV7).2.2.1.2 g hg; omega)), fun g hg => by have := (unhide HV7).2.2.1.2 g hg; omega⟩⟩
        have HMd : Hid (Below w.heap.size w W15 ∧ NV W15 w.heap.size (.slice ia I.length ik) (.slice (some ⟨kb, ko, none⟩) ks.length kk) ∧ NV W15 b7 (.slice ja jn jc) (.slice kA kn kc)) := by
          rw [hW]
          exact ⟨set2_below (below_tr (unhide HBd) (unhide HM).1) (by omega), (set2_ne (by omega)).trans (unhide HM).2.1, (set2_ne (by omega)).trans (unhide HM).2.2⟩
        clear hW hz hz7 hzc e0 e1 f0 f1
        refine hK.out _ _ (unhide HS3 W15 (unhide HMd).2.1 (unhide HMd).2.2) (fun hHeld2 => ?_)
        clear hK K hHeld
        have hHeld := hHeld2
        clear hHeld2
        try simp only [Act.put, List.setIfInBounds_toArray, List.set_cons_zero, List.set_cons_succ]
        refine wpAnyH_done (by kernel_rfl) ?_ _
        go_wp2_with fail
        obtain ⟨g0, g1, _, _⟩ := (unhide H4d).cells
        refine bodyPost_ret (v := .agg #[.slice a43 n43 k43, .slice a51 n51 k51]) ?_ rfl ?_
        · rw [results_cell1' rfl]
          go_simp
        exact ⟨_, _, _, _, rfl, unhide H43, unhide H51, (unhide HJ).1, (unhide HJ).2, (unhide HMd).1⟩
      · skip
        skip
        go_simp
        skip
        (go_wp2_with fail)
        obtain ⟨W12, hW⟩ : ∃ W12, W12 = WS.alloc (.cells #[.slice ja jn jc, .slice kA kn kc] 54) := ⟨_, rfl⟩
        obtain ⟨c50, hb⟩ : ∃ c50, c50 = WS.heap.size := ⟨_, rfl⟩
        rw [← hW, ← hb]
        have hbb : Below WS.heap.size WS W12 := by rw [hW]; exact (Below.refl _ _).alloc (Nat.le_refl _) _
        have H50 : Hid (NV W12 c50 (.slice ja jn jc) (.slice kA kn kc)) := by rw [hW, hb]; exact NV.new _ _ _
        replace HM : Hid (Below wc.heap.size wc W12 ∧ NV W12 w.heap.size (.slice ia I.length ik) (.slice (some ⟨kb, ko, none⟩) ks.length kk) ∧ NV W12 b7 (.slice ja jn jc) (.slice kA kn kc)) := ⟨below_tr (unhide HM).1 hbb, (unhide HM).2.1.below hbb, (unhide HM).2.2.below hbb⟩
        clear hbb hW hb
        refine hK.out _ _ (unhide HS3 W12 (unhide HM).2.1 (unhide HM).2.2) (fun hHeld2 => ?_)
        clear hK K hHeld
        have hHeld := hHeld2
        clear hHeld2
        try simp only [Act.put, List.setIfInBounds_toArray, List.set_cons_zero, List.set_cons_succ]
        refine wpAnyH_ready (rs := [5]) (by kernel_rfl) (by simp) ?_
        refine AllReadyH.cons rfl (fun K hK => ?_) AllReadyH.nil
        skip
        go_simp
        (go_at_call 35; refine (unhide HC43 W12 (below_tr (unhide HBd) (unhide HM).1)).mono ?_; rintro e W5 ⟨a43, n43, k43, rfl, q1, hbb⟩)
        (go_wp2_with fail)
        replace H50 := hide ((unhide H50).below hbb)
        have H43 : Hid (RN W5 wc.heap.size (.slice a43 n43 k43) _) := ⟨q1.1, fun g hg => Nat.le_trans (unhide HM).1.size (q1.2 g hg)⟩
        replace HM : Hid (Below wc.heap.size wc W5 ∧ NV W5 w.heap.size (.slice ia I.length ik) (.slice (some ⟨kb, ko, none⟩) ks.length kk) ∧ NV W5 b7 (.slice ja jn jc) (.slice kA kn kc)) := ⟨below_tr (unhide HM).1 hbb, (unhide HM).2.1.below hbb, (unhide HM).2.2.below hbb⟩
        clear hbb q1
        refine hK.out _ _ (unhide HS3 W5 (unhide HM).2.1 (unhide HM).2.2) (fun hHeld2 => ?_)
        clear hK K hHeld
        have hHeld := hHeld2
        clear hHeld2
        try simp only [Act.put, List.setIfInBounds_toArray, List.set_cons_zero, List.set_cons_succ]
        refine wpAnyH_ready (rs := [13]) (by kernel_rfl) (by simp) ?_
        refine AllReadyH.cons rfl (fun K hK => ?_) AllReadyH.nil
        skip
        go_simp
        (go_at_call 52; refine (unhide HC51 W5 c50 (below_tr (unhide HBd) (unhide HM).1) (unhide H50)).mono ?_; rintro e W13 ⟨a51, n51, k51, rfl, q1, hbb⟩)
        (go_wp2_with fail)
        replace H50 := hide ((unhide H50).below hbb)
        replace H43 := hide ((unhide H43).below hbb)
        have H51 : Hid (RN W13 wc.heap.size (.slice a51 n51 k51) _) := ⟨q1.1, fun g hg => Nat.le_trans (unhide HM).1.size (q1.2 g hg)⟩
        replace HM : Hid (Below wc.heap.size wc W13 ∧ NV W13 w.heap.size (.slice ia I.length ik) (.slice (some ⟨kb, ko, none⟩) ks.length kk) ∧ NV W13 b7 (.slice ja jn jc) (.slice kA kn kc)) := ⟨below_tr (unhide HM).1 hbb, (unhide HM).2.1.below hbb, (unhide HM).2.2.below hbb⟩
        clear hbb q1
        refine hK.out _ _ (unhide HS3 W13 (unhide HM).2.1 (unhide HM).2.2) (fun hHeld2 => ?_)
        clear hK K hHeld
        have hHeld := hHeld2
        clear hHeld2
        try simp only [Act.put, List.setIfInBounds_toArray, List.set_cons_zero, List.set_cons_succ]
        refine hand_to (i := 14) (d := 52) (v := (.agg #[.slice a43 n43 k43, .slice a51 n51 k51])) rfl rfl (by kernel_rfl) (by kernel_rfl) (by kernel_rfl) (fun _ _ _ h => h) (Or.inl ⟨by rfl, ?_⟩) hHeld ?_
        · (intro w' hSw; obtain ⟨y0, y1, y2, y3⟩ := hSw; go_simp)
        simp only [Act.put, List.setIfInBounds_toArray, List.set_cons_zero, List.set_cons_succ]
        refine wpAnyH_ready (rs := [15]) (by kernel_rfl) (by simp) ?_
        refine AllReadyH.cons rfl (fun K hK => ?_) AllReadyH.nil
        have h4 : NV W13 (w.heap.size + 1) (.slice none 0 0) (.slice none 0 0) := (unhide H4).below (unhide HM).1
        obtain ⟨e0, e1, f0, f1⟩ := h4.cells
        have H4c := hide h4
        clear h4
        go_simp
        skip
        (go_wp2_with fail)
        obtain ⟨W15, hW⟩ : ∃ W15, W15 = (W13.setCell ⟨w.heap.size + 1, 0, none⟩ (.slice a43 n43 k43)).setCell ⟨w.heap.size + 1, 1, none⟩ (.slice a51 n51 k51) := ⟨_, rfl⟩
        rw [← hW]
        have hz := unhide HZc
        have hz7 := (unhide HV7).2.2.2.1
        have hzc := (unhide HV7).2.2.2.2.size
        have H4d : Hid (NV W15 (w.heap.size + 1) (.slice a43 n43 k43) (.slice a51 n51 k51)) := by rw [hW]; exact set2_at (unhide H4c)
        replace H43 : Hid (RN W15 w.heap.size (.slice a43 n43 k43) (I.take i ++ I.drop (i + 1))) := by rw [hW]; exact ⟨(unhide H43).1.keep (by simp) (fun g hg => set2_ne (by have := (unhide H43).2 g hg; omega)), fun g hg => by have := (unhide H43).2 g hg; omega⟩
        replace H51 : Hid (RN W15 w.heap.size (.slice a51 n51 k51) (ks.take i ++ (.slice ja jn jc, .slice kA kn kc) :: ks.drop (i + 2))) := by rw [hW]; exact ⟨(unhide H51).1.keep (by simp) (fun g hg => set2_ne (by have := (unhide H51).2 g hg; omega)), fun g hg => by have := (unhide H51).2 g hg; omega⟩
        have HJ : Hid (RN W15 w.heap.size (.slice ja jn jc) (LI ++ (I.drop i).take 1 ++ RI) ∧ RN W15 w.heap.size (.slice kA kn kc) (LK ++ RK)) := by
          rw [hW]
          exact ⟨⟨((unhide HV7).2.1.below (unhide HM).1).1.keep (by simp) (fun g hg => set2_ne (by have := (unhide HV7).2.1.2 g hg; omega)), fun g hg => by have := (unhide HV7).2.1.2 g hg; omega⟩, ⟨((unhide HV7).2.2.1.below (unhide HM).1).1.keep (by simp) (fun g hg => set2_ne (by have := (unhide HV7).2.2.1.2 g hg; omega)), fun g hg => by have := (unhide HV7).2.2.1.2 g hg; omega⟩⟩
        have HMd : Hid (Below w.heap.size w W15 ∧ NV W15 w.heap.size (.slice ia I.length ik) (.slice (some ⟨kb, ko, none⟩) ks.length kk) ∧ NV W15 b7 (.slice ja jn jc) (.slice kA kn kc)) := by
          rw [hW]
          exact ⟨set2_below (below_tr (unhide HBd) (unhide HM).1) (by omega), (set2_ne (by omega)).trans (unhide HM).2.1, (set2_ne (by omega)).trans (unhide HM).2.2⟩
        clear hW hz hz7 hzc e0 e1 f0 f1
        refine hK.out _ _ (unhide HS3 W15 (unhide HMd).2.1 (unhide HMd).2.2) (fun hHeld2 => ?_)
        clear hK K hHeld
        have hHeld := hHeld2
        clear hHeld2
        try simp only [Act.put, List.setIfInBounds_toArray, List.set_cons_zero, List.set_cons_succ]
        refine wpAnyH_done (by kernel_rfl) ?_ _
        go_wp2_with fail
        obtain ⟨g0, g1, _, _⟩ := (unhide H4d).cells
        refine bodyPost_ret (v := .agg #[.slice a43 n43 k43, .slice a51 n51 k51]) ?_ rfl ?_
        · rw [results_cell1' rfl]
          go_simp
        exact ⟨_, _, _, _, rfl, unhide H43, unhide H51, (unhide HJ).1, (unhide HJ).2, (unhide HMd).1⟩
end Go.Proofs.YtlmjmhpdpgeplaaGreatDoor
