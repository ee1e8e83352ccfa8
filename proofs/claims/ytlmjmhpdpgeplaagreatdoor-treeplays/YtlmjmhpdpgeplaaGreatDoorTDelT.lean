/- A tree's Del. -/
import Derived.Test.YtlmjmhpdpgeplaaGreatDoorTDel
namespace Go.Proofs.YtlmjmhpdpgeplaaGreatDoor
open Go.RowKit Go.Lib

section
variable {w : World} {O : Nat → Prop} {p : Nat} {F : List It} {kv : Value} {key : ByteArray}
set_option maxHeartbeats 25600000 in
set_option maxRecDepth 100000 in
theorem Del_any (ht : TreeAt w p O F) (hk : Txt w kv key) (hn : F.length ≤ 1000000) :
    Calls Tryz.prog 12 #[.pointer (some ⟨p, 0, none⟩), kv] w fun e w' => e = .returned (.bool (hasL key F)) ∧ TreeAt w' p (OrN O w.heap.size) (delL key F) ∧ FrP p w w' := by
  obtain ⟨d, t, ra, rb, rn, rk, rn', rk', h1, h2, h3, h4, h5, h6⟩ := ht
  have hpl := blk_lt h1
  have HA := hide (And.intro h1 (And.intro h2 (And.intro h3 (And.intro h4 (And.intro h5 h6)))))
  have HT := hide (And.intro hk hn)
  have HP19 : Hid (∀ W : World, Below w.heap.size w W → Calls Tryz.prog 22 #[.agg #[.slice ra rn rk, .slice rb rn' rk'], .string key] W (DelP W (fun g => O g ∧ g < w.heap.size) d F key)) := fun W hb => by
    have := del_t d t key _ _ _ W (h2.lt.below hb) h3.1 h3.2.1 h3.2.2 (by rw [h4]; exact h5)
    rw [h4] at this
    exact this
  have HS1 : Hid (∀ W : World, Below w.heap.size w W → W.cell? ⟨p, 0, none⟩ = some (.slice ra rn rk) ∧ W.cell? ⟨p, 1, none⟩ = some (.slice rb rn' rk') ∧ (convert 30 9 kv).run Tryz.prog W = .ok (.string key) W) := fun W hb => ⟨(h1.below hb).cells.1, (h1.below hb).cells.2.1, hk W hb⟩
  clear h1 h2 h3 h4 h5 h6 hk hn
  go_enter Tryz.func12, Tryz.ntmps12
  go_upto_region 1 with fail
  go_cut [5, 6] from 7 to 16 (fun s5 s6 wx => ∃ (b8 : Nat) (a b : Option Addr) (n k n' k' : Nat) (v : Value), s5 = .pointer (some ⟨b8, 0, none⟩) ∧ s6 = v ∧ Hid (NV wx b8 (.slice a n k) (.slice b n' k') ∧ ((hasL key F = true ∧ v = .nilIface ∧ ∃ (its : List It) (kids : List (BT d)), n = its.length ∧ n' = kids.length ∧ NodeAt wx (fun g => (O g ∧ g < w.heap.size) ∨ (w.heap.size ≤ g ∧ g ≠ b8)) d (BT.mk its kids) (.slice a n k) (.slice b n' k') ∧ Shp d (BT.mk its kids) ∧ its.length ≤ 16 ∧ flat d (BT.mk its kids) = delL key F) ∨ (hasL key F = false ∧ ∃ m, Chn wx 40 (m + 1) v)) ∧ w.heap.size ≤ b8 ∧ Below w.heap.size w wx))
  case first =>
    refine wp_region_held_drew (S := fun w' => w'.cell? ⟨p, 0, none⟩ = some (.slice ra rn rk) ∧ w'.cell? ⟨p, 1, none⟩ = some (.slice rb rn' rk') ∧ (convert 30 9 kv).run Tryz.prog w' = .ok (.string key) w') (by kernel_rfl) (unhide HS1 _ (Below.refl _ _).drew) (fun hHeld => ?_)
    obtain ⟨WS, hWS⟩ : ∃ WS, WS = w.drew := ⟨_, rfl⟩
    rw [← hWS] at hHeld ⊢
    have HB : Hid (Below w.heap.size w WS) := by rw [hWS]; exact (Below.refl _ _).drew
    clear hWS
    refine hand_to (i := 0) (d := 8) (v := (.pointer (some ⟨p, 0, none⟩))) rfl rfl (by kernel_rfl) (by kernel_rfl) (by kernel_rfl) (fun _ _ _ h => h) (Or.inl ⟨by rfl, ?_⟩) hHeld ?_
    · (intro w' hSw; obtain ⟨y0, y1, y2⟩ := hSw; go_simp)
    simp only [Act.put, List.setIfInBounds_toArray, List.set_cons_zero, List.set_cons_succ]
    refine hand_to (i := 1) (d := 9) (v := (.pointer (some ⟨p, 0, none⟩))) rfl rfl (by kernel_rfl) (by kernel_rfl) (by kernel_rfl) (fun _ _ _ h => h) (Or.inl ⟨by rfl, ?_⟩) hHeld ?_
    · (intro w' hSw; obtain ⟨y0, y1, y2⟩ := hSw; go_simp)
    simp only [Act.put, List.setIfInBounds_toArray, List.set_cons_zero, List.set_cons_succ]
    refine hand_to (i := 2) (d := 10) (v := (.pointer (some ⟨p, 0, none⟩))) rfl rfl (by kernel_rfl) (by kernel_rfl) (by kernel_rfl) (fun _ _ _ h => h) (Or.inl ⟨by rfl, ?_⟩) hHeld ?_
    · (intro w' hSw; obtain ⟨y0, y1, y2⟩ := hSw; go_simp)
    simp only [Act.put, List.setIfInBounds_toArray, List.set_cons_zero, List.set_cons_succ]
    refine hand_to (i := 3) (d := 11) (v := (.agg #[.slice ra rn rk, .slice rb rn' rk'])) rfl rfl (by kernel_rfl) (by kernel_rfl) (by kernel_rfl) (fun _ _ _ h => h) (Or.inl ⟨by rfl, ?_⟩) hHeld ?_
    · (intro w' hSw; obtain ⟨y0, y1, y2⟩ := hSw; go_simp)
    simp only [Act.put, List.setIfInBounds_toArray, List.set_cons_zero, List.set_cons_succ]
    refine hand_to (i := 4) (d := 12) (v := kv) rfl rfl (by kernel_rfl) (by kernel_rfl) (by kernel_rfl) (fun _ _ _ h => h) (Or.inl ⟨by rfl, ?_⟩) hHeld ?_
    · (intro w' hSw; obtain ⟨y0, y1, y2⟩ := hSw; go_simp)
    simp only [Act.put, List.setIfInBounds_toArray, List.set_cons_zero, List.set_cons_succ]
    refine hand_to (i := 5) (d := 13) (v := (.string key)) rfl rfl (by kernel_rfl) (by kernel_rfl) (by kernel_rfl) (fun _ _ _ h => h) (Or.inl ⟨by rfl, ?_⟩) hHeld ?_
    · (intro w' hSw; obtain ⟨y0, y1, y2⟩ := hSw; go_simp)
    simp only [Act.put, List.setIfInBounds_toArray, List.set_cons_zero, List.set_cons_succ]
    refine wpAnyH_ready (rs := [6, 10]) (by kernel_rfl) (by simp) ?_
    refine (AllReadyH.cons rfl (fun K hK => ?_) (AllReadyH.cons rfl (fun K hK => ?_) AllReadyH.nil))
    · skip
      skip
      go_simp
      (go_at_call 22; refine (unhide HP19 WS (unhide HB)).mono ?_; rintro e W6 ⟨a, b, n, k, n', k', v, rfl, hbb, q1⟩)
      (go_wp2_with fail)
      have H40 : Hid ((hasL key F = true ∧ v = .nilIface ∧ ∃ (its : List It) (kids : List (BT d)), n = its.length ∧ n' = kids.length ∧ NodeAt W6 (fun g => (O g ∧ g < w.heap.size) ∨ w.heap.size ≤ g) d (BT.mk its kids) (.slice a n k) (.slice b n' k') ∧ Shp d (BT.mk its kids) ∧ its.length ≤ 16 ∧ flat d (BT.mk its kids) = delL key F) ∨ (hasL key F = false ∧ ∃ m, Chn W6 40 (m + 1) v)) := q1.imp (fun ⟨u1, u2, its, kids, u3, u4, u5, u6⟩ => ⟨u1, u2, its, kids, u3, u4, u5.node.mono (fun g hg => hg.imp id (fun h => Nat.le_trans (unhide HB).size h)), u6⟩) (fun ⟨u1, u2⟩ => ⟨u1, u2.2.2.2.2.2.2⟩)
      replace HB := hide (below_tr (unhide HB) hbb)
      clear hbb q1
      refine hK.out _ _ (unhide HS1 W6 (unhide HB)) (fun hHeld2 => ?_)
      clear hK K hHeld
      have hHeld := hHeld2
      clear hHeld2
      try simp only [Act.put, List.setIfInBounds_toArray, List.set_cons_zero, List.set_cons_succ]
      refine hand_to (i := 7) (d := 7) (v := (.tuple #[.agg #[.slice a n k, .slice b n' k'], v])) rfl rfl (by kernel_rfl) (by kernel_rfl) (by kernel_rfl) (fun _ _ _ h => h) (Or.inl ⟨by rfl, ?_⟩) hHeld ?_
      · (intro w' hSw; obtain ⟨y0, y1, y2⟩ := hSw; go_simp)
      simp only [Act.put, List.setIfInBounds_toArray, List.set_cons_zero, List.set_cons_succ]
      refine hand_to (i := 8) (d := 15) (v := (.agg #[.slice a n k, .slice b n' k'])) rfl rfl (by kernel_rfl) (by kernel_rfl) (by kernel_rfl) (fun _ _ _ h => h) (Or.inl ⟨by rfl, ?_⟩) hHeld ?_
      · (intro w' hSw; obtain ⟨y0, y1, y2⟩ := hSw; go_simp)
      simp only [Act.put, List.setIfInBounds_toArray, List.set_cons_zero, List.set_cons_succ]
      refine hand_to (i := 9) (d := 16) (v := v) rfl rfl (by kernel_rfl) (by kernel_rfl) (by kernel_rfl) (fun _ _ _ h => h) (Or.inl ⟨by rfl, ?_⟩) hHeld ?_
      · (intro w' hSw; obtain ⟨y0, y1, y2⟩ := hSw; go_simp)
      simp only [Act.put, List.setIfInBounds_toArray, List.set_cons_zero, List.set_cons_succ]
      refine wpAnyH_ready (rs := [10]) (by kernel_rfl) (by simp) ?_
      refine AllReadyH.cons rfl (fun K hK => ?_) AllReadyH.nil
      skip
      go_simp
      skip
      (go_wp2_with fail)
      obtain ⟨W10, hW⟩ : ∃ W10, W10 = W6.alloc (.cells #[.slice none 0 0, .slice none 0 0] 54) := ⟨_, rfl⟩
      obtain ⟨b8, hb⟩ : ∃ b8, b8 = W6.heap.size := ⟨_, rfl⟩
      rw [← hW, ← hb]
      have hbb : Below W6.heap.size W6 W10 := by rw [hW]; exact (Below.refl _ _).alloc (Nat.le_refl _) _
      replace H40 : Hid ((hasL key F = true ∧ v = .nilIface ∧ ∃ (its : List It) (kids : List (BT d)), n = its.length ∧ n' = kids.length ∧ NodeAt W10 (fun g => (O g ∧ g < w.heap.size) ∨ (w.heap.size ≤ g ∧ g ≠ b8)) d (BT.mk its kids) (.slice a n k) (.slice b n' k') ∧ Shp d (BT.mk its kids) ∧ its.length ≤ 16 ∧ flat d (BT.mk its kids) = delL key F) ∨ (hasL key F = false ∧ ∃ m, Chn W10 40 (m + 1) v)) := (unhide H40).imp (fun ⟨u1, u2, its, kids, u3, u4, u5, u6⟩ => ⟨u1, u2, its, kids, u3, u4, (u5.ltn (fun g hg hl => hg.imp id (fun h => ⟨h, by omega⟩))).below hbb, u6⟩) (fun ⟨u1, m, u2⟩ => ⟨u1, m, u2.below hbb⟩)
      have H8 : Hid (NV W10 b8 (.slice none 0 0) (.slice none 0 0) ∧ w.heap.size ≤ b8) := by
        have hz := (unhide HB).size
        exact ⟨(by rw [hW, hb]; exact NV.new _ _ _), by omega⟩
      replace HB := hide (below_tr (unhide HB) hbb)
      clear hbb hW hb
      refine hK.out _ _ (unhide HS1 W10 (unhide HB)) (fun hHeld2 => ?_)
      clear hK K hHeld
      have hHeld := hHeld2
      clear hHeld2
      try simp only [Act.put, List.setIfInBounds_toArray, List.set_cons_zero, List.set_cons_succ]
      refine wpAnyH_ready (rs := [11]) (by kernel_rfl) (by simp) ?_
      refine AllReadyH.cons rfl (fun K hK => ?_) AllReadyH.nil
      obtain ⟨e0, e1, f0, f1⟩ := (unhide H8).1.cells
      go_simp
      skip
      (go_wp2_with fail)
      obtain ⟨W11, hW⟩ : ∃ W11, W11 = (W10.setCell ⟨b8, 0, none⟩ (.slice a n k)).setCell ⟨b8, 1, none⟩ (.slice b n' k') := ⟨_, rfl⟩
      rw [← hW]
      have hz := (unhide H8).2
      replace H40 : Hid ((hasL key F = true ∧ v = .nilIface ∧ ∃ (its : List It) (kids : List (BT d)), n = its.length ∧ n' = kids.length ∧ NodeAt W11 (fun g => (O g ∧ g < w.heap.size) ∨ (w.heap.size ≤ g ∧ g ≠ b8)) d (BT.mk its kids) (.slice a n k) (.slice b n' k') ∧ Shp d (BT.mk its kids) ∧ its.length ≤ 16 ∧ flat d (BT.mk its kids) = delL key F) ∨ (hasL key F = false ∧ ∃ m, Chn W11 40 (m + 1) v)) := by
        rw [hW]
        exact (unhide H40).imp (fun ⟨u1, u2, its, kids, u3, u4, u5, u6⟩ => ⟨u1, u2, its, kids, u3, u4, u5.keep (by simp) (fun g hg _ => set2_ne (by rcases hg with hg | hg <;> omega)), u6⟩) (fun ⟨u1, m, u2⟩ => ⟨u1, m, u2.varN (unhide H8).1 (fun _ _ h => by cases h)⟩)
      replace H8 : Hid (NV W11 b8 (.slice a n k) (.slice b n' k') ∧ w.heap.size ≤ b8) := by rw [hW]; exact ⟨set2_at (unhide H8).1, hz⟩
      replace HB : Hid (Below w.heap.size w W11) := by rw [hW]; exact set2_below (unhide HB) hz
      clear hW hz e0 e1 f0 f1
      refine hK.out _ _ (unhide HS1 W11 (unhide HB)) (fun hHeld2 => ?_)
      clear hK K hHeld
      have hHeld := hHeld2
      clear hHeld2
      try simp only [Act.put, List.setIfInBounds_toArray, List.set_cons_zero, List.set_cons_succ]
      refine hand_to (i := 12) (d := 6) (v := v) rfl rfl (by kernel_rfl) (by kernel_rfl) (by kernel_rfl) (fun _ _ _ h => h) (Or.inl ⟨by rfl, ?_⟩) hHeld ?_
      · (intro w' hSw; obtain ⟨y0, y1, y2⟩ := hSw; go_simp)
      simp only [Act.put, List.setIfInBounds_toArray, List.set_cons_zero, List.set_cons_succ]
      refine wpAnyH_done (by kernel_rfl) ?_ _
      go_wp2_with fail
      go_meet
      exact ⟨b8, a, b, n, k, n', k', v, rfl, rfl, (unhide H8).1, unhide H40, (unhide H8).2, unhide HB⟩
    · skip
      skip
      go_simp
      skip
      (go_wp2_with fail)
      obtain ⟨W10, hW⟩ : ∃ W10, W10 = WS.alloc (.cells #[.slice none 0 0, .slice none 0 0] 54) := ⟨_, rfl⟩
      obtain ⟨b8, hb⟩ : ∃ b8, b8 = WS.heap.size := ⟨_, rfl⟩
      rw [← hW, ← hb]
      have hbb : Below WS.heap.size WS W10 := by rw [hW]; exact (Below.refl _ _).alloc (Nat.le_refl _) _
      have H8 : Hid (NV W10 b8 (.slice none 0 0) (.slice none 0 0) ∧ w.heap.size ≤ b8) := by
        have hz := (unhide HB).size
        exact ⟨(by rw [hW, hb]; exact NV.new _ _ _), by omega⟩
      replace HB := hide (below_tr (unhide HB) hbb)
      clear hbb hW hb
      refine hK.out _ _ (unhide HS1 W10 (unhide HB)) (fun hHeld2 => ?_)
      clear hK K hHeld
      have hHeld := hHeld2
      clear hHeld2
      try simp only [Act.put, List.setIfInBounds_toArray, List.set_cons_zero, List.set_cons_succ]
      refine wpAnyH_ready (rs := [6]) (by kernel_rfl) (by simp) ?_
      refine AllReadyH.cons rfl (fun K hK => ?_) AllReadyH.nil
      skip
      go_simp
      (go_at_call 22; refine (unhide HP19 W10 (unhide HB)).mono ?_; rintro e W6 ⟨a, b, n, k, n', k', v, rfl, hbb, q1⟩)
      (go_wp2_with fail)
      have H40 : Hid ((hasL key F = true ∧ v = .nilIface ∧ ∃ (its : List It) (kids : List (BT d)), n = its.length ∧ n' = kids.length ∧ NodeAt W6 (fun g => (O g ∧ g < w.heap.size) ∨ (w.heap.size ≤ g ∧ g ≠ b8)) d (BT.mk its kids) (.slice a n k) (.slice b n' k') ∧ Shp d (BT.mk its kids) ∧ its.length ≤ 16 ∧ flat d (BT.mk its kids) = delL key F) ∨ (hasL key F = false ∧ ∃ m, Chn W6 40 (m + 1) v)) := q1.imp (fun ⟨u1, u2, its, kids, u3, u4, u5, u6⟩ => ⟨u1, u2, its, kids, u3, u4, u5.node.mono (fun g hg => hg.imp id (fun h => by have h1 := blk_lt (unhide H8).1; have h2 := (unhide HB).size; exact ⟨by omega, by omega⟩)), u6⟩) (fun ⟨u1, u2⟩ => ⟨u1, u2.2.2.2.2.2.2⟩)
      replace H8 := hide (And.intro ((unhide H8).1.below hbb) (unhide H8).2)
      replace HB := hide (below_tr (unhide HB) hbb)
      clear hbb q1
      refine hK.out _ _ (unhide HS1 W6 (unhide HB)) (fun hHeld2 => ?_)
      clear hK K hHeld
      have hHeld := hHeld2
      clear hHeld2
      try simp only [Act.put, List.setIfInBounds_toArray, List.set_cons_zero, List.set_cons_succ]
      refine hand_to (i := 7) (d := 7) (v := (.tuple #[.agg #[.slice a n k, .slice b n' k'], v])) rfl rfl (by kernel_rfl) (by kernel_rfl) (by kernel_rfl) (fun _ _ _ h => h) (Or.inl ⟨by rfl, ?_⟩) hHeld ?_
      · (intro w' hSw; obtain ⟨y0, y1, y2⟩ := hSw; go_simp)
      simp only [Act.put, List.setIfInBounds_toArray, List.set_cons_zero, List.set_cons_succ]
      refine hand_to (i := 8) (d := 15) (v := (.agg #[.slice a n k, .slice b n' k'])) rfl rfl (by kernel_rfl) (by kernel_rfl) (by kernel_rfl) (fun _ _ _ h => h) (Or.inl ⟨by rfl, ?_⟩) hHeld ?_
      · (intro w' hSw; obtain ⟨y0, y1, y2⟩ := hSw; go_simp)
      simp only [Act.put, List.setIfInBounds_toArray, List.set_cons_zero, List.set_cons_succ]
      refine hand_to (i := 9) (d := 16) (v := v) rfl rfl (by kernel_rfl) (by kernel_rfl) (by kernel_rfl) (fun _ _ _ h => h) (Or.inl ⟨by rfl, ?_⟩) hHeld ?_
      · (intro w' hSw; obtain ⟨y0, y1, y2⟩ := hSw; go_simp)
      simp only [Act.put, List.setIfInBounds_toArray, List.set_cons_zero, List.set_cons_succ]
      refine wpAnyH_ready (rs := [11]) (by kernel_rfl) (by simp) ?_
      refine AllReadyH.cons rfl (fun K hK => ?_) AllReadyH.nil
      obtain ⟨e0, e1, f0, f1⟩ := (unhide H8).1.cells
      go_simp
      skip
      (go_wp2_with fail)
      obtain ⟨W11, hW⟩ : ∃ W11, W11 = (W6.setCell ⟨b8, 0, none⟩ (.slice a n k)).setCell ⟨b8, 1, none⟩ (.slice b n' k') := ⟨_, rfl⟩
      rw [← hW]
      have hz := (unhide H8).2
      replace H40 : Hid ((hasL key F = true ∧ v = .nilIface ∧ ∃ (its : List It) (kids : List (BT d)), n = its.length ∧ n' = kids.length ∧ NodeAt W11 (fun g => (O g ∧ g < w.heap.size) ∨ (w.heap.size ≤ g ∧ g ≠ b8)) d (BT.mk its kids) (.slice a n k) (.slice b n' k') ∧ Shp d (BT.mk its kids) ∧ its.length ≤ 16 ∧ flat d (BT.mk its kids) = delL key F) ∨ (hasL key F = false ∧ ∃ m, Chn W11 40 (m + 1) v)) := by
        rw [hW]
        exact (unhide H40).imp (fun ⟨u1, u2, its, kids, u3, u4, u5, u6⟩ => ⟨u1, u2, its, kids, u3, u4, u5.keep (by simp) (fun g hg _ => set2_ne (by rcases hg with hg | hg <;> omega)), u6⟩) (fun ⟨u1, m, u2⟩ => ⟨u1, m, u2.varN (unhide H8).1 (fun _ _ h => by cases h)⟩)
      replace H8 : Hid (NV W11 b8 (.slice a n k) (.slice b n' k') ∧ w.heap.size ≤ b8) := by rw [hW]; exact ⟨set2_at (unhide H8).1, hz⟩
      replace HB : Hid (Below w.heap.size w W11) := by rw [hW]; exact set2_below (unhide HB) hz
      clear hW hz e0 e1 f0 f1
      refine hK.out _ _ (unhide HS1 W11 (unhide HB)) (fun hHeld2 => ?_)
      clear hK K hHeld
      have hHeld := hHeld2
      clear hHeld2
      try simp only [Act.put, List.setIfInBounds_toArray, List.set_cons_zero, List.set_cons_succ]
      refine hand_to (i := 12) (d := 6) (v := v) rfl rfl (by kernel_rfl) (by kernel_rfl) (by kernel_rfl) (fun _ _ _ h => h) (Or.inl ⟨by rfl, ?_⟩) hHeld ?_
      · (intro w' hSw; obtain ⟨y0, y1, y2⟩ := hSw; go_simp)
      simp only [Act.put, List.setIfInBounds_toArray, List.set_cons_zero, List.set_cons_succ]
      refine wpAnyH_done (by kernel_rfl) ?_ _
      go_wp2_with fail
      go_meet
      exact ⟨b8, a, b, n, k, n', k', v, rfl, rfl, (unhide H8).1, unhide H40, (unhide H8).2, unhide HB⟩
  case rest =>
    obtain ⟨b8, a, b, n, k, n', k', v, rfl, rfl, HV8⟩ := hcut
    obtain ⟨c80, c81, _, _⟩ := (unhide HV8).1.cells
    have hl6 : (F.length : Int) ≤ 1000000 := by have := (unhide HT).2; omega
    rcases (unhide HV8).2.1 with ⟨hh, rfl, its, kids, rfl, rfl, u2, u3, u4, u5⟩ | ⟨hh, m, hch⟩
    · have HN := hide (Dk.is_nil 40 wc)
      have HR : Hid (Calls Tryz.prog 21 #[.agg #[.slice a its.length k, .slice b kids.length k']] wc fun e w5 => ∃ a n k b n' k', e = .returned (.agg #[.slice a n k, .slice b n' k']) ∧ (w5.cell? ⟨p, 0, none⟩ = some (.slice ra rn rk) ∧ w5.cell? ⟨p, 1, none⟩ = some (.slice rb rn' rk') ∧ w5.cell? ⟨p, 2, none⟩ = some (.int .i64 (F.length : Int)) ∧ w5.frozen? ⟨p, 0, none⟩ = false ∧ w5.frozen? ⟨p, 1, none⟩ = false ∧ w5.frozen? ⟨p, 2, none⟩ = false) ∧ Hid (∀ W : World, TV W p (.slice a n k) (.slice b n' k') (F.length - 1) → FrP p w5 W → TreeAt W p (OrN O w.heap.size) (delL key F) ∧ FrP p w W) ∧ Hid (TV w5 p (.slice ra rn rk) (.slice rb rn' rk') F.length)) := by
        obtain ⟨h1, h2, h3, h4, h5, h6⟩ := unhide HA
        obtain ⟨u1, _, u6, u7⟩ := unhide HV8
        refine (rooted_up u2 u3 u4).mono ?_
        rintro e w5 ⟨d', t', a, b, n, k, n', k', rfl, q1, q2, q3, q4⟩
        have htv := (h1.below u7).below q4
        refine ⟨a, n, k, b, n', k', rfl, htv.cells, ?_, htv⟩
        intro W hW hfr
        have hbw := below_tr u7 q4
        have hzc := u7.size
        have hdl : (delL key F).length = F.length - 1 := by have := del_had h5 hh; omega
        refine ⟨⟨d', t', a, b, n, k, n', k', by rw [hdl]; exact hW, (q1.keep hfr.2.2.2.1 (fun g hg hgl => hfr.2.2.2.2 g hgl ?_)).mono (fun g hg => ?_), q2, by rw [q3]; exact u5, delL_srt h5, ?_⟩, (FrP.of_below hbw).trans hfr⟩
        · rintro rfl
          rcases hg with (hg | hg) | hg
          · exact h6 hg.1
          · omega
          · omega
        · rcases hg with (hg | hg) | hg
          · exact .inl hg.1
          · exact .inr hg.1
          · exact .inr (by omega)
        · rintro (h | h)
          · exact h6 h
          · omega
      have hb8p : b8 ≠ p := by have := (unhide HV8).2.2.1; omega
      have hpc : p < wc.heap.size := Nat.lt_of_lt_of_le hpl (unhide HV8).2.2.2.size
      have hF1 : 1 ≤ F.length := by have := del_had (unhide HA).2.2.2.2.1 hh; omega
      have hwl : IntKind.i64.wrap ((F.length : Int) - 1) = ((F.length - 1 : Nat) : Int) := by rw [IntKind.wrap_i64] <;> omega
      have HH := hide hh
      clear HA HT HP19 HS1 HV8 u2 u3 u4 u5 hh hF1
      go_wp2_with (first
        | (go_at_call 23; refine (unhide HN).mono ?_; rintro e w5 ⟨rfl, rfl⟩; clear HN)
        | (go_at_call 21; refine (unhide HR).mono ?_; rintro e w6 ⟨a, n, k, b, n', k', rfl, ⟨r0, r1, r2, g0, g1, g2⟩, HE, HTV⟩; clear HR))
      go_ret
      refine ⟨by first | exact unhide HH | exact (unhide HH).symm | (rw [unhide HH]; rfl), unhide HE _ ?_ ?_⟩
      · exact (heap_set_at (heap_set_at (heap_set_at (unhide HTV) _ _) _ _) _ _).trans (by simp)
      · exact ((FrP.set p _ _ _).trans (FrP.set p _ _ _)).trans (FrP.set p _ _ _)
    · have HN := hide (is_chain 40 hch)
      have HE : Hid (TreeAt wc p (OrN O w.heap.size) (delL key F) ∧ FrP p w wc) := by
        obtain ⟨h1, h2, h3, h4, h5, h6⟩ := unhide HA
        have hb := (unhide HV8).2.2.2
        refine ⟨⟨d, t, ra, rb, rn, rk, rn', rk', by rw [delL_no hh]; exact h1.below hb, (h2.below hb).mono (fun g hg => .inl hg), h3, by rw [delL_no hh]; exact h4, by rw [delL_no hh]; exact h5, ?_⟩, FrP.of_below hb⟩
        rintro (h | h)
        · exact h6 h
        · omega
      obtain ⟨Tc, xc, rfl⟩ := hch.iface
      have HH := hide hh
      clear HA HT HP19 HS1 HV8 hch hh
      go_wp2_with (go_at_call 23; refine (unhide HN).mono ?_; rintro e w5 ⟨rfl, rfl⟩; clear HN)
      go_ret
      exact ⟨by first | exact unhide HH | exact (unhide HH).symm | (rw [unhide HH]; rfl), unhide HE⟩
end
end Go.Proofs.YtlmjmhpdpgeplaaGreatDoor
