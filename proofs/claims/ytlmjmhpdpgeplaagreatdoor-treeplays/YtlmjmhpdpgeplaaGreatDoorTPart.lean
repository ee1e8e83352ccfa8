/- A kid of a node as two kids and the item between them: parted. -/
import Derived.Test.YtlmjmhpdpgeplaaGreatDoorTVar
namespace Go.Proofs.YtlmjmhpdpgeplaaGreatDoor
open Go.RowKit Go.Lib

set_option maxHeartbeats 3200000 in
set_option maxRecDepth 100000 in
theorem inner_any (vi vk : Value) (ks : List (Value × Value)) (w : World) (hK : R2 w vk ks) : Calls Tryz.prog 36 #[.agg #[vi, vk]] w fun e w' => e = .returned (.bool (decide (0 < ks.length))) ∧ Below w.heap.size w w' := by
  obtain ⟨ka, kk, rfl, _, _⟩ := id hK.slice
  have hb := (Below.refl w.heap.size w).alloc (Nat.le_refl _) (.cells #[vi, .slice ka ks.length kk] 54)
  have HB := hide hb
  clear hK hb
  go_enter Tryz.func36, Tryz.ntmps36
  go_wp2
  go_ret
  exact ⟨by simp, unhide HB⟩
set_option maxHeartbeats 6400000 in
set_option maxRecDepth 100000 in
/-- Not too many: as it was. -/
theorem parted_small (vi vk ci ck : Value) (I ks CI : List (Value × Value)) (i : Nat) (w : World) (hI : R2 w vi I) (hK : R2 w vk ks) (hk : ks[i]? = some (ci, ck)) (hci : R2 w ci CI) (hck : ∃ l, R2 w ck l) (hc : CI.length ≤ 15) :
    Calls Tryz.prog 38 #[.agg #[vi, vk], .int .i64 (i : Int)] w fun e w' => e = .returned (.agg #[vi, vk]) ∧ Below w.heap.size w w' := by
  obtain ⟨ia, ik, rfl, _, _⟩ := id hI.slice
  obtain ⟨ka, kk, rfl, _, _⟩ := id hK.slice
  obtain ⟨kb, ko, rfl, hkb, l0, l1⟩ := hK.at hk
  obtain ⟨cia, cik, rfl, _, _⟩ := id hci.slice
  obtain ⟨l, hck⟩ := hck
  obtain ⟨cka, ckk, rfl, _, _⟩ := id hck.slice
  have hkl := (List.getElem?_eq_some_iff.1 hk).1
  have hi0 : (0 : Int) ≤ (i : Int) := by omega
  have hik : (i : Int) < (ks.length : Int) := by omega
  have hc15 : (CI.length : Int) ≤ 15 := by omega
  clear hI hK hk hci hck
  go_enter Tryz.func38, Tryz.ntmps38
  go_wp2
  refine bodyPost_ret (v := .agg #[.slice ia I.length ik, .slice (some ⟨kb, ko, none⟩) ks.length kk]) ?_ rfl ?_
  · rw [results_cell1' rfl]
    go_simp
  exact ⟨rfl, (((Below.refl _ _).alloc (Nat.le_refl _) _).alloc (by simp) _).alloc (by simp; omega) _⟩
set_option maxHeartbeats 25600000 in
set_option maxRecDepth 100000 in
theorem parted_big (vi vk ci ck : Value) (I ks CK : List (Value × Value)) (C : List It) (i : Nat) (w : World) (hI : R2 w vi I) (hK : R2 w vk ks) (hk : ks[i]? = some (ci, ck)) (hci : R2 w ci (C.map itV)) (hck : R2 w ck CK) (hi : i ≤ I.length) (hc : 15 < C.length) (hCK : CK = [] ∨ CK.length = C.length + 1) (hn : I.length ≤ 50 ∧ ks.length ≤ 50 ∧ C.length ≤ 50) :
    Calls Tryz.prog 38 #[.agg #[vi, vk], .int .i64 (i : Int)] w fun e w' => ∃ ni nk li lk ri rk, e = .returned (.agg #[ni, nk]) ∧ RN w' w.heap.size ni (I.take i ++ ((C.drop (C.length / 2)).take 1).map itV ++ I.drop i) ∧ RN w' w.heap.size nk (ks.take i ++ [(li, lk), (ri, rk)] ++ ks.drop (i + 1)) ∧ RN w' w.heap.size li ((C.take (C.length / 2)).map itV) ∧ RN w' w.heap.size ri ((C.drop (C.length / 2 + 1)).map itV) ∧ RN w' w.heap.size lk (CK.take (C.length / 2 + 1)) ∧ RN w' w.heap.size rk (CK.drop (C.length / 2 + 1)) ∧ Below w.heap.size w w' := by
  obtain ⟨ia, ik, rfl, hik1, hik2⟩ := id hI.slice
  obtain ⟨ka, kk, rfl, hkk1, hkk2⟩ := id hK.slice
  obtain ⟨kb, ko, rfl, hkb, l0, l1⟩ := hK.at hk
  obtain ⟨cia, cik, rfl, hcik1, hcik2⟩ := id hci.slice
  obtain ⟨cka, ckk, rfl, hckk1, hckk2⟩ := id hck.slice
  rw [List.length_map] at *
  have hkl := (List.getElem?_eq_some_iff.1 hk).1
  have hi0 : (0 : Int) ≤ (i : Int) := by omega
  have hik : (i : Int) < (ks.length : Int) := by omega
  have hc15 : ¬ ((C.length : Int) ≤ 15) := by omega
  obtain ⟨h, hh⟩ : ∃ h, h = C.length / 2 := ⟨_, rfl⟩
  rw [← hh]
  have hq : Int.tdiv (C.length : Int) 2 = (h : Int) := by rw [hh]; rfl
  have hwq : IntKind.i64.wrap (h : Int) = (h : Int) := by rw [IntKind.wrap_i64] <;> omega
  have hwq1 : IntKind.i64.wrap ((h : Int) + 1) = (h : Int) + 1 := by rw [IntKind.wrap_i64] <;> omega
  have hwi1 : IntKind.i64.wrap ((i : Int) + 1) = (i : Int) + 1 := by rw [IntKind.wrap_i64] <;> omega
  have hhc : h + 1 ≤ C.length := by omega
  have hhi : (0 : Int) ≤ (h : Int) := by omega
  have hhk : (h : Int) ≤ (cik : Int) := by omega
  have hhl : (h : Int) < (C.length : Int) := by omega
  have hh1 : (0 : Int) ≤ (h : Int) + 1 := by omega
  have hh2 : (h : Int) + 1 ≤ (C.length : Int) := by omega
  have hh3 : (C.length : Int) ≤ (cik : Int) := by omega
  have hth : ((h : Int) + 1).toNat = h + 1 := by omega
  have hx : C[h]? = some (C[h]'(by omega)) := List.getElem?_eq_getElem _
  generalize C[h]'(by omega) = x at hx
  obtain ⟨cib, cio, rfl, hcb, x0, x1⟩ := hci.at (i := h) (x := itV x) (by rw [List.getElem?_map, hx]; rfl)
  have x0' : w.cell? ⟨cib, cio + h * 2, none⟩ = some (.string x.1) := x0
  have x1' : w.cell? ⟨cib, cio + h * 2 + 1, none⟩ = some (.string x.2) := x1
  have hxt : (C.drop h).take 1 = [x] := by
    obtain ⟨q1, q2⟩ := List.getElem?_eq_some_iff.1 hx
    rw [List.drop_eq_getElem_cons q1, q2]; rfl
  rw [hxt]
  have HA := hide (And.intro hI (And.intro hK (And.intro hci hck)))
  have HN := hide (And.intro hn (And.intro hi (And.intro hc (And.intro hCK (And.intro hh hkl)))))
  obtain ⟨W0, hW0⟩ : ∃ W0, W0 = ((w.alloc (.cells #[.slice ia I.length ik, .slice (some ⟨kb, ko, none⟩) ks.length kk] 54)).alloc (.cells #[.slice none 0 0, .slice none 0 0] 54)).alloc (.cells #[.slice (some ⟨cib, cio, none⟩) C.length cik, .slice cka CK.length ckk] 54) := ⟨_, rfl⟩
  have hz0 : W0.heap.size = w.heap.size + 1 + 1 + 1 := by rw [hW0]; simp
  have HB0 : Hid (Below w.heap.size w W0) := by rw [hW0]; exact (((Below.refl _ _).alloc (Nat.le_refl _) _).alloc (by simp) _).alloc (by simp; omega) _
  have H2 : Hid (NV W0 w.heap.size (.slice ia I.length ik) (.slice (some ⟨kb, ko, none⟩) ks.length kk)) := by
    rw [hW0]; exact ((NV.new w _ _).below ((Below.refl _ _).alloc (Nat.le_refl _) _)).below ((Below.refl _ _).alloc (Nat.le_refl _) _)
  have H4 : Hid (NV W0 (w.heap.size + 1) (.slice none 0 0) (.slice none 0 0)) := by
    have := NV.new (w.alloc (.cells #[.slice ia I.length ik, .slice (some ⟨kb, ko, none⟩) ks.length kk] 54)) (.slice none 0 0) (.slice none 0 0)
    rw [World.size_alloc] at this
    rw [hW0]; exact this.below ((Below.refl _ _).alloc (Nat.le_refl _) _)
  have H5 : Hid (NV W0 (w.heap.size + 1 + 1) (.slice (some ⟨cib, cio, none⟩) C.length cik) (.slice cka CK.length ckk)) := by
    have := NV.new ((w.alloc (.cells #[.slice ia I.length ik, .slice (some ⟨kb, ko, none⟩) ks.length kk] 54)).alloc (.cells #[.slice none 0 0, .slice none 0 0] 54)) (.slice (some ⟨cib, cio, none⟩) C.length cik) (.slice cka CK.length ckk)
    rw [World.size_alloc, World.size_alloc] at this
    rw [hW0]; exact this
  have HZ0 := hide hz0
  have HXC : Hid (w.cell? ⟨cib, cio + h * 2, none⟩ = some (.string x.1) ∧ w.cell? ⟨cib, cio + h * 2 + 1, none⟩ = some (.string x.2) ∧ cib < w.heap.size) := ⟨x0', x1', hcb⟩
  obtain ⟨p1, k1, hX1⟩ : ∃ p1 k1, cutV (some ⟨cib, cio, none⟩) 0 h cik = .slice p1 h k1 := ⟨_, _, rfl⟩
  obtain ⟨p2, m2, k2, hX2⟩ : ∃ p2 m2 k2, cutV (some ⟨cib, cio, none⟩) (h + 1) C.length cik = .slice p2 m2 k2 := ⟨_, _, _, rfl⟩
  have hr1 := hci.cut (i := 0) (j := h) (Nat.zero_le _) (by rw [List.length_map]; omega)
  have hr2 := hci.cut (i := h + 1) (j := C.length) hhc (by rw [List.length_map]; omega)
  rw [hX1, List.drop_zero, ← List.map_take] at hr1
  rw [hX2, List.take_of_length_le (by rw [List.length_map]; omega), ← List.map_drop] at hr2
  have HR := hide (And.intro hr1 hr2)
  have HX1 := hide hX1
  have HX2 := hide hX2
  have HC27 : Hid (∀ W : World, Below w.heap.size w W → Calls Tryz.prog 54 #[.slice p1 h k1] W fun e w' => ∃ a n k, e = .returned (.slice a n k) ∧ RN w' W.heap.size (.slice a n k) ((C.take h).map itV) ∧ Below W.heap.size W w') := by
    intro W hb
    refine (clone_item _ _ W ((unhide HR).1.below hb) (by rw [List.length_map, List.length_take]; omega)).mono ?_
    rintro e w' ⟨v, rfl, q1, q2⟩
    obtain ⟨a, k, rfl, _, _⟩ := id q1.1.slice
    exact ⟨a, _, k, rfl, q1, q2⟩
  have HC34 : Hid (∀ W : World, Below w.heap.size w W → Calls Tryz.prog 54 #[.slice p2 m2 k2] W fun e w' => ∃ a n k, e = .returned (.slice a n k) ∧ RN w' W.heap.size (.slice a n k) ((C.drop (h + 1)).map itV) ∧ Below W.heap.size W w') := by
    intro W hb
    refine (clone_item _ _ W ((unhide HR).2.below hb) (by rw [List.length_map, List.length_drop]; omega)).mono ?_
    rintro e w' ⟨v, rfl, q1, q2⟩
    obtain ⟨a, k, rfl, _, _⟩ := id q1.1.slice
    exact ⟨a, _, k, rfl, q1, q2⟩
  have HS5 : Hid (∀ W : World, Below W0.heap.size W0 W → W.cell? ⟨w.heap.size + 1 + 1, 0, none⟩ = some (.slice (some ⟨cib, cio, none⟩) C.length cik)) := fun W hW => ((unhide H5).below hW).cells.1
  clear hI hK hk hci hck hn hCK hh hx hxt x0 x1 x0' x1' hcb hX1 hX2 hr1 hr2 hz0
  go_enter Tryz.func38, Tryz.ntmps38
  go_upto_region 5 with fail
  rw [← hW0]
  clear hW0 l0 l1 hkb
  go_cut [7, 8] from 23 to 35 (fun s7 s8 wx => ∃ (b7 b8 n27 k27 n34 k34 : Nat) (a27 a34 : Option Addr), s7 = .pointer (some ⟨b7, 0, none⟩) ∧ s8 = .pointer (some ⟨b8, 0, none⟩) ∧ Hid ((NV wx b7 (.slice a27 n27 k27) (.slice none 0 0) ∧ NV wx b8 (.slice a34 n34 k34) (.slice none 0 0)) ∧ (RN wx W0.heap.size (.slice a27 n27 k27) ((C.take h).map itV) ∧ RN wx W0.heap.size (.slice a34 n34 k34) ((C.drop (h + 1)).map itV)) ∧ (W0.heap.size ≤ b7 ∧ W0.heap.size ≤ b8 ∧ b7 ≠ b8) ∧ ((∀ g, inB2 (.slice a27 n27 k27) g → g ≠ b7 ∧ g ≠ b8) ∧ ∀ g, inB2 (.slice a34 n34 k34) g → g ≠ b7 ∧ g ≠ b8) ∧ Below W0.heap.size W0 wx))
  case first =>
    refine wp_region_held_drew (S := fun w' => w'.cell? ⟨w.heap.size + 1 + 1, 0, none⟩ = some (.slice (some ⟨cib, cio, none⟩) C.length cik)) (by kernel_rfl) (unhide HS5 _ (Below.refl _ _).drew) (fun hHeld => ?_)
    obtain ⟨WS, hWS⟩ : ∃ WS, WS = W0.drew := ⟨_, rfl⟩
    rw [← hWS] at hHeld ⊢
    have HB : Hid (Below W0.heap.size W0 WS) := by rw [hWS]; exact (Below.refl _ _).drew
    clear hWS
    refine hand_to (i := 0) (d := 23) (v := (.pointer (some ⟨w.heap.size + 1 + 1, 0, none⟩))) rfl rfl (by kernel_rfl) (by kernel_rfl) (by kernel_rfl) (fun _ _ _ h => h) (Or.inl ⟨by rfl, ?_⟩) hHeld ?_
    · (intro w' hSw; obtain y0 := hSw; go_simp)
    simp only [Act.put, List.setIfInBounds_toArray, List.set_cons_zero, List.set_cons_succ]
    refine hand_to (i := 1) (d := 24) (v := (.slice (some ⟨cib, cio, none⟩) C.length cik)) rfl rfl (by kernel_rfl) (by kernel_rfl) (by kernel_rfl) (fun _ _ _ h => h) (Or.inl ⟨by rfl, ?_⟩) hHeld ?_
    · (intro w' hSw; obtain y0 := hSw; go_simp)
    simp only [Act.put, List.setIfInBounds_toArray, List.set_cons_zero, List.set_cons_succ]
    refine hand_to (i := 2) (d := 25) (v := (.int .i64 (h : Int))) rfl rfl (by kernel_rfl) (by kernel_rfl) (by kernel_rfl) (fun _ _ _ h => h) (Or.inl ⟨by rfl, ?_⟩) hHeld ?_
    · (intro w' hSw; obtain y0 := hSw; go_simp)
    simp only [Act.put, List.setIfInBounds_toArray, List.set_cons_zero, List.set_cons_succ]
    refine hand_to (i := 3) (d := 26) (v := (.slice p1 h k1)) rfl rfl (by kernel_rfl) (by kernel_rfl) (by kernel_rfl) (fun _ _ _ h => h) (Or.inl ⟨by rfl, ?_⟩) hHeld ?_
    · (intro w' hSw; obtain y0 := hSw; (rw [← unhide HX1]; unfold cutV; go_simp))
    simp only [Act.put, List.setIfInBounds_toArray, List.set_cons_zero, List.set_cons_succ]
    refine hand_to (i := 6) (d := 29) (v := (.pointer (some ⟨w.heap.size + 1 + 1, 0, none⟩))) rfl rfl (by kernel_rfl) (by kernel_rfl) (by kernel_rfl) (fun _ _ _ h => h) (Or.inl ⟨by rfl, ?_⟩) hHeld ?_
    · (intro w' hSw; obtain y0 := hSw; go_simp)
    simp only [Act.put, List.setIfInBounds_toArray, List.set_cons_zero, List.set_cons_succ]
    refine hand_to (i := 7) (d := 30) (v := (.slice (some ⟨cib, cio, none⟩) C.length cik)) rfl rfl (by kernel_rfl) (by kernel_rfl) (by kernel_rfl) (fun _ _ _ h => h) (Or.inl ⟨by rfl, ?_⟩) hHeld ?_
    · (intro w' hSw; obtain y0 := hSw; go_simp)
    simp only [Act.put, List.setIfInBounds_toArray, List.set_cons_zero, List.set_cons_succ]
    refine hand_to (i := 8) (d := 31) (v := (.int .i64 (h : Int))) rfl rfl (by kernel_rfl) (by kernel_rfl) (by kernel_rfl) (fun _ _ _ h => h) (Or.inl ⟨by rfl, ?_⟩) hHeld ?_
    · (intro w' hSw; obtain y0 := hSw; go_simp)
    simp only [Act.put, List.setIfInBounds_toArray, List.set_cons_zero, List.set_cons_succ]
    refine hand_to (i := 9) (d := 32) (v := (.int .i64 ((h : Int) + 1))) rfl rfl (by kernel_rfl) (by kernel_rfl) (by kernel_rfl) (fun _ _ _ h => h) (Or.inl ⟨by rfl, ?_⟩) hHeld ?_
    · (intro w' hSw; obtain y0 := hSw; go_simp)
    simp only [Act.put, List.setIfInBounds_toArray, List.set_cons_zero, List.set_cons_succ]
    refine hand_to (i := 10) (d := 33) (v := (.slice p2 m2 k2)) rfl rfl (by kernel_rfl) (by kernel_rfl) (by kernel_rfl) (fun _ _ _ h => h) (Or.inl ⟨by rfl, ?_⟩) hHeld ?_
    · (intro w' hSw; obtain y0 := hSw; (rw [← unhide HX2]; unfold cutV; go_simp))
    simp only [Act.put, List.setIfInBounds_toArray, List.set_cons_zero, List.set_cons_succ]
    refine wpAnyH_ready (rs := [4, 13, 14]) (by kernel_rfl) (by simp) ?_
    refine (AllReadyH.cons rfl (fun K hK => ?_) (AllReadyH.cons rfl (fun K hK => ?_) (AllReadyH.cons rfl (fun K hK => ?_) AllReadyH.nil)))
    · skip
      skip
      go_simp
      (go_at_call 54; refine (unhide HC27 WS (below_tr (unhide HB0) (unhide HB))).mono ?_; rintro e W4 ⟨a27, n27, k27, rfl, q1, hbb⟩)
      (go_wp2_with fail)
      have H27 : Hid (RN W4 W0.heap.size (.slice a27 n27 k27) _) := ⟨q1.1, fun g hg => Nat.le_trans (unhide HB).size (q1.2 g hg)⟩
      replace HB := hide (below_tr (unhide HB) hbb)
      clear hbb q1
      refine hK.out _ _ (unhide HS5 W4 (unhide HB)) (fun hHeld2 => ?_)
      clear hK K hHeld
      have hHeld := hHeld2
      clear hHeld2
      try simp only [Act.put, List.setIfInBounds_toArray, List.set_cons_zero, List.set_cons_succ]
      refine hand_to (i := 5) (d := 28) (v := (.agg #[.slice a27 n27 k27, .slice none 0 0])) rfl rfl (by kernel_rfl) (by kernel_rfl) (by kernel_rfl) (fun _ _ _ h => h) (Or.inl ⟨by rfl, ?_⟩) hHeld ?_
      · (intro w' hSw; obtain y0 := hSw; go_simp)
      simp only [Act.put, List.setIfInBounds_toArray, List.set_cons_zero, List.set_cons_succ]
      refine wpAnyH_ready (rs := [11, 13, 14]) (by kernel_rfl) (by simp) ?_
      refine (AllReadyH.cons rfl (fun K hK => ?_) (AllReadyH.cons rfl (fun K hK => ?_) (AllReadyH.cons rfl (fun K hK => ?_) AllReadyH.nil)))
      · skip
        skip
        go_simp
        (go_at_call 54; refine (unhide HC34 W4 (below_tr (unhide HB0) (unhide HB))).mono ?_; rintro e W11 ⟨a34, n34, k34, rfl, q1, hbb⟩)
        (go_wp2_with fail)
        replace H27 := hide ((unhide H27).below hbb)
        have H34 : Hid (RN W11 W0.heap.size (.slice a34 n34 k34) _) := ⟨q1.1, fun g hg => Nat.le_trans (unhide HB).size (q1.2 g hg)⟩
        replace HB := hide (below_tr (unhide HB) hbb)
        clear hbb q1
        refine hK.out _ _ (unhide HS5 W11 (unhide HB)) (fun hHeld2 => ?_)
        clear hK K hHeld
        have hHeld := hHeld2
        clear hHeld2
        try simp only [Act.put, List.setIfInBounds_toArray, List.set_cons_zero, List.set_cons_succ]
        refine hand_to (i := 12) (d := 35) (v := (.agg #[.slice a34 n34 k34, .slice none 0 0])) rfl rfl (by kernel_rfl) (by kernel_rfl) (by kernel_rfl) (fun _ _ _ h => h) (Or.inl ⟨by rfl, ?_⟩) hHeld ?_
        · (intro w' hSw; obtain y0 := hSw; go_simp)
        simp only [Act.put, List.setIfInBounds_toArray, List.set_cons_zero, List.set_cons_succ]
        refine wpAnyH_ready (rs := [13, 14]) (by kernel_rfl) (by simp) ?_
        refine (AllReadyH.cons rfl (fun K hK => ?_) (AllReadyH.cons rfl (fun K hK => ?_) AllReadyH.nil))
        · skip
          skip
          go_simp
          skip
          (go_wp2_with fail)
          obtain ⟨W13, hW⟩ : ∃ W13, W13 = W11.alloc (.cells #[.slice none 0 0, .slice none 0 0] 54) := ⟨_, rfl⟩
          obtain ⟨b7, hb⟩ : ∃ b7, b7 = W11.heap.size := ⟨_, rfl⟩
          rw [← hW, ← hb]
          have hbb : Below W11.heap.size W11 W13 := by rw [hW]; exact (Below.refl _ _).alloc (Nat.le_refl _) _
          have HN27_7 : Hid (∀ g, inB2 (.slice a27 n27 k27) g → g ≠ b7) := fun g hg => by have h1 := (unhide H27).1.lt g hg; omega
          have HN34_7 : Hid (∀ g, inB2 (.slice a34 n34 k34) g → g ≠ b7) := fun g hg => by have h1 := (unhide H34).1.lt g hg; omega
          replace H27 := hide ((unhide H27).below hbb)
          replace H34 := hide ((unhide H34).below hbb)
          have H7 : Hid (NV W13 b7 (.slice none 0 0) (.slice none 0 0) ∧ W0.heap.size ≤ b7) := by
            have hz := (unhide HB).size
            exact ⟨(by rw [hW, hb]; exact NV.new _ _ _), by omega⟩
          replace HB := hide (below_tr (unhide HB) hbb)
          clear hbb hW hb
          refine hK.out _ _ (unhide HS5 W13 (unhide HB)) (fun hHeld2 => ?_)
          clear hK K hHeld
          have hHeld := hHeld2
          clear hHeld2
          try simp only [Act.put, List.setIfInBounds_toArray, List.set_cons_zero, List.set_cons_succ]
          refine wpAnyH_ready (rs := [14]) (by kernel_rfl) (by simp) ?_
          refine AllReadyH.cons rfl (fun K hK => ?_) AllReadyH.nil
          skip
          go_simp
          skip
          (go_wp2_with fail)
          obtain ⟨W14, hW⟩ : ∃ W14, W14 = W13.alloc (.cells #[.slice none 0 0, .slice none 0 0] 54) := ⟨_, rfl⟩
          obtain ⟨b8, hb⟩ : ∃ b8, b8 = W13.heap.size := ⟨_, rfl⟩
          rw [← hW, ← hb]
          have hbb : Below W13.heap.size W13 W14 := by rw [hW]; exact (Below.refl _ _).alloc (Nat.le_refl _) _
          have HN27_8 : Hid (∀ g, inB2 (.slice a27 n27 k27) g → g ≠ b8) := fun g hg => by have h1 := (unhide H27).1.lt g hg; omega
          have HN34_8 : Hid (∀ g, inB2 (.slice a34 n34 k34) g → g ≠ b8) := fun g hg => by have h1 := (unhide H34).1.lt g hg; omega
          have HNE : Hid (b7 ≠ b8) := by have h1 := blk_lt (unhide H7).1; show b7 ≠ b8; omega
          replace H27 := hide ((unhide H27).below hbb)
          replace H34 := hide ((unhide H34).below hbb)
          replace H7 := hide (And.intro ((unhide H7).1.below hbb) (unhide H7).2)
          have H8 : Hid (NV W14 b8 (.slice none 0 0) (.slice none 0 0) ∧ W0.heap.size ≤ b8) := by
            have hz := (unhide HB).size
            exact ⟨(by rw [hW, hb]; exact NV.new _ _ _), by omega⟩
          replace HB := hide (below_tr (unhide HB) hbb)
          clear hbb hW hb
          refine hK.out _ _ (unhide HS5 W14 (unhide HB)) (fun hHeld2 => ?_)
          clear hK K hHeld
          have hHeld := hHeld2
          clear hHeld2
          try simp only [Act.put, List.setIfInBounds_toArray, List.set_cons_zero, List.set_cons_succ]
          refine wpAnyH_ready (rs := [15]) (by kernel_rfl) (by simp) ?_
          refine AllReadyH.cons rfl (fun K hK => ?_) AllReadyH.nil
          obtain ⟨e0, e1, f0, f1⟩ := (unhide H7).1.cells
          go_simp
          skip
          (go_wp2_with fail)
          obtain ⟨W15, hW⟩ : ∃ W15, W15 = (W14.setCell ⟨b7, 0, none⟩ (.slice a27 n27 k27)).setCell ⟨b7, 1, none⟩ (.slice none 0 0) := ⟨_, rfl⟩
          rw [← hW]
          have hz := (unhide H7).2
          replace H7 : Hid (NV W15 b7 (.slice a27 n27 k27) (.slice none 0 0) ∧ W0.heap.size ≤ b7) := by rw [hW]; exact ⟨set2_at (unhide H7).1, hz⟩
          replace H8 : Hid (NV W15 b8 (.slice none 0 0) (.slice none 0 0) ∧ W0.heap.size ≤ b8) := by rw [hW]; exact ⟨(set2_ne (Ne.symm (unhide HNE))).trans (unhide H8).1, (unhide H8).2⟩
          replace H27 : Hid (RN W15 W0.heap.size (.slice a27 n27 k27) ((C.take h).map itV)) := by rw [hW]; exact ⟨(unhide H27).1.keep (by simp) (fun g hg => set2_ne (unhide HN27_7 g hg)), (unhide H27).2⟩
          replace H34 : Hid (RN W15 W0.heap.size (.slice a34 n34 k34) ((C.drop (h + 1)).map itV)) := by rw [hW]; exact ⟨(unhide H34).1.keep (by simp) (fun g hg => set2_ne (unhide HN34_7 g hg)), (unhide H34).2⟩
          replace HB : Hid (Below W0.heap.size W0 W15) := by rw [hW]; exact set2_below (unhide HB) hz
          clear hW hz e0 e1 f0 f1
          refine hK.out _ _ (unhide HS5 W15 (unhide HB)) (fun hHeld2 => ?_)
          clear hK K hHeld
          have hHeld := hHeld2
          clear hHeld2
          try simp only [Act.put, List.setIfInBounds_toArray, List.set_cons_zero, List.set_cons_succ]
          refine wpAnyH_ready (rs := [16]) (by kernel_rfl) (by simp) ?_
          refine AllReadyH.cons rfl (fun K hK => ?_) AllReadyH.nil
          obtain ⟨e0, e1, f0, f1⟩ := (unhide H8).1.cells
          go_simp
          skip
          (go_wp2_with fail)
          obtain ⟨W16, hW⟩ : ∃ W16, W16 = (W15.setCell ⟨b8, 0, none⟩ (.slice a34 n34 k34)).setCell ⟨b8, 1, none⟩ (.slice none 0 0) := ⟨_, rfl⟩
          rw [← hW]
          have hz := (unhide H8).2
          replace H8 : Hid (NV W16 b8 (.slice a34 n34 k34) (.slice none 0 0) ∧ W0.heap.size ≤ b8) := by rw [hW]; exact ⟨set2_at (unhide H8).1, hz⟩
          replace H7 : Hid (NV W16 b7 (.slice a27 n27 k27) (.slice none 0 0) ∧ W0.heap.size ≤ b7) := by rw [hW]; exact ⟨(set2_ne (unhide HNE)).trans (unhide H7).1, (unhide H7).2⟩
          replace H27 : Hid (RN W16 W0.heap.size (.slice a27 n27 k27) ((C.take h).map itV)) := by rw [hW]; exact ⟨(unhide H27).1.keep (by simp) (fun g hg => set2_ne (unhide HN27_8 g hg)), (unhide H27).2⟩
          replace H34 : Hid (RN W16 W0.heap.size (.slice a34 n34 k34) ((C.drop (h + 1)).map itV)) := by rw [hW]; exact ⟨(unhide H34).1.keep (by simp) (fun g hg => set2_ne (unhide HN34_8 g hg)), (unhide H34).2⟩
          replace HB : Hid (Below W0.heap.size W0 W16) := by rw [hW]; exact set2_below (unhide HB) hz
          clear hW hz e0 e1 f0 f1
          refine hK.out _ _ (unhide HS5 W16 (unhide HB)) (fun hHeld2 => ?_)
          clear hK K hHeld
          have hHeld := hHeld2
          clear hHeld2
          try simp only [Act.put, List.setIfInBounds_toArray, List.set_cons_zero, List.set_cons_succ]
          refine wpAnyH_done (by kernel_rfl) ?_ _
          go_wp2_with fail
          go_meet
          exact ⟨b7, b8, n27, k27, n34, k34, a27, a34, rfl, rfl, ⟨(unhide H7).1, (unhide H8).1⟩, ⟨unhide H27, unhide H34⟩, ⟨(unhide H7).2, (unhide H8).2, unhide HNE⟩, ⟨fun g hg => ⟨unhide HN27_7 g hg, unhide HN27_8 g hg⟩, fun g hg => ⟨unhide HN34_7 g hg, unhide HN34_8 g hg⟩⟩, unhide HB⟩
        · skip
          skip
          go_simp
          skip
          (go_wp2_with fail)
          obtain ⟨W14, hW⟩ : ∃ W14, W14 = W11.alloc (.cells #[.slice none 0 0, .slice none 0 0] 54) := ⟨_, rfl⟩
          obtain ⟨b8, hb⟩ : ∃ b8, b8 = W11.heap.size := ⟨_, rfl⟩
          rw [← hW, ← hb]
          have hbb : Below W11.heap.size W11 W14 := by rw [hW]; exact (Below.refl _ _).alloc (Nat.le_refl _) _
          have HN27_8 : Hid (∀ g, inB2 (.slice a27 n27 k27) g → g ≠ b8) := fun g hg => by have h1 := (unhide H27).1.lt g hg; omega
          have HN34_8 : Hid (∀ g, inB2 (.slice a34 n34 k34) g → g ≠ b8) := fun g hg => by have h1 := (unhide H34).1.lt g hg; omega
          replace H27 := hide ((unhide H27).below hbb)
          replace H34 := hide ((unhide H34).below hbb)
          have H8 : Hid (NV W14 b8 (.slice none 0 0) (.slice none 0 0) ∧ W0.heap.size ≤ b8) := by
            have hz := (unhide HB).size
            exact ⟨(by rw [hW, hb]; exact NV.new _ _ _), by omega⟩
          replace HB := hide (below_tr (unhide HB) hbb)
          clear hbb hW hb
          refine hK.out _ _ (unhide HS5 W14 (unhide HB)) (fun hHeld2 => ?_)
          clear hK K hHeld
          have hHeld := hHeld2
          clear hHeld2
          try simp only [Act.put, List.setIfInBounds_toArray, List.set_cons_zero, List.set_cons_succ]
          refine wpAnyH_ready (rs := [13]) (by kernel_rfl) (by simp) ?_
          refine AllReadyH.cons rfl (fun K hK => ?_) AllReadyH.nil
          skip
          go_simp
          skip
          (go_wp2_with fail)
          obtain ⟨W13, hW⟩ : ∃ W13, W13 = W14.alloc (.cells #[.slice none 0 0, .slice none 0 0] 54) := ⟨_, rfl⟩
          obtain ⟨b7, hb⟩ : ∃ b7, b7 = W14.heap.size := ⟨_, rfl⟩
          rw [← hW, ← hb]
          have hbb : Below W14.heap.size W14 W13 := by rw [hW]; exact (Below.refl _ _).alloc (Nat.le_refl _) _
          have HN27_7 : Hid (∀ g, inB2 (.slice a27 n27 k27) g → g ≠ b7) := fun g hg => by have h1 := (unhide H27).1.lt g hg; omega
          have HN34_7 : Hid (∀ g, inB2 (.slice a34 n34 k34) g → g ≠ b7) := fun g hg => by have h1 := (unhide H34).1.lt g hg; omega
          have HNE : Hid (b7 ≠ b8) := by have h1 := blk_lt (unhide H8).1; show b7 ≠ b8; omega
          replace H27 := hide ((unhide H27).below hbb)
          replace H34 := hide ((unhide H34).below hbb)
          replace H8 := hide (And.intro ((unhide H8).1.below hbb) (unhide H8).2)
          have H7 : Hid (NV W13 b7 (.slice none 0 0) (.slice none 0 0) ∧ W0.heap.size ≤ b7) := by
            have hz := (unhide HB).size
            exact ⟨(by rw [hW, hb]; exact NV.new _ _ _), by omega⟩
          replace HB := hide (below_tr (unhide HB) hbb)
          clear hbb hW hb
          refine hK.out _ _ (unhide HS5 W13 (unhide HB)) (fun hHeld2 => ?_)
          clear hK K hHeld
          have hHeld := hHeld2
          clear hHeld2
          try simp only [Act.put, List.setIfInBounds_toArray, List.set_cons_zero, List.set_cons_succ]
          refine wpAnyH_ready (rs := [15]) (by kernel_rfl) (by simp) ?_
          refine AllReadyH.cons rfl (fun K hK => ?_) AllReadyH.nil
          obtain ⟨e0, e1, f0, f1⟩ := (unhide H7).1.cells
          go_simp
          skip
          (go_wp2_with fail)
          obtain ⟨W15, hW⟩ : ∃ W15, W15 = (W13.setCell ⟨b7, 0, none⟩ (.slice a27 n27 k27)).setCell ⟨b7, 1, none⟩ (.slice none 0 0) := ⟨_, rfl⟩
          rw [← hW]
          have hz := (unhide H7).2
          replace H7 : Hid (NV W15 b7 (.slice a27 n27 k27) (.slice none 0 0) ∧ W0.heap.size ≤ b7) := by rw [hW]; exact ⟨set2_at (unhide H7).1, hz⟩
          replace H8 : Hid (NV W15 b8 (.slice none 0 0) (.slice none 0 0) ∧ W0.heap.size ≤ b8) := by rw [hW]; exact ⟨(set2_ne (Ne.symm (unhide HNE))).trans (unhide H8).1, (unhide H8).2⟩
          replace H27 : Hid (RN W15 W0.heap.size (.slice a27 n27 k27) ((C.take h).map itV)) := by rw [hW]; exact ⟨(unhide H27).1.keep (by simp) (fun g hg => set2_ne (unhide HN27_7 g hg)), (unhide H27).2⟩
          replace H34 : Hid (RN W15 W0.heap.size (.slice a34 n34 k34) ((C.drop (h + 1)).map itV)) := by rw [hW]; exact ⟨(unhide H34).1.keep (by simp) (fun g hg => set2_ne (unhide HN34_7 g hg)), (unhide H34).2⟩
          replace HB : Hid (Below W0.heap.size W0 W15) := by rw [hW]; exact set2_below (unhide HB) hz
          clear hW hz e0 e1 f0 f1
          refine hK.out _ _ (unhide HS5 W15 (unhide HB)) (fun hHeld2 => ?_)
          clear hK K hHeld
          have hHeld := hHeld2
          clear hHeld2
          try simp only [Act.put, List.setIfInBounds_toArray, List.set_cons_zero, List.set_cons_succ]
          refine wpAnyH_ready (rs := [16]) (by kernel_rfl) (by simp) ?_
          refine AllReadyH.cons rfl (fun K hK => ?_) AllReadyH.nil
          obtain ⟨e0, e1, f0, f1⟩ := (unhide H8).1.cells
          go_simp
          skip
          (go_wp2_with fail)
          obtain ⟨W16, hW⟩ : ∃ W16, W16 = (W15.setCell ⟨b8, 0, none⟩ (.slice a34 n34 k34)).setCell ⟨b8, 1, none⟩ (.slice none 0 0) := ⟨_, rfl⟩
          rw [← hW]
          have hz := (unhide H8).2
          replace H8 : Hid (NV W16 b8 (.slice a34 n34 k34) (.slice none 0 0) ∧ W0.heap.size ≤ b8) := by rw [hW]; exact ⟨set2_at (unhide H8).1, hz⟩
          replace H7 : Hid (NV W16 b7 (.slice a27 n27 k27) (.slice none 0 0) ∧ W0.heap.size ≤ b7) := by rw [hW]; exact ⟨(set2_ne (unhide HNE)).trans (unhide H7).1, (unhide H7).2⟩
          replace H27 : Hid (RN W16 W0.heap.size (.slice a27 n27 k27) ((C.take h).map itV)) := by rw [hW]; exact ⟨(unhide H27).1.keep (by simp) (fun g hg => set2_ne (unhide HN27_8 g hg)), (unhide H27).2⟩
          replace H34 : Hid (RN W16 W0.heap.size (.slice a34 n34 k34) ((C.drop (h + 1)).map itV)) := by rw [hW]; exact ⟨(unhide H34).1.keep (by simp) (fun g hg => set2_ne (unhide HN34_8 g hg)), (unhide H34).2⟩
          replace HB : Hid (Below W0.heap.size W0 W16) := by rw [hW]; exact set2_below (unhide HB) hz
          clear hW hz e0 e1 f0 f1
          refine hK.out _ _ (unhide HS5 W16 (unhide HB)) (fun hHeld2 => ?_)
          clear hK K hHeld
          have hHeld := hHeld2
          clear hHeld2
          try simp only [Act.put, List.setIfInBounds_toArray, List.set_cons_zero, List.set_cons_succ]
          refine wpAnyH_done (by kernel_rfl) ?_ _
          go_wp2_with fail
          go_meet
          exact ⟨b7, b8, n27, k27, n34, k34, a27, a34, rfl, rfl, ⟨(unhide H7).1, (unhide H8).1⟩, ⟨unhide H27, unhide H34⟩, ⟨(unhide H7).2, (unhide H8).2, unhide HNE⟩, ⟨fun g hg => ⟨unhide HN27_7 g hg, unhide HN27_8 g hg⟩, fun g hg => ⟨unhide HN34_7 g hg, unhide HN34_8 g hg⟩⟩, unhide HB⟩
      · skip
        skip
        go_simp
        skip
        (go_wp2_with fail)
        obtain ⟨W13, hW⟩ : ∃ W13, W13 = W4.alloc (.cells #[.slice none 0 0, .slice none 0 0] 54) := ⟨_, rfl⟩
        obtain ⟨b7, hb⟩ : ∃ b7, b7 = W4.heap.size := ⟨_, rfl⟩
        rw [← hW, ← hb]
        have hbb : Below W4.heap.size W4 W13 := by rw [hW]; exact (Below.refl _ _).alloc (Nat.le_refl _) _
        have HN27_7 : Hid (∀ g, inB2 (.slice a27 n27 k27) g → g ≠ b7) := fun g hg => by have h1 := (unhide H27).1.lt g hg; omega
        replace H27 := hide ((unhide H27).below hbb)
        have H7 : Hid (NV W13 b7 (.slice none 0 0) (.slice none 0 0) ∧ W0.heap.size ≤ b7) := by
          have hz := (unhide HB).size
          exact ⟨(by rw [hW, hb]; exact NV.new _ _ _), by omega⟩
        replace HB := hide (below_tr (unhide HB) hbb)
        clear hbb hW hb
        refine hK.out _ _ (unhide HS5 W13 (unhide HB)) (fun hHeld2 => ?_)
        clear hK K hHeld
        have hHeld := hHeld2
        clear hHeld2
        try simp only [Act.put, List.setIfInBounds_toArray, List.set_cons_zero, List.set_cons_succ]
        refine wpAnyH_ready (rs := [11, 14]) (by kernel_rfl) (by simp) ?_
        refine (AllReadyH.cons rfl (fun K hK => ?_) (AllReadyH.cons rfl (fun K hK => ?_) AllReadyH.nil))
        · skip
          skip
          go_simp
          (go_at_call 54; refine (unhide HC34 W13 (below_tr (unhide HB0) (unhide HB))).mono ?_; rintro e W11 ⟨a34, n34, k34, rfl, q1, hbb⟩)
          (go_wp2_with fail)
          have HN34_7 : Hid (∀ g, inB2 (.slice a34 n34 k34) g → g ≠ b7) := fun g hg => by have h1 := q1.2 g hg; have h2 := blk_lt (unhide H7).1; omega
          replace H27 := hide ((unhide H27).below hbb)
          replace H7 := hide (And.intro ((unhide H7).1.below hbb) (unhide H7).2)
          have H34 : Hid (RN W11 W0.heap.size (.slice a34 n34 k34) _) := ⟨q1.1, fun g hg => Nat.le_trans (unhide HB).size (q1.2 g hg)⟩
          replace HB := hide (below_tr (unhide HB) hbb)
          clear hbb q1
          refine hK.out _ _ (unhide HS5 W11 (unhide HB)) (fun hHeld2 => ?_)
          clear hK K hHeld
          have hHeld := hHeld2
          clear hHeld2
          try simp only [Act.put, List.setIfInBounds_toArray, List.set_cons_zero, List.set_cons_succ]
          refine hand_to (i := 12) (d := 35) (v := (.agg #[.slice a34 n34 k34, .slice none 0 0])) rfl rfl (by kernel_rfl) (by kernel_rfl) (by kernel_rfl) (fun _ _ _ h => h) (Or.inl ⟨by rfl, ?_⟩) hHeld ?_
          · (intro w' hSw; obtain y0 := hSw; go_simp)
          simp only [Act.put, List.setIfInBounds_toArray, List.set_cons_zero, List.set_cons_succ]
          refine wpAnyH_ready (rs := [14]) (by kernel_rfl) (by simp) ?_
          refine AllReadyH.cons rfl (fun K hK => ?_) AllReadyH.nil
          skip
          go_simp
          skip
          (go_wp2_with fail)
          obtain ⟨W14, hW⟩ : ∃ W14, W14 = W11.alloc (.cells #[.slice none 0 0, .slice none 0 0] 54) := ⟨_, rfl⟩
          obtain ⟨b8, hb⟩ : ∃ b8, b8 = W11.heap.size := ⟨_, rfl⟩
          rw [← hW, ← hb]
          have hbb : Below W11.heap.size W11 W14 := by rw [hW]; exact (Below.refl _ _).alloc (Nat.le_refl _) _
          have HN27_8 : Hid (∀ g, inB2 (.slice a27 n27 k27) g → g ≠ b8) := fun g hg => by have h1 := (unhide H27).1.lt g hg; omega
          have HN34_8 : Hid (∀ g, inB2 (.slice a34 n34 k34) g → g ≠ b8) := fun g hg => by have h1 := (unhide H34).1.lt g hg; omega
          have HNE : Hid (b7 ≠ b8) := by have h1 := blk_lt (unhide H7).1; show b7 ≠ b8; omega
          replace H27 := hide ((unhide H27).below hbb)
          replace H7 := hide (And.intro ((unhide H7).1.below hbb) (unhide H7).2)
          replace H34 := hide ((unhide H34).below hbb)
          have H8 : Hid (NV W14 b8 (.slice none 0 0) (.slice none 0 0) ∧ W0.heap.size ≤ b8) := by
            have hz := (unhide HB).size
            exact ⟨(by rw [hW, hb]; exact NV.new _ _ _), by omega⟩
          replace HB := hide (below_tr (unhide HB) hbb)
          clear hbb hW hb
          refine hK.out _ _ (unhide HS5 W14 (unhide HB)) (fun hHeld2 => ?_)
          clear hK K hHeld
          have hHeld := hHeld2
          clear hHeld2
          try simp only [Act.put, List.setIfInBounds_toArray, List.set_cons_zero, List.set_cons_succ]
          refine wpAnyH_ready (rs := [15]) (by kernel_rfl) (by simp) ?_
          refine AllReadyH.cons rfl (fun K hK => ?_) AllReadyH.nil
          obtain ⟨e0, e1, f0, f1⟩ := (unhide H7).1.cells
          go_simp
          skip
          (go_wp2_with fail)
          obtain ⟨W15, hW⟩ : ∃ W15, W15 = (W14.setCell ⟨b7, 0, none⟩ (.slice a27 n27 k27)).setCell ⟨b7, 1, none⟩ (.slice none 0 0) := ⟨_, rfl⟩
          rw [← hW]
          have hz := (unhide H7).2
          replace H7 : Hid (NV W15 b7 (.slice a27 n27 k27) (.slice none 0 0) ∧ W0.heap.size ≤ b7) := by rw [hW]; exact ⟨set2_at (unhide H7).1, hz⟩
          replace H8 : Hid (NV W15 b8 (.slice none 0 0) (.slice none 0 0) ∧ W0.heap.size ≤ b8) := by rw [hW]; exact ⟨(set2_ne (Ne.symm (unhide HNE))).trans (unhide H8).1, (unhide H8).2⟩
          replace H27 : Hid (RN W15 W0.heap.size (.slice a27 n27 k27) ((C.take h).map itV)) := by rw [hW]; exact ⟨(unhide H27).1.keep (by simp) (fun g hg => set2_ne (unhide HN27_7 g hg)), (unhide H27).2⟩
          replace H34 : Hid (RN W15 W0.heap.size (.slice a34 n34 k34) ((C.drop (h + 1)).map itV)) := by rw [hW]; exact ⟨(unhide H34).1.keep (by simp) (fun g hg => set2_ne (unhide HN34_7 g hg)), (unhide H34).2⟩
          replace HB : Hid (Below W0.heap.size W0 W15) := by rw [hW]; exact set2_below (unhide HB) hz
          clear hW hz e0 e1 f0 f1
          refine hK.out _ _ (unhide HS5 W15 (unhide HB)) (fun hHeld2 => ?_)
          clear hK K hHeld
          have hHeld := hHeld2
          clear hHeld2
          try simp only [Act.put, List.setIfInBounds_toArray, List.set_cons_zero, List.set_cons_succ]
          refine wpAnyH_ready (rs := [16]) (by kernel_rfl) (by simp) ?_
          refine AllReadyH.cons rfl (fun K hK => ?_) AllReadyH.nil
          obtain ⟨e0, e1, f0, f1⟩ := (unhide H8).1.cells
          go_simp
          skip
          (go_wp2_with fail)
          obtain ⟨W16, hW⟩ : ∃ W16, W16 = (W15.setCell ⟨b8, 0, none⟩ (.slice a34 n34 k34)).setCell ⟨b8, 1, none⟩ (.slice none 0 0) := ⟨_, rfl⟩
          rw [← hW]
          have hz := (unhide H8).2
          replace H8 : Hid (NV W16 b8 (.slice a34 n34 k34) (.slice none 0 0) ∧ W0.heap.size ≤ b8) := by rw [hW]; exact ⟨set2_at (unhide H8).1, hz⟩
          replace H7 : Hid (NV W16 b7 (.slice a27 n27 k27) (.slice none 0 0) ∧ W0.heap.size ≤ b7) := by rw [hW]; exact ⟨(set2_ne (unhide HNE)).trans (unhide H7).1, (unhide H7).2⟩
          replace H27 : Hid (RN W16 W0.heap.size (.slice a27 n27 k27) ((C.take h).map itV)) := by rw [hW]; exact ⟨(unhide H27).1.keep (by simp) (fun g hg => set2_ne (unhide HN27_8 g hg)), (unhide H27).2⟩
          replace H34 : Hid (RN W16 W0.heap.size (.slice a34 n34 k34) ((C.drop (h + 1)).map itV)) := by rw [hW]; exact ⟨(unhide H34).1.keep (by simp) (fun g hg => set2_ne (unhide HN34_8 g hg)), (unhide H34).2⟩
          replace HB : Hid (Below W0.heap.size W0 W16) := by rw [hW]; exact set2_below (unhide HB) hz
          clear hW hz e0 e1 f0 f1
          refine hK.out _ _ (unhide HS5 W16 (unhide HB)) (fun hHeld2 => ?_)
          clear hK K hHeld
          have hHeld := hHeld2
          clear hHeld2
          try simp only [Act.put, List.setIfInBounds_toArray, List.set_cons_zero, List.set_cons_succ]
          refine wpAnyH_done (by kernel_rfl) ?_ _
          go_wp2_with fail
          go_meet
          exact ⟨b7, b8, n27, k27, n34, k34, a27, a34, rfl, rfl, ⟨(unhide H7).1, (unhide H8).1⟩, ⟨unhide H27, unhide H34⟩, ⟨(unhide H7).2, (unhide H8).2, unhide HNE⟩, ⟨fun g hg => ⟨unhide HN27_7 g hg, unhide HN27_8 g hg⟩, fun g hg => ⟨unhide HN34_7 g hg, unhide HN34_8 g hg⟩⟩, unhide HB⟩
        · skip
          skip
          go_simp
          skip
          (go_wp2_with fail)
          obtain ⟨W14, hW⟩ : ∃ W14, W14 = W13.alloc (.cells #[.slice none 0 0, .slice none 0 0] 54) := ⟨_, rfl⟩
          obtain ⟨b8, hb⟩ : ∃ b8, b8 = W13.heap.size := ⟨_, rfl⟩
          rw [← hW, ← hb]
          have hbb : Below W13.heap.size W13 W14 := by rw [hW]; exact (Below.refl _ _).alloc (Nat.le_refl _) _
          have HN27_8 : Hid (∀ g, inB2 (.slice a27 n27 k27) g → g ≠ b8) := fun g hg => by have h1 := (unhide H27).1.lt g hg; omega
          have HNE : Hid (b7 ≠ b8) := by have h1 := blk_lt (unhide H7).1; show b7 ≠ b8; omega
          replace H27 := hide ((unhide H27).below hbb)
          replace H7 := hide (And.intro ((unhide H7).1.below hbb) (unhide H7).2)
          have H8 : Hid (NV W14 b8 (.slice none 0 0) (.slice none 0 0) ∧ W0.heap.size ≤ b8) := by
            have hz := (unhide HB).size
            exact ⟨(by rw [hW, hb]; exact NV.new _ _ _), by omega⟩
          replace HB := hide (below_tr (unhide HB) hbb)
          clear hbb hW hb
          refine hK.out _ _ (unhide HS5 W14 (unhide HB)) (fun hHeld2 => ?_)
          clear hK K hHeld
          have hHeld := hHeld2
          clear hHeld2
          try simp only [Act.put, List.setIfInBounds_toArray, List.set_cons_zero, List.set_cons_succ]
          refine wpAnyH_ready (rs := [11]) (by kernel_rfl) (by simp) ?_
          refine AllReadyH.cons rfl (fun K hK => ?_) AllReadyH.nil
          skip
          go_simp
          (go_at_call 54; refine (unhide HC34 W14 (below_tr (unhide HB0) (unhide HB))).mono ?_; rintro e W11 ⟨a34, n34, k34, rfl, q1, hbb⟩)
          (go_wp2_with fail)
          have HN34_7 : Hid (∀ g, inB2 (.slice a34 n34 k34) g → g ≠ b7) := fun g hg => by have h1 := q1.2 g hg; have h2 := blk_lt (unhide H7).1; omega
          have HN34_8 : Hid (∀ g, inB2 (.slice a34 n34 k34) g → g ≠ b8) := fun g hg => by have h1 := q1.2 g hg; have h2 := blk_lt (unhide H8).1; omega
          replace H27 := hide ((unhide H27).below hbb)
          replace H7 := hide (And.intro ((unhide H7).1.below hbb) (unhide H7).2)
          replace H8 := hide (And.intro ((unhide H8).1.below hbb) (unhide H8).2)
          have H34 : Hid (RN W11 W0.heap.size (.slice a34 n34 k34) _) := ⟨q1.1, fun g hg => Nat.le_trans (unhide HB).size (q1.2 g hg)⟩
          replace HB := hide (below_tr (unhide HB) hbb)
          clear hbb q1
          refine hK.out _ _ (unhide HS5 W11 (unhide HB)) (fun hHeld2 => ?_)
          clear hK K hHeld
          have hHeld := hHeld2
          clear hHeld2
          try simp only [Act.put, List.setIfInBounds_toArray, List.set_cons_zero, List.set_cons_succ]
          refine hand_to (i := 12) (d := 35) (v := (.agg #[.slice a34 n34 k34, .slice none 0 0])) rfl rfl (by kernel_rfl) (by kernel_rfl) (by kernel_rfl) (fun _ _ _ h => h) (Or.inl ⟨by rfl, ?_⟩) hHeld ?_
          · (intro w' hSw; obtain y0 := hSw; go_simp)
          simp only [Act.put, List.setIfInBounds_toArray, List.set_cons_zero, List.set_cons_succ]
          refine wpAnyH_ready (rs := [15]) (by kernel_rfl) (by simp) ?_
          refine AllReadyH.cons rfl (fun K hK => ?_) AllReadyH.nil
          obtain ⟨e0, e1, f0, f1⟩ := (unhide H7).1.cells
          go_simp
          skip
          (go_wp2_with fail)
          obtain ⟨W15, hW⟩ : ∃ W15, W15 = (W11.setCell ⟨b7, 0, none⟩ (.slice a27 n27 k27)).setCell ⟨b7, 1, none⟩ (.slice none 0 0) := ⟨_, rfl⟩
          rw [← hW]
          have hz := (unhide H7).2
          replace H7 : Hid (NV W15 b7 (.slice a27 n27 k27) (.slice none 0 0) ∧ W0.heap.size ≤ b7) := by rw [hW]; exact ⟨set2_at (unhide H7).1, hz⟩
          replace H8 : Hid (NV W15 b8 (.slice none 0 0) (.slice none 0 0) ∧ W0.heap.size ≤ b8) := by rw [hW]; exact ⟨(set2_ne (Ne.symm (unhide HNE))).trans (unhide H8).1, (unhide H8).2⟩
          replace H27 : Hid (RN W15 W0.heap.size (.slice a27 n27 k27) ((C.take h).map itV)) := by rw [hW]; exact ⟨(unhide H27).1.keep (by simp) (fun g hg => set2_ne (unhide HN27_7 g hg)), (unhide H27).2⟩
          replace H34 : Hid (RN W15 W0.heap.size (.slice a34 n34 k34) ((C.drop (h + 1)).map itV)) := by rw [hW]; exact ⟨(unhide H34).1.keep (by simp) (fun g hg => set2_ne (unhide HN34_7 g hg)), (unhide H34).2⟩
          replace HB : Hid (Below W0.heap.size W0 W15) := by rw [hW]; exact set2_below (unhide HB) hz
          clear hW hz e0 e1 f0 f1
          refine hK.out _ _ (unhide HS5 W15 (unhide HB)) (fun hHeld2 => ?_)
          clear hK K hHeld
          have hHeld := hHeld2
          clear hHeld2
          try simp only [Act.put, List.setIfInBounds_toArray, List.set_cons_zero, List.set_cons_succ]
          refine wpAnyH_ready (rs := [16]) (by kernel_rfl) (by simp) ?_
          refine AllReadyH.cons rfl (fun K hK => ?_) AllReadyH.nil
          obtain ⟨e0, e1, f0, f1⟩ := (unhide H8).1.cells
          go_simp
          skip
          (go_wp2_with fail)
          obtain ⟨W16, hW⟩ : ∃ W16, W16 = (W15.setCell ⟨b8, 0, none⟩ (.slice a34 n34 k34)).setCell ⟨b8, 1, none⟩ (.slice none 0 0) := ⟨_, rfl⟩
          rw [← hW]
          have hz := (unhide H8).2
          replace H8 : Hid (NV W16 b8 (.slice a34 n34 k34) (.slice none 0 0) ∧ W0.heap.size ≤ b8) := by rw [hW]; exact ⟨set2_at (unhide H8).1, hz⟩
          replace H7 : Hid (NV W16 b7 (.slice a27 n27 k27) (.slice none 0 0) ∧ W0.heap.size ≤ b7) := by rw [hW]; exact ⟨(set2_ne (unhide HNE)).trans (unhide H7).1, (unhide H7).2⟩
          replace H27 : Hid (RN W16 W0.heap.size (.slice a27 n27 k27) ((C.take h).map itV)) := by rw [hW]; exact ⟨(unhide H27).1.keep (by simp) (fun g hg => set2_ne (unhide HN27_8 g hg)), (unhide H27).2⟩
          replace H34 : Hid (RN W16 W0.heap.size (.slice a34 n34 k34) ((C.drop (h + 1)).map itV)) := by rw [hW]; exact ⟨(unhide H34).1.keep (by simp) (fun g hg => set2_ne (unhide HN34_8 g hg)), (unhide H34).2⟩
          replace HB : Hid (Below W0.heap.size W0 W16) := by rw [hW]; exact set2_below (unhide HB) hz
          clear hW hz e0 e1 f0 f1
          refine hK.out _ _ (unhide HS5 W16 (unhide HB)) (fun hHeld2 => ?_)
          clear hK K hHeld
          have hHeld := hHeld2
          clear hHeld2
          try simp only [Act.put, List.setIfInBounds_toArray, List.set_cons_zero, List.set_cons_succ]
          refine wpAnyH_done (by kernel_rfl) ?_ _
          go_wp2_with fail
          go_meet
          exact ⟨b7, b8, n27, k27, n34, k34, a27, a34, rfl, rfl, ⟨(unhide H7).1, (unhide H8).1⟩, ⟨unhide H27, unhide H34⟩, ⟨(unhide H7).2, (unhide H8).2, unhide HNE⟩, ⟨fun g hg => ⟨unhide HN27_7 g hg, unhide HN27_8 g hg⟩, fun g hg => ⟨unhide HN34_7 g hg, unhide HN34_8 g hg⟩⟩, unhide HB⟩
      · skip
        skip
        go_simp
        skip
        (go_wp2_with fail)
        obtain ⟨W14, hW⟩ : ∃ W14, W14 = W4.alloc (.cells #[.slice none 0 0, .slice none 0 0] 54) := ⟨_, rfl⟩
        obtain ⟨b8, hb⟩ : ∃ b8, b8 = W4.heap.size := ⟨_, rfl⟩
        rw [← hW, ← hb]
        have hbb : Below W4.heap.size W4 W14 := by rw [hW]; exact (Below.refl _ _).alloc (Nat.le_refl _) _
        have HN27_8 : Hid (∀ g, inB2 (.slice a27 n27 k27) g → g ≠ b8) := fun g hg => by have h1 := (unhide H27).1.lt g hg; omega
        replace H27 := hide ((unhide H27).below hbb)
        have H8 : Hid (NV W14 b8 (.slice none 0 0) (.slice none 0 0) ∧ W0.heap.size ≤ b8) := by
          have hz := (unhide HB).size
          exact ⟨(by rw [hW, hb]; exact NV.new _ _ _), by omega⟩
        replace HB := hide (below_tr (unhide HB) hbb)
        clear hbb hW hb
        refine hK.out _ _ (unhide HS5 W14 (unhide HB)) (fun hHeld2 => ?_)
        clear hK K hHeld
        have hHeld := hHeld2
        clear hHeld2
        try simp only [Act.put, List.setIfInBounds_toArray, List.set_cons_zero, List.set_cons_succ]
        refine wpAnyH_ready (rs := [11, 13]) (by kernel_rfl) (by simp) ?_
        refine (AllReadyH.cons rfl (fun K hK => ?_) (AllReadyH.cons rfl (fun K hK => ?_) AllReadyH.nil))
        · skip
          skip
          go_simp
          (go_at_call 54; refine (unhide HC34 W14 (below_tr (unhide HB0) (unhide HB))).mono ?_; rintro e W11 ⟨a34, n34, k34, rfl, q1, hbb⟩)
          (go_wp2_with fail)
          have HN34_8 : Hid (∀ g, inB2 (.slice a34 n34 k34) g → g ≠ b8) := fun g hg => by have h1 := q1.2 g hg; have h2 := blk_lt (unhide H8).1; omega
          replace H27 := hide ((unhide H27).below hbb)
          replace H8 := hide (And.intro ((unhide H8).1.below hbb) (unhide H8).2)
          have H34 : Hid (RN W11 W0.heap.size (.slice a34 n34 k34) _) := ⟨q1.1, fun g hg => Nat.le_trans (unhide HB).size (q1.2 g hg)⟩
          replace HB := hide (below_tr (unhide HB) hbb)
          clear hbb q1
          refine hK.out _ _ (unhide HS5 W11 (unhide HB)) (fun hHeld2 => ?_)
          clear hK K hHeld
          have hHeld := hHeld2
          clear hHeld2
          try simp only [Act.put, List.setIfInBounds_toArray, List.set_cons_zero, List.set_cons_succ]
          refine hand_to (i := 12) (d := 35) (v := (.agg #[.slice a34 n34 k34, .slice none 0 0])) rfl rfl (by kernel_rfl) (by kernel_rfl) (by kernel_rfl) (fun _ _ _ h => h) (Or.inl ⟨by rfl, ?_⟩) hHeld ?_
          · (intro w' hSw; obtain y0 := hSw; go_simp)
          simp only [Act.put, List.setIfInBounds_toArray, List.set_cons_zero, List.set_cons_succ]
          refine wpAnyH_ready (rs := [13]) (by kernel_rfl) (by simp) ?_
          refine AllReadyH.cons rfl (fun K hK => ?_) AllReadyH.nil
          skip
          go_simp
          skip
          (go_wp2_with fail)
          obtain ⟨W13, hW⟩ : ∃ W13, W13 = W11.alloc (.cells #[.slice none 0 0, .slice none 0 0] 54) := ⟨_, rfl⟩
          obtain ⟨b7, hb⟩ : ∃ b7, b7 = W11.heap.size := ⟨_, rfl⟩
          rw [← hW, ← hb]
          have hbb : Below W11.heap.size W11 W13 := by rw [hW]; exact (Below.refl _ _).alloc (Nat.le_refl _) _
          have HN27_7 : Hid (∀ g, inB2 (.slice a27 n27 k27) g → g ≠ b7) := fun g hg => by have h1 := (unhide H27).1.lt g hg; omega
          have HN34_7 : Hid (∀ g, inB2 (.slice a34 n34 k34) g → g ≠ b7) := fun g hg => by have h1 := (unhide H34).1.lt g hg; omega
          have HNE : Hid (b7 ≠ b8) := by have h1 := blk_lt (unhide H8).1; show b7 ≠ b8; omega
          replace H27 := hide ((unhide H27).below hbb)
          replace H8 := hide (And.intro ((unhide H8).1.below hbb) (unhide H8).2)
          replace H34 := hide ((unhide H34).below hbb)
          have H7 : Hid (NV W13 b7 (.slice none 0 0) (.slice none 0 0) ∧ W0.heap.size ≤ b7) := by
            have hz := (unhide HB).size
            exact ⟨(by rw [hW, hb]; exact NV.new _ _ _), by omega⟩
          replace HB := hide (below_tr (unhide HB) hbb)
          clear hbb hW hb
          refine hK.out _ _ (unhide HS5 W13 (unhide HB)) (fun hHeld2 => ?_)
          clear hK K hHeld
          have hHeld := hHeld2
          clear hHeld2
          try simp only [Act.put, List.setIfInBounds_toArray, List.set_cons_zero, List.set_cons_succ]
          refine wpAnyH_ready (rs := [15]) (by kernel_rfl) (by simp) ?_
          refine AllReadyH.cons rfl (fun K hK => ?_) AllReadyH.nil
          obtain ⟨e0, e1, f0, f1⟩ := (unhide H7).1.cells
          go_simp
          skip
          (go_wp2_with fail)
          obtain ⟨W15, hW⟩ : ∃ W15, W15 = (W13.setCell ⟨b7, 0, none⟩ (.slice a27 n27 k27)).setCell ⟨b7, 1, none⟩ (.slice none 0 0) := ⟨_, rfl⟩
          rw [← hW]
          have hz := (unhide H7).2
          replace H7 : Hid (NV W15 b7 (.slice a27 n27 k27) (.slice none 0 0) ∧ W0.heap.size ≤ b7) := by rw [hW]; exact ⟨set2_at (unhide H7).1, hz⟩
          replace H8 : Hid (NV W15 b8 (.slice none 0 0) (.slice none 0 0) ∧ W0.heap.size ≤ b8) := by rw [hW]; exact ⟨(set2_ne (Ne.symm (unhide HNE))).trans (unhide H8).1, (unhide H8).2⟩
          replace H27 : Hid (RN W15 W0.heap.size (.slice a27 n27 k27) ((C.take h).map itV)) := by rw [hW]; exact ⟨(unhide H27).1.keep (by simp) (fun g hg => set2_ne (unhide HN27_7 g hg)), (unhide H27).2⟩
          replace H34 : Hid (RN W15 W0.heap.size (.slice a34 n34 k34) ((C.drop (h + 1)).map itV)) := by rw [hW]; exact ⟨(unhide H34).1.keep (by simp) (fun g hg => set2_ne (unhide HN34_7 g hg)), (unhide H34).2⟩
          replace HB : Hid (Below W0.heap.size W0 W15) := by rw [hW]; exact set2_below (unhide HB) hz
          clear hW hz e0 e1 f0 f1
          refine hK.out _ _ (unhide HS5 W15 (unhide HB)) (fun hHeld2 => ?_)
          clear hK K hHeld
          have hHeld := hHeld2
          clear hHeld2
          try simp only [Act.put, List.setIfInBounds_toArray, List.set_cons_zero, List.set_cons_succ]
          refine wpAnyH_ready (rs := [16]) (by kernel_rfl) (by simp) ?_
          refine AllReadyH.cons rfl (fun K hK => ?_) AllReadyH.nil
          obtain ⟨e0, e1, f0, f1⟩ := (unhide H8).1.cells
          go_simp
          skip
          (go_wp2_with fail)
          obtain ⟨W16, hW⟩ : ∃ W16, W16 = (W15.setCell ⟨b8, 0, none⟩ (.slice a34 n34 k34)).setCell ⟨b8, 1, none⟩ (.slice none 0 0) := ⟨_, rfl⟩
          rw [← hW]
          have hz := (unhide H8).2
          replace H8 : Hid (NV W16 b8 (.slice a34 n34 k34) (.slice none 0 0) ∧ W0.heap.size ≤ b8) := by rw [hW]; exact ⟨set2_at (unhide H8).1, hz⟩
          replace H7 : Hid (NV W16 b7 (.slice a27 n27 k27) (.slice none 0 0) ∧ W0.heap.size ≤ b7) := by rw [hW]; exact ⟨(set2_ne (unhide HNE)).trans (unhide H7).1, (unhide H7).2⟩
          replace H27 : Hid (RN W16 W0.heap.size (.slice a27 n27 k27) ((C.take h).map itV)) := by rw [hW]; exact ⟨(unhide H27).1.keep (by simp) (fun g hg => set2_ne (unhide HN27_8 g hg)), (unhide H27).2⟩
          replace H34 : Hid (RN W16 W0.heap.size (.slice a34 n34 k34) ((C.drop (h + 1)).map itV)) := by rw [hW]; exact ⟨(unhide H34).1.keep (by simp) (fun g hg => set2_ne (unhide HN34_8 g hg)), (unhide H34).2⟩
          replace HB : Hid (Below W0.heap.size W0 W16) := by rw [hW]; exact set2_below (unhide HB) hz
          clear hW hz e0 e1 f0 f1
          refine hK.out _ _ (unhide HS5 W16 (unhide HB)) (fun hHeld2 => ?_)
          clear hK K hHeld
          have hHeld := hHeld2
          clear hHeld2
          try simp only [Act.put, List.setIfInBounds_toArray, List.set_cons_zero, List.set_cons_succ]
          refine wpAnyH_done (by kernel_rfl) ?_ _
          go_wp2_with fail
          go_meet
          exact ⟨b7, b8, n27, k27, n34, k34, a27, a34, rfl, rfl, ⟨(unhide H7).1, (unhide H8).1⟩, ⟨unhide H27, unhide H34⟩, ⟨(unhide H7).2, (unhide H8).2, unhide HNE⟩, ⟨fun g hg => ⟨unhide HN27_7 g hg, unhide HN27_8 g hg⟩, fun g hg => ⟨unhide HN34_7 g hg, unhide HN34_8 g hg⟩⟩, unhide HB⟩
        · skip
          skip
          go_simp
          skip
          (go_wp2_with fail)
          obtain ⟨W13, hW⟩ : ∃ W13, W13 = W14.alloc (.cells #[.slice none 0 0, .slice none 0 0] 54) := ⟨_, rfl⟩
          obtain ⟨b7, hb⟩ : ∃ b7, b7 = W14.heap.size := ⟨_, rfl⟩
          rw [← hW, ← hb]
          have hbb : Below W14.heap.size W14 W13 := by rw [hW]; exact (Below.refl _ _).alloc (Nat.le_refl _) _
          have HN27_7 : Hid (∀ g, inB2 (.slice a27 n27 k27) g → g ≠ b7) := fun g hg => by have h1 := (unhide H27).1.lt g hg; omega
          have HNE : Hid (b7 ≠ b8) := by have h1 := blk_lt (unhide H8).1; show b7 ≠ b8; omega
          replace H27 := hide ((unhide H27).below hbb)
          replace H8 := hide (And.intro ((unhide H8).1.below hbb) (unhide H8).2)
          have H7 : Hid (NV W13 b7 (.slice none 0 0) (.slice none 0 0) ∧ W0.heap.size ≤ b7) := by
            have hz := (unhide HB).size
            exact ⟨(by rw [hW, hb]; exact NV.new _ _ _), by omega⟩
          replace HB := hide (below_tr (unhide HB) hbb)
          clear hbb hW hb
          refine hK.out _ _ (unhide HS5 W13 (unhide HB)) (fun hHeld2 => ?_)
          clear hK K hHeld
          have hHeld := hHeld2
          clear hHeld2
          try simp only [Act.put, List.setIfInBounds_toArray, List.set_cons_zero, List.set_cons_succ]
          refine wpAnyH_ready (rs := [11]) (by kernel_rfl) (by simp) ?_
          refine AllReadyH.cons rfl (fun K hK => ?_) AllReadyH.nil
          skip
          go_simp
          (go_at_call 54; refine (unhide HC34 W13 (below_tr (unhide HB0) (unhide HB))).mono ?_; rintro e W11 ⟨a34, n34, k34, rfl, q1, hbb⟩)
          (go_wp2_with fail)
          have HN34_7 : Hid (∀ g, inB2 (.slice a34 n34 k34) g → g ≠ b7) := fun g hg => by have h1 := q1.2 g hg; have h2 := blk_lt (unhide H7).1; omega
          have HN34_8 : Hid (∀ g, inB2 (.slice a34 n34 k34) g → g ≠ b8) := fun g hg => by have h1 := q1.2 g hg; have h2 := blk_lt (unhide H8).1; omega
          replace H27 := hide ((unhide H27).below hbb)
          replace H8 := hide (And.intro ((unhide H8).1.below hbb) (unhide H8).2)
          replace H7 := hide (And.intro ((unhide H7).1.below hbb) (unhide H7).2)
          have H34 : Hid (RN W11 W0.heap.size (.slice a34 n34 k34) _) := ⟨q1.1, fun g hg => Nat.le_trans (unhide HB).size (q1.2 g hg)⟩
          replace HB := hide (below_tr (unhide HB) hbb)
          clear hbb q1
          refine hK.out _ _ (unhide HS5 W11 (unhide HB)) (fun hHeld2 => ?_)
          clear hK K hHeld
          have hHeld := hHeld2
          clear hHeld2
          try simp only [Act.put, List.setIfInBounds_toArray, List.set_cons_zero, List.set_cons_succ]
          refine hand_to (i := 12) (d := 35) (v := (.agg #[.slice a34 n34 k34, .slice none 0 0])) rfl rfl (by kernel_rfl) (by kernel_rfl) (by kernel_rfl) (fun _ _ _ h => h) (Or.inl ⟨by rfl, ?_⟩) hHeld ?_
          · (intro w' hSw; obtain y0 := hSw; go_simp)
          simp only [Act.put, List.setIfInBounds_toArray, List.set_cons_zero, List.set_cons_succ]
          refine wpAnyH_ready (rs := [15]) (by kernel_rfl) (by simp) ?_
          refine AllReadyH.cons rfl (fun K hK => ?_) AllReadyH.nil
          obtain ⟨e0, e1, f0, f1⟩ := (unhide H7).1.cells
          go_simp
          skip
          (go_wp2_with fail)
          obtain ⟨W15, hW⟩ : ∃ W15, W15 = (W11.setCell ⟨b7, 0, none⟩ (.slice a27 n27 k27)).setCell ⟨b7, 1, none⟩ (.slice none 0 0) := ⟨_, rfl⟩
          rw [← hW]
          have hz := (unhide H7).2
          replace H7 : Hid (NV W15 b7 (.slice a27 n27 k27) (.slice none 0 0) ∧ W0.heap.size ≤ b7) := by rw [hW]; exact ⟨set2_at (unhide H7).1, hz⟩
          replace H8 : Hid (NV W15 b8 (.slice none 0 0) (.slice none 0 0) ∧ W0.heap.size ≤ b8) := by rw [hW]; exact ⟨(set2_ne (Ne.symm (unhide HNE))).trans (unhide H8).1, (unhide H8).2⟩
          replace H27 : Hid (RN W15 W0.heap.size (.slice a27 n27 k27) ((C.take h).map itV)) := by rw [hW]; exact ⟨(unhide H27).1.keep (by simp) (fun g hg => set2_ne (unhide HN27_7 g hg)), (unhide H27).2⟩
          replace H34 : Hid (RN W15 W0.heap.size (.slice a34 n34 k34) ((C.drop (h + 1)).map itV)) := by rw [hW]; exact ⟨(unhide H34).1.keep (by simp) (fun g hg => set2_ne (unhide HN34_7 g hg)), (unhide H34).2⟩
          replace HB : Hid (Below W0.heap.size W0 W15) := by rw [hW]; exact set2_below (unhide HB) hz
          clear hW hz e0 e1 f0 f1
          refine hK.out _ _ (unhide HS5 W15 (unhide HB)) (fun hHeld2 => ?_)
          clear hK K hHeld
          have hHeld := hHeld2
          clear hHeld2
          try simp only [Act.put, List.setIfInBounds_toArray, List.set_cons_zero, List.set_cons_succ]
          refine wpAnyH_ready (rs := [16]) (by kernel_rfl) (by simp) ?_
          refine AllReadyH.cons rfl (fun K hK => ?_) AllReadyH.nil
          obtain ⟨e0, e1, f0, f1⟩ := (unhide H8).1.cells
          go_simp
          skip
          (go_wp2_with fail)
          obtain ⟨W16, hW⟩ : ∃ W16, W16 = (W15.setCell ⟨b8, 0, none⟩ (.slice a34 n34 k34)).setCell ⟨b8, 1, none⟩ (.slice none 0 0) := ⟨_, rfl⟩
          rw [← hW]
          have hz := (unhide H8).2
          replace H8 : Hid (NV W16 b8 (.slice a34 n34 k34) (.slice none 0 0) ∧ W0.heap.size ≤ b8) := by rw [hW]; exact ⟨set2_at (unhide H8).1, hz⟩
          replace H7 : Hid (NV W16 b7 (.slice a27 n27 k27) (.slice none 0 0) ∧ W0.heap.size ≤ b7) := by rw [hW]; exact ⟨(set2_ne (unhide HNE)).trans (unhide H7).1, (unhide H7).2⟩
          replace H27 : Hid (RN W16 W0.heap.size (.slice a27 n27 k27) ((C.take h).map itV)) := by rw [hW]; exact ⟨(unhide H27).1.keep (by simp) (fun g hg => set2_ne (unhide HN27_8 g hg)), (unhide H27).2⟩
          replace H34 : Hid (RN W16 W0.heap.size (.slice a34 n34 k34) ((C.drop (h + 1)).map itV)) := by rw [hW]; exact ⟨(unhide H34).1.keep (by simp) (fun g hg => set2_ne (unhide HN34_8 g hg)), (unhide H34).2⟩
          replace HB : Hid (Below W0.heap.size W0 W16) := by rw [hW]; exact set2_below (unhide HB) hz
          clear hW hz e0 e1 f0 f1
          refine hK.out _ _ (unhide HS5 W16 (unhide HB)) (fun hHeld2 => ?_)
          clear hK K hHeld
          have hHeld := hHeld2
          clear hHeld2
          try simp only [Act.put, List.setIfInBounds_toArray, List.set_cons_zero, List.set_cons_succ]
          refine wpAnyH_done (by kernel_rfl) ?_ _
          go_wp2_with fail
          go_meet
          exact ⟨b7, b8, n27, k27, n34, k34, a27, a34, rfl, rfl, ⟨(unhide H7).1, (unhide H8).1⟩, ⟨unhide H27, unhide H34⟩, ⟨(unhide H7).2, (unhide H8).2, unhide HNE⟩, ⟨fun g hg => ⟨unhide HN27_7 g hg, unhide HN27_8 g hg⟩, fun g hg => ⟨unhide HN34_7 g hg, unhide HN34_8 g hg⟩⟩, unhide HB⟩
    · skip
      skip
      go_simp
      skip
      (go_wp2_with fail)
      obtain ⟨W13, hW⟩ : ∃ W13, W13 = WS.alloc (.cells #[.slice none 0 0, .slice none 0 0] 54) := ⟨_, rfl⟩
      obtain ⟨b7, hb⟩ : ∃ b7, b7 = WS.heap.size := ⟨_, rfl⟩
      rw [← hW, ← hb]
      have hbb : Below WS.heap.size WS W13 := by rw [hW]; exact (Below.refl _ _).alloc (Nat.le_refl _) _
      have H7 : Hid (NV W13 b7 (.slice none 0 0) (.slice none 0 0) ∧ W0.heap.size ≤ b7) := by
        have hz := (unhide HB).size
        exact ⟨(by rw [hW, hb]; exact NV.new _ _ _), by omega⟩
      replace HB := hide (below_tr (unhide HB) hbb)
      clear hbb hW hb
      refine hK.out _ _ (unhide HS5 W13 (unhide HB)) (fun hHeld2 => ?_)
      clear hK K hHeld
      have hHeld := hHeld2
      clear hHeld2
      try simp only [Act.put, List.setIfInBounds_toArray, List.set_cons_zero, List.set_cons_succ]
      refine wpAnyH_ready (rs := [4, 14]) (by kernel_rfl) (by simp) ?_
      refine (AllReadyH.cons rfl (fun K hK => ?_) (AllReadyH.cons rfl (fun K hK => ?_) AllReadyH.nil))
      · skip
        skip
        go_simp
        (go_at_call 54; refine (unhide HC27 W13 (below_tr (unhide HB0) (unhide HB))).mono ?_; rintro e W4 ⟨a27, n27, k27, rfl, q1, hbb⟩)
        (go_wp2_with fail)
        have HN27_7 : Hid (∀ g, inB2 (.slice a27 n27 k27) g → g ≠ b7) := fun g hg => by have h1 := q1.2 g hg; have h2 := blk_lt (unhide H7).1; omega
        replace H7 := hide (And.intro ((unhide H7).1.below hbb) (unhide H7).2)
        have H27 : Hid (RN W4 W0.heap.size (.slice a27 n27 k27) _) := ⟨q1.1, fun g hg => Nat.le_trans (unhide HB).size (q1.2 g hg)⟩
        replace HB := hide (below_tr (unhide HB) hbb)
        clear hbb q1
        refine hK.out _ _ (unhide HS5 W4 (unhide HB)) (fun hHeld2 => ?_)
        clear hK K hHeld
        have hHeld := hHeld2
        clear hHeld2
        try simp only [Act.put, List.setIfInBounds_toArray, List.set_cons_zero, List.set_cons_succ]
        refine hand_to (i := 5) (d := 28) (v := (.agg #[.slice a27 n27 k27, .slice none 0 0])) rfl rfl (by kernel_rfl) (by kernel_rfl) (by kernel_rfl) (fun _ _ _ h => h) (Or.inl ⟨by rfl, ?_⟩) hHeld ?_
        · (intro w' hSw; obtain y0 := hSw; go_simp)
        simp only [Act.put, List.setIfInBounds_toArray, List.set_cons_zero, List.set_cons_succ]
        refine wpAnyH_ready (rs := [11, 14]) (by kernel_rfl) (by simp) ?_
        refine (AllReadyH.cons rfl (fun K hK => ?_) (AllReadyH.cons rfl (fun K hK => ?_) AllReadyH.nil))
        · skip
          skip
          go_simp
          (go_at_call 54; refine (unhide HC34 W4 (below_tr (unhide HB0) (unhide HB))).mono ?_; rintro e W11 ⟨a34, n34, k34, rfl, q1, hbb⟩)
          (go_wp2_with fail)
          have HN34_7 : Hid (∀ g, inB2 (.slice a34 n34 k34) g → g ≠ b7) := fun g hg => by have h1 := q1.2 g hg; have h2 := blk_lt (unhide H7).1; omega
          replace H7 := hide (And.intro ((unhide H7).1.below hbb) (unhide H7).2)
          replace H27 := hide ((unhide H27).below hbb)
          have H34 : Hid (RN W11 W0.heap.size (.slice a34 n34 k34) _) := ⟨q1.1, fun g hg => Nat.le_trans (unhide HB).size (q1.2 g hg)⟩
          replace HB := hide (below_tr (unhide HB) hbb)
          clear hbb q1
          refine hK.out _ _ (unhide HS5 W11 (unhide HB)) (fun hHeld2 => ?_)
          clear hK K hHeld
          have hHeld := hHeld2
          clear hHeld2
          try simp only [Act.put, List.setIfInBounds_toArray, List.set_cons_zero, List.set_cons_succ]
          refine hand_to (i := 12) (d := 35) (v := (.agg #[.slice a34 n34 k34, .slice none 0 0])) rfl rfl (by kernel_rfl) (by kernel_rfl) (by kernel_rfl) (fun _ _ _ h => h) (Or.inl ⟨by rfl, ?_⟩) hHeld ?_
          · (intro w' hSw; obtain y0 := hSw; go_simp)
          simp only [Act.put, List.setIfInBounds_toArray, List.set_cons_zero, List.set_cons_succ]
          refine wpAnyH_ready (rs := [14]) (by kernel_rfl) (by simp) ?_
          refine AllReadyH.cons rfl (fun K hK => ?_) AllReadyH.nil
          skip
          go_simp
          skip
          (go_wp2_with fail)
          obtain ⟨W14, hW⟩ : ∃ W14, W14 = W11.alloc (.cells #[.slice none 0 0, .slice none 0 0] 54) := ⟨_, rfl⟩
          obtain ⟨b8, hb⟩ : ∃ b8, b8 = W11.heap.size := ⟨_, rfl⟩
          rw [← hW, ← hb]
          have hbb : Below W11.heap.size W11 W14 := by rw [hW]; exact (Below.refl _ _).alloc (Nat.le_refl _) _
          have HN27_8 : Hid (∀ g, inB2 (.slice a27 n27 k27) g → g ≠ b8) := fun g hg => by have h1 := (unhide H27).1.lt g hg; omega
          have HN34_8 : Hid (∀ g, inB2 (.slice a34 n34 k34) g → g ≠ b8) := fun g hg => by have h1 := (unhide H34).1.lt g hg; omega
          have HNE : Hid (b7 ≠ b8) := by have h1 := blk_lt (unhide H7).1; show b7 ≠ b8; omega
          replace H7 := hide (And.intro ((unhide H7).1.below hbb) (unhide H7).2)
          replace H27 := hide ((unhide H27).below hbb)
          replace H34 := hide ((unhide H34).below hbb)
          have H8 : Hid (NV W14 b8 (.slice none 0 0) (.slice none 0 0) ∧ W0.heap.size ≤ b8) := by
            have hz := (unhide HB).size
            exact ⟨(by rw [hW, hb]; exact NV.new _ _ _), by omega⟩
          replace HB := hide (below_tr (unhide HB) hbb)
          clear hbb hW hb
          refine hK.out _ _ (unhide HS5 W14 (unhide HB)) (fun hHeld2 => ?_)
          clear hK K hHeld
          have hHeld := hHeld2
          clear hHeld2
          try simp only [Act.put, List.setIfInBounds_toArray, List.set_cons_zero, List.set_cons_succ]
          refine wpAnyH_ready (rs := [15]) (by kernel_rfl) (by simp) ?_
          refine AllReadyH.cons rfl (fun K hK => ?_) AllReadyH.nil
          obtain ⟨e0, e1, f0, f1⟩ := (unhide H7).1.cells
          go_simp
          skip
          (go_wp2_with fail)
          obtain ⟨W15, hW⟩ : ∃ W15, W15 = (W14.setCell ⟨b7, 0, none⟩ (.slice a27 n27 k27)).setCell ⟨b7, 1, none⟩ (.slice none 0 0) := ⟨_, rfl⟩
          rw [← hW]
          have hz := (unhide H7).2
          replace H7 : Hid (NV W15 b7 (.slice a27 n27 k27) (.slice none 0 0) ∧ W0.heap.size ≤ b7) := by rw [hW]; exact ⟨set2_at (unhide H7).1, hz⟩
          replace H8 : Hid (NV W15 b8 (.slice none 0 0) (.slice none 0 0) ∧ W0.heap.size ≤ b8) := by rw [hW]; exact ⟨(set2_ne (Ne.symm (unhide HNE))).trans (unhide H8).1, (unhide H8).2⟩
          replace H27 : Hid (RN W15 W0.heap.size (.slice a27 n27 k27) ((C.take h).map itV)) := by rw [hW]; exact ⟨(unhide H27).1.keep (by simp) (fun g hg => set2_ne (unhide HN27_7 g hg)), (unhide H27).2⟩
          replace H34 : Hid (RN W15 W0.heap.size (.slice a34 n34 k34) ((C.drop (h + 1)).map itV)) := by rw [hW]; exact ⟨(unhide H34).1.keep (by simp) (fun g hg => set2_ne (unhide HN34_7 g hg)), (unhide H34).2⟩
          replace HB : Hid (Below W0.heap.size W0 W15) := by rw [hW]; exact set2_below (unhide HB) hz
          clear hW hz e0 e1 f0 f1
          refine hK.out _ _ (unhide HS5 W15 (unhide HB)) (fun hHeld2 => ?_)
          clear hK K hHeld
          have hHeld := hHeld2
          clear hHeld2
          try simp only [Act.put, List.setIfInBounds_toArray, List.set_cons_zero, List.set_cons_succ]
          refine wpAnyH_ready (rs := [16]) (by kernel_rfl) (by simp) ?_
          refine AllReadyH.cons rfl (fun K hK => ?_) AllReadyH.nil
          obtain ⟨e0, e1, f0, f1⟩ := (unhide H8).1.cells
          go_simp
          skip
          (go_wp2_with fail)
          obtain ⟨W16, hW⟩ : ∃ W16, W16 = (W15.setCell ⟨b8, 0, none⟩ (.slice a34 n34 k34)).setCell ⟨b8, 1, none⟩ (.slice none 0 0) := ⟨_, rfl⟩
          rw [← hW]
          have hz := (unhide H8).2
          replace H8 : Hid (NV W16 b8 (.slice a34 n34 k34) (.slice none 0 0) ∧ W0.heap.size ≤ b8) := by rw [hW]; exact ⟨set2_at (unhide H8).1, hz⟩
          replace H7 : Hid (NV W16 b7 (.slice a27 n27 k27) (.slice none 0 0) ∧ W0.heap.size ≤ b7) := by rw [hW]; exact ⟨(set2_ne (unhide HNE)).trans (unhide H7).1, (unhide H7).2⟩
          replace H27 : Hid (RN W16 W0.heap.size (.slice a27 n27 k27) ((C.take h).map itV)) := by rw [hW]; exact ⟨(unhide H27).1.keep (by simp) (fun g hg => set2_ne (unhide HN27_8 g hg)), (unhide H27).2⟩
          replace H34 : Hid (RN W16 W0.heap.size (.slice a34 n34 k34) ((C.drop (h + 1)).map itV)) := by rw [hW]; exact ⟨(unhide H34).1.keep (by simp) (fun g hg => set2_ne (unhide HN34_8 g hg)), (unhide H34).2⟩
          replace HB : Hid (Below W0.heap.size W0 W16) := by rw [hW]; exact set2_below (unhide HB) hz
          clear hW hz e0 e1 f0 f1
          refine hK.out _ _ (unhide HS5 W16 (unhide HB)) (fun hHeld2 => ?_)
          clear hK K hHeld
          have hHeld := hHeld2
          clear hHeld2
          try simp only [Act.put, List.setIfInBounds_toArray, List.set_cons_zero, List.set_cons_succ]
          refine wpAnyH_done (by kernel_rfl) ?_ _
          go_wp2_with fail
          go_meet
          exact ⟨b7, b8, n27, k27, n34, k34, a27, a34, rfl, rfl, ⟨(unhide H7).1, (unhide H8).1⟩, ⟨unhide H27, unhide H34⟩, ⟨(unhide H7).2, (unhide H8).2, unhide HNE⟩, ⟨fun g hg => ⟨unhide HN27_7 g hg, unhide HN27_8 g hg⟩, fun g hg => ⟨unhide HN34_7 g hg, unhide HN34_8 g hg⟩⟩, unhide HB⟩
        · skip
          skip
          go_simp
          skip
          (go_wp2_with fail)
          obtain ⟨W14, hW⟩ : ∃ W14, W14 = W4.alloc (.cells #[.slice none 0 0, .slice none 0 0] 54) := ⟨_, rfl⟩
          obtain ⟨b8, hb⟩ : ∃ b8, b8 = W4.heap.size := ⟨_, rfl⟩
          rw [← hW, ← hb]
          have hbb : Below W4.heap.size W4 W14 := by rw [hW]; exact (Below.refl _ _).alloc (Nat.le_refl _) _
          have HN27_8 : Hid (∀ g, inB2 (.slice a27 n27 k27) g → g ≠ b8) := fun g hg => by have h1 := (unhide H27).1.lt g hg; omega
          have HNE : Hid (b7 ≠ b8) := by have h1 := blk_lt (unhide H7).1; show b7 ≠ b8; omega
          replace H7 := hide (And.intro ((unhide H7).1.below hbb) (unhide H7).2)
          replace H27 := hide ((unhide H27).below hbb)
          have H8 : Hid (NV W14 b8 (.slice none 0 0) (.slice none 0 0) ∧ W0.heap.size ≤ b8) := by
            have hz := (unhide HB).size
            exact ⟨(by rw [hW, hb]; exact NV.new _ _ _), by omega⟩
          replace HB := hide (below_tr (unhide HB) hbb)
          clear hbb hW hb
          refine hK.out _ _ (unhide HS5 W14 (unhide HB)) (fun hHeld2 => ?_)
          clear hK K hHeld
          have hHeld := hHeld2
          clear hHeld2
          try simp only [Act.put, List.setIfInBounds_toArray, List.set_cons_zero, List.set_cons_succ]
          refine wpAnyH_ready (rs := [11]) (by kernel_rfl) (by simp) ?_
          refine AllReadyH.cons rfl (fun K hK => ?_) AllReadyH.nil
          skip
          go_simp
          (go_at_call 54; refine (unhide HC34 W14 (below_tr (unhide HB0) (unhide HB))).mono ?_; rintro e W11 ⟨a34, n34, k34, rfl, q1, hbb⟩)
          (go_wp2_with fail)
          have HN34_7 : Hid (∀ g, inB2 (.slice a34 n34 k34) g → g ≠ b7) := fun g hg => by have h1 := q1.2 g hg; have h2 := blk_lt (unhide H7).1; omega
          have HN34_8 : Hid (∀ g, inB2 (.slice a34 n34 k34) g → g ≠ b8) := fun g hg => by have h1 := q1.2 g hg; have h2 := blk_lt (unhide H8).1; omega
          replace H7 := hide (And.intro ((unhide H7).1.below hbb) (unhide H7).2)
          replace H27 := hide ((unhide H27).below hbb)
          replace H8 := hide (And.intro ((unhide H8).1.below hbb) (unhide H8).2)
          have H34 : Hid (RN W11 W0.heap.size (.slice a34 n34 k34) _) := ⟨q1.1, fun g hg => Nat.le_trans (unhide HB).size (q1.2 g hg)⟩
          replace HB := hide (below_tr (unhide HB) hbb)
          clear hbb q1
          refine hK.out _ _ (unhide HS5 W11 (unhide HB)) (fun hHeld2 => ?_)
          clear hK K hHeld
          have hHeld := hHeld2
          clear hHeld2
          try simp only [Act.put, List.setIfInBounds_toArray, List.set_cons_zero, List.set_cons_succ]
          refine hand_to (i := 12) (d := 35) (v := (.agg #[.slice a34 n34 k34, .slice none 0 0])) rfl rfl (by kernel_rfl) (by kernel_rfl) (by kernel_rfl) (fun _ _ _ h => h) (Or.inl ⟨by rfl, ?_⟩) hHeld ?_
          · (intro w' hSw; obtain y0 := hSw; go_simp)
          simp only [Act.put, List.setIfInBounds_toArray, List.set_cons_zero, List.set_cons_succ]
          refine wpAnyH_ready (rs := [15]) (by kernel_rfl) (by simp) ?_
          refine AllReadyH.cons rfl (fun K hK => ?_) AllReadyH.nil
          obtain ⟨e0, e1, f0, f1⟩ := (unhide H7).1.cells
          go_simp
          skip
          (go_wp2_with fail)
          obtain ⟨W15, hW⟩ : ∃ W15, W15 = (W11.setCell ⟨b7, 0, none⟩ (.slice a27 n27 k27)).setCell ⟨b7, 1, none⟩ (.slice none 0 0) := ⟨_, rfl⟩
          rw [← hW]
          have hz := (unhide H7).2
          replace H7 : Hid (NV W15 b7 (.slice a27 n27 k27) (.slice none 0 0) ∧ W0.heap.size ≤ b7) := by rw [hW]; exact ⟨set2_at (unhide H7).1, hz⟩
          replace H8 : Hid (NV W15 b8 (.slice none 0 0) (.slice none 0 0) ∧ W0.heap.size ≤ b8) := by rw [hW]; exact ⟨(set2_ne (Ne.symm (unhide HNE))).trans (unhide H8).1, (unhide H8).2⟩
          replace H27 : Hid (RN W15 W0.heap.size (.slice a27 n27 k27) ((C.take h).map itV)) := by rw [hW]; exact ⟨(unhide H27).1.keep (by simp) (fun g hg => set2_ne (unhide HN27_7 g hg)), (unhide H27).2⟩
          replace H34 : Hid (RN W15 W0.heap.size (.slice a34 n34 k34) ((C.drop (h + 1)).map itV)) := by rw [hW]; exact ⟨(unhide H34).1.keep (by simp) (fun g hg => set2_ne (unhide HN34_7 g hg)), (unhide H34).2⟩
          replace HB : Hid (Below W0.heap.size W0 W15) := by rw [hW]; exact set2_below (unhide HB) hz
          clear hW hz e0 e1 f0 f1
          refine hK.out _ _ (unhide HS5 W15 (unhide HB)) (fun hHeld2 => ?_)
          clear hK K hHeld
          have hHeld := hHeld2
          clear hHeld2
          try simp only [Act.put, List.setIfInBounds_toArray, List.set_cons_zero, List.set_cons_succ]
          refine wpAnyH_ready (rs := [16]) (by kernel_rfl) (by simp) ?_
          refine AllReadyH.cons rfl (fun K hK => ?_) AllReadyH.nil
          obtain ⟨e0, e1, f0, f1⟩ := (unhide H8).1.cells
          go_simp
          skip
          (go_wp2_with fail)
          obtain ⟨W16, hW⟩ : ∃ W16, W16 = (W15.setCell ⟨b8, 0, none⟩ (.slice a34 n34 k34)).setCell ⟨b8, 1, none⟩ (.slice none 0 0) := ⟨_, rfl⟩
          rw [← hW]
          have hz := (unhide H8).2
          replace H8 : Hid (NV W16 b8 (.slice a34 n34 k34) (.slice none 0 0) ∧ W0.heap.size ≤ b8) := by rw [hW]; exact ⟨set2_at (unhide H8).1, hz⟩
          replace H7 : Hid (NV W16 b7 (.slice a27 n27 k27) (.slice none 0 0) ∧ W0.heap.size ≤ b7) := by rw [hW]; exact ⟨(set2_ne (unhide HNE)).trans (unhide H7).1, (unhide H7).2⟩
          replace H27 : Hid (RN W16 W0.heap.size (.slice a27 n27 k27) ((C.take h).map itV)) := by rw [hW]; exact ⟨(unhide H27).1.keep (by simp) (fun g hg => set2_ne (unhide HN27_8 g hg)), (unhide H27).2⟩
          replace H34 : Hid (RN W16 W0.heap.size (.slice a34 n34 k34) ((C.drop (h + 1)).map itV)) := by rw [hW]; exact ⟨(unhide H34).1.keep (by simp) (fun g hg => set2_ne (unhide HN34_8 g hg)), (unhide H34).2⟩
          replace HB : Hid (Below W0.heap.size W0 W16) := by rw [hW]; exact set2_below (unhide HB) hz
          clear hW hz e0 e1 f0 f1
          refine hK.out _ _ (unhide HS5 W16 (unhide HB)) (fun hHeld2 => ?_)
          clear hK K hHeld
          have hHeld := hHeld2
          clear hHeld2
          try simp only [Act.put, List.setIfInBounds_toArray, List.set_cons_zero, List.set_cons_succ]
          refine wpAnyH_done (by kernel_rfl) ?_ _
          go_wp2_with fail
          go_meet
          exact ⟨b7, b8, n27, k27, n34, k34, a27, a34, rfl, rfl, ⟨(unhide H7).1, (unhide H8).1⟩, ⟨unhide H27, unhide H34⟩, ⟨(unhide H7).2, (unhide H8).2, unhide HNE⟩, ⟨fun g hg => ⟨unhide HN27_7 g hg, unhide HN27_8 g hg⟩, fun g hg => ⟨unhide HN34_7 g hg, unhide HN34_8 g hg⟩⟩, unhide HB⟩
      · skip
        skip
        go_simp
        skip
        (go_wp2_with fail)
        obtain ⟨W14, hW⟩ : ∃ W14, W14 = W13.alloc (.cells #[.slice none 0 0, .slice none 0 0] 54) := ⟨_, rfl⟩
        obtain ⟨b8, hb⟩ : ∃ b8, b8 = W13.heap.size := ⟨_, rfl⟩
        rw [← hW, ← hb]
        have hbb : Below W13.heap.size W13 W14 := by rw [hW]; exact (Below.refl _ _).alloc (Nat.le_refl _) _
        have HNE : Hid (b7 ≠ b8) := by have h1 := blk_lt (unhide H7).1; show b7 ≠ b8; omega
        replace H7 := hide (And.intro ((unhide H7).1.below hbb) (unhide H7).2)
        have H8 : Hid (NV W14 b8 (.slice none 0 0) (.slice none 0 0) ∧ W0.heap.size ≤ b8) := by
          have hz := (unhide HB).size
          exact ⟨(by rw [hW, hb]; exact NV.new _ _ _), by omega⟩
        replace HB := hide (below_tr (unhide HB) hbb)
        clear hbb hW hb
        refine hK.out _ _ (unhide HS5 W14 (unhide HB)) (fun hHeld2 => ?_)
        clear hK K hHeld
        have hHeld := hHeld2
        clear hHeld2
        try simp only [Act.put, List.setIfInBounds_toArray, List.set_cons_zero, List.set_cons_succ]
        refine wpAnyH_ready (rs := [4]) (by kernel_rfl) (by simp) ?_
        refine AllReadyH.cons rfl (fun K hK => ?_) AllReadyH.nil
        skip
        go_simp
        (go_at_call 54; refine (unhide HC27 W14 (below_tr (unhide HB0) (unhide HB))).mono ?_; rintro e W4 ⟨a27, n27, k27, rfl, q1, hbb⟩)
        (go_wp2_with fail)
        have HN27_7 : Hid (∀ g, inB2 (.slice a27 n27 k27) g → g ≠ b7) := fun g hg => by have h1 := q1.2 g hg; have h2 := blk_lt (unhide H7).1; omega
        have HN27_8 : Hid (∀ g, inB2 (.slice a27 n27 k27) g → g ≠ b8) := fun g hg => by have h1 := q1.2 g hg; have h2 := blk_lt (unhide H8).1; omega
        replace H7 := hide (And.intro ((unhide H7).1.below hbb) (unhide H7).2)
        replace H8 := hide (And.intro ((unhide H8).1.below hbb) (unhide H8).2)
        have H27 : Hid (RN W4 W0.heap.size (.slice a27 n27 k27) _) := ⟨q1.1, fun g hg => Nat.le_trans (unhide HB).size (q1.2 g hg)⟩
        replace HB := hide (below_tr (unhide HB) hbb)
        clear hbb q1
        refine hK.out _ _ (unhide HS5 W4 (unhide HB)) (fun hHeld2 => ?_)
        clear hK K hHeld
        have hHeld := hHeld2
        clear hHeld2
        try simp only [Act.put, List.setIfInBounds_toArray, List.set_cons_zero, List.set_cons_succ]
        refine hand_to (i := 5) (d := 28) (v := (.agg #[.slice a27 n27 k27, .slice none 0 0])) rfl rfl (by kernel_rfl) (by kernel_rfl) (by kernel_rfl) (fun _ _ _ h => h) (Or.inl ⟨by rfl, ?_⟩) hHeld ?_
        · (intro w' hSw; obtain y0 := hSw; go_simp)
        simp only [Act.put, List.setIfInBounds_toArray, List.set_cons_zero, List.set_cons_succ]
        refine wpAnyH_ready (rs := [11]) (by kernel_rfl) (by simp) ?_
        refine AllReadyH.cons rfl (fun K hK => ?_) AllReadyH.nil
        skip
        go_simp
        (go_at_call 54; refine (unhide HC34 W4 (below_tr (unhide HB0) (unhide HB))).mono ?_; rintro e W11 ⟨a34, n34, k34, rfl, q1, hbb⟩)
        (go_wp2_with fail)
        have HN34_7 : Hid (∀ g, inB2 (.slice a34 n34 k34) g → g ≠ b7) := fun g hg => by have h1 := q1.2 g hg; have h2 := blk_lt (unhide H7).1; omega
        have HN34_8 : Hid (∀ g, inB2 (.slice a34 n34 k34) g → g ≠ b8) := fun g hg => by have h1 := q1.2 g hg; have h2 := blk_lt (unhide H8).1; omega
        replace H7 := hide (And.intro ((unhide H7).1.below hbb) (unhide H7).2)
        replace H8 := hide (And.intro ((unhide H8).1.below hbb) (unhide H8).2)
        replace H27 := hide ((unhide H27).below hbb)
        have H34 : Hid (RN W11 W0.heap.size (.slice a34 n34 k34) _) := ⟨q1.1, fun g hg => Nat.le_trans (unhide HB).size (q1.2 g hg)⟩
        replace HB := hide (below_tr (unhide HB) hbb)
        clear hbb q1
        refine hK.out _ _ (unhide HS5 W11 (unhide HB)) (fun hHeld2 => ?_)
        clear hK K hHeld
        have hHeld := hHeld2
        clear hHeld2
        try simp only [Act.put, List.setIfInBounds_toArray, List.set_cons_zero, List.set_cons_succ]
        refine hand_to (i := 12) (d := 35) (v := (.agg #[.slice a34 n34 k34, .slice none 0 0])) rfl rfl (by kernel_rfl) (by kernel_rfl) (by kernel_rfl) (fun _ _ _ h => h) (Or.inl ⟨by rfl, ?_⟩) hHeld ?_
        · (intro w' hSw; obtain y0 := hSw; go_simp)
        simp only [Act.put, List.setIfInBounds_toArray, List.set_cons_zero, List.set_cons_succ]
        refine wpAnyH_ready (rs := [15]) (by kernel_rfl) (by simp) ?_
        refine AllReadyH.cons rfl (fun K hK => ?_) AllReadyH.nil
        obtain ⟨e0, e1, f0, f1⟩ := (unhide H7).1.cells
        go_simp
        skip
        (go_wp2_with fail)
        obtain ⟨W15, hW⟩ : ∃ W15, W15 = (W11.setCell ⟨b7, 0, none⟩ (.slice a27 n27 k27)).setCell ⟨b7, 1, none⟩ (.slice none 0 0) := ⟨_, rfl⟩
        rw [← hW]
        have hz := (unhide H7).2
        replace H7 : Hid (NV W15 b7 (.slice a27 n27 k27) (.slice none 0 0) ∧ W0.heap.size ≤ b7) := by rw [hW]; exact ⟨set2_at (unhide H7).1, hz⟩
        replace H8 : Hid (NV W15 b8 (.slice none 0 0) (.slice none 0 0) ∧ W0.heap.size ≤ b8) := by rw [hW]; exact ⟨(set2_ne (Ne.symm (unhide HNE))).trans (unhide H8).1, (unhide H8).2⟩
        replace H27 : Hid (RN W15 W0.heap.size (.slice a27 n27 k27) ((C.take h).map itV)) := by rw [hW]; exact ⟨(unhide H27).1.keep (by simp) (fun g hg => set2_ne (unhide HN27_7 g hg)), (unhide H27).2⟩
        replace H34 : Hid (RN W15 W0.heap.size (.slice a34 n34 k34) ((C.drop (h + 1)).map itV)) := by rw [hW]; exact ⟨(unhide H34).1.keep (by simp) (fun g hg => set2_ne (unhide HN34_7 g hg)), (unhide H34).2⟩
        replace HB : Hid (Below W0.heap.size W0 W15) := by rw [hW]; exact set2_below (unhide HB) hz
        clear hW hz e0 e1 f0 f1
        refine hK.out _ _ (unhide HS5 W15 (unhide HB)) (fun hHeld2 => ?_)
        clear hK K hHeld
        have hHeld := hHeld2
        clear hHeld2
        try simp only [Act.put, List.setIfInBounds_toArray, List.set_cons_zero, List.set_cons_succ]
        refine wpAnyH_ready (rs := [16]) (by kernel_rfl) (by simp) ?_
        refine AllReadyH.cons rfl (fun K hK => ?_) AllReadyH.nil
        obtain ⟨e0, e1, f0, f1⟩ := (unhide H8).1.cells
        go_simp
        skip
        (go_wp2_with fail)
        obtain ⟨W16, hW⟩ : ∃ W16, W16 = (W15.setCell ⟨b8, 0, none⟩ (.slice a34 n34 k34)).setCell ⟨b8, 1, none⟩ (.slice none 0 0) := ⟨_, rfl⟩
        rw [← hW]
        have hz := (unhide H8).2
        replace H8 : Hid (NV W16 b8 (.slice a34 n34 k34) (.slice none 0 0) ∧ W0.heap.size ≤ b8) := by rw [hW]; exact ⟨set2_at (unhide H8).1, hz⟩
        replace H7 : Hid (NV W16 b7 (.slice a27 n27 k27) (.slice none 0 0) ∧ W0.heap.size ≤ b7) := by rw [hW]; exact ⟨(set2_ne (unhide HNE)).trans (unhide H7).1, (unhide H7).2⟩
        replace H27 : Hid (RN W16 W0.heap.size (.slice a27 n27 k27) ((C.take h).map itV)) := by rw [hW]; exact ⟨(unhide H27).1.keep (by simp) (fun g hg => set2_ne (unhide HN27_8 g hg)), (unhide H27).2⟩
        replace H34 : Hid (RN W16 W0.heap.size (.slice a34 n34 k34) ((C.drop (h + 1)).map itV)) := by rw [hW]; exact ⟨(unhide H34).1.keep (by simp) (fun g hg => set2_ne (unhide HN34_8 g hg)), (unhide H34).2⟩
        replace HB : Hid (Below W0.heap.size W0 W16) := by rw [hW]; exact set2_below (unhide HB) hz
        clear hW hz e0 e1 f0 f1
        refine hK.out _ _ (unhide HS5 W16 (unhide HB)) (fun hHeld2 => ?_)
        clear hK K hHeld
        have hHeld := hHeld2
        clear hHeld2
        try simp only [Act.put, List.setIfInBounds_toArray, List.set_cons_zero, List.set_cons_succ]
        refine wpAnyH_done (by kernel_rfl) ?_ _
        go_wp2_with fail
        go_meet
        exact ⟨b7, b8, n27, k27, n34, k34, a27, a34, rfl, rfl, ⟨(unhide H7).1, (unhide H8).1⟩, ⟨unhide H27, unhide H34⟩, ⟨(unhide H7).2, (unhide H8).2, unhide HNE⟩, ⟨fun g hg => ⟨unhide HN27_7 g hg, unhide HN27_8 g hg⟩, fun g hg => ⟨unhide HN34_7 g hg, unhide HN34_8 g hg⟩⟩, unhide HB⟩
    · skip
      skip
      go_simp
      skip
      (go_wp2_with fail)
      obtain ⟨W14, hW⟩ : ∃ W14, W14 = WS.alloc (.cells #[.slice none 0 0, .slice none 0 0] 54) := ⟨_, rfl⟩
      obtain ⟨b8, hb⟩ : ∃ b8, b8 = WS.heap.size := ⟨_, rfl⟩
      rw [← hW, ← hb]
      have hbb : Below WS.heap.size WS W14 := by rw [hW]; exact (Below.refl _ _).alloc (Nat.le_refl _) _
      have H8 : Hid (NV W14 b8 (.slice none 0 0) (.slice none 0 0) ∧ W0.heap.size ≤ b8) := by
        have hz := (unhide HB).size
        exact ⟨(by rw [hW, hb]; exact NV.new _ _ _), by omega⟩
      replace HB := hide (below_tr (unhide HB) hbb)
      clear hbb hW hb
      refine hK.out _ _ (unhide HS5 W14 (unhide HB)) (fun hHeld2 => ?_)
      clear hK K hHeld
      have hHeld := hHeld2
      clear hHeld2
      try simp only [Act.put, List.setIfInBounds_toArray, List.set_cons_zero, List.set_cons_succ]
      refine wpAnyH_ready (rs := [4, 13]) (by kernel_rfl) (by simp) ?_
      refine (AllReadyH.cons rfl (fun K hK => ?_) (AllReadyH.cons rfl (fun K hK => ?_) AllReadyH.nil))
      · skip
        skip
        go_simp
        (go_at_call 54; refine (unhide HC27 W14 (below_tr (unhide HB0) (unhide HB))).mono ?_; rintro e W4 ⟨a27, n27, k27, rfl, q1, hbb⟩)
        (go_wp2_with fail)
        have HN27_8 : Hid (∀ g, inB2 (.slice a27 n27 k27) g → g ≠ b8) := fun g hg => by have h1 := q1.2 g hg; have h2 := blk_lt (unhide H8).1; omega
        replace H8 := hide (And.intro ((unhide H8).1.below hbb) (unhide H8).2)
        have H27 : Hid (RN W4 W0.heap.size (.slice a27 n27 k27) _) := ⟨q1.1, fun g hg => Nat.le_trans (unhide HB).size (q1.2 g hg)⟩
        replace HB := hide (below_tr (unhide HB) hbb)
        clear hbb q1
        refine hK.out _ _ (unhide HS5 W4 (unhide HB)) (fun hHeld2 => ?_)
        clear hK K hHeld
        have hHeld := hHeld2
        clear hHeld2
        try simp only [Act.put, List.setIfInBounds_toArray, List.set_cons_zero, List.set_cons_succ]
        refine hand_to (i := 5) (d := 28) (v := (.agg #[.slice a27 n27 k27, .slice none 0 0])) rfl rfl (by kernel_rfl) (by kernel_rfl) (by kernel_rfl) (fun _ _ _ h => h) (Or.inl ⟨by rfl, ?_⟩) hHeld ?_
        · (intro w' hSw; obtain y0 := hSw; go_simp)
        simp only [Act.put, List.setIfInBounds_toArray, List.set_cons_zero, List.set_cons_succ]
        refine wpAnyH_ready (rs := [11, 13]) (by kernel_rfl) (by simp) ?_
        refine (AllReadyH.cons rfl (fun K hK => ?_) (AllReadyH.cons rfl (fun K hK => ?_) AllReadyH.nil))
        · skip
          skip
          go_simp
          (go_at_call 54; refine (unhide HC34 W4 (below_tr (unhide HB0) (unhide HB))).mono ?_; rintro e W11 ⟨a34, n34, k34, rfl, q1, hbb⟩)
          (go_wp2_with fail)
          have HN34_8 : Hid (∀ g, inB2 (.slice a34 n34 k34) g → g ≠ b8) := fun g hg => by have h1 := q1.2 g hg; have h2 := blk_lt (unhide H8).1; omega
          replace H8 := hide (And.intro ((unhide H8).1.below hbb) (unhide H8).2)
          replace H27 := hide ((unhide H27).below hbb)
          have H34 : Hid (RN W11 W0.heap.size (.slice a34 n34 k34) _) := ⟨q1.1, fun g hg => Nat.le_trans (unhide HB).size (q1.2 g hg)⟩
          replace HB := hide (below_tr (unhide HB) hbb)
          clear hbb q1
          refine hK.out _ _ (unhide HS5 W11 (unhide HB)) (fun hHeld2 => ?_)
          clear hK K hHeld
          have hHeld := hHeld2
          clear hHeld2
          try simp only [Act.put, List.setIfInBounds_toArray, List.set_cons_zero, List.set_cons_succ]
          refine hand_to (i := 12) (d := 35) (v := (.agg #[.slice a34 n34 k34, .slice none 0 0])) rfl rfl (by kernel_rfl) (by kernel_rfl) (by kernel_rfl) (fun _ _ _ h => h) (Or.inl ⟨by rfl, ?_⟩) hHeld ?_
          · (intro w' hSw; obtain y0 := hSw; go_simp)
          simp only [Act.put, List.setIfInBounds_toArray, List.set_cons_zero, List.set_cons_succ]
          refine wpAnyH_ready (rs := [13]) (by kernel_rfl) (by simp) ?_
          refine AllReadyH.cons rfl (fun K hK => ?_) AllReadyH.nil
          skip
          go_simp
          skip
          (go_wp2_with fail)
          obtain ⟨W13, hW⟩ : ∃ W13, W13 = W11.alloc (.cells #[.slice none 0 0, .slice none 0 0] 54) := ⟨_, rfl⟩
          obtain ⟨b7, hb⟩ : ∃ b7, b7 = W11.heap.size := ⟨_, rfl⟩
          rw [← hW, ← hb]
          have hbb : Below W11.heap.size W11 W13 := by rw [hW]; exact (Below.refl _ _).alloc (Nat.le_refl _) _
          have HN27_7 : Hid (∀ g, inB2 (.slice a27 n27 k27) g → g ≠ b7) := fun g hg => by have h1 := (unhide H27).1.lt g hg; omega
          have HN34_7 : Hid (∀ g, inB2 (.slice a34 n34 k34) g → g ≠ b7) := fun g hg => by have h1 := (unhide H34).1.lt g hg; omega
          have HNE : Hid (b7 ≠ b8) := by have h1 := blk_lt (unhide H8).1; show b7 ≠ b8; omega
          replace H8 := hide (And.intro ((unhide H8).1.below hbb) (unhide H8).2)
          replace H27 := hide ((unhide H27).below hbb)
          replace H34 := hide ((unhide H34).below hbb)
          have H7 : Hid (NV W13 b7 (.slice none 0 0) (.slice none 0 0) ∧ W0.heap.size ≤ b7) := by
            have hz := (unhide HB).size
            exact ⟨(by rw [hW, hb]; exact NV.new _ _ _), by omega⟩
          replace HB := hide (below_tr (unhide HB) hbb)
          clear hbb hW hb
          refine hK.out _ _ (unhide HS5 W13 (unhide HB)) (fun hHeld2 => ?_)
          clear hK K hHeld
          have hHeld := hHeld2
          clear hHeld2
          try simp only [Act.put, List.setIfInBounds_toArray, List.set_cons_zero, List.set_cons_succ]
          refine wpAnyH_ready (rs := [15]) (by kernel_rfl) (by simp) ?_
          refine AllReadyH.cons rfl (fun K hK => ?_) AllReadyH.nil
          obtain ⟨e0, e1, f0, f1⟩ := (unhide H7).1.cells
          go_simp
          skip
          (go_wp2_with fail)
          obtain ⟨W15, hW⟩ : ∃ W15, W15 = (W13.setCell ⟨b7, 0, none⟩ (.slice a27 n27 k27)).setCell ⟨b7, 1, none⟩ (.slice none 0 0) := ⟨_, rfl⟩
          rw [← hW]
          have hz := (unhide H7).2
          replace H7 : Hid (NV W15 b7 (.slice a27 n27 k27) (.slice none 0 0) ∧ W0.heap.size ≤ b7) := by rw [hW]; exact ⟨set2_at (unhide H7).1, hz⟩
          replace H8 : Hid (NV W15 b8 (.slice none 0 0) (.slice none 0 0) ∧ W0.heap.size ≤ b8) := by rw [hW]; exact ⟨(set2_ne (Ne.symm (unhide HNE))).trans (unhide H8).1, (unhide H8).2⟩
          replace H27 : Hid (RN W15 W0.heap.size (.slice a27 n27 k27) ((C.take h).map itV)) := by rw [hW]; exact ⟨(unhide H27).1.keep (by simp) (fun g hg => set2_ne (unhide HN27_7 g hg)), (unhide H27).2⟩
          replace H34 : Hid (RN W15 W0.heap.size (.slice a34 n34 k34) ((C.drop (h + 1)).map itV)) := by rw [hW]; exact ⟨(unhide H34).1.keep (by simp) (fun g hg => set2_ne (unhide HN34_7 g hg)), (unhide H34).2⟩
          replace HB : Hid (Below W0.heap.size W0 W15) := by rw [hW]; exact set2_below (unhide HB) hz
          clear hW hz e0 e1 f0 f1
          refine hK.out _ _ (unhide HS5 W15 (unhide HB)) (fun hHeld2 => ?_)
          clear hK K hHeld
          have hHeld := hHeld2
          clear hHeld2
          try simp only [Act.put, List.setIfInBounds_toArray, List.set_cons_zero, List.set_cons_succ]
          refine wpAnyH_ready (rs := [16]) (by kernel_rfl) (by simp) ?_
          refine AllReadyH.cons rfl (fun K hK => ?_) AllReadyH.nil
          obtain ⟨e0, e1, f0, f1⟩ := (unhide H8).1.cells
          go_simp
          skip
          (go_wp2_with fail)
          obtain ⟨W16, hW⟩ : ∃ W16, W16 = (W15.setCell ⟨b8, 0, none⟩ (.slice a34 n34 k34)).setCell ⟨b8, 1, none⟩ (.slice none 0 0) := ⟨_, rfl⟩
          rw [← hW]
          have hz := (unhide H8).2
          replace H8 : Hid (NV W16 b8 (.slice a34 n34 k34) (.slice none 0 0) ∧ W0.heap.size ≤ b8) := by rw [hW]; exact ⟨set2_at (unhide H8).1, hz⟩
          replace H7 : Hid (NV W16 b7 (.slice a27 n27 k27) (.slice none 0 0) ∧ W0.heap.size ≤ b7) := by rw [hW]; exact ⟨(set2_ne (unhide HNE)).trans (unhide H7).1, (unhide H7).2⟩
          replace H27 : Hid (RN W16 W0.heap.size (.slice a27 n27 k27) ((C.take h).map itV)) := by rw [hW]; exact ⟨(unhide H27).1.keep (by simp) (fun g hg => set2_ne (unhide HN27_8 g hg)), (unhide H27).2⟩
          replace H34 : Hid (RN W16 W0.heap.size (.slice a34 n34 k34) ((C.drop (h + 1)).map itV)) := by rw [hW]; exact ⟨(unhide H34).1.keep (by simp) (fun g hg => set2_ne (unhide HN34_8 g hg)), (unhide H34).2⟩
          replace HB : Hid (Below W0.heap.size W0 W16) := by rw [hW]; exact set2_below (unhide HB) hz
          clear hW hz e0 e1 f0 f1
          refine hK.out _ _ (unhide HS5 W16 (unhide HB)) (fun hHeld2 => ?_)
          clear hK K hHeld
          have hHeld := hHeld2
          clear hHeld2
          try simp only [Act.put, List.setIfInBounds_toArray, List.set_cons_zero, List.set_cons_succ]
          refine wpAnyH_done (by kernel_rfl) ?_ _
          go_wp2_with fail
          go_meet
          exact ⟨b7, b8, n27, k27, n34, k34, a27, a34, rfl, rfl, ⟨(unhide H7).1, (unhide H8).1⟩, ⟨unhide H27, unhide H34⟩, ⟨(unhide H7).2, (unhide H8).2, unhide HNE⟩, ⟨fun g hg => ⟨unhide HN27_7 g hg, unhide HN27_8 g hg⟩, fun g hg => ⟨unhide HN34_7 g hg, unhide HN34_8 g hg⟩⟩, unhide HB⟩
        · skip
          skip
          go_simp
          skip
          (go_wp2_with fail)
          obtain ⟨W13, hW⟩ : ∃ W13, W13 = W4.alloc (.cells #[.slice none 0 0, .slice none 0 0] 54) := ⟨_, rfl⟩
          obtain ⟨b7, hb⟩ : ∃ b7, b7 = W4.heap.size := ⟨_, rfl⟩
          rw [← hW, ← hb]
          have hbb : Below W4.heap.size W4 W13 := by rw [hW]; exact (Below.refl _ _).alloc (Nat.le_refl _) _
          have HN27_7 : Hid (∀ g, inB2 (.slice a27 n27 k27) g → g ≠ b7) := fun g hg => by have h1 := (unhide H27).1.lt g hg; omega
          have HNE : Hid (b7 ≠ b8) := by have h1 := blk_lt (unhide H8).1; show b7 ≠ b8; omega
          replace H8 := hide (And.intro ((unhide H8).1.below hbb) (unhide H8).2)
          replace H27 := hide ((unhide H27).below hbb)
          have H7 : Hid (NV W13 b7 (.slice none 0 0) (.slice none 0 0) ∧ W0.heap.size ≤ b7) := by
            have hz := (unhide HB).size
            exact ⟨(by rw [hW, hb]; exact NV.new _ _ _), by omega⟩
          replace HB := hide (below_tr (unhide HB) hbb)
          clear hbb hW hb
          refine hK.out _ _ (unhide HS5 W13 (unhide HB)) (fun hHeld2 => ?_)
          clear hK K hHeld
          have hHeld := hHeld2
          clear hHeld2
          try simp only [Act.put, List.setIfInBounds_toArray, List.set_cons_zero, List.set_cons_succ]
          refine wpAnyH_ready (rs := [11]) (by kernel_rfl) (by simp) ?_
          refine AllReadyH.cons rfl (fun K hK => ?_) AllReadyH.nil
          skip
          go_simp
          (go_at_call 54; refine (unhide HC34 W13 (below_tr (unhide HB0) (unhide HB))).mono ?_; rintro e W11 ⟨a34, n34, k34, rfl, q1, hbb⟩)
          (go_wp2_with fail)
          have HN34_7 : Hid (∀ g, inB2 (.slice a34 n34 k34) g → g ≠ b7) := fun g hg => by have h1 := q1.2 g hg; have h2 := blk_lt (unhide H7).1; omega
          have HN34_8 : Hid (∀ g, inB2 (.slice a34 n34 k34) g → g ≠ b8) := fun g hg => by have h1 := q1.2 g hg; have h2 := blk_lt (unhide H8).1; omega
          replace H8 := hide (And.intro ((unhide H8).1.below hbb) (unhide H8).2)
          replace H27 := hide ((unhide H27).below hbb)
          replace H7 := hide (And.intro ((unhide H7).1.below hbb) (unhide H7).2)
          have H34 : Hid (RN W11 W0.heap.size (.slice a34 n34 k34) _) := ⟨q1.1, fun g hg => Nat.le_trans (unhide HB).size (q1.2 g hg)⟩
          replace HB := hide (below_tr (unhide HB) hbb)
          clear hbb q1
          refine hK.out _ _ (unhide HS5 W11 (unhide HB)) (fun hHeld2 => ?_)
          clear hK K hHeld
          have hHeld := hHeld2
          clear hHeld2
          try simp only [Act.put, List.setIfInBounds_toArray, List.set_cons_zero, List.set_cons_succ]
          refine hand_to (i := 12) (d := 35) (v := (.agg #[.slice a34 n34 k34, .slice none 0 0])) rfl rfl (by kernel_rfl) (by kernel_rfl) (by kernel_rfl) (fun _ _ _ h => h) (Or.inl ⟨by rfl, ?_⟩) hHeld ?_
          · (intro w' hSw; obtain y0 := hSw; go_simp)
          simp only [Act.put, List.setIfInBounds_toArray, List.set_cons_zero, List.set_cons_succ]
          refine wpAnyH_ready (rs := [15]) (by kernel_rfl) (by simp) ?_
          refine AllReadyH.cons rfl (fun K hK => ?_) AllReadyH.nil
          obtain ⟨e0, e1, f0, f1⟩ := (unhide H7).1.cells
          go_simp
          skip
          (go_wp2_with fail)
          obtain ⟨W15, hW⟩ : ∃ W15, W15 = (W11.setCell ⟨b7, 0, none⟩ (.slice a27 n27 k27)).setCell ⟨b7, 1, none⟩ (.slice none 0 0) := ⟨_, rfl⟩
          rw [← hW]
          have hz := (unhide H7).2
          replace H7 : Hid (NV W15 b7 (.slice a27 n27 k27) (.slice none 0 0) ∧ W0.heap.size ≤ b7) := by rw [hW]; exact ⟨set2_at (unhide H7).1, hz⟩
          replace H8 : Hid (NV W15 b8 (.slice none 0 0) (.slice none 0 0) ∧ W0.heap.size ≤ b8) := by rw [hW]; exact ⟨(set2_ne (Ne.symm (unhide HNE))).trans (unhide H8).1, (unhide H8).2⟩
          replace H27 : Hid (RN W15 W0.heap.size (.slice a27 n27 k27) ((C.take h).map itV)) := by rw [hW]; exact ⟨(unhide H27).1.keep (by simp) (fun g hg => set2_ne (unhide HN27_7 g hg)), (unhide H27).2⟩
          replace H34 : Hid (RN W15 W0.heap.size (.slice a34 n34 k34) ((C.drop (h + 1)).map itV)) := by rw [hW]; exact ⟨(unhide H34).1.keep (by simp) (fun g hg => set2_ne (unhide HN34_7 g hg)), (unhide H34).2⟩
          replace HB : Hid (Below W0.heap.size W0 W15) := by rw [hW]; exact set2_below (unhide HB) hz
          clear hW hz e0 e1 f0 f1
          refine hK.out _ _ (unhide HS5 W15 (unhide HB)) (fun hHeld2 => ?_)
          clear hK K hHeld
          have hHeld := hHeld2
          clear hHeld2
          try simp only [Act.put, List.setIfInBounds_toArray, List.set_cons_zero, List.set_cons_succ]
          refine wpAnyH_ready (rs := [16]) (by kernel_rfl) (by simp) ?_
          refine AllReadyH.cons rfl (fun K hK => ?_) AllReadyH.nil
          obtain ⟨e0, e1, f0, f1⟩ := (unhide H8).1.cells
          go_simp
          skip
          (go_wp2_with fail)
          obtain ⟨W16, hW⟩ : ∃ W16, W16 = (W15.setCell ⟨b8, 0, none⟩ (.slice a34 n34 k34)).setCell ⟨b8, 1, none⟩ (.slice none 0 0) := ⟨_, rfl⟩
          rw [← hW]
          have hz := (unhide H8).2
          replace H8 : Hid (NV W16 b8 (.slice a34 n34 k34) (.slice none 0 0) ∧ W0.heap.size ≤ b8) := by rw [hW]; exact ⟨set2_at (unhide H8).1, hz⟩
          replace H7 : Hid (NV W16 b7 (.slice a27 n27 k27) (.slice none 0 0) ∧ W0.heap.size ≤ b7) := by rw [hW]; exact ⟨(set2_ne (unhide HNE)).trans (unhide H7).1, (unhide H7).2⟩
          replace H27 : Hid (RN W16 W0.heap.size (.slice a27 n27 k27) ((C.take h).map itV)) := by rw [hW]; exact ⟨(unhide H27).1.keep (by simp) (fun g hg => set2_ne (unhide HN27_8 g hg)), (unhide H27).2⟩
          replace H34 : Hid (RN W16 W0.heap.size (.slice a34 n34 k34) ((C.drop (h + 1)).map itV)) := by rw [hW]; exact ⟨(unhide H34).1.keep (by simp) (fun g hg => set2_ne (unhide HN34_8 g hg)), (unhide H34).2⟩
          replace HB : Hid (Below W0.heap.size W0 W16) := by rw [hW]; exact set2_below (unhide HB) hz
          clear hW hz e0 e1 f0 f1
          refine hK.out _ _ (unhide HS5 W16 (unhide HB)) (fun hHeld2 => ?_)
          clear hK K hHeld
          have hHeld := hHeld2
          clear hHeld2
          try simp only [Act.put, List.setIfInBounds_toArray, List.set_cons_zero, List.set_cons_succ]
          refine wpAnyH_done (by kernel_rfl) ?_ _
          go_wp2_with fail
          go_meet
          exact ⟨b7, b8, n27, k27, n34, k34, a27, a34, rfl, rfl, ⟨(unhide H7).1, (unhide H8).1⟩, ⟨unhide H27, unhide H34⟩, ⟨(unhide H7).2, (unhide H8).2, unhide HNE⟩, ⟨fun g hg => ⟨unhide HN27_7 g hg, unhide HN27_8 g hg⟩, fun g hg => ⟨unhide HN34_7 g hg, unhide HN34_8 g hg⟩⟩, unhide HB⟩
      · skip
        skip
        go_simp
        skip
        (go_wp2_with fail)
        obtain ⟨W13, hW⟩ : ∃ W13, W13 = W14.alloc (.cells #[.slice none 0 0, .slice none 0 0] 54) := ⟨_, rfl⟩
        obtain ⟨b7, hb⟩ : ∃ b7, b7 = W14.heap.size := ⟨_, rfl⟩
        rw [← hW, ← hb]
        have hbb : Below W14.heap.size W14 W13 := by rw [hW]; exact (Below.refl _ _).alloc (Nat.le_refl _) _
        have HNE : Hid (b7 ≠ b8) := by have h1 := blk_lt (unhide H8).1; show b7 ≠ b8; omega
        replace H8 := hide (And.intro ((unhide H8).1.below hbb) (unhide H8).2)
        have H7 : Hid (NV W13 b7 (.slice none 0 0) (.slice none 0 0) ∧ W0.heap.size ≤ b7) := by
          have hz := (unhide HB).size
          exact ⟨(by rw [hW, hb]; exact NV.new _ _ _), by omega⟩
        replace HB := hide (below_tr (unhide HB) hbb)
        clear hbb hW hb
        refine hK.out _ _ (unhide HS5 W13 (unhide HB)) (fun hHeld2 => ?_)
        clear hK K hHeld
        have hHeld := hHeld2
        clear hHeld2
        try simp only [Act.put, List.setIfInBounds_toArray, List.set_cons_zero, List.set_cons_succ]
        refine wpAnyH_ready (rs := [4]) (by kernel_rfl) (by simp) ?_
        refine AllReadyH.cons rfl (fun K hK => ?_) AllReadyH.nil
        skip
        go_simp
        (go_at_call 54; refine (unhide HC27 W13 (below_tr (unhide HB0) (unhide HB))).mono ?_; rintro e W4 ⟨a27, n27, k27, rfl, q1, hbb⟩)
        (go_wp2_with fail)
        have HN27_7 : Hid (∀ g, inB2 (.slice a27 n27 k27) g → g ≠ b7) := fun g hg => by have h1 := q1.2 g hg; have h2 := blk_lt (unhide H7).1; omega
        have HN27_8 : Hid (∀ g, inB2 (.slice a27 n27 k27) g → g ≠ b8) := fun g hg => by have h1 := q1.2 g hg; have h2 := blk_lt (unhide H8).1; omega
        replace H8 := hide (And.intro ((unhide H8).1.below hbb) (unhide H8).2)
        replace H7 := hide (And.intro ((unhide H7).1.below hbb) (unhide H7).2)
        have H27 : Hid (RN W4 W0.heap.size (.slice a27 n27 k27) _) := ⟨q1.1, fun g hg => Nat.le_trans (unhide HB).size (q1.2 g hg)⟩
        replace HB := hide (below_tr (unhide HB) hbb)
        clear hbb q1
        refine hK.out _ _ (unhide HS5 W4 (unhide HB)) (fun hHeld2 => ?_)
        clear hK K hHeld
        have hHeld := hHeld2
        clear hHeld2
        try simp only [Act.put, List.setIfInBounds_toArray, List.set_cons_zero, List.set_cons_succ]
        refine hand_to (i := 5) (d := 28) (v := (.agg #[.slice a27 n27 k27, .slice none 0 0])) rfl rfl (by kernel_rfl) (by kernel_rfl) (by kernel_rfl) (fun _ _ _ h => h) (Or.inl ⟨by rfl, ?_⟩) hHeld ?_
        · (intro w' hSw; obtain y0 := hSw; go_simp)
        simp only [Act.put, List.setIfInBounds_toArray, List.set_cons_zero, List.set_cons_succ]
        refine wpAnyH_ready (rs := [11]) (by kernel_rfl) (by simp) ?_
        refine AllReadyH.cons rfl (fun K hK => ?_) AllReadyH.nil
        skip
        go_simp
        (go_at_call 54; refine (unhide HC34 W4 (below_tr (unhide HB0) (unhide HB))).mono ?_; rintro e W11 ⟨a34, n34, k34, rfl, q1, hbb⟩)
        (go_wp2_with fail)
        have HN34_7 : Hid (∀ g, inB2 (.slice a34 n34 k34) g → g ≠ b7) := fun g hg => by have h1 := q1.2 g hg; have h2 := blk_lt (unhide H7).1; omega
        have HN34_8 : Hid (∀ g, inB2 (.slice a34 n34 k34) g → g ≠ b8) := fun g hg => by have h1 := q1.2 g hg; have h2 := blk_lt (unhide H8).1; omega
        replace H8 := hide (And.intro ((unhide H8).1.below hbb) (unhide H8).2)
        replace H7 := hide (And.intro ((unhide H7).1.below hbb) (unhide H7).2)
        replace H27 := hide ((unhide H27).below hbb)
        have H34 : Hid (RN W11 W0.heap.size (.slice a34 n34 k34) _) := ⟨q1.1, fun g hg => Nat.le_trans (unhide HB).size (q1.2 g hg)⟩
        replace HB := hide (below_tr (unhide HB) hbb)
        clear hbb q1
        refine hK.out _ _ (unhide HS5 W11 (unhide HB)) (fun hHeld2 => ?_)
        clear hK K hHeld
        have hHeld := hHeld2
        clear hHeld2
        try simp only [Act.put, List.setIfInBounds_toArray, List.set_cons_zero, List.set_cons_succ]
        refine hand_to (i := 12) (d := 35) (v := (.agg #[.slice a34 n34 k34, .slice none 0 0])) rfl rfl (by kernel_rfl) (by kernel_rfl) (by kernel_rfl) (fun _ _ _ h => h) (Or.inl ⟨by rfl, ?_⟩) hHeld ?_
        · (intro w' hSw; obtain y0 := hSw; go_simp)
        simp only [Act.put, List.setIfInBounds_toArray, List.set_cons_zero, List.set_cons_succ]
        refine wpAnyH_ready (rs := [15]) (by kernel_rfl) (by simp) ?_
        refine AllReadyH.cons rfl (fun K hK => ?_) AllReadyH.nil
        obtain ⟨e0, e1, f0, f1⟩ := (unhide H7).1.cells
        go_simp
        skip
        (go_wp2_with fail)
        obtain ⟨W15, hW⟩ : ∃ W15, W15 = (W11.setCell ⟨b7, 0, none⟩ (.slice a27 n27 k27)).setCell ⟨b7, 1, none⟩ (.slice none 0 0) := ⟨_, rfl⟩
        rw [← hW]
        have hz := (unhide H7).2
        replace H7 : Hid (NV W15 b7 (.slice a27 n27 k27) (.slice none 0 0) ∧ W0.heap.size ≤ b7) := by rw [hW]; exact ⟨set2_at (unhide H7).1, hz⟩
        replace H8 : Hid (NV W15 b8 (.slice none 0 0) (.slice none 0 0) ∧ W0.heap.size ≤ b8) := by rw [hW]; exact ⟨(set2_ne (Ne.symm (unhide HNE))).trans (unhide H8).1, (unhide H8).2⟩
        replace H27 : Hid (RN W15 W0.heap.size (.slice a27 n27 k27) ((C.take h).map itV)) := by rw [hW]; exact ⟨(unhide H27).1.keep (by simp) (fun g hg => set2_ne (unhide HN27_7 g hg)), (unhide H27).2⟩
        replace H34 : Hid (RN W15 W0.heap.size (.slice a34 n34 k34) ((C.drop (h + 1)).map itV)) := by rw [hW]; exact ⟨(unhide H34).1.keep (by simp) (fun g hg => set2_ne (unhide HN34_7 g hg)), (unhide H34).2⟩
        replace HB : Hid (Below W0.heap.size W0 W15) := by rw [hW]; exact set2_below (unhide HB) hz
        clear hW hz e0 e1 f0 f1
        refine hK.out _ _ (unhide HS5 W15 (unhide HB)) (fun hHeld2 => ?_)
        clear hK K hHeld
        have hHeld := hHeld2
        clear hHeld2
        try simp only [Act.put, List.setIfInBounds_toArray, List.set_cons_zero, List.set_cons_succ]
        refine wpAnyH_ready (rs := [16]) (by kernel_rfl) (by simp) ?_
        refine AllReadyH.cons rfl (fun K hK => ?_) AllReadyH.nil
        obtain ⟨e0, e1, f0, f1⟩ := (unhide H8).1.cells
        go_simp
        skip
        (go_wp2_with fail)
        obtain ⟨W16, hW⟩ : ∃ W16, W16 = (W15.setCell ⟨b8, 0, none⟩ (.slice a34 n34 k34)).setCell ⟨b8, 1, none⟩ (.slice none 0 0) := ⟨_, rfl⟩
        rw [← hW]
        have hz := (unhide H8).2
        replace H8 : Hid (NV W16 b8 (.slice a34 n34 k34) (.slice none 0 0) ∧ W0.heap.size ≤ b8) := by rw [hW]; exact ⟨set2_at (unhide H8).1, hz⟩
        replace H7 : Hid (NV W16 b7 (.slice a27 n27 k27) (.slice none 0 0) ∧ W0.heap.size ≤ b7) := by rw [hW]; exact ⟨(set2_ne (unhide HNE)).trans (unhide H7).1, (unhide H7).2⟩
        replace H27 : Hid (RN W16 W0.heap.size (.slice a27 n27 k27) ((C.take h).map itV)) := by rw [hW]; exact ⟨(unhide H27).1.keep (by simp) (fun g hg => set2_ne (unhide HN27_8 g hg)), (unhide H27).2⟩
        replace H34 : Hid (RN W16 W0.heap.size (.slice a34 n34 k34) ((C.drop (h + 1)).map itV)) := by rw [hW]; exact ⟨(unhide H34).1.keep (by simp) (fun g hg => set2_ne (unhide HN34_8 g hg)), (unhide H34).2⟩
        replace HB : Hid (Below W0.heap.size W0 W16) := by rw [hW]; exact set2_below (unhide HB) hz
        clear hW hz e0 e1 f0 f1
        refine hK.out _ _ (unhide HS5 W16 (unhide HB)) (fun hHeld2 => ?_)
        clear hK K hHeld
        have hHeld := hHeld2
        clear hHeld2
        try simp only [Act.put, List.setIfInBounds_toArray, List.set_cons_zero, List.set_cons_succ]
        refine wpAnyH_done (by kernel_rfl) ?_ _
        go_wp2_with fail
        go_meet
        exact ⟨b7, b8, n27, k27, n34, k34, a27, a34, rfl, rfl, ⟨(unhide H7).1, (unhide H8).1⟩, ⟨unhide H27, unhide H34⟩, ⟨(unhide H7).2, (unhide H8).2, unhide HNE⟩, ⟨fun g hg => ⟨unhide HN27_7 g hg, unhide HN27_8 g hg⟩, fun g hg => ⟨unhide HN34_7 g hg, unhide HN34_8 g hg⟩⟩, unhide HB⟩
  case rest =>
    generalize wc = wa at *
    obtain ⟨b7, b8, n27, k27, n34, k34, a27, a34, rfl, rfl, HV⟩ := hcut
    have HBa := hide (below_tr (unhide HB0) (unhide HV).2.2.2.2)
    obtain ⟨bq, hbq⟩ : ∃ bq, bq = decide (0 < CK.length) := ⟨_, rfl⟩
    have HI6 := hide (inner_any (.slice (some ⟨cib, cio, none⟩) C.length cik) (.slice cka CK.length ckk) CK wa ((unhide HA).2.2.2.below (unhide HBa)))
    rw [← hbq] at HI6
    have HBq := hide hbq
    clear hbq
    have h5 := ((unhide H5).below (unhide HV).2.2.2.2).cells
    obtain ⟨d0, d1, _, _⟩ := h5
    go_upto_if 37 with (go_at_call 36; refine (unhide HI6).mono ?_; rintro e w6 ⟨rfl, hb6⟩; have HB6 := hide hb6; clear hb6 HI6)
    clear d0 d1
    go_cut [37] from 38 to 51 (fun s37 wx => s37 = s37 ∧ ∃ (ln lc rn rc : Nat) (la ra : Option Addr), Hid ((NV wx b7 (.slice a27 n27 k27) (.slice la ln lc) ∧ NV wx b8 (.slice a34 n34 k34) (.slice ra rn rc)) ∧ (RN wx W0.heap.size (.slice a27 n27 k27) ((C.take h).map itV) ∧ RN wx W0.heap.size (.slice a34 n34 k34) ((C.drop (h + 1)).map itV)) ∧ (RN wx W0.heap.size (.slice la ln lc) (CK.take (h + 1)) ∧ RN wx W0.heap.size (.slice ra rn rc) (CK.drop (h + 1))) ∧ Below W0.heap.size W0 wx))
    case first =>
      cases bq
      · have hck : CK = [] := by have := unhide HBq; simp at this; exact this
        have HF : Hid ((NV w6 b7 (.slice a27 n27 k27) (.slice none 0 0) ∧ NV w6 b8 (.slice a34 n34 k34) (.slice none 0 0)) ∧ (RN w6 W0.heap.size (.slice a27 n27 k27) ((C.take h).map itV) ∧ RN w6 W0.heap.size (.slice a34 n34 k34) ((C.drop (h + 1)).map itV)) ∧ (RN w6 W0.heap.size (.slice none 0 0) (CK.take (h + 1)) ∧ RN w6 W0.heap.size (.slice none 0 0) (CK.drop (h + 1))) ∧ Below W0.heap.size W0 w6) := by
          obtain ⟨⟨q1, q2⟩, ⟨q3, q4⟩, _, _, q5⟩ := unhide HV
          have hb := unhide HB6
          have hz : RN w6 W0.heap.size (.slice none 0 0) [] := ⟨R2.nil _, fun g ⟨_, _, _, e⟩ => by cases e⟩
          rw [hck]
          exact ⟨⟨q1.below hb, q2.below hb⟩, ⟨q3.below hb, q4.below hb⟩, ⟨by simpa using hz, by simpa using hz⟩, below_tr q5 hb⟩
        clear hck
        go_wp2_with fail
        go_meet
        exact ⟨trivial, 0, 0, 0, 0, none, none, unhide HF⟩
      · have hckl : CK.length = C.length + 1 := by
          have h1 := unhide HBq
          rcases (unhide HN).2.2.2.1 with h2 | h2
          · rw [h2] at h1; simp at h1
          · exact h2
        have hh4 : (h : Int) + 1 ≤ (ckk : Int) := by omega
        have hh5 : (h : Int) + 1 ≤ (CK.length : Int) := by omega
        have hh6 : (CK.length : Int) ≤ (ckk : Int) := by omega
        obtain ⟨q1, j1, hX3⟩ : ∃ q1 j1, cutV cka 0 (h + 1) ckk = .slice q1 (h + 1) j1 := ⟨_, _, rfl⟩
        obtain ⟨q2, n2, j2, hX4⟩ : ∃ q2 n2 j2, cutV cka (h + 1) CK.length ckk = .slice q2 n2 j2 := ⟨_, _, _, rfl⟩
        have hr1 := (unhide HA).2.2.2.cut (i := 0) (j := h + 1) (Nat.zero_le _) (by omega)
        have hr2 := (unhide HA).2.2.2.cut (i := h + 1) (j := CK.length) (by omega) (Nat.le_refl _)
        rw [hX3, List.drop_zero] at hr1
        rw [hX4, List.take_length] at hr2
        have HR7 := hide (And.intro hr1 hr2)
        have HX3 := hide hX3
        have HX4 := hide hX4
        have HL7 : Hid (CK.length ≤ 1000000) := by have := (unhide HN).1; show CK.length ≤ 1000000; omega
        have HC43 : Hid (∀ W : World, Below w.heap.size w W → Calls Tryz.prog 55 #[.slice q1 (h + 1) j1] W fun e w' => ∃ a n k, e = .returned (.slice a n k) ∧ RN w' W.heap.size (.slice a n k) (CK.take (h + 1)) ∧ Below W.heap.size W w') := by
          intro W hb
          refine (clone_node _ _ W ((unhide HR7).1.below hb) (by have := unhide HL7; rw [List.length_take]; omega)).mono ?_
          rintro e w' ⟨v, rfl, q1, q2⟩
          obtain ⟨a, k, rfl, _, _⟩ := id q1.1.slice
          exact ⟨a, _, k, rfl, q1, q2⟩
        have HC49 : Hid (∀ W : World, Below w.heap.size w W → Calls Tryz.prog 55 #[.slice q2 n2 j2] W fun e w' => ∃ a n k, e = .returned (.slice a n k) ∧ RN w' W.heap.size (.slice a n k) (CK.drop (h + 1)) ∧ Below W.heap.size W w') := by
          intro W hb
          refine (clone_node _ _ W ((unhide HR7).2.below hb) (by have := unhide HL7; rw [List.length_drop]; omega)).mono ?_
          rintro e w' ⟨v, rfl, q1, q2⟩
          obtain ⟨a, k, rfl, _, _⟩ := id q1.1.slice
          exact ⟨a, _, k, rfl, q1, q2⟩
        have HS7 : Hid (∀ W : World, Below W0.heap.size W0 W → W.cell? ⟨w.heap.size + 1 + 1, 1, none⟩ = some (.slice cka CK.length ckk)) := fun W hW => ((unhide H5).below hW).cells.2.1
        have HB : Hid (Below W0.heap.size W0 w6 ∧ (NV w6 b7 (.slice a27 n27 k27) (.slice none 0 0) ∧ NV w6 b8 (.slice a34 n34 k34) (.slice none 0 0)) ∧ (RN w6 W0.heap.size (.slice a27 n27 k27) ((C.take h).map itV) ∧ RN w6 W0.heap.size (.slice a34 n34 k34) ((C.drop (h + 1)).map itV)) ∧ (b7 < w6.heap.size ∧ b8 < w6.heap.size)) := by
          obtain ⟨⟨q1, q2⟩, ⟨q3, q4⟩, _, _, q5⟩ := unhide HV
          have hb := unhide HB6
          exact ⟨below_tr q5 hb, ⟨q1.below hb, q2.below hb⟩, ⟨q3.below hb, q4.below hb⟩, blk_lt (q1.below hb), blk_lt (q2.below hb)⟩
        clear hr1 hr2 hX3 hX4 hckl
        go_wp2_with fail
        refine wp_region_held_drew (S := fun w' => w'.cell? ⟨w.heap.size + 1 + 1, 1, none⟩ = some (.slice cka CK.length ckk)) (by kernel_rfl) (unhide HS7 _ (below_tr (unhide HB).1 (Below.refl _ _).drew)) (fun hHeld => ?_)
        obtain ⟨WS, hWS⟩ : ∃ WS, WS = w6.drew := ⟨_, rfl⟩
        rw [← hWS] at hHeld ⊢
        have hbb : Below w6.heap.size w6 WS := by rw [hWS]; exact (Below.refl _ _).drew
        replace HB : Hid (Below W0.heap.size W0 WS ∧ (NV WS b7 (.slice a27 n27 k27) (.slice none 0 0) ∧ NV WS b8 (.slice a34 n34 k34) (.slice none 0 0)) ∧ (RN WS W0.heap.size (.slice a27 n27 k27) ((C.take h).map itV) ∧ RN WS W0.heap.size (.slice a34 n34 k34) ((C.drop (h + 1)).map itV)) ∧ (b7 < WS.heap.size ∧ b8 < WS.heap.size)) := ⟨below_tr (unhide HB).1 hbb, ⟨(unhide HB).2.1.1.below hbb, (unhide HB).2.1.2.below hbb⟩, ⟨(unhide HB).2.2.1.1.below hbb, (unhide HB).2.2.1.2.below hbb⟩, Nat.lt_of_lt_of_le (unhide HB).2.2.2.1 hbb.size, Nat.lt_of_lt_of_le (unhide HB).2.2.2.2 hbb.size⟩
        clear hWS hbb
        refine hand_to (i := 0) (d := 38) (v := (.pointer (some ⟨w.heap.size + 1 + 1, 1, none⟩))) rfl rfl (by kernel_rfl) (by kernel_rfl) (by kernel_rfl) (fun _ _ _ h => h) (Or.inl ⟨by rfl, ?_⟩) hHeld ?_
        · (intro w' hSw; obtain y0 := hSw; go_simp)
        simp only [Act.put, List.setIfInBounds_toArray, List.set_cons_zero, List.set_cons_succ]
        refine hand_to (i := 1) (d := 39) (v := (.slice cka CK.length ckk)) rfl rfl (by kernel_rfl) (by kernel_rfl) (by kernel_rfl) (fun _ _ _ h => h) (Or.inl ⟨by rfl, ?_⟩) hHeld ?_
        · (intro w' hSw; obtain y0 := hSw; go_simp)
        simp only [Act.put, List.setIfInBounds_toArray, List.set_cons_zero, List.set_cons_succ]
        refine hand_to (i := 2) (d := 40) (v := (.int .i64 (h : Int))) rfl rfl (by kernel_rfl) (by kernel_rfl) (by kernel_rfl) (fun _ _ _ h => h) (Or.inl ⟨by rfl, ?_⟩) hHeld ?_
        · (intro w' hSw; obtain y0 := hSw; go_simp)
        simp only [Act.put, List.setIfInBounds_toArray, List.set_cons_zero, List.set_cons_succ]
        refine hand_to (i := 3) (d := 41) (v := (.int .i64 ((h : Int) + 1))) rfl rfl (by kernel_rfl) (by kernel_rfl) (by kernel_rfl) (fun _ _ _ h => h) (Or.inl ⟨by rfl, ?_⟩) hHeld ?_
        · (intro w' hSw; obtain y0 := hSw; go_simp)
        simp only [Act.put, List.setIfInBounds_toArray, List.set_cons_zero, List.set_cons_succ]
        refine hand_to (i := 4) (d := 42) (v := (.slice q1 (h + 1) j1)) rfl rfl (by kernel_rfl) (by kernel_rfl) (by kernel_rfl) (fun _ _ _ h => h) (Or.inl ⟨by rfl, ?_⟩) hHeld ?_
        · (intro w' hSw; obtain y0 := hSw; (rw [← unhide HX3]; unfold cutV; go_simp))
        simp only [Act.put, List.setIfInBounds_toArray, List.set_cons_zero, List.set_cons_succ]
        refine hand_to (i := 6) (d := 44) (v := (.pointer (some ⟨w.heap.size + 1 + 1, 1, none⟩))) rfl rfl (by kernel_rfl) (by kernel_rfl) (by kernel_rfl) (fun _ _ _ h => h) (Or.inl ⟨by rfl, ?_⟩) hHeld ?_
        · (intro w' hSw; obtain y0 := hSw; go_simp)
        simp only [Act.put, List.setIfInBounds_toArray, List.set_cons_zero, List.set_cons_succ]
        refine hand_to (i := 7) (d := 45) (v := (.slice cka CK.length ckk)) rfl rfl (by kernel_rfl) (by kernel_rfl) (by kernel_rfl) (fun _ _ _ h => h) (Or.inl ⟨by rfl, ?_⟩) hHeld ?_
        · (intro w' hSw; obtain y0 := hSw; go_simp)
        simp only [Act.put, List.setIfInBounds_toArray, List.set_cons_zero, List.set_cons_succ]
        refine hand_to (i := 8) (d := 46) (v := (.int .i64 (h : Int))) rfl rfl (by kernel_rfl) (by kernel_rfl) (by kernel_rfl) (fun _ _ _ h => h) (Or.inl ⟨by rfl, ?_⟩) hHeld ?_
        · (intro w' hSw; obtain y0 := hSw; go_simp)
        simp only [Act.put, List.setIfInBounds_toArray, List.set_cons_zero, List.set_cons_succ]
        refine hand_to (i := 9) (d := 47) (v := (.int .i64 ((h : Int) + 1))) rfl rfl (by kernel_rfl) (by kernel_rfl) (by kernel_rfl) (fun _ _ _ h => h) (Or.inl ⟨by rfl, ?_⟩) hHeld ?_
        · (intro w' hSw; obtain y0 := hSw; go_simp)
        simp only [Act.put, List.setIfInBounds_toArray, List.set_cons_zero, List.set_cons_succ]
        refine hand_to (i := 10) (d := 48) (v := (.slice q2 n2 j2)) rfl rfl (by kernel_rfl) (by kernel_rfl) (by kernel_rfl) (fun _ _ _ h => h) (Or.inl ⟨by rfl, ?_⟩) hHeld ?_
        · (intro w' hSw; obtain y0 := hSw; (rw [← unhide HX4]; unfold cutV; go_simp))
        simp only [Act.put, List.setIfInBounds_toArray, List.set_cons_zero, List.set_cons_succ]
        refine wpAnyH_ready (rs := [5]) (by kernel_rfl) (by simp) ?_
        refine AllReadyH.cons rfl (fun K hK => ?_) AllReadyH.nil
        skip
        go_simp
        (go_at_call 55; refine (unhide HC43 WS (below_tr (unhide HB0) (unhide HB).1)).mono ?_; rintro e W5 ⟨a43, n43, k43, rfl, q1, hbb⟩)
        (go_wp2_with fail)
        have H43 : Hid (RN W5 W0.heap.size (.slice a43 n43 k43) _ ∧ ∀ g, inB2 (.slice a43 n43 k43) g → g ≠ b7 ∧ g ≠ b8) := ⟨⟨q1.1, fun g hg => Nat.le_trans (unhide HB).1.size (q1.2 g hg)⟩, fun g hg => by have h1 := q1.2 g hg; have h2 := (unhide HB).2.2.2; omega⟩
        replace HB : Hid (Below W0.heap.size W0 W5 ∧ (NV W5 b7 (.slice a27 n27 k27) (.slice none 0 0) ∧ NV W5 b8 (.slice a34 n34 k34) (.slice none 0 0)) ∧ (RN W5 W0.heap.size (.slice a27 n27 k27) ((C.take h).map itV) ∧ RN W5 W0.heap.size (.slice a34 n34 k34) ((C.drop (h + 1)).map itV)) ∧ (b7 < W5.heap.size ∧ b8 < W5.heap.size)) := ⟨below_tr (unhide HB).1 hbb, ⟨(unhide HB).2.1.1.below hbb, (unhide HB).2.1.2.below hbb⟩, ⟨(unhide HB).2.2.1.1.below hbb, (unhide HB).2.2.1.2.below hbb⟩, Nat.lt_of_lt_of_le (unhide HB).2.2.2.1 hbb.size, Nat.lt_of_lt_of_le (unhide HB).2.2.2.2 hbb.size⟩
        clear hbb q1
        refine hK.out _ _ (unhide HS7 W5 (unhide HB).1) (fun hHeld2 => ?_)
        clear hK K hHeld
        have hHeld := hHeld2
        clear hHeld2
        try simp only [Act.put, List.setIfInBounds_toArray, List.set_cons_zero, List.set_cons_succ]
        refine hand_to (i := 12) (d := 50) (v := (.pointer (some ⟨b7, 1, none⟩))) rfl rfl (by kernel_rfl) (by kernel_rfl) (by kernel_rfl) (fun _ _ _ h => h) (Or.inl ⟨by rfl, ?_⟩) hHeld ?_
        · (intro w' hSw; obtain y0 := hSw; go_simp)
        simp only [Act.put, List.setIfInBounds_toArray, List.set_cons_zero, List.set_cons_succ]
        refine wpAnyH_ready (rs := [11]) (by kernel_rfl) (by simp) ?_
        refine AllReadyH.cons rfl (fun K hK => ?_) AllReadyH.nil
        skip
        go_simp
        (go_at_call 55; refine (unhide HC49 W5 (below_tr (unhide HB0) (unhide HB).1)).mono ?_; rintro e W11 ⟨a49, n49, k49, rfl, q1, hbb⟩)
        (go_wp2_with fail)
        have H49 : Hid (RN W11 W0.heap.size (.slice a49 n49 k49) _ ∧ ∀ g, inB2 (.slice a49 n49 k49) g → g ≠ b7 ∧ g ≠ b8) := ⟨⟨q1.1, fun g hg => Nat.le_trans (unhide HB).1.size (q1.2 g hg)⟩, fun g hg => by have h1 := q1.2 g hg; have h2 := (unhide HB).2.2.2; omega⟩
        replace H43 := hide (And.intro ((unhide H43).1.below hbb) (unhide H43).2)
        replace HB : Hid (Below W0.heap.size W0 W11 ∧ (NV W11 b7 (.slice a27 n27 k27) (.slice none 0 0) ∧ NV W11 b8 (.slice a34 n34 k34) (.slice none 0 0)) ∧ (RN W11 W0.heap.size (.slice a27 n27 k27) ((C.take h).map itV) ∧ RN W11 W0.heap.size (.slice a34 n34 k34) ((C.drop (h + 1)).map itV)) ∧ (b7 < W11.heap.size ∧ b8 < W11.heap.size)) := ⟨below_tr (unhide HB).1 hbb, ⟨(unhide HB).2.1.1.below hbb, (unhide HB).2.1.2.below hbb⟩, ⟨(unhide HB).2.2.1.1.below hbb, (unhide HB).2.2.1.2.below hbb⟩, Nat.lt_of_lt_of_le (unhide HB).2.2.2.1 hbb.size, Nat.lt_of_lt_of_le (unhide HB).2.2.2.2 hbb.size⟩
        clear hbb q1
        refine hK.out _ _ (unhide HS7 W11 (unhide HB).1) (fun hHeld2 => ?_)
        clear hK K hHeld
        have hHeld := hHeld2
        clear hHeld2
        try simp only [Act.put, List.setIfInBounds_toArray, List.set_cons_zero, List.set_cons_succ]
        refine wpAnyH_ready (rs := [13]) (by kernel_rfl) (by simp) ?_
        refine AllReadyH.cons rfl (fun K hK => ?_) AllReadyH.nil
        obtain ⟨e0, e1, f0, f1⟩ := (unhide HB).2.1.1.cells
        go_simp
        skip
        (go_wp2_with fail)
        obtain ⟨W13, hW⟩ : ∃ W13, W13 = W11.setCell ⟨b7, 1, none⟩ (.slice a43 n43 k43) := ⟨_, rfl⟩
        rw [← hW]
        replace H43 : Hid (RN W13 W0.heap.size (.slice a43 n43 k43) (CK.take (h + 1)) ∧ ∀ g, inB2 (.slice a43 n43 k43) g → g ≠ b7 ∧ g ≠ b8) := by rw [hW]; exact ⟨⟨(unhide H43).1.1.keep (by simp) (fun g hg => Below.heap_setCell _ ⟨b7, 1, none⟩ _ g ((unhide H43).2 g hg).1), (unhide H43).1.2⟩, (unhide H43).2⟩
        replace H49 : Hid (RN W13 W0.heap.size (.slice a49 n49 k49) (CK.drop (h + 1)) ∧ ∀ g, inB2 (.slice a49 n49 k49) g → g ≠ b7 ∧ g ≠ b8) := by rw [hW]; exact ⟨⟨(unhide H49).1.1.keep (by simp) (fun g hg => Below.heap_setCell _ ⟨b7, 1, none⟩ _ g ((unhide H49).2 g hg).1), (unhide H49).1.2⟩, (unhide H49).2⟩
        replace HB : Hid (Below W0.heap.size W0 W13 ∧ (NV W13 b7 (.slice a27 n27 k27) (.slice a43 n43 k43) ∧ NV W13 b8 (.slice a34 n34 k34) (.slice none 0 0)) ∧ (RN W13 W0.heap.size (.slice a27 n27 k27) ((C.take h).map itV) ∧ RN W13 W0.heap.size (.slice a34 n34 k34) ((C.drop (h + 1)).map itV))) := by
          obtain ⟨_, _, ⟨z1, z2, z3⟩, ⟨z4, z5⟩, _⟩ := unhide HV
          rw [hW]
          exact ⟨(unhide HB).1.setCell (p := ⟨b7, 1, none⟩) z1 _, ⟨(heap_set_at (unhide HB).2.1.1 _ _).trans rfl, (Below.heap_setCell _ ⟨b7, 1, none⟩ _ b8 (Ne.symm z3)).trans (unhide HB).2.1.2⟩, ⟨(unhide HB).2.2.1.1.1.keep (by simp) (fun g hg => Below.heap_setCell _ ⟨b7, 1, none⟩ _ g (z4 g hg).1), (unhide HB).2.2.1.1.2⟩, ⟨(unhide HB).2.2.1.2.1.keep (by simp) (fun g hg => Below.heap_setCell _ ⟨b7, 1, none⟩ _ g (z5 g hg).1), (unhide HB).2.2.1.2.2⟩⟩
        clear hW e0 e1 f0 f1
        refine hK.out _ _ (unhide HS7 W13 (unhide HB).1) (fun hHeld2 => ?_)
        clear hK K hHeld
        have hHeld := hHeld2
        clear hHeld2
        try simp only [Act.put, List.setIfInBounds_toArray, List.set_cons_zero, List.set_cons_succ]
        refine hand_to (i := 14) (d := 51) (v := (.pointer (some ⟨b8, 1, none⟩))) rfl rfl (by kernel_rfl) (by kernel_rfl) (by kernel_rfl) (fun _ _ _ h => h) (Or.inl ⟨by rfl, ?_⟩) hHeld ?_
        · (intro w' hSw; obtain y0 := hSw; go_simp)
        simp only [Act.put, List.setIfInBounds_toArray, List.set_cons_zero, List.set_cons_succ]
        refine wpAnyH_ready (rs := [15]) (by kernel_rfl) (by simp) ?_
        refine AllReadyH.cons rfl (fun K hK => ?_) AllReadyH.nil
        obtain ⟨e0, e1, f0, f1⟩ := (unhide HB).2.1.2.cells
        go_simp
        skip
        (go_wp2_with fail)
        obtain ⟨W15, hW⟩ : ∃ W15, W15 = W13.setCell ⟨b8, 1, none⟩ (.slice a49 n49 k49) := ⟨_, rfl⟩
        rw [← hW]
        replace H43 : Hid (RN W15 W0.heap.size (.slice a43 n43 k43) (CK.take (h + 1)) ∧ ∀ g, inB2 (.slice a43 n43 k43) g → g ≠ b7 ∧ g ≠ b8) := by rw [hW]; exact ⟨⟨(unhide H43).1.1.keep (by simp) (fun g hg => Below.heap_setCell _ ⟨b8, 1, none⟩ _ g ((unhide H43).2 g hg).2), (unhide H43).1.2⟩, (unhide H43).2⟩
        replace H49 : Hid (RN W15 W0.heap.size (.slice a49 n49 k49) (CK.drop (h + 1)) ∧ ∀ g, inB2 (.slice a49 n49 k49) g → g ≠ b7 ∧ g ≠ b8) := by rw [hW]; exact ⟨⟨(unhide H49).1.1.keep (by simp) (fun g hg => Below.heap_setCell _ ⟨b8, 1, none⟩ _ g ((unhide H49).2 g hg).2), (unhide H49).1.2⟩, (unhide H49).2⟩
        replace HB : Hid (Below W0.heap.size W0 W15 ∧ (NV W15 b7 (.slice a27 n27 k27) (.slice a43 n43 k43) ∧ NV W15 b8 (.slice a34 n34 k34) (.slice a49 n49 k49)) ∧ (RN W15 W0.heap.size (.slice a27 n27 k27) ((C.take h).map itV) ∧ RN W15 W0.heap.size (.slice a34 n34 k34) ((C.drop (h + 1)).map itV))) := by
          obtain ⟨_, _, ⟨z1, z2, z3⟩, ⟨z4, z5⟩, _⟩ := unhide HV
          rw [hW]
          exact ⟨(unhide HB).1.setCell (p := ⟨b8, 1, none⟩) z2 _, ⟨(Below.heap_setCell _ ⟨b8, 1, none⟩ _ b7 z3).trans (unhide HB).2.1.1, (heap_set_at (unhide HB).2.1.2 _ _).trans rfl⟩, ⟨(unhide HB).2.2.1.1.keep (by simp) (fun g hg => Below.heap_setCell _ ⟨b8, 1, none⟩ _ g (z4 g hg).2), (unhide HB).2.2.1.2⟩, ⟨(unhide HB).2.2.2.1.keep (by simp) (fun g hg => Below.heap_setCell _ ⟨b8, 1, none⟩ _ g (z5 g hg).2), (unhide HB).2.2.2.2⟩⟩
        clear hW e0 e1 f0 f1
        refine hK.out _ _ (unhide HS7 W15 (unhide HB).1) (fun hHeld2 => ?_)
        clear hK K hHeld
        have hHeld := hHeld2
        clear hHeld2
        try simp only [Act.put, List.setIfInBounds_toArray, List.set_cons_zero, List.set_cons_succ]
        refine wpAnyH_done (by kernel_rfl) ?_ _
        go_wp2_with fail
        go_meet
        exact ⟨trivial, n43, k43, n49, k49, a43, a49, (unhide HB).2.1, (unhide HB).2.2, ⟨(unhide H43).1, (unhide H49).1⟩, (unhide HB).1⟩
    case rest =>
      obtain ⟨-, ln, lc, rn, rc, la, ra, HV8⟩ := hcut
      have HBc : Hid (Below w.heap.size w wc) := below_tr (unhide HB0) (unhide HV8).2.2.2
      have HZ8 : Hid (W0.heap.size = w.heap.size + 1 + 1 + 1 ∧ W0.heap.size ≤ wc.heap.size ∧ W0.heap.size ≤ b7 ∧ W0.heap.size ≤ b8) := ⟨unhide HZ0, (unhide HV8).2.2.2.size, (unhide HV).2.2.1.1, (unhide HV).2.2.1.2.1⟩
      have HS8 : Hid (∀ W : World, (∀ k, k < wc.heap.size → k ≠ w.heap.size + 1 → W.heap[k]? = wc.heap[k]?) → W.cell? ⟨w.heap.size, 0, none⟩ = some (.slice ia I.length ik) ∧ W.cell? ⟨w.heap.size, 1, none⟩ = some (.slice (some ⟨kb, ko, none⟩) ks.length kk) ∧ W.cell? ⟨w.heap.size + 1 + 1, 0, none⟩ = some (.slice (some ⟨cib, cio, none⟩) C.length cik) ∧ W.cell? ⟨cib, cio + h * 2, none⟩ = some (.string x.1) ∧ W.cell? ⟨cib, cio + h * 2 + 1, none⟩ = some (.string x.2) ∧ W.cell? ⟨b7, 0, none⟩ = some (.slice a27 n27 k27) ∧ W.cell? ⟨b7, 1, none⟩ = some (.slice la ln lc) ∧ W.cell? ⟨b8, 0, none⟩ = some (.slice a34 n34 k34) ∧ W.cell? ⟨b8, 1, none⟩ = some (.slice ra rn rc)) := by
        intro W hW
        obtain ⟨z1, z2, z3, z4⟩ := unhide HZ8
        have v2 : NV W w.heap.size (.slice ia I.length ik) (.slice (some ⟨kb, ko, none⟩) ks.length kk) := (hW _ (by omega) (by omega)).trans ((unhide H2).below (unhide HV8).2.2.2)
        have v5 : NV W (w.heap.size + 1 + 1) (.slice (some ⟨cib, cio, none⟩) C.length cik) (.slice cka CK.length ckk) := (hW _ (by omega) (by omega)).trans ((unhide H5).below (unhide HV8).2.2.2)
        have v7 : NV W b7 (.slice a27 n27 k27) (.slice la ln lc) := (hW _ (blk_lt (unhide HV8).1.1) (by omega)).trans (unhide HV8).1.1
        have v8 : NV W b8 (.slice a34 n34 k34) (.slice ra rn rc) := (hW _ (blk_lt (unhide HV8).1.2) (by omega)).trans (unhide HV8).1.2
        obtain ⟨y0, y1, y2⟩ := unhide HXC
        have vc : W.heap[cib]? = w.heap[cib]? := (hW cib (by omega) (by omega)).trans ((unhide HBc).block cib y2)
        exact ⟨v2.cells.1, v2.cells.2.1, v5.cells.1, (World.cell?_of_block vc).trans y0, (World.cell?_of_block vc).trans y1, v7.cells.1, v7.cells.2.1, v8.cells.1, v8.cells.2.1⟩
      have HC62 : Hid (∀ (W : World) (c : Nat), Below w.heap.size w W → W.heap[c]? = some (.cells #[.string x.1, .string x.2] 62 (0, 0)) → Calls Tryz.prog 35 #[.slice ia I.length ik, .int .i64 (i : Int), .int .i64 (i : Int), .slice (some ⟨c, 0, none⟩) 1 1] W fun e w' => ∃ a n k, e = .returned (.slice a n k) ∧ RN w' W.heap.size (.slice a n k) (I.take i ++ [x].map itV ++ I.drop i) ∧ Below W.heap.size W w') := by
        intro W c hb hc
        obtain ⟨⟨m1, m2, m3⟩, m4, _⟩ := unhide HN
        have hx : R2 W (.slice (some ⟨c, 0, none⟩) 1 1) ([x].map itV) := ⟨one_it _, .inr ⟨c, 0, 1, rfl, blk_lt hc, Nat.le_refl _, (by decide), fun n y hy => by
          match n, hy with
          | 0, hy => cases hy; exact ⟨cellB2 hc 0, cellB2 hc 1⟩
          | n + 1, hy => simp at hy⟩⟩
        refine (spliced_item (.slice ia I.length ik) _ I _ i i W ((unhide HA).1.below hb) hx (Nat.le_refl _) m4 (by simp; omega)).mono ?_
        rintro e w' ⟨v, rfl, q1, q2⟩
        obtain ⟨a, k, rfl, _, _⟩ := id q1.1.slice
        exact ⟨a, _, k, rfl, q1, q2⟩
      have HC71 : Hid (∀ (W : World) (c : Nat), Below w.heap.size w W → W.heap[c]? = some (.cells #[.slice a27 n27 k27, .slice la ln lc, .slice a34 n34 k34, .slice ra rn rc] 54 (0, 0)) → Calls Tryz.prog 52 #[.slice (some ⟨kb, ko, none⟩) ks.length kk, .int .i64 (i : Int), .int .i64 ((i : Int) + 1), .slice (some ⟨c, 0, none⟩) 2 2] W fun e w' => ∃ a n k, e = .returned (.slice a n k) ∧ RN w' W.heap.size (.slice a n k) (ks.take i ++ [(.slice a27 n27 k27, .slice la ln lc), (.slice a34 n34 k34, .slice ra rn rc)] ++ ks.drop (i + 1)) ∧ Below W.heap.size W w') := by
        intro W c hb hc
        obtain ⟨⟨m1, m2, m3⟩, m4, m5, m6, m7, m8⟩ := unhide HN
        have hx : R2 W (.slice (some ⟨c, 0, none⟩) 2 2) [((.slice a27 n27 k27 : Value), (.slice la ln lc : Value)), (.slice a34 n34 k34, .slice ra rn rc)] := ⟨fun y hy => (by
          simp only [List.mem_cons, List.not_mem_nil, or_false] at hy
          rcases hy with rfl | rfl <;> exact ⟨rfl, rfl⟩), .inr ⟨c, 0, 2, rfl, blk_lt hc, Nat.le_refl _, (by decide), fun n y hy => by
          match n, hy with
          | 0, hy => cases hy; exact ⟨cellB2 hc 0, cellB2 hc 1⟩
          | 1, hy => cases hy; exact ⟨cellB2 hc 2, cellB2 hc 3⟩
          | n + 2, hy => simp at hy⟩⟩
        refine (spliced_node (.slice (some ⟨kb, ko, none⟩) ks.length kk) _ ks _ i (i + 1) W ((unhide HA).2.1.below hb) hx (by omega) (by omega) (by simp; omega)).mono ?_
        rintro e w' ⟨v, rfl, q1, q2⟩
        obtain ⟨a, k, rfl, _, _⟩ := id q1.1.slice
        exact ⟨a, _, k, rfl, q1, q2⟩
      go_upto_region 8 with fail
      refine wp_region_held_drew (S := fun w' => w'.cell? ⟨w.heap.size, 0, none⟩ = some (.slice ia I.length ik) ∧ w'.cell? ⟨w.heap.size, 1, none⟩ = some (.slice (some ⟨kb, ko, none⟩) ks.length kk) ∧ w'.cell? ⟨w.heap.size + 1 + 1, 0, none⟩ = some (.slice (some ⟨cib, cio, none⟩) C.length cik) ∧ w'.cell? ⟨cib, cio + h * 2, none⟩ = some (.string x.1) ∧ w'.cell? ⟨cib, cio + h * 2 + 1, none⟩ = some (.string x.2) ∧ w'.cell? ⟨b7, 0, none⟩ = some (.slice a27 n27 k27) ∧ w'.cell? ⟨b7, 1, none⟩ = some (.slice la ln lc) ∧ w'.cell? ⟨b8, 0, none⟩ = some (.slice a34 n34 k34) ∧ w'.cell? ⟨b8, 1, none⟩ = some (.slice ra rn rc)) (by kernel_rfl) (unhide HS8 _ (fun k hk _ => rfl)) (fun hHeld => ?_)
      obtain ⟨WS, hWS⟩ : ∃ WS, WS = wc.drew := ⟨_, rfl⟩
      rw [← hWS] at hHeld ⊢
      have HB : Hid (Below wc.heap.size wc WS) := by rw [hWS]; exact (Below.refl _ _).drew
      clear hWS
      refine hand_to (i := 0) (d := 52) (v := (.pointer (some ⟨w.heap.size, 0, none⟩))) rfl rfl (by kernel_rfl) (by kernel_rfl) (by kernel_rfl) (fun _ _ _ h => h) (Or.inl ⟨by rfl, ?_⟩) hHeld ?_
      · (intro w' hSw; obtain ⟨y0, y1, y2, y3, y4, y5, y6, y7, y8⟩ := hSw; go_simp)
      simp only [Act.put, List.setIfInBounds_toArray, List.set_cons_zero, List.set_cons_succ]
      refine hand_to (i := 1) (d := 53) (v := (.slice ia I.length ik)) rfl rfl (by kernel_rfl) (by kernel_rfl) (by kernel_rfl) (fun _ _ _ h => h) (Or.inl ⟨by rfl, ?_⟩) hHeld ?_
      · (intro w' hSw; obtain ⟨y0, y1, y2, y3, y4, y5, y6, y7, y8⟩ := hSw; go_simp)
      simp only [Act.put, List.setIfInBounds_toArray, List.set_cons_zero, List.set_cons_succ]
      refine hand_to (i := 2) (d := 54) (v := (.int .i64 (i : Int))) rfl rfl (by kernel_rfl) (by kernel_rfl) (by kernel_rfl) (fun _ _ _ h => h) (Or.inl ⟨by rfl, ?_⟩) hHeld ?_
      · (intro w' hSw; obtain ⟨y0, y1, y2, y3, y4, y5, y6, y7, y8⟩ := hSw; go_simp)
      simp only [Act.put, List.setIfInBounds_toArray, List.set_cons_zero, List.set_cons_succ]
      refine hand_to (i := 3) (d := 55) (v := (.int .i64 (i : Int))) rfl rfl (by kernel_rfl) (by kernel_rfl) (by kernel_rfl) (fun _ _ _ h => h) (Or.inl ⟨by rfl, ?_⟩) hHeld ?_
      · (intro w' hSw; obtain ⟨y0, y1, y2, y3, y4, y5, y6, y7, y8⟩ := hSw; go_simp)
      simp only [Act.put, List.setIfInBounds_toArray, List.set_cons_zero, List.set_cons_succ]
      refine hand_to (i := 4) (d := 56) (v := (.pointer (some ⟨w.heap.size + 1 + 1, 0, none⟩))) rfl rfl (by kernel_rfl) (by kernel_rfl) (by kernel_rfl) (fun _ _ _ h => h) (Or.inl ⟨by rfl, ?_⟩) hHeld ?_
      · (intro w' hSw; obtain ⟨y0, y1, y2, y3, y4, y5, y6, y7, y8⟩ := hSw; go_simp)
      simp only [Act.put, List.setIfInBounds_toArray, List.set_cons_zero, List.set_cons_succ]
      refine hand_to (i := 5) (d := 57) (v := (.slice (some ⟨cib, cio, none⟩) C.length cik)) rfl rfl (by kernel_rfl) (by kernel_rfl) (by kernel_rfl) (fun _ _ _ h => h) (Or.inl ⟨by rfl, ?_⟩) hHeld ?_
      · (intro w' hSw; obtain ⟨y0, y1, y2, y3, y4, y5, y6, y7, y8⟩ := hSw; go_simp)
      simp only [Act.put, List.setIfInBounds_toArray, List.set_cons_zero, List.set_cons_succ]
      refine hand_to (i := 6) (d := 58) (v := (.int .i64 (h : Int))) rfl rfl (by kernel_rfl) (by kernel_rfl) (by kernel_rfl) (fun _ _ _ h => h) (Or.inl ⟨by rfl, ?_⟩) hHeld ?_
      · (intro w' hSw; obtain ⟨y0, y1, y2, y3, y4, y5, y6, y7, y8⟩ := hSw; go_simp)
      simp only [Act.put, List.setIfInBounds_toArray, List.set_cons_zero, List.set_cons_succ]
      refine hand_to (i := 7) (d := 59) (v := (.pointer (some ⟨cib, cio + h * 2, none⟩))) rfl rfl (by kernel_rfl) (by kernel_rfl) (by kernel_rfl) (fun _ _ _ h => h) (Or.inl ⟨by rfl, ?_⟩) hHeld ?_
      · (intro w' hSw; obtain ⟨y0, y1, y2, y3, y4, y5, y6, y7, y8⟩ := hSw; go_simp)
      simp only [Act.put, List.setIfInBounds_toArray, List.set_cons_zero, List.set_cons_succ]
      refine hand_to (i := 8) (d := 60) (v := (.agg #[.string x.1, .string x.2])) rfl rfl (by kernel_rfl) (by kernel_rfl) (by kernel_rfl) (fun _ _ _ h => h) (Or.inl ⟨by rfl, ?_⟩) hHeld ?_
      · (intro w' hSw; obtain ⟨y0, y1, y2, y3, y4, y5, y6, y7, y8⟩ := hSw; go_simp)
      simp only [Act.put, List.setIfInBounds_toArray, List.set_cons_zero, List.set_cons_succ]
      refine hand_to (i := 11) (d := 63) (v := (.pointer (some ⟨w.heap.size, 1, none⟩))) rfl rfl (by kernel_rfl) (by kernel_rfl) (by kernel_rfl) (fun _ _ _ h => h) (Or.inl ⟨by rfl, ?_⟩) hHeld ?_
      · (intro w' hSw; obtain ⟨y0, y1, y2, y3, y4, y5, y6, y7, y8⟩ := hSw; go_simp)
      simp only [Act.put, List.setIfInBounds_toArray, List.set_cons_zero, List.set_cons_succ]
      refine hand_to (i := 12) (d := 64) (v := (.slice (some ⟨kb, ko, none⟩) ks.length kk)) rfl rfl (by kernel_rfl) (by kernel_rfl) (by kernel_rfl) (fun _ _ _ h => h) (Or.inl ⟨by rfl, ?_⟩) hHeld ?_
      · (intro w' hSw; obtain ⟨y0, y1, y2, y3, y4, y5, y6, y7, y8⟩ := hSw; go_simp)
      simp only [Act.put, List.setIfInBounds_toArray, List.set_cons_zero, List.set_cons_succ]
      refine hand_to (i := 13) (d := 65) (v := (.int .i64 (i : Int))) rfl rfl (by kernel_rfl) (by kernel_rfl) (by kernel_rfl) (fun _ _ _ h => h) (Or.inl ⟨by rfl, ?_⟩) hHeld ?_
      · (intro w' hSw; obtain ⟨y0, y1, y2, y3, y4, y5, y6, y7, y8⟩ := hSw; go_simp)
      simp only [Act.put, List.setIfInBounds_toArray, List.set_cons_zero, List.set_cons_succ]
      refine hand_to (i := 14) (d := 66) (v := (.int .i64 (i : Int))) rfl rfl (by kernel_rfl) (by kernel_rfl) (by kernel_rfl) (fun _ _ _ h => h) (Or.inl ⟨by rfl, ?_⟩) hHeld ?_
      · (intro w' hSw; obtain ⟨y0, y1, y2, y3, y4, y5, y6, y7, y8⟩ := hSw; go_simp)
      simp only [Act.put, List.setIfInBounds_toArray, List.set_cons_zero, List.set_cons_succ]
      refine hand_to (i := 15) (d := 67) (v := (.int .i64 ((i : Int) + 1))) rfl rfl (by kernel_rfl) (by kernel_rfl) (by kernel_rfl) (fun _ _ _ h => h) (Or.inl ⟨by rfl, ?_⟩) hHeld ?_
      · (intro w' hSw; obtain ⟨y0, y1, y2, y3, y4, y5, y6, y7, y8⟩ := hSw; go_simp)
      simp only [Act.put, List.setIfInBounds_toArray, List.set_cons_zero, List.set_cons_succ]
      refine hand_to (i := 16) (d := 68) (v := (.agg #[.slice a27 n27 k27, .slice la ln lc])) rfl rfl (by kernel_rfl) (by kernel_rfl) (by kernel_rfl) (fun _ _ _ h => h) (Or.inl ⟨by rfl, ?_⟩) hHeld ?_
      · (intro w' hSw; obtain ⟨y0, y1, y2, y3, y4, y5, y6, y7, y8⟩ := hSw; go_simp)
      simp only [Act.put, List.setIfInBounds_toArray, List.set_cons_zero, List.set_cons_succ]
      refine hand_to (i := 17) (d := 69) (v := (.agg #[.slice a34 n34 k34, .slice ra rn rc])) rfl rfl (by kernel_rfl) (by kernel_rfl) (by kernel_rfl) (fun _ _ _ h => h) (Or.inl ⟨by rfl, ?_⟩) hHeld ?_
      · (intro w' hSw; obtain ⟨y0, y1, y2, y3, y4, y5, y6, y7, y8⟩ := hSw; go_simp)
      simp only [Act.put, List.setIfInBounds_toArray, List.set_cons_zero, List.set_cons_succ]
      refine wpAnyH_ready (rs := [9, 18]) (by kernel_rfl) (by simp) ?_
      refine (AllReadyH.cons rfl (fun K hK => ?_) (AllReadyH.cons rfl (fun K hK => ?_) AllReadyH.nil))
      · skip
        skip
        go_simp
        skip
        (go_wp2_with fail)
        obtain ⟨W9, hW⟩ : ∃ W9, W9 = WS.alloc (.cells #[.string x.1, .string x.2] 62) := ⟨_, rfl⟩
        obtain ⟨c61, hb⟩ : ∃ c61, c61 = WS.heap.size := ⟨_, rfl⟩
        rw [← hW, ← hb]
        have hbb : Below WS.heap.size WS W9 := by rw [hW]; exact (Below.refl _ _).alloc (Nat.le_refl _) _
        have H61 : Hid (W9.heap[c61]? = some (.cells #[.string x.1, .string x.2] 62 (0, 0))) := by rw [hW, hb]; exact heap_alloc_new _ _
        replace HB := hide (below_tr (unhide HB) hbb)
        clear hbb hW hb
        refine hK.out _ _ (unhide HS8 W9 (fun k hk _ => (unhide HB).block k hk)) (fun hHeld2 => ?_)
        clear hK K hHeld
        have hHeld := hHeld2
        clear hHeld2
        try simp only [Act.put, List.setIfInBounds_toArray, List.set_cons_zero, List.set_cons_succ]
        refine wpAnyH_ready (rs := [10, 18]) (by kernel_rfl) (by simp) ?_
        refine (AllReadyH.cons rfl (fun K hK => ?_) (AllReadyH.cons rfl (fun K hK => ?_) AllReadyH.nil))
        · skip
          skip
          go_simp
          (go_at_call 35; refine (unhide HC62 W9 c61 (below_tr (unhide HBc) (unhide HB)) (unhide H61)).mono ?_; rintro e W10 ⟨a62, n62, k62, rfl, q1, hbb⟩)
          (go_wp2_with fail)
          replace H61 := hide (blk_below (unhide H61) hbb)
          have H62 : Hid (RN W10 wc.heap.size (.slice a62 n62 k62) _) := ⟨q1.1, fun g hg => Nat.le_trans (unhide HB).size (q1.2 g hg)⟩
          replace HB := hide (below_tr (unhide HB) hbb)
          clear hbb q1
          refine hK.out _ _ (unhide HS8 W10 (fun k hk _ => (unhide HB).block k hk)) (fun hHeld2 => ?_)
          clear hK K hHeld
          have hHeld := hHeld2
          clear hHeld2
          try simp only [Act.put, List.setIfInBounds_toArray, List.set_cons_zero, List.set_cons_succ]
          refine wpAnyH_ready (rs := [18]) (by kernel_rfl) (by simp) ?_
          refine AllReadyH.cons rfl (fun K hK => ?_) AllReadyH.nil
          skip
          go_simp
          skip
          (go_wp2_with fail)
          obtain ⟨W18, hW⟩ : ∃ W18, W18 = W10.alloc (.cells #[.slice a27 n27 k27, .slice la ln lc, .slice a34 n34 k34, .slice ra rn rc] 54) := ⟨_, rfl⟩
          obtain ⟨c70, hb⟩ : ∃ c70, c70 = W10.heap.size := ⟨_, rfl⟩
          rw [← hW, ← hb]
          have hbb : Below W10.heap.size W10 W18 := by rw [hW]; exact (Below.refl _ _).alloc (Nat.le_refl _) _
          replace H61 := hide (blk_below (unhide H61) hbb)
          replace H62 := hide ((unhide H62).below hbb)
          have H70 : Hid (W18.heap[c70]? = some (.cells #[.slice a27 n27 k27, .slice la ln lc, .slice a34 n34 k34, .slice ra rn rc] 54 (0, 0))) := by rw [hW, hb]; exact heap_alloc_new _ _
          replace HB := hide (below_tr (unhide HB) hbb)
          clear hbb hW hb
          refine hK.out _ _ (unhide HS8 W18 (fun k hk _ => (unhide HB).block k hk)) (fun hHeld2 => ?_)
          clear hK K hHeld
          have hHeld := hHeld2
          clear hHeld2
          try simp only [Act.put, List.setIfInBounds_toArray, List.set_cons_zero, List.set_cons_succ]
          refine wpAnyH_ready (rs := [19]) (by kernel_rfl) (by simp) ?_
          refine AllReadyH.cons rfl (fun K hK => ?_) AllReadyH.nil
          skip
          go_simp
          (go_at_call 52; refine (unhide HC71 W18 c70 (below_tr (unhide HBc) (unhide HB)) (unhide H70)).mono ?_; rintro e W19 ⟨a71, n71, k71, rfl, q1, hbb⟩)
          (go_wp2_with fail)
          replace H61 := hide (blk_below (unhide H61) hbb)
          replace H62 := hide ((unhide H62).below hbb)
          replace H70 := hide (blk_below (unhide H70) hbb)
          have H71 : Hid (RN W19 wc.heap.size (.slice a71 n71 k71) _) := ⟨q1.1, fun g hg => Nat.le_trans (unhide HB).size (q1.2 g hg)⟩
          replace HB := hide (below_tr (unhide HB) hbb)
          clear hbb q1
          refine hK.out _ _ (unhide HS8 W19 (fun k hk _ => (unhide HB).block k hk)) (fun hHeld2 => ?_)
          clear hK K hHeld
          have hHeld := hHeld2
          clear hHeld2
          try simp only [Act.put, List.setIfInBounds_toArray, List.set_cons_zero, List.set_cons_succ]
          refine hand_to (i := 20) (d := 72) (v := (.agg #[.slice a62 n62 k62, .slice a71 n71 k71])) rfl rfl (by kernel_rfl) (by kernel_rfl) (by kernel_rfl) (fun _ _ _ h => h) (Or.inl ⟨by rfl, ?_⟩) hHeld ?_
          · (intro w' hSw; obtain ⟨y0, y1, y2, y3, y4, y5, y6, y7, y8⟩ := hSw; go_simp)
          simp only [Act.put, List.setIfInBounds_toArray, List.set_cons_zero, List.set_cons_succ]
          refine wpAnyH_ready (rs := [21]) (by kernel_rfl) (by simp) ?_
          refine AllReadyH.cons rfl (fun K hK => ?_) AllReadyH.nil
          have h4 : NV W19 (w.heap.size + 1) (.slice none 0 0) (.slice none 0 0) := ((unhide H4).below (unhide HV8).2.2.2).below (unhide HB)
          obtain ⟨e0, e1, f0, f1⟩ := h4.cells
          have H4c := hide h4
          clear h4
          go_simp
          skip
          (go_wp2_with fail)
          obtain ⟨W21, hW⟩ : ∃ W21, W21 = (W19.setCell ⟨w.heap.size + 1, 0, none⟩ (.slice a62 n62 k62)).setCell ⟨w.heap.size + 1, 1, none⟩ (.slice a71 n71 k71) := ⟨_, rfl⟩
          rw [← hW]
          obtain ⟨z1, z2, z3, z4⟩ := unhide HZ8
          have H4d : Hid (NV W21 (w.heap.size + 1) (.slice a62 n62 k62) (.slice a71 n71 k71)) := by rw [hW]; exact set2_at (unhide H4c)
          have HK : Hid (∀ k, k < wc.heap.size → k ≠ w.heap.size + 1 → W21.heap[k]? = wc.heap[k]?) := fun k hk hne => by rw [hW]; exact (set2_ne hne).trans ((unhide HB).block k hk)
          have HJ : Hid (RN W21 w.heap.size (.slice a62 n62 k62) (I.take i ++ [x].map itV ++ I.drop i) ∧ RN W21 w.heap.size (.slice a71 n71 k71) (ks.take i ++ [(.slice a27 n27 k27, .slice la ln lc), (.slice a34 n34 k34, .slice ra rn rc)] ++ ks.drop (i + 1)) ∧ RN W21 w.heap.size (.slice a27 n27 k27) ((C.take h).map itV) ∧ RN W21 w.heap.size (.slice a34 n34 k34) ((C.drop (h + 1)).map itV) ∧ RN W21 w.heap.size (.slice la ln lc) (CK.take (h + 1)) ∧ RN W21 w.heap.size (.slice ra rn rc) (CK.drop (h + 1)) ∧ Below w.heap.size w W21) := by
            obtain ⟨_, ⟨r1, r2⟩, ⟨r3, r4⟩, _⟩ := unhide HV8
            rw [hW]
            refine ⟨⟨(unhide H62).1.keep (by simp) (fun g hg => set2_ne (by have := (unhide H62).2 g hg; omega)), fun g hg => by have := (unhide H62).2 g hg; omega⟩, ⟨(unhide H71).1.keep (by simp) (fun g hg => set2_ne (by have := (unhide H71).2 g hg; omega)), fun g hg => by have := (unhide H71).2 g hg; omega⟩, ⟨(r1.below (unhide HB)).1.keep (by simp) (fun g hg => set2_ne (by have := r1.2 g hg; omega)), fun g hg => by have := r1.2 g hg; omega⟩, ⟨(r2.below (unhide HB)).1.keep (by simp) (fun g hg => set2_ne (by have := r2.2 g hg; omega)), fun g hg => by have := r2.2 g hg; omega⟩, ⟨(r3.below (unhide HB)).1.keep (by simp) (fun g hg => set2_ne (by have := r3.2 g hg; omega)), fun g hg => by have := r3.2 g hg; omega⟩, ⟨(r4.below (unhide HB)).1.keep (by simp) (fun g hg => set2_ne (by have := r4.2 g hg; omega)), fun g hg => by have := r4.2 g hg; omega⟩, set2_below (below_tr (unhide HBc) (unhide HB)) (by omega)⟩
          clear hW z1 z2 z3 z4 e0 e1 f0 f1
          refine hK.out _ _ (unhide HS8 W21 (unhide HK)) (fun hHeld2 => ?_)
          clear hK K hHeld
          have hHeld := hHeld2
          clear hHeld2
          try simp only [Act.put, List.setIfInBounds_toArray, List.set_cons_zero, List.set_cons_succ]
          refine wpAnyH_done (by kernel_rfl) ?_ _
          go_wp2_with fail
          obtain ⟨g0, g1, _, _⟩ := (unhide H4d).cells
          refine bodyPost_ret (v := .agg #[.slice a62 n62 k62, .slice a71 n71 k71]) ?_ rfl ?_
          · rw [results_cell1' rfl]
            go_simp
          exact ⟨_, _, _, _, _, _, rfl, unhide HJ⟩
        · skip
          skip
          go_simp
          skip
          (go_wp2_with fail)
          obtain ⟨W18, hW⟩ : ∃ W18, W18 = W9.alloc (.cells #[.slice a27 n27 k27, .slice la ln lc, .slice a34 n34 k34, .slice ra rn rc] 54) := ⟨_, rfl⟩
          obtain ⟨c70, hb⟩ : ∃ c70, c70 = W9.heap.size := ⟨_, rfl⟩
          rw [← hW, ← hb]
          have hbb : Below W9.heap.size W9 W18 := by rw [hW]; exact (Below.refl _ _).alloc (Nat.le_refl _) _
          replace H61 := hide (blk_below (unhide H61) hbb)
          have H70 : Hid (W18.heap[c70]? = some (.cells #[.slice a27 n27 k27, .slice la ln lc, .slice a34 n34 k34, .slice ra rn rc] 54 (0, 0))) := by rw [hW, hb]; exact heap_alloc_new _ _
          replace HB := hide (below_tr (unhide HB) hbb)
          clear hbb hW hb
          refine hK.out _ _ (unhide HS8 W18 (fun k hk _ => (unhide HB).block k hk)) (fun hHeld2 => ?_)
          clear hK K hHeld
          have hHeld := hHeld2
          clear hHeld2
          try simp only [Act.put, List.setIfInBounds_toArray, List.set_cons_zero, List.set_cons_succ]
          refine wpAnyH_ready (rs := [10]) (by kernel_rfl) (by simp) ?_
          refine AllReadyH.cons rfl (fun K hK => ?_) AllReadyH.nil
          skip
          go_simp
          (go_at_call 35; refine (unhide HC62 W18 c61 (below_tr (unhide HBc) (unhide HB)) (unhide H61)).mono ?_; rintro e W10 ⟨a62, n62, k62, rfl, q1, hbb⟩)
          (go_wp2_with fail)
          replace H61 := hide (blk_below (unhide H61) hbb)
          replace H70 := hide (blk_below (unhide H70) hbb)
          have H62 : Hid (RN W10 wc.heap.size (.slice a62 n62 k62) _) := ⟨q1.1, fun g hg => Nat.le_trans (unhide HB).size (q1.2 g hg)⟩
          replace HB := hide (below_tr (unhide HB) hbb)
          clear hbb q1
          refine hK.out _ _ (unhide HS8 W10 (fun k hk _ => (unhide HB).block k hk)) (fun hHeld2 => ?_)
          clear hK K hHeld
          have hHeld := hHeld2
          clear hHeld2
          try simp only [Act.put, List.setIfInBounds_toArray, List.set_cons_zero, List.set_cons_succ]
          refine wpAnyH_ready (rs := [19]) (by kernel_rfl) (by simp) ?_
          refine AllReadyH.cons rfl (fun K hK => ?_) AllReadyH.nil
          skip
          go_simp
          (go_at_call 52; refine (unhide HC71 W10 c70 (below_tr (unhide HBc) (unhide HB)) (unhide H70)).mono ?_; rintro e W19 ⟨a71, n71, k71, rfl, q1, hbb⟩)
          (go_wp2_with fail)
          replace H61 := hide (blk_below (unhide H61) hbb)
          replace H70 := hide (blk_below (unhide H70) hbb)
          replace H62 := hide ((unhide H62).below hbb)
          have H71 : Hid (RN W19 wc.heap.size (.slice a71 n71 k71) _) := ⟨q1.1, fun g hg => Nat.le_trans (unhide HB).size (q1.2 g hg)⟩
          replace HB := hide (below_tr (unhide HB) hbb)
          clear hbb q1
          refine hK.out _ _ (unhide HS8 W19 (fun k hk _ => (unhide HB).block k hk)) (fun hHeld2 => ?_)
          clear hK K hHeld
          have hHeld := hHeld2
          clear hHeld2
          try simp only [Act.put, List.setIfInBounds_toArray, List.set_cons_zero, List.set_cons_succ]
          refine hand_to (i := 20) (d := 72) (v := (.agg #[.slice a62 n62 k62, .slice a71 n71 k71])) rfl rfl (by kernel_rfl) (by kernel_rfl) (by kernel_rfl) (fun _ _ _ h => h) (Or.inl ⟨by rfl, ?_⟩) hHeld ?_
          · (intro w' hSw; obtain ⟨y0, y1, y2, y3, y4, y5, y6, y7, y8⟩ := hSw; go_simp)
          simp only [Act.put, List.setIfInBounds_toArray, List.set_cons_zero, List.set_cons_succ]
          refine wpAnyH_ready (rs := [21]) (by kernel_rfl) (by simp) ?_
          refine AllReadyH.cons rfl (fun K hK => ?_) AllReadyH.nil
          have h4 : NV W19 (w.heap.size + 1) (.slice none 0 0) (.slice none 0 0) := ((unhide H4).below (unhide HV8).2.2.2).below (unhide HB)
          obtain ⟨e0, e1, f0, f1⟩ := h4.cells
          have H4c := hide h4
          clear h4
          go_simp
          skip
          (go_wp2_with fail)
          obtain ⟨W21, hW⟩ : ∃ W21, W21 = (W19.setCell ⟨w.heap.size + 1, 0, none⟩ (.slice a62 n62 k62)).setCell ⟨w.heap.size + 1, 1, none⟩ (.slice a71 n71 k71) := ⟨_, rfl⟩
          rw [← hW]
          obtain ⟨z1, z2, z3, z4⟩ := unhide HZ8
          have H4d : Hid (NV W21 (w.heap.size + 1) (.slice a62 n62 k62) (.slice a71 n71 k71)) := by rw [hW]; exact set2_at (unhide H4c)
          have HK : Hid (∀ k, k < wc.heap.size → k ≠ w.heap.size + 1 → W21.heap[k]? = wc.heap[k]?) := fun k hk hne => by rw [hW]; exact (set2_ne hne).trans ((unhide HB).block k hk)
          have HJ : Hid (RN W21 w.heap.size (.slice a62 n62 k62) (I.take i ++ [x].map itV ++ I.drop i) ∧ RN W21 w.heap.size (.slice a71 n71 k71) (ks.take i ++ [(.slice a27 n27 k27, .slice la ln lc), (.slice a34 n34 k34, .slice ra rn rc)] ++ ks.drop (i + 1)) ∧ RN W21 w.heap.size (.slice a27 n27 k27) ((C.take h).map itV) ∧ RN W21 w.heap.size (.slice a34 n34 k34) ((C.drop (h + 1)).map itV) ∧ RN W21 w.heap.size (.slice la ln lc) (CK.take (h + 1)) ∧ RN W21 w.heap.size (.slice ra rn rc) (CK.drop (h + 1)) ∧ Below w.heap.size w W21) := by
            obtain ⟨_, ⟨r1, r2⟩, ⟨r3, r4⟩, _⟩ := unhide HV8
            rw [hW]
            refine ⟨⟨(unhide H62).1.keep (by simp) (fun g hg => set2_ne (by have := (unhide H62).2 g hg; omega)), fun g hg => by have := (unhide H62).2 g hg; omega⟩, ⟨(unhide H71).1.keep (by simp) (fun g hg => set2_ne (by have := (unhide H71).2 g hg; omega)), fun g hg => by have := (unhide H71).2 g hg; omega⟩, ⟨(r1.below (unhide HB)).1.keep (by simp) (fun g hg => set2_ne (by have := r1.2 g hg; omega)), fun g hg => by have := r1.2 g hg; omega⟩, ⟨(r2.below (unhide HB)).1.keep (by simp) (fun g hg => set2_ne (by have := r2.2 g hg; omega)), fun g hg => by have := r2.2 g hg; omega⟩, ⟨(r3.below (unhide HB)).1.keep (by simp) (fun g hg => set2_ne (by have := r3.2 g hg; omega)), fun g hg => by have := r3.2 g hg; omega⟩, ⟨(r4.below (unhide HB)).1.keep (by simp) (fun g hg => set2_ne (by have := r4.2 g hg; omega)), fun g hg => by have := r4.2 g hg; omega⟩, set2_below (below_tr (unhide HBc) (unhide HB)) (by omega)⟩
          clear hW z1 z2 z3 z4 e0 e1 f0 f1
          refine hK.out _ _ (unhide HS8 W21 (unhide HK)) (fun hHeld2 => ?_)
          clear hK K hHeld
          have hHeld := hHeld2
          clear hHeld2
          try simp only [Act.put, List.setIfInBounds_toArray, List.set_cons_zero, List.set_cons_succ]
          refine wpAnyH_done (by kernel_rfl) ?_ _
          go_wp2_with fail
          obtain ⟨g0, g1, _, _⟩ := (unhide H4d).cells
          refine bodyPost_ret (v := .agg #[.slice a62 n62 k62, .slice a71 n71 k71]) ?_ rfl ?_
          · rw [results_cell1' rfl]
            go_simp
          exact ⟨_, _, _, _, _, _, rfl, unhide HJ⟩
      · skip
        skip
        go_simp
        skip
        (go_wp2_with fail)
        obtain ⟨W18, hW⟩ : ∃ W18, W18 = WS.alloc (.cells #[.slice a27 n27 k27, .slice la ln lc, .slice a34 n34 k34, .slice ra rn rc] 54) := ⟨_, rfl⟩
        obtain ⟨c70, hb⟩ : ∃ c70, c70 = WS.heap.size := ⟨_, rfl⟩
        rw [← hW, ← hb]
        have hbb : Below WS.heap.size WS W18 := by rw [hW]; exact (Below.refl _ _).alloc (Nat.le_refl _) _
        have H70 : Hid (W18.heap[c70]? = some (.cells #[.slice a27 n27 k27, .slice la ln lc, .slice a34 n34 k34, .slice ra rn rc] 54 (0, 0))) := by rw [hW, hb]; exact heap_alloc_new _ _
        replace HB := hide (below_tr (unhide HB) hbb)
        clear hbb hW hb
        refine hK.out _ _ (unhide HS8 W18 (fun k hk _ => (unhide HB).block k hk)) (fun hHeld2 => ?_)
        clear hK K hHeld
        have hHeld := hHeld2
        clear hHeld2
        try simp only [Act.put, List.setIfInBounds_toArray, List.set_cons_zero, List.set_cons_succ]
        refine wpAnyH_ready (rs := [9]) (by kernel_rfl) (by simp) ?_
        refine AllReadyH.cons rfl (fun K hK => ?_) AllReadyH.nil
        skip
        go_simp
        skip
        (go_wp2_with fail)
        obtain ⟨W9, hW⟩ : ∃ W9, W9 = W18.alloc (.cells #[.string x.1, .string x.2] 62) := ⟨_, rfl⟩
        obtain ⟨c61, hb⟩ : ∃ c61, c61 = W18.heap.size := ⟨_, rfl⟩
        rw [← hW, ← hb]
        have hbb : Below W18.heap.size W18 W9 := by rw [hW]; exact (Below.refl _ _).alloc (Nat.le_refl _) _
        replace H70 := hide (blk_below (unhide H70) hbb)
        have H61 : Hid (W9.heap[c61]? = some (.cells #[.string x.1, .string x.2] 62 (0, 0))) := by rw [hW, hb]; exact heap_alloc_new _ _
        replace HB := hide (below_tr (unhide HB) hbb)
        clear hbb hW hb
        refine hK.out _ _ (unhide HS8 W9 (fun k hk _ => (unhide HB).block k hk)) (fun hHeld2 => ?_)
        clear hK K hHeld
        have hHeld := hHeld2
        clear hHeld2
        try simp only [Act.put, List.setIfInBounds_toArray, List.set_cons_zero, List.set_cons_succ]
        refine wpAnyH_ready (rs := [10]) (by kernel_rfl) (by simp) ?_
        refine AllReadyH.cons rfl (fun K hK => ?_) AllReadyH.nil
        skip
        go_simp
        (go_at_call 35; refine (unhide HC62 W9 c61 (below_tr (unhide HBc) (unhide HB)) (unhide H61)).mono ?_; rintro e W10 ⟨a62, n62, k62, rfl, q1, hbb⟩)
        (go_wp2_with fail)
        replace H70 := hide (blk_below (unhide H70) hbb)
        replace H61 := hide (blk_below (unhide H61) hbb)
        have H62 : Hid (RN W10 wc.heap.size (.slice a62 n62 k62) _) := ⟨q1.1, fun g hg => Nat.le_trans (unhide HB).size (q1.2 g hg)⟩
        replace HB := hide (below_tr (unhide HB) hbb)
        clear hbb q1
        refine hK.out _ _ (unhide HS8 W10 (fun k hk _ => (unhide HB).block k hk)) (fun hHeld2 => ?_)
        clear hK K hHeld
        have hHeld := hHeld2
        clear hHeld2
        try simp only [Act.put, List.setIfInBounds_toArray, List.set_cons_zero, List.set_cons_succ]
        refine wpAnyH_ready (rs := [19]) (by kernel_rfl) (by simp) ?_
        refine AllReadyH.cons rfl (fun K hK => ?_) AllReadyH.nil
        skip
        go_simp
        (go_at_call 52; refine (unhide HC71 W10 c70 (below_tr (unhide HBc) (unhide HB)) (unhide H70)).mono ?_; rintro e W19 ⟨a71, n71, k71, rfl, q1, hbb⟩)
        (go_wp2_with fail)
        replace H70 := hide (blk_below (unhide H70) hbb)
        replace H61 := hide (blk_below (unhide H61) hbb)
        replace H62 := hide ((unhide H62).below hbb)
        have H71 : Hid (RN W19 wc.heap.size (.slice a71 n71 k71) _) := ⟨q1.1, fun g hg => Nat.le_trans (unhide HB).size (q1.2 g hg)⟩
        replace HB := hide (below_tr (unhide HB) hbb)
        clear hbb q1
        refine hK.out _ _ (unhide HS8 W19 (fun k hk _ => (unhide HB).block k hk)) (fun hHeld2 => ?_)
        clear hK K hHeld
        have hHeld := hHeld2
        clear hHeld2
        try simp only [Act.put, List.setIfInBounds_toArray, List.set_cons_zero, List.set_cons_succ]
        refine hand_to (i := 20) (d := 72) (v := (.agg #[.slice a62 n62 k62, .slice a71 n71 k71])) rfl rfl (by kernel_rfl) (by kernel_rfl) (by kernel_rfl) (fun _ _ _ h => h) (Or.inl ⟨by rfl, ?_⟩) hHeld ?_
        · (intro w' hSw; obtain ⟨y0, y1, y2, y3, y4, y5, y6, y7, y8⟩ := hSw; go_simp)
        simp only [Act.put, List.setIfInBounds_toArray, List.set_cons_zero, List.set_cons_succ]
        refine wpAnyH_ready (rs := [21]) (by kernel_rfl) (by simp) ?_
        refine AllReadyH.cons rfl (fun K hK => ?_) AllReadyH.nil
        have h4 : NV W19 (w.heap.size + 1) (.slice none 0 0) (.slice none 0 0) := ((unhide H4).below (unhide HV8).2.2.2).below (unhide HB)
        obtain ⟨e0, e1, f0, f1⟩ := h4.cells
        have H4c := hide h4
        clear h4
        go_simp
        skip
        (go_wp2_with fail)
        obtain ⟨W21, hW⟩ : ∃ W21, W21 = (W19.setCell ⟨w.heap.size + 1, 0, none⟩ (.slice a62 n62 k62)).setCell ⟨w.heap.size + 1, 1, none⟩ (.slice a71 n71 k71) := ⟨_, rfl⟩
        rw [← hW]
        obtain ⟨z1, z2, z3, z4⟩ := unhide HZ8
        have H4d : Hid (NV W21 (w.heap.size + 1) (.slice a62 n62 k62) (.slice a71 n71 k71)) := by rw [hW]; exact set2_at (unhide H4c)
        have HK : Hid (∀ k, k < wc.heap.size → k ≠ w.heap.size + 1 → W21.heap[k]? = wc.heap[k]?) := fun k hk hne => by rw [hW]; exact (set2_ne hne).trans ((unhide HB).block k hk)
        have HJ : Hid (RN W21 w.heap.size (.slice a62 n62 k62) (I.take i ++ [x].map itV ++ I.drop i) ∧ RN W21 w.heap.size (.slice a71 n71 k71) (ks.take i ++ [(.slice a27 n27 k27, .slice la ln lc), (.slice a34 n34 k34, .slice ra rn rc)] ++ ks.drop (i + 1)) ∧ RN W21 w.heap.size (.slice a27 n27 k27) ((C.take h).map itV) ∧ RN W21 w.heap.size (.slice a34 n34 k34) ((C.drop (h + 1)).map itV) ∧ RN W21 w.heap.size (.slice la ln lc) (CK.take (h + 1)) ∧ RN W21 w.heap.size (.slice ra rn rc) (CK.drop (h + 1)) ∧ Below w.heap.size w W21) := by
          obtain ⟨_, ⟨r1, r2⟩, ⟨r3, r4⟩, _⟩ := unhide HV8
          rw [hW]
          refine ⟨⟨(unhide H62).1.keep (by simp) (fun g hg => set2_ne (by have := (unhide H62).2 g hg; omega)), fun g hg => by have := (unhide H62).2 g hg; omega⟩, ⟨(unhide H71).1.keep (by simp) (fun g hg => set2_ne (by have := (unhide H71).2 g hg; omega)), fun g hg => by have := (unhide H71).2 g hg; omega⟩, ⟨(r1.below (unhide HB)).1.keep (by simp) (fun g hg => set2_ne (by have := r1.2 g hg; omega)), fun g hg => by have := r1.2 g hg; omega⟩, ⟨(r2.below (unhide HB)).1.keep (by simp) (fun g hg => set2_ne (by have := r2.2 g hg; omega)), fun g hg => by have := r2.2 g hg; omega⟩, ⟨(r3.below (unhide HB)).1.keep (by simp) (fun g hg => set2_ne (by have := r3.2 g hg; omega)), fun g hg => by have := r3.2 g hg; omega⟩, ⟨(r4.below (unhide HB)).1.keep (by simp) (fun g hg => set2_ne (by have := r4.2 g hg; omega)), fun g hg => by have := r4.2 g hg; omega⟩, set2_below (below_tr (unhide HBc) (unhide HB)) (by omega)⟩
        clear hW z1 z2 z3 z4 e0 e1 f0 f1
        refine hK.out _ _ (unhide HS8 W21 (unhide HK)) (fun hHeld2 => ?_)
        clear hK K hHeld
        have hHeld := hHeld2
        clear hHeld2
        try simp only [Act.put, List.setIfInBounds_toArray, List.set_cons_zero, List.set_cons_succ]
        refine wpAnyH_done (by kernel_rfl) ?_ _
        go_wp2_with fail
        obtain ⟨g0, g1, _, _⟩ := (unhide H4d).cells
        refine bodyPost_ret (v := .agg #[.slice a62 n62 k62, .slice a71 n71 k71]) ?_ rfl ?_
        · rw [results_cell1' rfl]
          go_simp
        exact ⟨_, _, _, _, _, _, rfl, unhide HJ⟩
end Go.Proofs.YtlmjmhpdpgeplaaGreatDoor
