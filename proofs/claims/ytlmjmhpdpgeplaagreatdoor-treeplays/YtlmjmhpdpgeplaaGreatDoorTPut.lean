/- A node's put. -/
import Derived.Test.YtlmjmhpdpgeplaaGreatDoorTWith
import Derived.Test.YtlmjmhpdpgeplaaGreatDoorTPlace
namespace Go.Proofs.YtlmjmhpdpgeplaaGreatDoor
open Go.RowKit Go.Lib

/-- What put tells: a node of the same height with the item in it. -/
def PutP (w : World) (O : Nat → Prop) (d : Nat) (F : List It) (x : It) (e : Ending) (w' : World) : Prop :=
  ∃ its kids a k b c, e = .returned (.tuple #[.agg #[.slice a its.length k, .slice b kids.length c], .bool (!hasL x.1 F)]) ∧ NP w' (OrN O w.heap.size) d its kids (.slice a its.length k) (.slice b kids.length c) ∧ Shp d (BT.mk its kids) ∧ its.length ≤ 16 ∧ flat d (BT.mk its kids) = insL x F ∧ Below w.heap.size w w'
/-- A variable of an item's type. -/
def IV (w : World) (b : Nat) (x : It) : Prop := w.heap[b]? = some (.cells #[.string x.1, .string x.2] 62 (0, 0))
theorem IV.below {w w' : World} {b : Nat} {x : It} (h : IV w b x) (hb : Below w.heap.size w w') : IV w' b x := blk_below h hb
theorem IV.cells {w : World} {b : Nat} {x : It} (h : IV w b x) : w.cell? ⟨b, 0, none⟩ = some (.string x.1) ∧ w.cell? ⟨b, 1, none⟩ = some (.string x.2) := ⟨cellB2 h 0, cellB2 h 1⟩
theorem IV.r2 {w : World} {b : Nat} {x : It} (h : IV w b x) : R2 w (.slice (some ⟨b, 0, none⟩) 1 1) ([x].map itV) := ⟨one_it _, .inr ⟨b, 0, 1, rfl, blk_lt h, Nat.le_refl _, (by decide), fun n y hy => by
  match n, hy with
  | 0, hy => cases hy; exact h.cells
  | n + 1, hy => simp at hy⟩⟩
/-- Items with another in a place. -/
theorem setits_t {w : World} {c i j : Nat} {its : List It} {x : It} {vi : Value} (h : R2 w vi (its.map itV)) (hc : IV w c x) (hij : i ≤ j) (hj : j ≤ its.length) (hn : its.length ≤ 50) :
    Calls Tryz.prog 35 #[vi, .int .i64 (i : Int), .int .i64 (j : Int), .slice (some ⟨c, 0, none⟩) 1 1] w fun e w' => ∃ a n k, e = .returned (.slice a n k) ∧ RN w' w.heap.size (.slice a n k) ((its.take i ++ x :: its.drop j).map itV) ∧ Below w.heap.size w w' := by
  refine (spliced_item vi _ _ _ i j w h hc.r2 hij (by rw [List.length_map]; exact hj) (by simp; omega)).mono ?_
  rintro e w' ⟨v, rfl, q1, q2⟩
  obtain ⟨a, k, rfl, _, _⟩ := id q1.1.slice
  refine ⟨a, _, k, rfl, ?_, q2⟩
  rw [show its.take i ++ x :: its.drop j = its.take i ++ [x] ++ its.drop j by simp, List.map_append, List.map_append, List.map_take, List.map_drop]
  exact q1
section
variable {w : World} {O : Nat → Prop} {its : List It} {kids : List (BT 0)} {vi vk : Value} {x : It}
set_option maxHeartbeats 25600000 in
set_option maxRecDepth 100000 in
theorem put_0 (ht : NP w O 0 its kids vi vk) (hs : Shp 0 (BT.mk its kids)) (h15 : its.length ≤ 15) (hF : Srt (flat 0 (BT.mk its kids))) :
    Calls Tryz.prog 20 #[.agg #[vi, vk], .agg #[.string x.1, .string x.2]] w fun e w' => PutP w O 0 (flat 0 (BT.mk its kids)) x e w' := by
  obtain ⟨ia, ik, ka, kk, rfl, rfl⟩ := ht.slices
  have hsi : Srt its := srt_its hF
  obtain ⟨W0, hW0⟩ : ∃ W0, W0 = ((w.alloc (.cells #[.slice ia its.length ik, .slice ka kids.length kk] 54)).alloc (.cells #[.string x.1, .string x.2] 62)).alloc (.cells #[.slice none 0 0, .slice none 0 0] 54) := ⟨_, rfl⟩
  have hz0 : W0.heap.size = w.heap.size + 1 + 1 + 1 := by rw [hW0, World.size_alloc, World.size_alloc, World.size_alloc]
  have hb0 : Below w.heap.size w W0 := by rw [hW0]; exact (((Below.refl _ _).alloc (Nat.le_refl _) _).alloc (by simp) _).alloc (by simp; omega) _
  have v2 : NV W0 w.heap.size (.slice ia its.length ik) (.slice ka kids.length kk) := by
    rw [hW0]; exact ((NV.new w _ _).below ((Below.refl _ _).alloc (Nat.le_refl _) _)).below ((Below.refl _ _).alloc (Nat.le_refl _) _)
  have v3 : IV W0 (w.heap.size + 1) x := by
    have : IV ((w.alloc (.cells #[.slice ia its.length ik, .slice ka kids.length kk] 54)).alloc (.cells #[.string x.1, .string x.2] 62)) (w.alloc (.cells #[.slice ia its.length ik, .slice ka kids.length kk] 54)).heap.size x := heap_alloc_new _ _
    rw [World.size_alloc] at this
    rw [hW0]; exact this.below ((Below.refl _ _).alloc (Nat.le_refl _) _)
  have v4 : NV W0 (w.heap.size + 1 + 1) (.slice none 0 0) (.slice none 0 0) := by
    have := NV.new ((w.alloc (.cells #[.slice ia its.length ik, .slice ka kids.length kk] 54)).alloc (.cells #[.string x.1, .string x.2] 62)) (.slice none 0 0) (.slice none 0 0)
    rw [World.size_alloc, World.size_alloc] at this
    rw [hW0]; exact this
  have HC : Hid (Calls Tryz.prog 34 #[.agg #[.slice ia its.length ik, .slice ka kids.length kk], .string x.1] W0 fun e w1 => ∃ i, PlaceAt its x.1 i ∧ e = .returned (.tuple #[.int .i64 (i : Int), .bool (hereB its x.1 i)]) ∧ Below W0.heap.size W0 w1) := find_any _ _ its x.1 W0 ((ht.1.1).below hb0) hsi (by omega)
  have HA := hide (And.intro ht (And.intro hs (And.intro h15 (And.intro hF hsi))))
  have HV := hide (And.intro hb0 (And.intro v2 (And.intro v3 (And.intro v4 hz0))))
  clear ht hs h15 hF hsi hb0 v2 v3 v4 hz0
  go_enter Tryz.func20, Tryz.ntmps20
  go_upto_if 17 with (go_at_call 34; rw [← hW0]; refine (unhide HC).mono ?_; rintro e w1 ⟨i, hp, rfl, hb1⟩; have HP := hide (And.intro hp hb1); clear HC hp hb1)
  clear hW0
  have hil : (i : Int) ≤ 15 := by have := (unhide HP).1.1; have := (unhide HA).2.2.1; omega
  have hwi : IntKind.i64.wrap ((i : Int) + 1) = (i : Int) + 1 := by rw [IntKind.wrap_i64] <;> omega
  have H1 : Hid (Below w.heap.size w w1 ∧ NV w1 w.heap.size (.slice ia its.length ik) (.slice ka kids.length kk) ∧ IV w1 (w.heap.size + 1) x ∧ NV w1 (w.heap.size + 1 + 1) (.slice none 0 0) (.slice none 0 0) ∧ w.heap.size + 3 ≤ w1.heap.size) := by
    obtain ⟨q1, q2, q3, q4, q5⟩ := unhide HV
    have hb := (unhide HP).2
    exact ⟨below_tr q1 hb, q2.below hb, q3.below hb, q4.below hb, by have := hb.size; omega⟩
  obtain ⟨hq, hhq⟩ : ∃ hq, hq = hereB its x.1 i := ⟨_, rfl⟩
  rw [← hhq]
  have HQ := hide hhq
  clear hhq HV
  cases hq
  rotate_left
  · have HS3 : Hid (∀ W : World, (∀ k, k < w1.heap.size → k ≠ w.heap.size + 1 + 1 → W.heap[k]? = w1.heap[k]?) → W.cell? ⟨w.heap.size, 0, none⟩ = some (.slice ia its.length ik) ∧ W.cell? ⟨w.heap.size, 1, none⟩ = some (.slice ka kids.length kk) ∧ W.cell? ⟨w.heap.size + 1, 0, none⟩ = some (.string x.1) ∧ W.cell? ⟨w.heap.size + 1, 1, none⟩ = some (.string x.2)) := by
      intro W hW
      obtain ⟨q1, q2, q3, q4, q5⟩ := unhide H1
      have u2 : NV W w.heap.size (.slice ia its.length ik) (.slice ka kids.length kk) := (hW _ (by omega) (by omega)).trans q2
      have u3 : IV W (w.heap.size + 1) x := (hW _ (by omega) (by omega)).trans q3
      exact ⟨u2.cells.1, u2.cells.2.1, u3.cells.1, u3.cells.2⟩
    have hlt : i < its.length := by
      have h1 := unhide HQ
      rcases Nat.lt_or_ge i its.length with h | h
      · exact h
      · unfold hereB at h1; rw [List.getElem?_eq_none (by omega)] at h1; cases h1
    have HC26 : Hid (∀ (W : World) (c : Nat), Below w.heap.size w W → IV W c x → Calls Tryz.prog 35 #[.slice ia its.length ik, .int .i64 (i : Int), .int .i64 ((i : Int) + 1), .slice (some ⟨c, 0, none⟩) 1 1] W fun e w' => ∃ a n k, e = .returned (.slice a n k) ∧ RN w' W.heap.size (.slice a n k) ((its.take i ++ x :: its.drop (i + 1)).map itV) ∧ Below W.heap.size W w') := fun W c hb hc => by
      have := (unhide HA).2.2.1
      exact setits_t (j := i + 1) ((unhide HA).1.1.1.below hb) hc (by omega) (by omega) (by omega)
    have HFin : Hid (∀ (W : World) (a : Option Addr) (n k : Nat), R2 W (.slice a n k) ((its.take i ++ x :: its.drop (i + 1)).map itV) → (∀ g, inB2 (.slice a n k) g → w1.heap.size ≤ g) → Below w.heap.size w W → (∀ k, k < w1.heap.size → k ≠ w.heap.size + 1 + 1 → W.heap[k]? = w1.heap[k]?) → PutP w O 0 (flat 0 (BT.mk its kids)) x (.returned (.tuple #[.agg #[.slice a n k, .slice ka kids.length kk], .bool false])) W) := by
      intro W a n k hr hg hb hkp
      obtain ⟨ht, hs, h15, hF, hsi⟩ := unhide HA
      have hp := (unhide HP).1
      have hq := (unhide HQ).symm
      have hz := (unhide H1).2.2.2.2
      have hl2 : (its.take i ++ x :: its.drop (i + 1)).length = its.length := by simp; omega
      obtain ⟨a', k', e, _, _⟩ := hr.slice
      rw [List.length_map] at e
      cases e
      obtain ⟨t1, ks, t2, t3⟩ := ht
      have ho : ∀ g, O g → OrN O w.heap.size g := fun g h => .inl h
      have hhas : hasL x.1 (flat 0 (BT.mk its kids)) = true := by
        rw [show flat 0 (BT.mk its kids) = its from rfl, has_list hp hsi, hq]
      refine ⟨its.take i ++ x :: its.drop (i + 1), kids, a, k, ka, kk, by rw [hhas]; rfl, ⟨⟨hr, fun g h => .inr (by have := hg g h; omega)⟩, ks, (t2.keep hb.size (fun g _ h => hb.block g h)).mono ho, (t3.below hb).mono ho⟩, ?_, by omega, ?_, hb⟩
      · exact hs
      · have := ins_list hp
        rw [hq, if_pos rfl] at this
        exact this.symm
    clear HP HQ
    go_wp2_with fail
    refine wp_region_held_drew (S := fun w' => w'.cell? ⟨w.heap.size, 0, none⟩ = some (.slice ia its.length ik) ∧ w'.cell? ⟨w.heap.size, 1, none⟩ = some (.slice ka kids.length kk) ∧ w'.cell? ⟨w.heap.size + 1, 0, none⟩ = some (.string x.1) ∧ w'.cell? ⟨w.heap.size + 1, 1, none⟩ = some (.string x.2)) (by kernel_rfl) (unhide HS3 _ (fun k hk _ => rfl)) (fun hHeld => ?_)
    obtain ⟨WS, hWS⟩ : ∃ WS, WS = w1.drew := ⟨_, rfl⟩
    rw [← hWS] at hHeld ⊢
    have HB : Hid (Below w1.heap.size w1 WS) := by rw [hWS]; exact (Below.refl _ _).drew
    clear hWS
    refine hand_to (i := 0) (d := 19) (v := (.pointer (some ⟨w.heap.size, 0, none⟩))) rfl rfl (by kernel_rfl) (by kernel_rfl) (by kernel_rfl) (fun _ _ _ h => h) (Or.inl ⟨by rfl, ?_⟩) hHeld ?_
    · (intro w' hSw; obtain ⟨y0, y1, y2, y3⟩ := hSw; go_simp)
    simp only [Act.put, List.setIfInBounds_toArray, List.set_cons_zero, List.set_cons_succ]
    refine hand_to (i := 1) (d := 20) (v := (.slice ia its.length ik)) rfl rfl (by kernel_rfl) (by kernel_rfl) (by kernel_rfl) (fun _ _ _ h => h) (Or.inl ⟨by rfl, ?_⟩) hHeld ?_
    · (intro w' hSw; obtain ⟨y0, y1, y2, y3⟩ := hSw; go_simp)
    simp only [Act.put, List.setIfInBounds_toArray, List.set_cons_zero, List.set_cons_succ]
    refine hand_to (i := 2) (d := 21) (v := (.int .i64 (i : Int))) rfl rfl (by kernel_rfl) (by kernel_rfl) (by kernel_rfl) (fun _ _ _ h => h) (Or.inl ⟨by rfl, ?_⟩) hHeld ?_
    · (intro w' hSw; obtain ⟨y0, y1, y2, y3⟩ := hSw; go_simp)
    simp only [Act.put, List.setIfInBounds_toArray, List.set_cons_zero, List.set_cons_succ]
    refine hand_to (i := 3) (d := 22) (v := (.int .i64 (i : Int))) rfl rfl (by kernel_rfl) (by kernel_rfl) (by kernel_rfl) (fun _ _ _ h => h) (Or.inl ⟨by rfl, ?_⟩) hHeld ?_
    · (intro w' hSw; obtain ⟨y0, y1, y2, y3⟩ := hSw; go_simp)
    simp only [Act.put, List.setIfInBounds_toArray, List.set_cons_zero, List.set_cons_succ]
    refine hand_to (i := 4) (d := 23) (v := (.int .i64 ((i : Int) + 1))) rfl rfl (by kernel_rfl) (by kernel_rfl) (by kernel_rfl) (fun _ _ _ h => h) (Or.inl ⟨by rfl, ?_⟩) hHeld ?_
    · (intro w' hSw; obtain ⟨y0, y1, y2, y3⟩ := hSw; go_simp)
    simp only [Act.put, List.setIfInBounds_toArray, List.set_cons_zero, List.set_cons_succ]
    refine hand_to (i := 5) (d := 24) (v := (.agg #[.string x.1, .string x.2])) rfl rfl (by kernel_rfl) (by kernel_rfl) (by kernel_rfl) (fun _ _ _ h => h) (Or.inl ⟨by rfl, ?_⟩) hHeld ?_
    · (intro w' hSw; obtain ⟨y0, y1, y2, y3⟩ := hSw; go_simp)
    simp only [Act.put, List.setIfInBounds_toArray, List.set_cons_zero, List.set_cons_succ]
    refine hand_to (i := 8) (d := 27) (v := (.pointer (some ⟨w.heap.size, 1, none⟩))) rfl rfl (by kernel_rfl) (by kernel_rfl) (by kernel_rfl) (fun _ _ _ h => h) (Or.inl ⟨by rfl, ?_⟩) hHeld ?_
    · (intro w' hSw; obtain ⟨y0, y1, y2, y3⟩ := hSw; go_simp)
    simp only [Act.put, List.setIfInBounds_toArray, List.set_cons_zero, List.set_cons_succ]
    refine hand_to (i := 9) (d := 28) (v := (.slice ka kids.length kk)) rfl rfl (by kernel_rfl) (by kernel_rfl) (by kernel_rfl) (fun _ _ _ h => h) (Or.inl ⟨by rfl, ?_⟩) hHeld ?_
    · (intro w' hSw; obtain ⟨y0, y1, y2, y3⟩ := hSw; go_simp)
    simp only [Act.put, List.setIfInBounds_toArray, List.set_cons_zero, List.set_cons_succ]
    refine wpAnyH_ready (rs := [6]) (by kernel_rfl) (by simp) ?_
    refine AllReadyH.cons rfl (fun K hK => ?_) AllReadyH.nil
    skip
    go_simp
    skip
    (go_wp2_with fail)
    obtain ⟨W6, hW⟩ : ∃ W6, W6 = WS.alloc (.cells #[.string x.1, .string x.2] 62) := ⟨_, rfl⟩
    obtain ⟨c25, hb⟩ : ∃ c25, c25 = WS.heap.size := ⟨_, rfl⟩
    rw [← hW, ← hb]
    have hbb : Below WS.heap.size WS W6 := by rw [hW]; exact (Below.refl _ _).alloc (Nat.le_refl _) _
    have H25 : Hid (IV W6 c25 x) := by rw [hW, hb]; exact heap_alloc_new _ _
    replace HB := hide (below_tr (unhide HB) hbb)
    clear hbb hW hb
    refine hK.out _ _ (unhide HS3 W6 (fun k hk _ => (unhide HB).block k hk)) (fun hHeld2 => ?_)
    clear hK K hHeld
    have hHeld := hHeld2
    clear hHeld2
    try simp only [Act.put, List.setIfInBounds_toArray, List.set_cons_zero, List.set_cons_succ]
    refine wpAnyH_ready (rs := [7]) (by kernel_rfl) (by simp) ?_
    refine AllReadyH.cons rfl (fun K hK => ?_) AllReadyH.nil
    skip
    go_simp
    (go_at_call 35; refine (unhide HC26 W6 c25 (below_tr (unhide H1).1 (unhide HB)) (unhide H25)).mono ?_; rintro e W7 ⟨a26, n26, k26, rfl, q1, hbb⟩)
    (go_wp2_with fail)
    have H26 : Hid (RN W7 w1.heap.size (.slice a26 n26 k26) _) := ⟨q1.1, fun g hg => Nat.le_trans (unhide HB).size (q1.2 g hg)⟩
    replace HB := hide (below_tr (unhide HB) hbb)
    clear hbb q1
    refine hK.out _ _ (unhide HS3 W7 (fun k hk _ => (unhide HB).block k hk)) (fun hHeld2 => ?_)
    clear hK K hHeld
    have hHeld := hHeld2
    clear hHeld2
    try simp only [Act.put, List.setIfInBounds_toArray, List.set_cons_zero, List.set_cons_succ]
    refine hand_to (i := 10) (d := 29) (v := (.agg #[.slice a26 n26 k26, .slice ka kids.length kk])) rfl rfl (by kernel_rfl) (by kernel_rfl) (by kernel_rfl) (fun _ _ _ h => h) (Or.inl ⟨by rfl, ?_⟩) hHeld ?_
    · (intro w' hSw; obtain ⟨y0, y1, y2, y3⟩ := hSw; go_simp)
    simp only [Act.put, List.setIfInBounds_toArray, List.set_cons_zero, List.set_cons_succ]
    refine wpAnyH_ready (rs := [11]) (by kernel_rfl) (by simp) ?_
    refine AllReadyH.cons rfl (fun K hK => ?_) AllReadyH.nil
    have h4 : NV W7 (w.heap.size + 1 + 1) (.slice none 0 0) (.slice none 0 0) := (unhide H1).2.2.2.1.below (unhide HB)
    obtain ⟨e0, e1, f0, f1⟩ := h4.cells
    have H4c := hide h4
    clear h4
    go_simp
    skip
    (go_wp2_with fail)
    obtain ⟨W11, hW⟩ : ∃ W11, W11 = (W7.setCell ⟨w.heap.size + 1 + 1, 0, none⟩ (.slice a26 n26 k26)).setCell ⟨w.heap.size + 1 + 1, 1, none⟩ (.slice ka kids.length kk) := ⟨_, rfl⟩
    rw [← hW]
    have H4d : Hid (NV W11 (w.heap.size + 1 + 1) (.slice a26 n26 k26) (.slice ka kids.length kk)) := by rw [hW]; exact set2_at (unhide H4c)
    have HK : Hid (∀ k, k < w1.heap.size → k ≠ w.heap.size + 1 + 1 → W11.heap[k]? = w1.heap[k]?) := fun k hk hne => by rw [hW]; exact (set2_ne hne).trans ((unhide HB).block k hk)
    have HJ : Hid (R2 W11 (.slice a26 n26 k26) ((its.take i ++ x :: its.drop (i + 1)).map itV) ∧ (∀ g, inB2 (.slice a26 n26 k26) g → w1.heap.size ≤ g) ∧ Below w.heap.size w W11) := by
      have hz := (unhide H1).2.2.2.2
      rw [hW]
      exact ⟨(unhide H26).1.keep (by simp) (fun g hg => set2_ne (by have := (unhide H26).2 g hg; omega)), (unhide H26).2, set2_below (below_tr (unhide H1).1 (unhide HB)) (by omega)⟩
    clear hW e0 e1 f0 f1
    refine hK.out _ _ (unhide HS3 W11 (unhide HK)) (fun hHeld2 => ?_)
    clear hK K hHeld
    have hHeld := hHeld2
    clear hHeld2
    try simp only [Act.put, List.setIfInBounds_toArray, List.set_cons_zero, List.set_cons_succ]
    refine hand_to (i := 12) (d := 5) (v := (.bool false)) rfl rfl (by kernel_rfl) (by kernel_rfl) (by kernel_rfl) (fun _ _ _ h => h) (Or.inl ⟨by rfl, ?_⟩) hHeld ?_
    · (intro w' hSw; obtain ⟨y0, y1, y2, y3⟩ := hSw; go_simp)
    simp only [Act.put, List.setIfInBounds_toArray, List.set_cons_zero, List.set_cons_succ]
    refine wpAnyH_done (by kernel_rfl) ?_ _
    go_wp2_with fail
    obtain ⟨g0, g1, _, _⟩ := (unhide H4d).cells
    refine bodyPost_ret (v := .tuple #[.agg #[.slice a26 n26 k26, .slice ka kids.length kk], .bool false]) ?_ rfl ?_
    · rw [results_cell_tmp rfl]
      go_simp
    exact unhide HFin W11 a26 n26 k26 (unhide HJ).1 (unhide HJ).2.1 (unhide HJ).2.2 (unhide HK)
  · have hlen0 : kids.length = 0 := by have := (unhide HA).2.1; rw [show kids = [] from this]; rfl
    have HI : Hid (Calls Tryz.prog 36 #[.agg #[.slice ia its.length ik, .slice ka kids.length kk]] w1 fun e w2 => e = .returned (.bool false) ∧ (w2.cell? ⟨w.heap.size, 0, none⟩ = some (.slice ia its.length ik) ∧ w2.cell? ⟨w.heap.size, 1, none⟩ = some (.slice ka kids.length kk) ∧ w2.cell? ⟨w.heap.size + 1, 0, none⟩ = some (.string x.1) ∧ w2.cell? ⟨w.heap.size + 1, 1, none⟩ = some (.string x.2)) ∧ Hid (Below w1.heap.size w1 w2)) := by
      obtain ⟨t1, ks, t2, t3⟩ := (unhide HA).1
      refine (inner_any _ _ ks w1 (t2.1.below (unhide H1).1)).mono ?_
      rintro e w2 ⟨rfl, hb⟩
      obtain ⟨q1, q2, q3, q4, q5⟩ := unhide H1
      have u2 := (q2.below hb).cells
      have u3 := (q3.below hb).cells
      exact ⟨by rw [t3.len, hlen0]; rfl, ⟨u2.1, u2.2.1, u3.1, u3.2⟩, hb⟩
    have HC54 : Hid (∀ w2 : World, Below w1.heap.size w1 w2 → Calls Tryz.prog 35 #[.slice ia its.length ik, .int .i64 (i : Int), .int .i64 (i : Int), .slice (some ⟨w2.heap.size, 0, none⟩) 1 1] (w2.alloc (.cells #[.string x.1, .string x.2] 62)) fun e w3 => ∃ a n k, e = .returned (.slice a n k) ∧ (w3.cell? ⟨w.heap.size + 1 + 1, 0, none⟩ = some (.slice none 0 0) ∧ w3.cell? ⟨w.heap.size + 1 + 1, 1, none⟩ = some (.slice none 0 0) ∧ w3.frozen? ⟨w.heap.size + 1 + 1, 0, none⟩ = false ∧ w3.frozen? ⟨w.heap.size + 1 + 1, 1, none⟩ = false) ∧ Hid (PutP w O 0 (flat 0 (BT.mk its kids)) x (.returned (.tuple #[.agg #[.slice a n k, .slice none 0 0], .bool true])) ((w3.setCell ⟨w.heap.size + 1 + 1, 0, none⟩ (.slice a n k)).setCell ⟨w.heap.size + 1 + 1, 1, none⟩ (.slice none 0 0)))) := by
      intro w2 hb2
      obtain ⟨ht, hs, h15, hF, hsi⟩ := unhide HA
      obtain ⟨q1, q2, q3, q4, q5⟩ := unhide H1
      have hp := (unhide HP).1
      have hq := (unhide HQ).symm
      have hb3 : Below w2.heap.size w2 (w2.alloc (.cells #[.string x.1, .string x.2] 62)) := (Below.refl _ _).alloc (Nat.le_refl _) _
      have hbw := below_tr (below_tr q1 hb2) hb3
      have hiv : IV (w2.alloc (.cells #[.string x.1, .string x.2] 62)) w2.heap.size x := heap_alloc_new _ _
      refine (setits_t (i := i) (j := i) (ht.1.1.below hbw) hiv (Nat.le_refl _) hp.1 (by omega)).mono ?_
      rintro e w3 ⟨a, n, k, rfl, r1, r2⟩
      have v4 := ((q4.below hb2).below hb3).below r2
      refine ⟨a, n, k, rfl, v4.cells, ?_⟩
      have hl2 : (its.take i ++ x :: its.drop i).length = its.length + 1 := by simp; have := hp.1; omega
      have hnz : w1.heap.size ≤ (w2.alloc (.cells #[.string x.1, .string x.2] 62)).heap.size := Nat.le_trans hb2.size hb3.size
      have hr : R2 ((w3.setCell ⟨w.heap.size + 1 + 1, 0, none⟩ (.slice a n k)).setCell ⟨w.heap.size + 1 + 1, 1, none⟩ (.slice none 0 0)) (.slice a n k) ((its.take i ++ x :: its.drop i).map itV) := r1.1.keep (by simp) (fun g hg => set2_ne (by have := r1.2 g hg; omega))
      obtain ⟨a', k', e, _, _⟩ := hr.slice
      rw [List.length_map] at e
      cases e
      have hhas : hasL x.1 (flat 0 (BT.mk its kids)) = false := by rw [show flat 0 (BT.mk its kids) = its from rfl, has_list hp hsi, hq]
      refine ⟨its.take i ++ x :: its.drop i, [], a, k, none, 0, by rw [hhas]; rfl, ⟨⟨hr, fun g h => .inr (by have := r1.2 g h; omega)⟩, [], RO.nil _ _, rfl, rfl⟩, rfl, by omega, ?_, set2_below (below_tr hbw r2) (by omega)⟩
      have := ins_list hp
      rw [hq, if_neg (by simp)] at this
      exact this.symm
    obtain ⟨c20, c21, _, _⟩ := (unhide H1).2.1.cells
    clear HP HQ HA H1 hlen0
    go_wp2_with (first
      | (go_at_call 36; refine (unhide HI).mono ?_; rintro e w2 ⟨rfl, ⟨d0, d1, d2, d3⟩, hb2⟩; have HC := hide (unhide HC54 w2 (unhide hb2)); clear HI HC54)
      | (go_at_call 35; refine (unhide HC).mono ?_; rintro e w3 ⟨a, n, k, rfl, ⟨r0, r1, g0, g1⟩, HE⟩; clear HC))
    refine bodyPost_ret (v := .tuple #[.agg #[.slice a n k, .slice none 0 0], .bool true]) ?_ rfl ?_
    · rw [results_cell_tmp rfl]
      go_simp
    exact unhide HE
end
theorem NodeAt.ltn {w : World} {O O' : Nat → Prop} {d : Nat} {t : BT (d + 1)} {vi vk : Value} (h : NodeAt w O d t vi vk) (ho : ∀ g, O g → g < w.heap.size → O' g) : NodeAt w O' d t vi vk := h.lt.mono (fun g hg => ho g hg.1 hg.2)
theorem here_some {its : List It} {k : ByteArray} {i : Nat} (h : hereB its k i = true) : ∃ y, its[i]? = some y ∧ kc y.1 k = 0 := by
  unfold hereB at h
  cases hx : its[i]? with
  | none => rw [hx] at h; cases h
  | some y => rw [hx] at h; exact ⟨y, rfl, by simpa using h⟩
theorem here_none {its : List It} {k : ByteArray} {i : Nat} {y : It} (hp : PlaceAt its k i) (h : hereB its k i = false) (hy : its[i]? = some y) : kc k y.1 < 0 := by
  unfold hereB at h
  rw [hy] at h
  have h1 := hp.2.2 i y hy (Nat.le_refl _)
  have h2 : kc y.1 k ≠ 0 := by simpa using h
  have := kc_cmp.anti k y.1
  omega
section
variable {w : World} {O : Nat → Prop} {d : Nat} {its : List It} {kids : List (BT (d + 1))} {vi vk : Value} {x : It}
set_option maxHeartbeats 25600000 in
set_option maxRecDepth 100000 in
theorem put_1 (ht : NP w O (d + 1) its kids vi vk) (hs : Shp (d + 1) (BT.mk its kids)) (h15 : its.length ≤ 15) (h1 : 1 ≤ its.length) (hF : Srt (flat (d + 1) (BT.mk its kids))) (IH : ∀ (k : BT (d + 1)) (ki kk : Value) (O' : Nat → Prop) (W : World), k ∈ kids → NodeAt W O' d k ki kk → Calls Tryz.prog 20 #[.agg #[ki, kk], .agg #[.string x.1, .string x.2]] W (PutP W O' d (flat d k) x)) :
    Calls Tryz.prog 20 #[.agg #[vi, vk], .agg #[.string x.1, .string x.2]] w fun e w' => PutP w O (d + 1) (flat (d + 1) (BT.mk its kids)) x e w' := by
  obtain ⟨ia, ik, ka, kk, rfl, rfl⟩ := ht.slices
  have hsi : Srt its := srt_its hF
  obtain ⟨W0, hW0⟩ : ∃ W0, W0 = ((w.alloc (.cells #[.slice ia its.length ik, .slice ka kids.length kk] 54)).alloc (.cells #[.string x.1, .string x.2] 62)).alloc (.cells #[.slice none 0 0, .slice none 0 0] 54) := ⟨_, rfl⟩
  have hz0 : W0.heap.size = w.heap.size + 1 + 1 + 1 := by rw [hW0, World.size_alloc, World.size_alloc, World.size_alloc]
  have hb0 : Below w.heap.size w W0 := by rw [hW0]; exact (((Below.refl _ _).alloc (Nat.le_refl _) _).alloc (by simp) _).alloc (by simp; omega) _
  have v2 : NV W0 w.heap.size (.slice ia its.length ik) (.slice ka kids.length kk) := by
    rw [hW0]; exact ((NV.new w _ _).below ((Below.refl _ _).alloc (Nat.le_refl _) _)).below ((Below.refl _ _).alloc (Nat.le_refl _) _)
  have v3 : IV W0 (w.heap.size + 1) x := by
    have : IV ((w.alloc (.cells #[.slice ia its.length ik, .slice ka kids.length kk] 54)).alloc (.cells #[.string x.1, .string x.2] 62)) (w.alloc (.cells #[.slice ia its.length ik, .slice ka kids.length kk] 54)).heap.size x := heap_alloc_new _ _
    rw [World.size_alloc] at this
    rw [hW0]; exact this.below ((Below.refl _ _).alloc (Nat.le_refl _) _)
  have v4 : NV W0 (w.heap.size + 1 + 1) (.slice none 0 0) (.slice none 0 0) := by
    have := NV.new ((w.alloc (.cells #[.slice ia its.length ik, .slice ka kids.length kk] 54)).alloc (.cells #[.string x.1, .string x.2] 62)) (.slice none 0 0) (.slice none 0 0)
    rw [World.size_alloc, World.size_alloc] at this
    rw [hW0]; exact this
  have HC : Hid (Calls Tryz.prog 34 #[.agg #[.slice ia its.length ik, .slice ka kids.length kk], .string x.1] W0 fun e w1 => ∃ i, PlaceAt its x.1 i ∧ e = .returned (.tuple #[.int .i64 (i : Int), .bool (hereB its x.1 i)]) ∧ Below W0.heap.size W0 w1) := find_any _ _ its x.1 W0 ((ht.1.1).below hb0) hsi (by omega)
  have HA := hide (And.intro ht (And.intro hs (And.intro h15 (And.intro hF hsi))))
  have HV := hide (And.intro hb0 (And.intro v2 (And.intro v3 (And.intro v4 hz0))))
  have HIH := hide IH
  have H11 := hide h1
  clear ht hs h15 hF hsi hb0 v2 v3 v4 hz0 IH h1
  go_enter Tryz.func20, Tryz.ntmps20
  go_upto_if 17 with (go_at_call 34; rw [← hW0]; refine (unhide HC).mono ?_; rintro e w1 ⟨i, hp, rfl, hb1⟩; have HP := hide (And.intro hp hb1); clear HC hp hb1)
  clear hW0
  have hil : (i : Int) ≤ 15 := by have := (unhide HP).1.1; have := (unhide HA).2.2.1; omega
  have hwi : IntKind.i64.wrap ((i : Int) + 1) = (i : Int) + 1 := by rw [IntKind.wrap_i64] <;> omega
  have H1 : Hid (Below w.heap.size w w1 ∧ NV w1 w.heap.size (.slice ia its.length ik) (.slice ka kids.length kk) ∧ IV w1 (w.heap.size + 1) x ∧ NV w1 (w.heap.size + 1 + 1) (.slice none 0 0) (.slice none 0 0) ∧ w.heap.size + 3 ≤ w1.heap.size) := by
    obtain ⟨q1, q2, q3, q4, q5⟩ := unhide HV
    have hb := (unhide HP).2
    exact ⟨below_tr q1 hb, q2.below hb, q3.below hb, q4.below hb, by have := hb.size; omega⟩
  obtain ⟨hq, hhq⟩ : ∃ hq, hq = hereB its x.1 i := ⟨_, rfl⟩
  rw [← hhq]
  have HQ := hide hhq
  clear hhq HV
  cases hq
  rotate_left
  · have HS3 : Hid (∀ W : World, (∀ k, k < w1.heap.size → k ≠ w.heap.size + 1 + 1 → W.heap[k]? = w1.heap[k]?) → W.cell? ⟨w.heap.size, 0, none⟩ = some (.slice ia its.length ik) ∧ W.cell? ⟨w.heap.size, 1, none⟩ = some (.slice ka kids.length kk) ∧ W.cell? ⟨w.heap.size + 1, 0, none⟩ = some (.string x.1) ∧ W.cell? ⟨w.heap.size + 1, 1, none⟩ = some (.string x.2)) := by
      intro W hW
      obtain ⟨q1, q2, q3, q4, q5⟩ := unhide H1
      have u2 : NV W w.heap.size (.slice ia its.length ik) (.slice ka kids.length kk) := (hW _ (by omega) (by omega)).trans q2
      have u3 : IV W (w.heap.size + 1) x := (hW _ (by omega) (by omega)).trans q3
      exact ⟨u2.cells.1, u2.cells.2.1, u3.cells.1, u3.cells.2⟩
    have hlt : i < its.length := by
      have h1 := unhide HQ
      rcases Nat.lt_or_ge i its.length with h | h
      · exact h
      · unfold hereB at h1; rw [List.getElem?_eq_none (by omega)] at h1; cases h1
    have HC26 : Hid (∀ (W : World) (c : Nat), Below w.heap.size w W → IV W c x → Calls Tryz.prog 35 #[.slice ia its.length ik, .int .i64 (i : Int), .int .i64 ((i : Int) + 1), .slice (some ⟨c, 0, none⟩) 1 1] W fun e w' => ∃ a n k, e = .returned (.slice a n k) ∧ RN w' W.heap.size (.slice a n k) ((its.take i ++ x :: its.drop (i + 1)).map itV) ∧ Below W.heap.size W w') := fun W c hb hc => by
      have := (unhide HA).2.2.1
      exact setits_t (j := i + 1) ((unhide HA).1.1.1.below hb) hc (by omega) (by omega) (by omega)
    have HFin : Hid (∀ (W : World) (a : Option Addr) (n k : Nat), R2 W (.slice a n k) ((its.take i ++ x :: its.drop (i + 1)).map itV) → (∀ g, inB2 (.slice a n k) g → w1.heap.size ≤ g) → Below w.heap.size w W → (∀ k, k < w1.heap.size → k ≠ w.heap.size + 1 + 1 → W.heap[k]? = w1.heap[k]?) → PutP w O (d + 1) (flat (d + 1) (BT.mk its kids)) x (.returned (.tuple #[.agg #[.slice a n k, .slice ka kids.length kk], .bool false])) W) := by
      intro W a n k hr hg hb hkp
      obtain ⟨ht, hs, h15, hF, hsi⟩ := unhide HA
      have hp := (unhide HP).1
      have hq := (unhide HQ).symm
      have hz := (unhide H1).2.2.2.2
      have hl2 : (its.take i ++ x :: its.drop (i + 1)).length = its.length := by simp; omega
      obtain ⟨a', k', e, _, _⟩ := hr.slice
      rw [List.length_map] at e
      cases e
      obtain ⟨t1, ks, t2, t3⟩ := ht
      have ho : ∀ g, O g → OrN O w.heap.size g := fun g h => .inl h
      have hhas : hasL x.1 (flat (d + 1) (BT.mk its kids)) = true := by
        obtain ⟨y, hy, hy0⟩ := here_some hq
        exact List.any_eq_true.2 ⟨y, (its_sub (BT.mk its kids)).subset (List.mem_of_getElem? hy), by simp [hy0]⟩
      refine ⟨its.take i ++ x :: its.drop (i + 1), kids, a, k, ka, kk, by rw [hhas]; rfl, ⟨⟨hr, fun g h => .inr (by have := hg g h; omega)⟩, ks, (t2.keep hb.size (fun g _ h => hb.block g h)).mono ho, (t3.below hb).mono ho⟩, ?_, by omega, ?_, hb⟩
      · obtain ⟨hn, hk⟩ := shp_succ.1 hs
        exact shp_mk (by rw [hl2]; exact hn) hk
      · have hn : kids.length = its.length + 1 := (shp_succ.1 hs).1
        have hki : kids[i]? = some (kids[i]'(by omega)) := List.getElem?_eq_getElem _
        obtain ⟨A, B, e1, e2, e3, e4⟩ := place_split hn hF hp hki
        rcases e4 with ⟨e, _⟩ | ⟨y, B', hy, rfl, e5⟩
        · omega
        · obtain ⟨y', hy', hy0⟩ := here_some hq
          rw [hy] at hy'
          cases hy'
          have hyx := kc_eq hy0
          rw [e5 x, e1]
          rw [e1] at hF
          rw [insL_left _ (fun z hz => by rw [← hyx]; exact (List.pairwise_append.1 hF).2.2 z hz y (List.mem_cons_self ..)), insL, if_neg (by omega), if_pos hy0]
    clear HP HQ
    go_wp2_with fail
    refine wp_region_held_drew (S := fun w' => w'.cell? ⟨w.heap.size, 0, none⟩ = some (.slice ia its.length ik) ∧ w'.cell? ⟨w.heap.size, 1, none⟩ = some (.slice ka kids.length kk) ∧ w'.cell? ⟨w.heap.size + 1, 0, none⟩ = some (.string x.1) ∧ w'.cell? ⟨w.heap.size + 1, 1, none⟩ = some (.string x.2)) (by kernel_rfl) (unhide HS3 _ (fun k hk _ => rfl)) (fun hHeld => ?_)
    obtain ⟨WS, hWS⟩ : ∃ WS, WS = w1.drew := ⟨_, rfl⟩
    rw [← hWS] at hHeld ⊢
    have HB : Hid (Below w1.heap.size w1 WS) := by rw [hWS]; exact (Below.refl _ _).drew
    clear hWS
    refine hand_to (i := 0) (d := 19) (v := (.pointer (some ⟨w.heap.size, 0, none⟩))) rfl rfl (by kernel_rfl) (by kernel_rfl) (by kernel_rfl) (fun _ _ _ h => h) (Or.inl ⟨by rfl, ?_⟩) hHeld ?_
    · (intro w' hSw; obtain ⟨y0, y1, y2, y3⟩ := hSw; go_simp)
    simp only [Act.put, List.setIfInBounds_toArray, List.set_cons_zero, List.set_cons_succ]
    refine hand_to (i := 1) (d := 20) (v := (.slice ia its.length ik)) rfl rfl (by kernel_rfl) (by kernel_rfl) (by kernel_rfl) (fun _ _ _ h => h) (Or.inl ⟨by rfl, ?_⟩) hHeld ?_
    · (intro w' hSw; obtain ⟨y0, y1, y2, y3⟩ := hSw; go_simp)
    simp only [Act.put, List.setIfInBounds_toArray, List.set_cons_zero, List.set_cons_succ]
    refine hand_to (i := 2) (d := 21) (v := (.int .i64 (i : Int))) rfl rfl (by kernel_rfl) (by kernel_rfl) (by kernel_rfl) (fun _ _ _ h => h) (Or.inl ⟨by rfl, ?_⟩) hHeld ?_
    · (intro w' hSw; obtain ⟨y0, y1, y2, y3⟩ := hSw; go_simp)
    simp only [Act.put, List.setIfInBounds_toArray, List.set_cons_zero, List.set_cons_succ]
    refine hand_to (i := 3) (d := 22) (v := (.int .i64 (i : Int))) rfl rfl (by kernel_rfl) (by kernel_rfl) (by kernel_rfl) (fun _ _ _ h => h) (Or.inl ⟨by rfl, ?_⟩) hHeld ?_
    · (intro w' hSw; obtain ⟨y0, y1, y2, y3⟩ := hSw; go_simp)
    simp only [Act.put, List.setIfInBounds_toArray, List.set_cons_zero, List.set_cons_succ]
    refine hand_to (i := 4) (d := 23) (v := (.int .i64 ((i : Int) + 1))) rfl rfl (by kernel_rfl) (by kernel_rfl) (by kernel_rfl) (fun _ _ _ h => h) (Or.inl ⟨by rfl, ?_⟩) hHeld ?_
    · (intro w' hSw; obtain ⟨y0, y1, y2, y3⟩ := hSw; go_simp)
    simp only [Act.put, List.setIfInBounds_toArray, List.set_cons_zero, List.set_cons_succ]
    refine hand_to (i := 5) (d := 24) (v := (.agg #[.string x.1, .string x.2])) rfl rfl (by kernel_rfl) (by kernel_rfl) (by kernel_rfl) (fun _ _ _ h => h) (Or.inl ⟨by rfl, ?_⟩) hHeld ?_
    · (intro w' hSw; obtain ⟨y0, y1, y2, y3⟩ := hSw; go_simp)
    simp only [Act.put, List.setIfInBounds_toArray, List.set_cons_zero, List.set_cons_succ]
    refine hand_to (i := 8) (d := 27) (v := (.pointer (some ⟨w.heap.size, 1, none⟩))) rfl rfl (by kernel_rfl) (by kernel_rfl) (by kernel_rfl) (fun _ _ _ h => h) (Or.inl ⟨by rfl, ?_⟩) hHeld ?_
    · (intro w' hSw; obtain ⟨y0, y1, y2, y3⟩ := hSw; go_simp)
    simp only [Act.put, List.setIfInBounds_toArray, List.set_cons_zero, List.set_cons_succ]
    refine hand_to (i := 9) (d := 28) (v := (.slice ka kids.length kk)) rfl rfl (by kernel_rfl) (by kernel_rfl) (by kernel_rfl) (fun _ _ _ h => h) (Or.inl ⟨by rfl, ?_⟩) hHeld ?_
    · (intro w' hSw; obtain ⟨y0, y1, y2, y3⟩ := hSw; go_simp)
    simp only [Act.put, List.setIfInBounds_toArray, List.set_cons_zero, List.set_cons_succ]
    refine wpAnyH_ready (rs := [6]) (by kernel_rfl) (by simp) ?_
    refine AllReadyH.cons rfl (fun K hK => ?_) AllReadyH.nil
    skip
    go_simp
    skip
    (go_wp2_with fail)
    obtain ⟨W6, hW⟩ : ∃ W6, W6 = WS.alloc (.cells #[.string x.1, .string x.2] 62) := ⟨_, rfl⟩
    obtain ⟨c25, hb⟩ : ∃ c25, c25 = WS.heap.size := ⟨_, rfl⟩
    rw [← hW, ← hb]
    have hbb : Below WS.heap.size WS W6 := by rw [hW]; exact (Below.refl _ _).alloc (Nat.le_refl _) _
    have H25 : Hid (IV W6 c25 x) := by rw [hW, hb]; exact heap_alloc_new _ _
    replace HB := hide (below_tr (unhide HB) hbb)
    clear hbb hW hb
    refine hK.out _ _ (unhide HS3 W6 (fun k hk _ => (unhide HB).block k hk)) (fun hHeld2 => ?_)
    clear hK K hHeld
    have hHeld := hHeld2
    clear hHeld2
    try simp only [Act.put, List.setIfInBounds_toArray, List.set_cons_zero, List.set_cons_succ]
    refine wpAnyH_ready (rs := [7]) (by kernel_rfl) (by simp) ?_
    refine AllReadyH.cons rfl (fun K hK => ?_) AllReadyH.nil
    skip
    go_simp
    (go_at_call 35; refine (unhide HC26 W6 c25 (below_tr (unhide H1).1 (unhide HB)) (unhide H25)).mono ?_; rintro e W7 ⟨a26, n26, k26, rfl, q1, hbb⟩)
    (go_wp2_with fail)
    have H26 : Hid (RN W7 w1.heap.size (.slice a26 n26 k26) _) := ⟨q1.1, fun g hg => Nat.le_trans (unhide HB).size (q1.2 g hg)⟩
    replace HB := hide (below_tr (unhide HB) hbb)
    clear hbb q1
    refine hK.out _ _ (unhide HS3 W7 (fun k hk _ => (unhide HB).block k hk)) (fun hHeld2 => ?_)
    clear hK K hHeld
    have hHeld := hHeld2
    clear hHeld2
    try simp only [Act.put, List.setIfInBounds_toArray, List.set_cons_zero, List.set_cons_succ]
    refine hand_to (i := 10) (d := 29) (v := (.agg #[.slice a26 n26 k26, .slice ka kids.length kk])) rfl rfl (by kernel_rfl) (by kernel_rfl) (by kernel_rfl) (fun _ _ _ h => h) (Or.inl ⟨by rfl, ?_⟩) hHeld ?_
    · (intro w' hSw; obtain ⟨y0, y1, y2, y3⟩ := hSw; go_simp)
    simp only [Act.put, List.setIfInBounds_toArray, List.set_cons_zero, List.set_cons_succ]
    refine wpAnyH_ready (rs := [11]) (by kernel_rfl) (by simp) ?_
    refine AllReadyH.cons rfl (fun K hK => ?_) AllReadyH.nil
    have h4 : NV W7 (w.heap.size + 1 + 1) (.slice none 0 0) (.slice none 0 0) := (unhide H1).2.2.2.1.below (unhide HB)
    obtain ⟨e0, e1, f0, f1⟩ := h4.cells
    have H4c := hide h4
    clear h4
    go_simp
    skip
    (go_wp2_with fail)
    obtain ⟨W11, hW⟩ : ∃ W11, W11 = (W7.setCell ⟨w.heap.size + 1 + 1, 0, none⟩ (.slice a26 n26 k26)).setCell ⟨w.heap.size + 1 + 1, 1, none⟩ (.slice ka kids.length kk) := ⟨_, rfl⟩
    rw [← hW]
    have H4d : Hid (NV W11 (w.heap.size + 1 + 1) (.slice a26 n26 k26) (.slice ka kids.length kk)) := by rw [hW]; exact set2_at (unhide H4c)
    have HK : Hid (∀ k, k < w1.heap.size → k ≠ w.heap.size + 1 + 1 → W11.heap[k]? = w1.heap[k]?) := fun k hk hne => by rw [hW]; exact (set2_ne hne).trans ((unhide HB).block k hk)
    have HJ : Hid (R2 W11 (.slice a26 n26 k26) ((its.take i ++ x :: its.drop (i + 1)).map itV) ∧ (∀ g, inB2 (.slice a26 n26 k26) g → w1.heap.size ≤ g) ∧ Below w.heap.size w W11) := by
      have hz := (unhide H1).2.2.2.2
      rw [hW]
      exact ⟨(unhide H26).1.keep (by simp) (fun g hg => set2_ne (by have := (unhide H26).2 g hg; omega)), (unhide H26).2, set2_below (below_tr (unhide H1).1 (unhide HB)) (by omega)⟩
    clear hW e0 e1 f0 f1
    refine hK.out _ _ (unhide HS3 W11 (unhide HK)) (fun hHeld2 => ?_)
    clear hK K hHeld
    have hHeld := hHeld2
    clear hHeld2
    try simp only [Act.put, List.setIfInBounds_toArray, List.set_cons_zero, List.set_cons_succ]
    refine hand_to (i := 12) (d := 5) (v := (.bool false)) rfl rfl (by kernel_rfl) (by kernel_rfl) (by kernel_rfl) (fun _ _ _ h => h) (Or.inl ⟨by rfl, ?_⟩) hHeld ?_
    · (intro w' hSw; obtain ⟨y0, y1, y2, y3⟩ := hSw; go_simp)
    simp only [Act.put, List.setIfInBounds_toArray, List.set_cons_zero, List.set_cons_succ]
    refine wpAnyH_done (by kernel_rfl) ?_ _
    go_wp2_with fail
    obtain ⟨g0, g1, _, _⟩ := (unhide H4d).cells
    refine bodyPost_ret (v := .tuple #[.agg #[.slice a26 n26 k26, .slice ka kids.length kk], .bool false]) ?_ rfl ?_
    · rw [results_cell_tmp rfl]
      go_simp
    exact unhide HFin W11 a26 n26 k26 (unhide HJ).1 (unhide HJ).2.1 (unhide HJ).2.2 (unhide HK)
  · have hn1 : kids.length = its.length + 1 := (shp_succ.1 (unhide HA).2.1).1
    have hik : i < kids.length := by have := (unhide HP).1.1; omega
    have hki : kids[i]? = some (kids[i]'hik) := List.getElem?_eq_getElem _
    generalize kids[i]'hik = k at hki
    obtain ⟨t1, ks, t2, t3⟩ := (unhide HA).1
    obtain ⟨vki, vkk, ek, hkn⟩ := t3.get hki
    obtain ⟨kb, ko, hka, hkb, l0, l1⟩ := t2.1.at ek
    subst hka
    obtain ⟨kia, kik, kka, kkk, rfl, rfl⟩ := one_cells hkn
    have HI : Hid (Calls Tryz.prog 36 #[.agg #[.slice ia its.length ik, .slice (some ⟨kb, ko, none⟩) kids.length kk]] w1 fun e w2 => e = .returned (.bool true) ∧ Hid (Below w1.heap.size w1 w2)) := by
      refine (inner_any _ _ ks w1 (t2.1.below (unhide H1).1)).mono ?_
      rintro e w2 ⟨rfl, hb⟩
      exact ⟨by rw [t3.len]; simp; omega, hb⟩
    have HKN := hide (And.intro hkn (And.intro hkb (And.intro l0 (And.intro l1 (And.intro hki (And.intro hn1 hik))))))
    have hii : (i : Int) < (kids.length : Int) := by omega
    have hi0 : (0 : Int) ≤ (i : Int) := by omega
    obtain ⟨c20, c21, _, _⟩ := (unhide H1).2.1.cells
    clear t1 t2 t3 ek hkn hkb l0 l1 hki hn1 hik
    go_upto_region 5 with (go_at_call 36; refine (unhide HI).mono ?_; rintro e w2 ⟨rfl, hb2⟩; clear HI)
    have H2 : Hid (Below w.heap.size w w2 ∧ NV w2 w.heap.size (.slice ia its.length ik) (.slice (some ⟨kb, ko, none⟩) kids.length kk) ∧ IV w2 (w.heap.size + 1) x ∧ NV w2 (w.heap.size + 1 + 1) (.slice none 0 0) (.slice none 0 0) ∧ w.heap.size + 3 ≤ w2.heap.size) := by
      obtain ⟨q1, q2, q3, q4, q5⟩ := unhide H1
      have hb := unhide hb2
      exact ⟨below_tr q1 hb, q2.below hb, q3.below hb, q4.below hb, by have := hb.size; omega⟩
    have HP40 : Hid (∀ W : World, Below w2.heap.size w2 W → Calls Tryz.prog 20 #[.agg #[.slice kia k.its.length kik, .slice kka k.kids.length kkk], .agg #[.string x.1, .string x.2]] W (PutP W (fun g => O g ∧ g < w.heap.size) d (flat d k) x)) := fun W hb => by
      obtain ⟨r1, r2, r3, r4, r5, r6, r7⟩ := unhide HKN
      exact unhide HIH k _ _ _ W (List.mem_of_getElem? r5) (r1.lt.below (below_tr (unhide H2).1 hb))
    have HS5 : Hid (∀ W : World, Below w2.heap.size w2 W → W.cell? ⟨w.heap.size, 1, none⟩ = some (.slice (some ⟨kb, ko, none⟩) kids.length kk) ∧ W.cell? ⟨kb, ko + i * 2, none⟩ = some (.slice kia k.its.length kik) ∧ W.cell? ⟨kb, ko + i * 2 + 1, none⟩ = some (.slice kka k.kids.length kkk) ∧ W.cell? ⟨w.heap.size + 1, 0, none⟩ = some (.string x.1) ∧ W.cell? ⟨w.heap.size + 1, 1, none⟩ = some (.string x.2)) := fun W hb => by
      obtain ⟨q1, q2, q3, q4, q5⟩ := unhide H2
      obtain ⟨r1, r2, r3, r4, r5, r6, r7⟩ := unhide HKN
      have hbw := below_tr q1 hb
      exact ⟨(q2.below hb).cells.2.1, (hbw.cell (p := ⟨kb, _, none⟩) r2).trans r3, (hbw.cell (p := ⟨kb, _, none⟩) r2).trans r4, (q3.below hb).cells.1, (q3.below hb).cells.2⟩
    clear hb2 H1 c20 c21
    go_cut [8, 9] from 33 to 42 (fun s8 s9 wx => ∃ (b8 : Nat) (pits : List It) (pkids : List (BT d)) (pk pc : Nat) (pa pb : Option Addr), s8 = .pointer (some ⟨b8, 0, none⟩) ∧ s9 = .bool (!hasL x.1 (flat d k)) ∧ Hid (NV wx b8 (.slice pa pits.length pk) (.slice pb pkids.length pc) ∧ NodeAt wx (fun g => (O g ∧ g < w.heap.size) ∨ (w2.heap.size ≤ g ∧ g ≠ b8)) d (BT.mk pits pkids) (.slice pa pits.length pk) (.slice pb pkids.length pc) ∧ (Shp d (BT.mk pits pkids) ∧ pits.length ≤ 16 ∧ flat d (BT.mk pits pkids) = insL x (flat d k)) ∧ w2.heap.size ≤ b8 ∧ Below w2.heap.size w2 wx))
    case first =>
      refine wp_region_held_drew (S := fun w' => w'.cell? ⟨w.heap.size, 1, none⟩ = some (.slice (some ⟨kb, ko, none⟩) kids.length kk) ∧ w'.cell? ⟨kb, ko + i * 2, none⟩ = some (.slice kia k.its.length kik) ∧ w'.cell? ⟨kb, ko + i * 2 + 1, none⟩ = some (.slice kka k.kids.length kkk) ∧ w'.cell? ⟨w.heap.size + 1, 0, none⟩ = some (.string x.1) ∧ w'.cell? ⟨w.heap.size + 1, 1, none⟩ = some (.string x.2)) (by kernel_rfl) (unhide HS5 _ (Below.refl _ _).drew) (fun hHeld => ?_)
      obtain ⟨WS, hWS⟩ : ∃ WS, WS = w2.drew := ⟨_, rfl⟩
      rw [← hWS] at hHeld ⊢
      have HB : Hid (Below w2.heap.size w2 WS) := by rw [hWS]; exact (Below.refl _ _).drew
      clear hWS
      refine hand_to (i := 0) (d := 34) (v := (.pointer (some ⟨w.heap.size, 1, none⟩))) rfl rfl (by kernel_rfl) (by kernel_rfl) (by kernel_rfl) (fun _ _ _ h => h) (Or.inl ⟨by rfl, ?_⟩) hHeld ?_
      · (intro w' hSw; obtain ⟨y0, y1, y2, y3, y4⟩ := hSw; go_simp)
      simp only [Act.put, List.setIfInBounds_toArray, List.set_cons_zero, List.set_cons_succ]
      refine hand_to (i := 1) (d := 35) (v := (.slice (some ⟨kb, ko, none⟩) kids.length kk)) rfl rfl (by kernel_rfl) (by kernel_rfl) (by kernel_rfl) (fun _ _ _ h => h) (Or.inl ⟨by rfl, ?_⟩) hHeld ?_
      · (intro w' hSw; obtain ⟨y0, y1, y2, y3, y4⟩ := hSw; go_simp)
      simp only [Act.put, List.setIfInBounds_toArray, List.set_cons_zero, List.set_cons_succ]
      refine hand_to (i := 2) (d := 36) (v := (.int .i64 (i : Int))) rfl rfl (by kernel_rfl) (by kernel_rfl) (by kernel_rfl) (fun _ _ _ h => h) (Or.inl ⟨by rfl, ?_⟩) hHeld ?_
      · (intro w' hSw; obtain ⟨y0, y1, y2, y3, y4⟩ := hSw; go_simp)
      simp only [Act.put, List.setIfInBounds_toArray, List.set_cons_zero, List.set_cons_succ]
      refine hand_to (i := 3) (d := 37) (v := (.pointer (some ⟨kb, ko + i * 2, none⟩))) rfl rfl (by kernel_rfl) (by kernel_rfl) (by kernel_rfl) (fun _ _ _ h => h) (Or.inl ⟨by rfl, ?_⟩) hHeld ?_
      · (intro w' hSw; obtain ⟨y0, y1, y2, y3, y4⟩ := hSw; go_simp)
      simp only [Act.put, List.setIfInBounds_toArray, List.set_cons_zero, List.set_cons_succ]
      refine hand_to (i := 4) (d := 38) (v := (.agg #[.slice kia k.its.length kik, .slice kka k.kids.length kkk])) rfl rfl (by kernel_rfl) (by kernel_rfl) (by kernel_rfl) (fun _ _ _ h => h) (Or.inl ⟨by rfl, ?_⟩) hHeld ?_
      · (intro w' hSw; obtain ⟨y0, y1, y2, y3, y4⟩ := hSw; go_simp)
      simp only [Act.put, List.setIfInBounds_toArray, List.set_cons_zero, List.set_cons_succ]
      refine hand_to (i := 5) (d := 39) (v := (.agg #[.string x.1, .string x.2])) rfl rfl (by kernel_rfl) (by kernel_rfl) (by kernel_rfl) (fun _ _ _ h => h) (Or.inl ⟨by rfl, ?_⟩) hHeld ?_
      · (intro w' hSw; obtain ⟨y0, y1, y2, y3, y4⟩ := hSw; go_simp)
      simp only [Act.put, List.setIfInBounds_toArray, List.set_cons_zero, List.set_cons_succ]
      refine wpAnyH_ready (rs := [6, 10]) (by kernel_rfl) (by simp) ?_
      refine (AllReadyH.cons rfl (fun K hK => ?_) (AllReadyH.cons rfl (fun K hK => ?_) AllReadyH.nil))
      · skip
        skip
        go_simp
        (go_at_call 20; refine (unhide HP40 WS (unhide HB)).mono ?_; rintro e W6 ⟨pits, pkids, pa, pk, pb, pc, rfl, q1, q2, q3, q4, hbb⟩)
        (go_wp2_with fail)
        have H40 : Hid (NodeAt W6 (fun g => (O g ∧ g < w.heap.size) ∨ w2.heap.size ≤ g) d (BT.mk pits pkids) (.slice pa pits.length pk) (.slice pb pkids.length pc)) := q1.node.mono (fun g hg => hg.imp id (fun h => Nat.le_trans (unhide HB).size h))
        have H41 := hide (And.intro q2 (And.intro q3 q4))
        replace HB := hide (below_tr (unhide HB) hbb)
        clear hbb q1 q2 q3 q4
        refine hK.out _ _ (unhide HS5 W6 (unhide HB)) (fun hHeld2 => ?_)
        clear hK K hHeld
        have hHeld := hHeld2
        clear hHeld2
        try simp only [Act.put, List.setIfInBounds_toArray, List.set_cons_zero, List.set_cons_succ]
        refine hand_to (i := 7) (d := 33) (v := (.tuple #[.agg #[.slice pa pits.length pk, .slice pb pkids.length pc], .bool (!hasL x.1 (flat d k))])) rfl rfl (by kernel_rfl) (by kernel_rfl) (by kernel_rfl) (fun _ _ _ h => h) (Or.inl ⟨by rfl, ?_⟩) hHeld ?_
        · (intro w' hSw; obtain ⟨y0, y1, y2, y3, y4⟩ := hSw; go_simp)
        simp only [Act.put, List.setIfInBounds_toArray, List.set_cons_zero, List.set_cons_succ]
        refine hand_to (i := 8) (d := 41) (v := (.agg #[.slice pa pits.length pk, .slice pb pkids.length pc])) rfl rfl (by kernel_rfl) (by kernel_rfl) (by kernel_rfl) (fun _ _ _ h => h) (Or.inl ⟨by rfl, ?_⟩) hHeld ?_
        · (intro w' hSw; obtain ⟨y0, y1, y2, y3, y4⟩ := hSw; go_simp)
        simp only [Act.put, List.setIfInBounds_toArray, List.set_cons_zero, List.set_cons_succ]
        refine hand_to (i := 9) (d := 42) (v := (.bool (!hasL x.1 (flat d k)))) rfl rfl (by kernel_rfl) (by kernel_rfl) (by kernel_rfl) (fun _ _ _ h => h) (Or.inl ⟨by rfl, ?_⟩) hHeld ?_
        · (intro w' hSw; obtain ⟨y0, y1, y2, y3, y4⟩ := hSw; go_simp)
        simp only [Act.put, List.setIfInBounds_toArray, List.set_cons_zero, List.set_cons_succ]
        refine wpAnyH_ready (rs := [10]) (by kernel_rfl) (by simp) ?_
        refine AllReadyH.cons rfl (fun K hK => ?_) AllReadyH.nil
        skip
        go_simp
        skip
        (go_wp2_with fail)
        obtain ⟨W10, hW⟩ : ∃ W10, W10 = W6.alloc (.cells #[.slice none 0 0, .slice none 0 0] 54) := ⟨_, rfl⟩
        obtain ⟨b8, hb⟩ : ∃ b8, b8 = W6.heap.size := ⟨_, rfl⟩
        rw [← hW, ← hb]
        have hbb : Below W6.heap.size W6 W10 := by rw [hW]; exact (Below.refl _ _).alloc (Nat.le_refl _) _
        replace H40 : Hid (NodeAt W10 (fun g => (O g ∧ g < w.heap.size) ∨ (w2.heap.size ≤ g ∧ g ≠ b8)) d (BT.mk pits pkids) (.slice pa pits.length pk) (.slice pb pkids.length pc)) := ((unhide H40).ltn (fun g hg hl => hg.imp id (fun h => ⟨h, by omega⟩))).below hbb
        have H8 : Hid (NV W10 b8 (.slice none 0 0) (.slice none 0 0) ∧ w2.heap.size ≤ b8) := by
          have hz := (unhide HB).size
          exact ⟨(by rw [hW, hb]; exact NV.new _ _ _), by omega⟩
        replace HB := hide (below_tr (unhide HB) hbb)
        clear hbb hW hb
        refine hK.out _ _ (unhide HS5 W10 (unhide HB)) (fun hHeld2 => ?_)
        clear hK K hHeld
        have hHeld := hHeld2
        clear hHeld2
        try simp only [Act.put, List.setIfInBounds_toArray, List.set_cons_zero, List.set_cons_succ]
        refine wpAnyH_ready (rs := [11]) (by kernel_rfl) (by simp) ?_
        refine AllReadyH.cons rfl (fun K hK => ?_) AllReadyH.nil
        obtain ⟨e0, e1, f0, f1⟩ := (unhide H8).1.cells
        go_simp
        skip
        (go_wp2_with fail)
        obtain ⟨W11, hW⟩ : ∃ W11, W11 = (W10.setCell ⟨b8, 0, none⟩ (.slice pa pits.length pk)).setCell ⟨b8, 1, none⟩ (.slice pb pkids.length pc) := ⟨_, rfl⟩
        rw [← hW]
        have hz := (unhide H8).2
        have hz2 := (unhide H2).2.2.2.2
        replace H8 : Hid (NV W11 b8 (.slice pa pits.length pk) (.slice pb pkids.length pc) ∧ w2.heap.size ≤ b8) := by rw [hW]; exact ⟨set2_at (unhide H8).1, hz⟩
        replace H40 : Hid (NodeAt W11 (fun g => (O g ∧ g < w.heap.size) ∨ (w2.heap.size ≤ g ∧ g ≠ b8)) d (BT.mk pits pkids) (.slice pa pits.length pk) (.slice pb pkids.length pc)) := by rw [hW]; exact (unhide H40).keep (by simp) (fun g hg _ => set2_ne (by rcases hg with hg | hg <;> omega))
        replace HB : Hid (Below w2.heap.size w2 W11) := by rw [hW]; exact set2_below (unhide HB) hz
        clear hW hz hz2 e0 e1 f0 f1
        refine hK.out _ _ (unhide HS5 W11 (unhide HB)) (fun hHeld2 => ?_)
        clear hK K hHeld
        have hHeld := hHeld2
        clear hHeld2
        try simp only [Act.put, List.setIfInBounds_toArray, List.set_cons_zero, List.set_cons_succ]
        refine hand_to (i := 12) (d := 9) (v := (.bool (!hasL x.1 (flat d k)))) rfl rfl (by kernel_rfl) (by kernel_rfl) (by kernel_rfl) (fun _ _ _ h => h) (Or.inl ⟨by rfl, ?_⟩) hHeld ?_
        · (intro w' hSw; obtain ⟨y0, y1, y2, y3, y4⟩ := hSw; go_simp)
        simp only [Act.put, List.setIfInBounds_toArray, List.set_cons_zero, List.set_cons_succ]
        refine wpAnyH_done (by kernel_rfl) ?_ _
        go_wp2_with fail
        go_meet
        exact ⟨b8, pits, pkids, pk, pc, pa, pb, rfl, rfl, (unhide H8).1, unhide H40, unhide H41, (unhide H8).2, unhide HB⟩
      · skip
        skip
        go_simp
        skip
        (go_wp2_with fail)
        obtain ⟨W10, hW⟩ : ∃ W10, W10 = WS.alloc (.cells #[.slice none 0 0, .slice none 0 0] 54) := ⟨_, rfl⟩
        obtain ⟨b8, hb⟩ : ∃ b8, b8 = WS.heap.size := ⟨_, rfl⟩
        rw [← hW, ← hb]
        have hbb : Below WS.heap.size WS W10 := by rw [hW]; exact (Below.refl _ _).alloc (Nat.le_refl _) _
        have H8 : Hid (NV W10 b8 (.slice none 0 0) (.slice none 0 0) ∧ w2.heap.size ≤ b8) := by
          have hz := (unhide HB).size
          exact ⟨(by rw [hW, hb]; exact NV.new _ _ _), by omega⟩
        replace HB := hide (below_tr (unhide HB) hbb)
        clear hbb hW hb
        refine hK.out _ _ (unhide HS5 W10 (unhide HB)) (fun hHeld2 => ?_)
        clear hK K hHeld
        have hHeld := hHeld2
        clear hHeld2
        try simp only [Act.put, List.setIfInBounds_toArray, List.set_cons_zero, List.set_cons_succ]
        refine wpAnyH_ready (rs := [6]) (by kernel_rfl) (by simp) ?_
        refine AllReadyH.cons rfl (fun K hK => ?_) AllReadyH.nil
        skip
        go_simp
        (go_at_call 20; refine (unhide HP40 W10 (unhide HB)).mono ?_; rintro e W6 ⟨pits, pkids, pa, pk, pb, pc, rfl, q1, q2, q3, q4, hbb⟩)
        (go_wp2_with fail)
        have H40 : Hid (NodeAt W6 (fun g => (O g ∧ g < w.heap.size) ∨ (w2.heap.size ≤ g ∧ g ≠ b8)) d (BT.mk pits pkids) (.slice pa pits.length pk) (.slice pb pkids.length pc)) := q1.node.mono (fun g hg => hg.imp id (fun h => by have h1 := blk_lt (unhide H8).1; have h2 := (unhide HB).size; exact ⟨by omega, by omega⟩))
        replace H8 := hide (And.intro ((unhide H8).1.below hbb) (unhide H8).2)
        have H41 := hide (And.intro q2 (And.intro q3 q4))
        replace HB := hide (below_tr (unhide HB) hbb)
        clear hbb q1 q2 q3 q4
        refine hK.out _ _ (unhide HS5 W6 (unhide HB)) (fun hHeld2 => ?_)
        clear hK K hHeld
        have hHeld := hHeld2
        clear hHeld2
        try simp only [Act.put, List.setIfInBounds_toArray, List.set_cons_zero, List.set_cons_succ]
        refine hand_to (i := 7) (d := 33) (v := (.tuple #[.agg #[.slice pa pits.length pk, .slice pb pkids.length pc], .bool (!hasL x.1 (flat d k))])) rfl rfl (by kernel_rfl) (by kernel_rfl) (by kernel_rfl) (fun _ _ _ h => h) (Or.inl ⟨by rfl, ?_⟩) hHeld ?_
        · (intro w' hSw; obtain ⟨y0, y1, y2, y3, y4⟩ := hSw; go_simp)
        simp only [Act.put, List.setIfInBounds_toArray, List.set_cons_zero, List.set_cons_succ]
        refine hand_to (i := 8) (d := 41) (v := (.agg #[.slice pa pits.length pk, .slice pb pkids.length pc])) rfl rfl (by kernel_rfl) (by kernel_rfl) (by kernel_rfl) (fun _ _ _ h => h) (Or.inl ⟨by rfl, ?_⟩) hHeld ?_
        · (intro w' hSw; obtain ⟨y0, y1, y2, y3, y4⟩ := hSw; go_simp)
        simp only [Act.put, List.setIfInBounds_toArray, List.set_cons_zero, List.set_cons_succ]
        refine hand_to (i := 9) (d := 42) (v := (.bool (!hasL x.1 (flat d k)))) rfl rfl (by kernel_rfl) (by kernel_rfl) (by kernel_rfl) (fun _ _ _ h => h) (Or.inl ⟨by rfl, ?_⟩) hHeld ?_
        · (intro w' hSw; obtain ⟨y0, y1, y2, y3, y4⟩ := hSw; go_simp)
        simp only [Act.put, List.setIfInBounds_toArray, List.set_cons_zero, List.set_cons_succ]
        refine wpAnyH_ready (rs := [11]) (by kernel_rfl) (by simp) ?_
        refine AllReadyH.cons rfl (fun K hK => ?_) AllReadyH.nil
        obtain ⟨e0, e1, f0, f1⟩ := (unhide H8).1.cells
        go_simp
        skip
        (go_wp2_with fail)
        obtain ⟨W11, hW⟩ : ∃ W11, W11 = (W6.setCell ⟨b8, 0, none⟩ (.slice pa pits.length pk)).setCell ⟨b8, 1, none⟩ (.slice pb pkids.length pc) := ⟨_, rfl⟩
        rw [← hW]
        have hz := (unhide H8).2
        have hz2 := (unhide H2).2.2.2.2
        replace H8 : Hid (NV W11 b8 (.slice pa pits.length pk) (.slice pb pkids.length pc) ∧ w2.heap.size ≤ b8) := by rw [hW]; exact ⟨set2_at (unhide H8).1, hz⟩
        replace H40 : Hid (NodeAt W11 (fun g => (O g ∧ g < w.heap.size) ∨ (w2.heap.size ≤ g ∧ g ≠ b8)) d (BT.mk pits pkids) (.slice pa pits.length pk) (.slice pb pkids.length pc)) := by rw [hW]; exact (unhide H40).keep (by simp) (fun g hg _ => set2_ne (by rcases hg with hg | hg <;> omega))
        replace HB : Hid (Below w2.heap.size w2 W11) := by rw [hW]; exact set2_below (unhide HB) hz
        clear hW hz hz2 e0 e1 f0 f1
        refine hK.out _ _ (unhide HS5 W11 (unhide HB)) (fun hHeld2 => ?_)
        clear hK K hHeld
        have hHeld := hHeld2
        clear hHeld2
        try simp only [Act.put, List.setIfInBounds_toArray, List.set_cons_zero, List.set_cons_succ]
        refine hand_to (i := 12) (d := 9) (v := (.bool (!hasL x.1 (flat d k)))) rfl rfl (by kernel_rfl) (by kernel_rfl) (by kernel_rfl) (fun _ _ _ h => h) (Or.inl ⟨by rfl, ?_⟩) hHeld ?_
        · (intro w' hSw; obtain ⟨y0, y1, y2, y3, y4⟩ := hSw; go_simp)
        simp only [Act.put, List.setIfInBounds_toArray, List.set_cons_zero, List.set_cons_succ]
        refine wpAnyH_done (by kernel_rfl) ?_ _
        go_wp2_with fail
        go_meet
        exact ⟨b8, pits, pkids, pk, pc, pa, pb, rfl, rfl, (unhide H8).1, unhide H40, unhide H41, (unhide H8).2, unhide HB⟩
    case rest =>
      obtain ⟨b8, pits, pkids, pk, pc, pa, pb, rfl, rfl, HV8⟩ := hcut
      have HW : Hid (Calls Tryz.prog 37 #[.agg #[.slice ia its.length ik, .slice (some ⟨kb, ko, none⟩) kids.length kk], .int .i64 (i : Int), .agg #[.slice pa pits.length pk, .slice pb pkids.length pc]] wc fun e w5 => ∃ a n k' b n' c, e = .returned (.agg #[.slice a n k', .slice b n' c]) ∧ (w5.cell? ⟨w.heap.size + 1 + 1, 0, none⟩ = some (.slice none 0 0) ∧ w5.cell? ⟨w.heap.size + 1 + 1, 1, none⟩ = some (.slice none 0 0) ∧ w5.frozen? ⟨w.heap.size + 1 + 1, 0, none⟩ = false ∧ w5.frozen? ⟨w.heap.size + 1 + 1, 1, none⟩ = false) ∧ Hid (PutP w O (d + 1) (flat (d + 1) (BT.mk its kids)) x (.returned (.tuple #[.agg #[.slice a n k', .slice b n' c], .bool (!hasL x.1 (flat d k))])) ((w5.setCell ⟨w.heap.size + 1 + 1, 0, none⟩ (.slice a n k')).setCell ⟨w.heap.size + 1 + 1, 1, none⟩ (.slice b n' c)))) := by
        obtain ⟨ht, hs, h15, hF, hsi⟩ := unhide HA
        obtain ⟨q1, q2, q3, q4, q5⟩ := unhide H2
        obtain ⟨r1, r2, r3, r4, r5, r6, r7⟩ := unhide HKN
        obtain ⟨u1, u2, ⟨u3, u4, u5⟩, u6, u7⟩ := unhide HV8
        have hp := (unhide HP).1
        have hq := (unhide HQ).symm
        have hbw := below_tr q1 u7
        have htc : NP wc (fun g => (O g ∧ g < w.heap.size) ∨ (w2.heap.size ≤ g ∧ g ≠ b8)) (d + 1) its kids (.slice ia its.length ik) (.slice (some ⟨kb, ko, none⟩) kids.length kk) := (ht.lt.below hbw).mono (fun g hg => .inl hg)
        refine (with_t htc r6 (shp_succ.1 hs).2 (unhide H11) h15 r7 u2 u3 u4).mono ?_
        rintro e w5 ⟨its', kids', ⟨a, k', b, c, rfl, z1, z2⟩, z3, z4, z5, z6⟩
        have v4 := ((q4.below u7).below z2)
        refine ⟨a, _, k', b, _, c, rfl, v4.cells, ?_⟩
        obtain ⟨A, B, e1, e2, e3, e4⟩ := place_split r6 hF hp r5
        have hB : ∀ z ∈ B, kc x.1 z.1 < 0 := fun z hz => by
          rcases e4 with ⟨_, rfl⟩ | ⟨y, B', hy, rfl, _⟩
          · cases hz
          · have hxy := here_none hp hq hy
            rcases List.mem_cons.1 hz with rfl | hz
            · exact hxy
            · rw [e1] at hF
              exact kc_lt_trans hxy ((List.pairwise_cons.1 (List.pairwise_append.1 hF).2.1).1 z hz)
        have hzc := u7.size
        refine ⟨its', kids', a, k', b, c, by rw [e1, has_mid e3 hB], ?_, shp_mk z3 z4, by omega, ?_, set2_below (below_tr hbw z2) (by omega)⟩
        · refine (z1.keep (by simp) (fun g hg hgl => set2_ne ?_)).mono (fun g hg => ?_)
          · rcases hg with (hg | hg) | hg <;> omega
          · rcases hg with (hg | hg) | hg
            · exact .inl hg.1
            · exact .inr (by omega)
            · exact .inr (by omega)
        · rw [z6, e2, u5, e1, ins_mid e3 hB]
      obtain ⟨c20, c21, _, _⟩ := ((unhide H2).2.1.below (unhide HV8).2.2.2.2).cells
      obtain ⟨c80, c81, _, _⟩ := (unhide HV8).1.cells
      generalize (!hasL x.1 (flat d k)) = bn at *
      clear HA HP HQ HKN H2 HV8 HIH H11 HP40 HS5
      go_wp2_with (go_at_call 37; refine (unhide HW).mono ?_; rintro e w5 ⟨a, n, k', b, n', c, rfl, ⟨r0, r1, g0, g1⟩, HE⟩; clear HW)
      refine bodyPost_ret (v := .tuple #[.agg #[.slice a n k', .slice b n' c], .bool bn]) ?_ rfl ?_
      · rw [results_cell_tmp rfl]
        go_simp
      exact unhide HE
end
theorem bt_eta {d : Nat} (t : BT (d + 1)) : BT.mk t.its t.kids = t := rfl
/-- A node's put, whatever its height. -/
theorem put_t (x : It) : ∀ (d : Nat) (t : BT (d + 1)) (vi vk : Value) (O : Nat → Prop) (w : World), NodeAt w O d t vi vk → Shp d t → t.its.length ≤ 15 → (0 < d → 1 ≤ t.its.length) → Srt (flat d t) → Calls Tryz.prog 20 #[.agg #[vi, vk], .agg #[.string x.1, .string x.2]] w (PutP w O d (flat d t) x)
  | 0, t, vi, vk, O, w, hn, hs, h15, _, hF => put_0 (its := t.its) (kids := t.kids) (node_iff.1 hn) hs h15 hF
  | d + 1, t, vi, vk, O, w, hn, hs, h15, h1, hF => by
    refine put_1 (its := t.its) (kids := t.kids) (node_iff.1 hn) hs h15 (h1 (Nat.succ_pos _)) hF (fun k ki kk O' W hk hkn => ?_)
    have hf := (shp_succ.1 hs).2 k hk
    refine put_t x d k ki kk O' W hkn hf.1 hf.2.2 (fun _ => hf.2.1) ?_
    obtain ⟨i, hi⟩ := List.getElem?_of_mem hk
    obtain ⟨A, B, e1, _⟩ := flat_around (t := t) (shp_succ.1 hs).1 hi
    rw [e1] at hF
    exact (List.pairwise_append.1 (List.pairwise_append.1 hF).1).2.1
end Go.Proofs.YtlmjmhpdpgeplaaGreatDoor
