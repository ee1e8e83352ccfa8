/- A tree's Get and Clone. -/
import Derived.Test.YtlmjmhpdpgeplaaGreatDoorTNext
namespace Go.Proofs.YtlmjmhpdpgeplaaGreatDoor
open Go.RowKit Go.Lib

/-- The value of a key. -/
def getL (k : ByteArray) (l : List It) : Option ByteArray := (l.find? fun y => kc y.1 k == 0).map (·.2)
theorem find_srt {k : ByteArray} : ∀ {l : List It}, Srt l → (l.find? fun y => kc y.1 k == 0) = match leastL k l with | none => none | some x => if x.1 = k then some x else none
  | [], _ => rfl
  | y :: l, h => by
    have hs : Srt l := (List.pairwise_cons.1 h).2
    have hy : ∀ z ∈ l, kc y.1 z.1 < 0 := (List.pairwise_cons.1 h).1
    unfold leastL
    rw [List.find?_cons, List.find?_cons]
    by_cases h0 : kc y.1 k = 0
    · have e : y.1 = k := kc_eq h0
      rw [show (kc y.1 k == 0) = true by simp [h0], show decide (0 ≤ kc y.1 k) = true by simp [h0]]
      simp [e]
    · have e : y.1 ≠ k := fun e => h0 (by rw [e]; exact kc_self _)
      have hb : (kc y.1 k == 0) = false := by simp [h0]
      by_cases h1 : 0 ≤ kc y.1 k
      · have hd : decide (0 ≤ kc y.1 k) = true := by simp [h1]
        rw [hb, hd]
        simp only [e, if_false]
        refine List.find?_eq_none.2 (fun z hz => ?_)
        have hlt : kc k y.1 < 0 := by have := kc_cmp.anti y.1 k; omega
        have := kc_lt_trans hlt (hy z hz)
        have h3 := kc_cmp.anti z.1 k
        simp; omega
      · have hd : decide (0 ≤ kc y.1 k) = false := by simp; omega
        rw [hb, hd]
        exact find_srt hs
theorem getL_none {k : ByteArray} {l : List It} (h : getL k l = none) : hasL k l = false := by
  unfold getL at h
  rw [Option.map_eq_none_iff, List.find?_eq_none] at h
  exact hasL_no (fun y hy e => h y hy (by simp [e]))
theorem getL_some {k v : ByteArray} {l : List It} (h : getL k l = some v) : (k, v) ∈ l ∧ hasL k l = true := by
  unfold getL at h
  rw [Option.map_eq_some_iff] at h
  obtain ⟨y, h1, rfl⟩ := h
  have hm := List.mem_of_find?_eq_some h1
  have he := List.find?_some h1
  have e : y.1 = k := kc_eq (by simpa using he)
  refine ⟨by rw [← e]; exact hm, ?_⟩
  unfold hasL
  exact List.any_eq_true.2 ⟨y, hm, he⟩
/-- What Get tells. -/
def GetP (w : World) (F : List It) (key : ByteArray) (e : Ending) (w' : World) : Prop :=
  Below w.heap.size w w' ∧ ((getL key F = none ∧ e = .returned (.tuple #[.slice none 0 0, .bool false])) ∨ ∃ s v, getL key F = some s ∧ e = .returned (.tuple #[v, .bool true]) ∧ BR w' v s)
section
variable {w : World} {O : Nat → Prop} {p : Nat} {F : List It} {kv : Value} {key : ByteArray}
set_option maxHeartbeats 25600000 in
set_option maxRecDepth 100000 in
theorem Get_any (ht : TreeAt w p O F) (hk : Txt w kv key) : Calls Tryz.prog 14 #[.pointer (some ⟨p, 0, none⟩), kv] w (GetP w F key) := by
  obtain ⟨d, t, ra, rb, rn, rk, rn', rk', h1, h2, h3, h4, h5, h6⟩ := ht
  have hpl := blk_lt h1
  have HFS := hide (find_srt (k := key) h5)
  have HTx := hide hk
  have HP19 : Hid (∀ W : World, Below w.heap.size w W → Calls Tryz.prog 24 #[.agg #[.slice ra rn rk, .slice rb rn' rk'], .string key] W (LeastP W F key)) := fun W hb => by
    have := least_t key d t _ _ _ W (h2.below hb) h3.1 h3.2.1 (by rw [h4]; exact h5)
    rw [h4] at this
    exact this
  have HS1 : Hid (∀ W : World, Below w.heap.size w W → W.cell? ⟨p, 0, none⟩ = some (.slice ra rn rk) ∧ W.cell? ⟨p, 1, none⟩ = some (.slice rb rn' rk') ∧ (convert 30 9 kv).run Tryz.prog W = .ok (.string key) W) := fun W hb => ⟨(h1.below hb).cells.1, (h1.below hb).cells.2.1, hk W hb⟩
  clear h1 h2 h3 h4 h5 h6 hk
  go_enter Tryz.func14, Tryz.ntmps14
  go_upto_region 1 with fail
  go_cut [6, 7] from 8 to 17 (fun s6 s7 wx => ∃ (b8 : Nat) (x : It) (v : Value), s6 = .pointer (some ⟨b8, 0, none⟩) ∧ s7 = v ∧ Hid (IV wx b8 x ∧ ((leastL key F = some x ∧ v = .nilIface) ∨ (leastL key F = none ∧ ∃ n, Chn wx 40 (n + 1) v)) ∧ w.heap.size ≤ b8 ∧ Below w.heap.size w wx))
  case first =>
    refine wp_region_held_drew (S := fun w' => w'.cell? ⟨p, 0, none⟩ = some (.slice ra rn rk) ∧ w'.cell? ⟨p, 1, none⟩ = some (.slice rb rn' rk') ∧ (convert 30 9 kv).run Tryz.prog w' = .ok (.string key) w') (by kernel_rfl) (unhide HS1 _ (Below.refl _ _).drew) (fun hHeld => ?_)
    obtain ⟨WS, hWS⟩ : ∃ WS, WS = w.drew := ⟨_, rfl⟩
    rw [← hWS] at hHeld ⊢
    have HB : Hid (Below w.heap.size w WS) := by rw [hWS]; exact (Below.refl _ _).drew
    clear hWS
    refine hand_to (i := 0) (d := 9) (v := (.pointer (some ⟨p, 0, none⟩))) rfl rfl (by kernel_rfl) (by kernel_rfl) (by kernel_rfl) (fun _ _ _ h => h) (Or.inl ⟨by rfl, ?_⟩) hHeld ?_
    · (intro w' hSw; obtain ⟨y0, y1, y2⟩ := hSw; go_simp)
    simp only [Act.put, List.setIfInBounds_toArray, List.set_cons_zero, List.set_cons_succ]
    refine hand_to (i := 1) (d := 10) (v := (.pointer (some ⟨p, 0, none⟩))) rfl rfl (by kernel_rfl) (by kernel_rfl) (by kernel_rfl) (fun _ _ _ h => h) (Or.inl ⟨by rfl, ?_⟩) hHeld ?_
    · (intro w' hSw; obtain ⟨y0, y1, y2⟩ := hSw; go_simp)
    simp only [Act.put, List.setIfInBounds_toArray, List.set_cons_zero, List.set_cons_succ]
    refine hand_to (i := 2) (d := 11) (v := (.pointer (some ⟨p, 0, none⟩))) rfl rfl (by kernel_rfl) (by kernel_rfl) (by kernel_rfl) (fun _ _ _ h => h) (Or.inl ⟨by rfl, ?_⟩) hHeld ?_
    · (intro w' hSw; obtain ⟨y0, y1, y2⟩ := hSw; go_simp)
    simp only [Act.put, List.setIfInBounds_toArray, List.set_cons_zero, List.set_cons_succ]
    refine hand_to (i := 3) (d := 12) (v := (.agg #[.slice ra rn rk, .slice rb rn' rk'])) rfl rfl (by kernel_rfl) (by kernel_rfl) (by kernel_rfl) (fun _ _ _ h => h) (Or.inl ⟨by rfl, ?_⟩) hHeld ?_
    · (intro w' hSw; obtain ⟨y0, y1, y2⟩ := hSw; go_simp)
    simp only [Act.put, List.setIfInBounds_toArray, List.set_cons_zero, List.set_cons_succ]
    refine hand_to (i := 4) (d := 13) (v := kv) rfl rfl (by kernel_rfl) (by kernel_rfl) (by kernel_rfl) (fun _ _ _ h => h) (Or.inl ⟨by rfl, ?_⟩) hHeld ?_
    · (intro w' hSw; obtain ⟨y0, y1, y2⟩ := hSw; go_simp)
    simp only [Act.put, List.setIfInBounds_toArray, List.set_cons_zero, List.set_cons_succ]
    refine hand_to (i := 5) (d := 14) (v := (.string key)) rfl rfl (by kernel_rfl) (by kernel_rfl) (by kernel_rfl) (fun _ _ _ h => h) (Or.inl ⟨by rfl, ?_⟩) hHeld ?_
    · (intro w' hSw; obtain ⟨y0, y1, y2⟩ := hSw; go_simp)
    simp only [Act.put, List.setIfInBounds_toArray, List.set_cons_zero, List.set_cons_succ]
    refine wpAnyH_ready (rs := [6, 10]) (by kernel_rfl) (by simp) ?_
    refine (AllReadyH.cons rfl (fun K hK => ?_) (AllReadyH.cons rfl (fun K hK => ?_) AllReadyH.nil))
    · skip
      skip
      go_simp
      (go_at_call 24; refine (unhide HP19 WS (unhide HB)).mono ?_; rintro e W6 ⟨x, v, rfl, hbb, q1⟩)
      (go_wp2_with fail)
      have H40 : Hid ((leastL key F = some x ∧ v = .nilIface) ∨ (leastL key F = none ∧ ∃ n, Chn W6 40 (n + 1) v)) := q1.imp id (fun h => ⟨h.1, h.2.2⟩)
      replace HB := hide (below_tr (unhide HB) hbb)
      clear hbb q1
      refine hK.out _ _ (unhide HS1 W6 (unhide HB)) (fun hHeld2 => ?_)
      clear hK K hHeld
      have hHeld := hHeld2
      clear hHeld2
      try simp only [Act.put, List.setIfInBounds_toArray, List.set_cons_zero, List.set_cons_succ]
      refine hand_to (i := 7) (d := 8) (v := (.tuple #[.agg #[.string x.1, .string x.2], v])) rfl rfl (by kernel_rfl) (by kernel_rfl) (by kernel_rfl) (fun _ _ _ h => h) (Or.inl ⟨by rfl, ?_⟩) hHeld ?_
      · (intro w' hSw; obtain ⟨y0, y1, y2⟩ := hSw; go_simp)
      simp only [Act.put, List.setIfInBounds_toArray, List.set_cons_zero, List.set_cons_succ]
      refine hand_to (i := 8) (d := 16) (v := (.agg #[.string x.1, .string x.2])) rfl rfl (by kernel_rfl) (by kernel_rfl) (by kernel_rfl) (fun _ _ _ h => h) (Or.inl ⟨by rfl, ?_⟩) hHeld ?_
      · (intro w' hSw; obtain ⟨y0, y1, y2⟩ := hSw; go_simp)
      simp only [Act.put, List.setIfInBounds_toArray, List.set_cons_zero, List.set_cons_succ]
      refine hand_to (i := 9) (d := 17) (v := v) rfl rfl (by kernel_rfl) (by kernel_rfl) (by kernel_rfl) (fun _ _ _ h => h) (Or.inl ⟨by rfl, ?_⟩) hHeld ?_
      · (intro w' hSw; obtain ⟨y0, y1, y2⟩ := hSw; go_simp)
      simp only [Act.put, List.setIfInBounds_toArray, List.set_cons_zero, List.set_cons_succ]
      refine wpAnyH_ready (rs := [10]) (by kernel_rfl) (by simp) ?_
      refine AllReadyH.cons rfl (fun K hK => ?_) AllReadyH.nil
      skip
      go_simp
      skip
      (go_wp2_with fail)
      obtain ⟨W10, hW⟩ : ∃ W10, W10 = W6.alloc (.cells #[.string ⟨#[]⟩, .string ⟨#[]⟩] 62) := ⟨_, rfl⟩
      obtain ⟨b8, hb⟩ : ∃ b8, b8 = W6.heap.size := ⟨_, rfl⟩
      rw [← hW, ← hb]
      have hbb : Below W6.heap.size W6 W10 := by rw [hW]; exact (Below.refl _ _).alloc (Nat.le_refl _) _
      replace H40 : Hid ((leastL key F = some x ∧ v = .nilIface) ∨ (leastL key F = none ∧ ∃ n, Chn W10 40 (n + 1) v)) := (unhide H40).imp id (fun h => ⟨h.1, h.2.imp (fun _ h => h.below hbb)⟩)
      have H8 : Hid (IV W10 b8 (⟨#[]⟩, ⟨#[]⟩) ∧ w.heap.size ≤ b8) := by
        have hz := (unhide HB).size
        exact ⟨(by rw [hW, hb]; exact heap_alloc_new _ _), by omega⟩
      replace HB := hide (below_tr (unhide HB) hbb)
      clear hbb hW hb
      refine hK.out _ _ (unhide HS1 W10 (unhide HB)) (fun hHeld2 => ?_)
      clear hK K hHeld
      have hHeld := hHeld2
      clear hHeld2
      try simp only [Act.put, List.setIfInBounds_toArray, List.set_cons_zero, List.set_cons_succ]
      refine wpAnyH_ready (rs := [11]) (by kernel_rfl) (by simp) ?_
      refine AllReadyH.cons rfl (fun K hK => ?_) AllReadyH.nil
      have e0 : W10.cell? ⟨b8, 0, none⟩ = some (.string ⟨#[]⟩) := (unhide H8).1.cells.1
      have e1 : W10.cell? ⟨b8, 1, none⟩ = some (.string ⟨#[]⟩) := (unhide H8).1.cells.2
      have f0 := frzB2 (unhide H8).1 0
      have f1 := frzB2 (unhide H8).1 1
      go_simp
      skip
      (go_wp2_with fail)
      obtain ⟨W11, hW⟩ : ∃ W11, W11 = (W10.setCell ⟨b8, 0, none⟩ (.string x.1)).setCell ⟨b8, 1, none⟩ (.string x.2) := ⟨_, rfl⟩
      rw [← hW]
      have hz := (unhide H8).2
      replace H40 : Hid ((leastL key F = some x ∧ v = .nilIface) ∨ (leastL key F = none ∧ ∃ n, Chn W11 40 (n + 1) v)) := (unhide H40).imp id (fun h => ⟨h.1, h.2.imp (fun _ h => by rw [hW]; exact h.var2 (unhide H8).1)⟩)
      replace H8 : Hid (IV W11 b8 x ∧ w.heap.size ≤ b8) := by rw [hW]; exact ⟨set2_at (unhide H8).1, hz⟩
      replace HB : Hid (Below w.heap.size w W11) := by rw [hW]; exact set2_below (unhide HB) hz
      clear hW hz e0 e1 f0 f1
      refine hK.out _ _ (unhide HS1 W11 (unhide HB)) (fun hHeld2 => ?_)
      clear hK K hHeld
      have hHeld := hHeld2
      clear hHeld2
      try simp only [Act.put, List.setIfInBounds_toArray, List.set_cons_zero, List.set_cons_succ]
      refine hand_to (i := 12) (d := 7) (v := v) rfl rfl (by kernel_rfl) (by kernel_rfl) (by kernel_rfl) (fun _ _ _ h => h) (Or.inl ⟨by rfl, ?_⟩) hHeld ?_
      · (intro w' hSw; obtain ⟨y0, y1, y2⟩ := hSw; go_simp)
      simp only [Act.put, List.setIfInBounds_toArray, List.set_cons_zero, List.set_cons_succ]
      refine wpAnyH_done (by kernel_rfl) ?_ _
      go_wp2_with fail
      go_meet
      exact ⟨b8, x, v, rfl, rfl, (unhide H8).1, unhide H40, (unhide H8).2, unhide HB⟩
    · skip
      skip
      go_simp
      skip
      (go_wp2_with fail)
      obtain ⟨W10, hW⟩ : ∃ W10, W10 = WS.alloc (.cells #[.string ⟨#[]⟩, .string ⟨#[]⟩] 62) := ⟨_, rfl⟩
      obtain ⟨b8, hb⟩ : ∃ b8, b8 = WS.heap.size := ⟨_, rfl⟩
      rw [← hW, ← hb]
      have hbb : Below WS.heap.size WS W10 := by rw [hW]; exact (Below.refl _ _).alloc (Nat.le_refl _) _
      have H8 : Hid (IV W10 b8 (⟨#[]⟩, ⟨#[]⟩) ∧ w.heap.size ≤ b8) := by
        have hz := (unhide HB).size
        exact ⟨(by rw [hW, hb]; exact heap_alloc_new _ _), by omega⟩
      replace HB := hide (below_tr (unhide HB) hbb)
      clear hbb hW hb
      refine hK.out _ _ (unhide HS1 W10 (unhide HB)) (fun hHeld2 => ?_)
      clear hK K hHeld
      have hHeld := hHeld2
      clear hHeld2
      try simp only [Act.put, List.setIfInBounds_toArray, List.set_cons_zero, List.set_cons_succ]
      refine wpAnyH_ready (rs := [6]) (by kernel_rfl) (by simp) ?_
      refine AllReadyH.cons rfl (fun K hK => ?_) AllReadyH.nil
      skip
      go_simp
      (go_at_call 24; refine (unhide HP19 W10 (unhide HB)).mono ?_; rintro e W6 ⟨x, v, rfl, hbb, q1⟩)
      (go_wp2_with fail)
      have H40 : Hid ((leastL key F = some x ∧ v = .nilIface) ∨ (leastL key F = none ∧ ∃ n, Chn W6 40 (n + 1) v)) := q1.imp id (fun h => ⟨h.1, h.2.2⟩)
      replace H8 := hide (And.intro ((unhide H8).1.below hbb) (unhide H8).2)
      replace HB := hide (below_tr (unhide HB) hbb)
      clear hbb q1
      refine hK.out _ _ (unhide HS1 W6 (unhide HB)) (fun hHeld2 => ?_)
      clear hK K hHeld
      have hHeld := hHeld2
      clear hHeld2
      try simp only [Act.put, List.setIfInBounds_toArray, List.set_cons_zero, List.set_cons_succ]
      refine hand_to (i := 7) (d := 8) (v := (.tuple #[.agg #[.string x.1, .string x.2], v])) rfl rfl (by kernel_rfl) (by kernel_rfl) (by kernel_rfl) (fun _ _ _ h => h) (Or.inl ⟨by rfl, ?_⟩) hHeld ?_
      · (intro w' hSw; obtain ⟨y0, y1, y2⟩ := hSw; go_simp)
      simp only [Act.put, List.setIfInBounds_toArray, List.set_cons_zero, List.set_cons_succ]
      refine hand_to (i := 8) (d := 16) (v := (.agg #[.string x.1, .string x.2])) rfl rfl (by kernel_rfl) (by kernel_rfl) (by kernel_rfl) (fun _ _ _ h => h) (Or.inl ⟨by rfl, ?_⟩) hHeld ?_
      · (intro w' hSw; obtain ⟨y0, y1, y2⟩ := hSw; go_simp)
      simp only [Act.put, List.setIfInBounds_toArray, List.set_cons_zero, List.set_cons_succ]
      refine hand_to (i := 9) (d := 17) (v := v) rfl rfl (by kernel_rfl) (by kernel_rfl) (by kernel_rfl) (fun _ _ _ h => h) (Or.inl ⟨by rfl, ?_⟩) hHeld ?_
      · (intro w' hSw; obtain ⟨y0, y1, y2⟩ := hSw; go_simp)
      simp only [Act.put, List.setIfInBounds_toArray, List.set_cons_zero, List.set_cons_succ]
      refine wpAnyH_ready (rs := [11]) (by kernel_rfl) (by simp) ?_
      refine AllReadyH.cons rfl (fun K hK => ?_) AllReadyH.nil
      have e0 : W6.cell? ⟨b8, 0, none⟩ = some (.string ⟨#[]⟩) := (unhide H8).1.cells.1
      have e1 : W6.cell? ⟨b8, 1, none⟩ = some (.string ⟨#[]⟩) := (unhide H8).1.cells.2
      have f0 := frzB2 (unhide H8).1 0
      have f1 := frzB2 (unhide H8).1 1
      go_simp
      skip
      (go_wp2_with fail)
      obtain ⟨W11, hW⟩ : ∃ W11, W11 = (W6.setCell ⟨b8, 0, none⟩ (.string x.1)).setCell ⟨b8, 1, none⟩ (.string x.2) := ⟨_, rfl⟩
      rw [← hW]
      have hz := (unhide H8).2
      replace H40 : Hid ((leastL key F = some x ∧ v = .nilIface) ∨ (leastL key F = none ∧ ∃ n, Chn W11 40 (n + 1) v)) := (unhide H40).imp id (fun h => ⟨h.1, h.2.imp (fun _ h => by rw [hW]; exact h.var2 (unhide H8).1)⟩)
      replace H8 : Hid (IV W11 b8 x ∧ w.heap.size ≤ b8) := by rw [hW]; exact ⟨set2_at (unhide H8).1, hz⟩
      replace HB : Hid (Below w.heap.size w W11) := by rw [hW]; exact set2_below (unhide HB) hz
      clear hW hz e0 e1 f0 f1
      refine hK.out _ _ (unhide HS1 W11 (unhide HB)) (fun hHeld2 => ?_)
      clear hK K hHeld
      have hHeld := hHeld2
      clear hHeld2
      try simp only [Act.put, List.setIfInBounds_toArray, List.set_cons_zero, List.set_cons_succ]
      refine hand_to (i := 12) (d := 7) (v := v) rfl rfl (by kernel_rfl) (by kernel_rfl) (by kernel_rfl) (fun _ _ _ h => h) (Or.inl ⟨by rfl, ?_⟩) hHeld ?_
      · (intro w' hSw; obtain ⟨y0, y1, y2⟩ := hSw; go_simp)
      simp only [Act.put, List.setIfInBounds_toArray, List.set_cons_zero, List.set_cons_succ]
      refine wpAnyH_done (by kernel_rfl) ?_ _
      go_wp2_with fail
      go_meet
      exact ⟨b8, x, v, rfl, rfl, (unhide H8).1, unhide H40, (unhide H8).2, unhide HB⟩
  case rest =>
    obtain ⟨b8, x, v, rfl, rfl, HV8⟩ := hcut
    have hcv := unhide HTx wc (unhide HV8).2.2.2
    obtain ⟨c80, c81⟩ := (unhide HV8).1.cells
    rcases (unhide HV8).2.1 with ⟨hx, rfl⟩ | ⟨hx, m, hch⟩
    · have HN := hide (Dk.is_nil 40 wc)
      have hfs := unhide HFS
      rw [hx] at hfs
      simp only at hfs
      by_cases he : x.1 = key
      · rw [if_pos he] at hfs
        have hg : getL key F = some x.2 := by unfold getL; rw [hfs]; rfl
        have hcr := conv_run wc x.2
        have HE : Hid (GetP w F key (.returned (.tuple #[.slice (some ⟨wc.heap.size, 0, none⟩) x.2.size (grownCap wc x.2.size 0 5), .bool true])) (bytesWorld wc 5 x.2)) := ⟨below_tr (unhide HV8).2.2.2 (conv_below _ _ _), .inr ⟨x.2, _, hg, rfl, conv_br _ _ _ _⟩⟩
        rw [he] at c80
        clear HFS HTx HP19 HS1 HV8 hx hfs hg he
        go_wp2_with (go_at_call 23; refine (unhide HN).mono ?_; rintro e w5 ⟨rfl, hw5⟩; rw [hw5]; clear hw5 HN)
        go_ret2
        exact unhide HE
      · rw [if_neg he] at hfs
        have hg : getL key F = none := by unfold getL; rw [hfs]; rfl
        have HE : Hid (GetP w F key (.returned (.tuple #[.slice none 0 0, .bool false])) wc) := ⟨(unhide HV8).2.2.2, .inl ⟨hg, rfl⟩⟩
        obtain ⟨x1, hx1⟩ : ∃ x1, x1 = x.1 := ⟨_, rfl⟩
        rw [← hx1] at c80 he
        have hbf : (x1.toList == key.toList) = false := by rw [ByteArray.toList_eq, ByteArray.toList_eq]; exact beq_eq_false_iff_ne.2 (fun h => he (text_ext h))
        clear he
        clear HFS HTx HP19 HS1 HV8 hx hfs hg hx1
        go_wp2_with (go_at_call 23; refine (unhide HN).mono ?_; rintro e w5 ⟨rfl, hw5⟩; rw [hw5]; clear hw5 HN)
        go_ret2
        exact unhide HE
    · have HN := hide (is_chain 40 hch)
      have hfs := unhide HFS
      rw [hx] at hfs
      have HE : Hid (GetP w F key (.returned (.tuple #[.slice none 0 0, .bool false])) wc) := ⟨(unhide HV8).2.2.2, .inl ⟨by unfold getL; rw [hfs]; rfl, rfl⟩⟩
      obtain ⟨Tc, xc, rfl⟩ := hch.iface
      clear HFS HTx HP19 HS1 HV8 hch hx hfs
      go_wp2_with (go_at_call 23; refine (unhide HN).mono ?_; rintro e w5 ⟨rfl, rfl⟩; clear HN)
      go_ret2
      exact unhide HE
set_option maxHeartbeats 6400000 in
set_option maxRecDepth 100000 in
theorem Clone_any (ht : TreeAt w p O F) (ho : ∀ g, O g → g < w.heap.size) : Calls Tryz.prog 8 #[.pointer (some ⟨p, 0, none⟩)] w fun e w' => ∃ q : Nat, e = .returned (.pointer (some ⟨q, 0, none⟩)) ∧ q = w.heap.size ∧ TreeAt w' q O F ∧ Below w.heap.size w w' ∧ w'.heap.size = w.heap.size + 1 := by
  obtain ⟨d, t, ra, rb, rn, rk, rn', rk', h1, h2, h3, h4, h5, h6⟩ := ht
  have HA := hide (And.intro h2 (And.intro h3 (And.intro h4 (And.intro h5 ho))))
  have HS1 : Hid (∀ W : World, Below w.heap.size w W → W.cell? ⟨p, 0, none⟩ = some (.slice ra rn rk) ∧ W.cell? ⟨p, 1, none⟩ = some (.slice rb rn' rk') ∧ W.cell? ⟨p, 2, none⟩ = some (.int .i64 (F.length : Int))) := fun W hb => ⟨(h1.below hb).cells.1, (h1.below hb).cells.2.1, (h1.below hb).cells.2.2.1⟩
  clear h1 h2 h3 h4 h5 h6 ho
  go_enter Tryz.func8, Tryz.ntmps8
  go_upto_region 1 with fail
  refine wp_region_held_drew (S := fun w' => w'.cell? ⟨p, 0, none⟩ = some (.slice ra rn rk) ∧ w'.cell? ⟨p, 1, none⟩ = some (.slice rb rn' rk') ∧ w'.cell? ⟨p, 2, none⟩ = some (.int .i64 (F.length : Int))) (by kernel_rfl) (unhide HS1 _ (Below.refl _ _).drew) (fun hHeld => ?_)
  obtain ⟨WS, hWS⟩ : ∃ WS, WS = w.drew := ⟨_, rfl⟩
  rw [← hWS] at hHeld ⊢
  have HB : Hid (Below w.heap.size w WS) := by rw [hWS]; exact (Below.refl _ _).drew
  have HZ : Hid (WS.heap.size = w.heap.size) := by rw [hWS]; rfl
  clear hWS
  refine hand_to (i := 0) (d := 3) (v := (.pointer (some ⟨p, 0, none⟩))) rfl rfl (by kernel_rfl) (by kernel_rfl) (by kernel_rfl) (fun _ _ _ h => h) (Or.inl ⟨by rfl, ?_⟩) hHeld ?_
  · (intro w' hSw; obtain ⟨y0, y1, y2⟩ := hSw; go_simp)
  simp only [Act.put, List.setIfInBounds_toArray, List.set_cons_zero, List.set_cons_succ]
  refine hand_to (i := 1) (d := 4) (v := (.pointer (some ⟨p, 0, none⟩))) rfl rfl (by kernel_rfl) (by kernel_rfl) (by kernel_rfl) (fun _ _ _ h => h) (Or.inl ⟨by rfl, ?_⟩) hHeld ?_
  · (intro w' hSw; obtain ⟨y0, y1, y2⟩ := hSw; go_simp)
  simp only [Act.put, List.setIfInBounds_toArray, List.set_cons_zero, List.set_cons_succ]
  refine hand_to (i := 2) (d := 5) (v := (.pointer (some ⟨p, 0, none⟩))) rfl rfl (by kernel_rfl) (by kernel_rfl) (by kernel_rfl) (fun _ _ _ h => h) (Or.inl ⟨by rfl, ?_⟩) hHeld ?_
  · (intro w' hSw; obtain ⟨y0, y1, y2⟩ := hSw; go_simp)
  simp only [Act.put, List.setIfInBounds_toArray, List.set_cons_zero, List.set_cons_succ]
  refine hand_to (i := 3) (d := 6) (v := (.agg #[.slice ra rn rk, .slice rb rn' rk'])) rfl rfl (by kernel_rfl) (by kernel_rfl) (by kernel_rfl) (fun _ _ _ h => h) (Or.inl ⟨by rfl, ?_⟩) hHeld ?_
  · (intro w' hSw; obtain ⟨y0, y1, y2⟩ := hSw; go_simp)
  simp only [Act.put, List.setIfInBounds_toArray, List.set_cons_zero, List.set_cons_succ]
  refine hand_to (i := 4) (d := 7) (v := (.pointer (some ⟨p, 0, none⟩))) rfl rfl (by kernel_rfl) (by kernel_rfl) (by kernel_rfl) (fun _ _ _ h => h) (Or.inl ⟨by rfl, ?_⟩) hHeld ?_
  · (intro w' hSw; obtain ⟨y0, y1, y2⟩ := hSw; go_simp)
  simp only [Act.put, List.setIfInBounds_toArray, List.set_cons_zero, List.set_cons_succ]
  refine hand_to (i := 5) (d := 8) (v := (.pointer (some ⟨p, 0, none⟩))) rfl rfl (by kernel_rfl) (by kernel_rfl) (by kernel_rfl) (fun _ _ _ h => h) (Or.inl ⟨by rfl, ?_⟩) hHeld ?_
  · (intro w' hSw; obtain ⟨y0, y1, y2⟩ := hSw; go_simp)
  simp only [Act.put, List.setIfInBounds_toArray, List.set_cons_zero, List.set_cons_succ]
  refine hand_to (i := 6) (d := 9) (v := (.pointer (some ⟨p, 2, none⟩))) rfl rfl (by kernel_rfl) (by kernel_rfl) (by kernel_rfl) (fun _ _ _ h => h) (Or.inl ⟨by rfl, ?_⟩) hHeld ?_
  · (intro w' hSw; obtain ⟨y0, y1, y2⟩ := hSw; go_simp)
  simp only [Act.put, List.setIfInBounds_toArray, List.set_cons_zero, List.set_cons_succ]
  refine hand_to (i := 7) (d := 10) (v := (.int .i64 (F.length : Int))) rfl rfl (by kernel_rfl) (by kernel_rfl) (by kernel_rfl) (fun _ _ _ h => h) (Or.inl ⟨by rfl, ?_⟩) hHeld ?_
  · (intro w' hSw; obtain ⟨y0, y1, y2⟩ := hSw; go_simp)
  simp only [Act.put, List.setIfInBounds_toArray, List.set_cons_zero, List.set_cons_succ]
  refine hand_to (i := 8) (d := 11) (v := (.agg #[.slice ra rn rk, .slice rb rn' rk', .int .i64 (F.length : Int)])) rfl rfl (by kernel_rfl) (by kernel_rfl) (by kernel_rfl) (fun _ _ _ h => h) (Or.inl ⟨by rfl, ?_⟩) hHeld ?_
  · (intro w' hSw; obtain ⟨y0, y1, y2⟩ := hSw; go_simp)
  simp only [Act.put, List.setIfInBounds_toArray, List.set_cons_zero, List.set_cons_succ]
  refine wpAnyH_ready (rs := [9]) (by kernel_rfl) (by simp) ?_
  refine AllReadyH.cons rfl (fun K hK => ?_) AllReadyH.nil
  skip
  go_simp
  skip
  (go_wp2_with fail)
  obtain ⟨W9, hW⟩ : ∃ W9, W9 = WS.alloc (.cells #[.slice ra rn rk, .slice rb rn' rk', .int .i64 (F.length : Int)] 56) := ⟨_, rfl⟩
  obtain ⟨q, hq⟩ : ∃ q, q = WS.heap.size := ⟨_, rfl⟩
  rw [← hW, ← hq]
  have hbb : Below WS.heap.size WS W9 := by rw [hW]; exact (Below.refl _ _).alloc (Nat.le_refl _) _
  have H8 : Hid (TV W9 q (.slice ra rn rk) (.slice rb rn' rk') F.length ∧ W9.heap.size = w.heap.size + 1 ∧ q = w.heap.size) := ⟨(by rw [hW, hq]; exact heap_alloc_new _ _), (by rw [hW, World.size_alloc]; have := unhide HZ; omega), (by have := unhide HZ; omega)⟩
  replace HB := hide (below_tr (unhide HB) hbb)
  clear hbb hW hq HZ
  refine hK.out _ _ (unhide HS1 W9 (unhide HB)) (fun hHeld2 => ?_)
  clear hK K hHeld
  have hHeld := hHeld2
  clear hHeld2
  try simp only [Act.put, List.setIfInBounds_toArray, List.set_cons_zero, List.set_cons_succ]
  refine hand_to (i := 10) (d := 2) (v := (.pointer (some ⟨q, 0, none⟩))) rfl rfl (by kernel_rfl) (by kernel_rfl) (by kernel_rfl) (fun _ _ _ h => h) (Or.inl ⟨by rfl, ?_⟩) hHeld ?_
  · (intro w' hSw; obtain ⟨y0, y1, y2⟩ := hSw; go_simp)
  simp only [Act.put, List.setIfInBounds_toArray, List.set_cons_zero, List.set_cons_succ]
  refine wpAnyH_done (by kernel_rfl) ?_ _
  go_wp2_with fail
  go_ret
  obtain ⟨g2, g3, g4, g5, go⟩ := unhide HA
  obtain ⟨k1, k2, k3⟩ := unhide H8
  exact ⟨q, rfl, k3, ⟨d, t, ra, rb, rn, rk, rn', rk', k1, g2.below (unhide HB), g3, g4, g5, fun h => by have := go q h; omega⟩, unhide HB, k2⟩
end
end Go.Proofs.YtlmjmhpdpgeplaaGreatDoor
