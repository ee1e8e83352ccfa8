/- A tree's New, Len, Seek; a cursor's Next. -/
import Derived.Test.YtlmjmhpdpgeplaaGreatDoorTLeast
import Derived.Test.YtlmjmhpdpgeplaaGreatDoorJTPutTTBr
namespace Go.Proofs.YtlmjmhpdpgeplaaGreatDoor
open Go.RowKit Go.Lib

/-- The least key above a key. -/
def behindK (k : ByteArray) : ByteArray := k ++ ⟨#[0]⟩
/-- A cursor's block. -/
def CV (w : World) (q p : Nat) (fr : ByteArray) : Prop := w.heap[q]? = some (.cells #[.pointer (some ⟨p, 0, none⟩), .string fr] 58 (0, 0))
theorem CV.below {w w' : World} {q p : Nat} {fr : ByteArray} (h : CV w q p fr) (hb : Below w.heap.size w w') : CV w' q p fr := blk_below h hb
theorem CV.cells {w : World} {q p : Nat} {fr : ByteArray} (h : CV w q p fr) : w.cell? ⟨q, 0, none⟩ = some (.pointer (some ⟨p, 0, none⟩)) ∧ w.cell? ⟨q, 1, none⟩ = some (.string fr) ∧ w.frozen? ⟨q, 0, none⟩ = false ∧ w.frozen? ⟨q, 1, none⟩ = false := ⟨cellB2 h 0, cellB2 h 1, frzB2 h 0, frzB2 h 1⟩
/-- A tree that nobody touched. -/
theorem TreeAt.keep {w w' : World} {p : Nat} {O : Nat → Prop} {F : List It} (h : TreeAt w p O F) (hz : w.heap.size ≤ w'.heap.size) (hk : ∀ g, g < w.heap.size → g = p ∨ O g → w'.heap[g]? = w.heap[g]?) : TreeAt w' p O F := by
  obtain ⟨d, t, a, b, n, k, n', k', h1, h2, h3⟩ := h
  exact ⟨d, t, a, b, n, k, n', k', (hk p (blk_lt h1) (.inl rfl)).trans h1, h2.keep hz (fun g hg hl => hk g hl (.inr hg)), h3⟩
theorem TreeAt.below {w w' : World} {p : Nat} {O : Nat → Prop} {F : List It} (h : TreeAt w p O F) (hb : Below w.heap.size w w') : TreeAt w' p O F := h.keep hb.size (fun g hg _ => hb.block g hg)
theorem TreeAt.lt {w : World} {p : Nat} {O : Nat → Prop} {F : List It} (h : TreeAt w p O F) : TreeAt w p (fun g => O g ∧ g < w.heap.size) F := by
  obtain ⟨d, t, a, b, n, k, n', k', h1, h2, h3, h4, h5, h6⟩ := h
  exact ⟨d, t, a, b, n, k, n', k', h1, h2.lt, h3, h4, h5, fun h => h6 h.1⟩
theorem TreeAt.mono {w : World} {p : Nat} {O O' : Nat → Prop} {F : List It} (h : TreeAt w p O F) (ho : ∀ g, O g → O' g) (hp : ¬ O' p) : TreeAt w p O' F := by
  obtain ⟨d, t, a, b, n, k, n', k', h1, h2, h3, h4, h5, h6⟩ := h
  exact ⟨d, t, a, b, n, k, n', k', h1, h2.mono ho, h3, h4, h5, hp⟩
theorem TreeAt.pos {w : World} {p : Nat} {O : Nat → Prop} {F : List It} (h : TreeAt w p O F) : p < w.heap.size := by
  obtain ⟨d, t, a, b, n, k, n', k', h1, _⟩ := h
  exact blk_lt h1
theorem TreeAt.srt {w : World} {p : Nat} {O : Nat → Prop} {F : List It} (h : TreeAt w p O F) : Srt F := by
  obtain ⟨d, t, a, b, n, k, n', k', h1, h2, h3, h4, h5, h6⟩ := h
  exact h5
theorem New_any (w : World) : Calls Tryz.prog 6 #[] w fun e w' => e = .returned (.pointer (some ⟨w.heap.size, 0, none⟩)) ∧ TreeAt w' w.heap.size (fun _ => False) [] ∧ Below w.heap.size w w' ∧ w'.heap.size = w.heap.size + 1 := by
  go_enter Tryz.func6, Tryz.ntmps6
  go_wp2_with fail
  go_ret
  refine ⟨rfl, ⟨0, BT.mk [] [], none, none, 0, 0, 0, 0, heap_alloc_new _ _, ⟨RO.nil _ _, RO.nil _ _, rfl⟩, ⟨rfl, by decide, fun h => absurd h (by decide)⟩, rfl, List.Pairwise.nil, fun h => h⟩, (Below.refl _ _).alloc (Nat.le_refl _) _, by simp⟩
theorem Len_any {w : World} {p : Nat} {O : Nat → Prop} {F : List It} (ht : TreeAt w p O F) : Calls Tryz.prog 15 #[.pointer (some ⟨p, 0, none⟩)] w fun e w' => e = .returned (.int .i64 (F.length : Int)) ∧ w' = w := by
  obtain ⟨d, t, a, b, n, k, n', k', h1, _⟩ := ht
  obtain ⟨_, _, c2, _⟩ := h1.cells
  clear h1
  go_enter Tryz.func15, Tryz.ntmps15
  go_wp2_with fail
  go_ret
  exact ⟨rfl, rfl⟩
theorem Seek_any {w : World} {p : Nat} {kv : Value} {key : ByteArray} (hk : Txt w kv key) : Calls Tryz.prog 7 #[.pointer (some ⟨p, 0, none⟩), kv] w fun e w' => e = .returned (.pointer (some ⟨w.heap.size, 0, none⟩)) ∧ CV w' w.heap.size p key ∧ Below w.heap.size w w' ∧ w'.heap.size = w.heap.size + 1 := by
  have hc := hk w (Below.refl _ _)
  clear hk
  go_enter Tryz.func7, Tryz.ntmps7
  go_wp2_with fail
  go_ret
  exact ⟨rfl, heap_alloc_new _ _, (Below.refl _ _).alloc (Nat.le_refl _) _, by simp⟩
theorem behind_any (k : ByteArray) (w : World) (hk : k.size ≤ 1000000) : Calls Tryz.prog 25 #[.string k] w fun e w' => e = .returned (.string (behindK k)) ∧ w' = w := by
  go_enter Tryz.func25, Tryz.ntmps25
  go_wp2_with fail
  go_ret
  exact ⟨rfl, rfl⟩
/-- What Next tells. -/
def NextP (w : World) (p q : Nat) (F : List It) (fr : ByteArray) (e : Ending) (w' : World) : Prop :=
  FrP q w w' ∧ ((∃ x vk vv, leastL fr F = some x ∧ e = .returned (.tuple #[vk, vv, .bool true]) ∧ CV w' q p (behindK x.1) ∧ BR w' vk x.1 ∧ BR w' vv x.2) ∨ (leastL fr F = none ∧ e = .returned (.tuple #[.slice none 0 0, .slice none 0 0, .bool false]) ∧ CV w' q p fr))
section
variable {w : World} {O : Nat → Prop} {p q : Nat} {F : List It} {fr : ByteArray}
set_option maxHeartbeats 25600000 in
set_option maxRecDepth 100000 in
theorem Next_any (ht : TreeAt w p O F) (hc : CV w q p fr) (hsm : ∀ y ∈ F, y.1.size ≤ 1000000) :
    Calls Tryz.prog 13 #[.pointer (some ⟨q, 0, none⟩)] w (NextP w p q F fr) := by
  obtain ⟨d, t, ra, rb, rn, rk, rn', rk', h1, h2, h3, h4, h5, h6⟩ := ht
  have hpl := blk_lt h1
  have hql := blk_lt hc
  have HA := hide (And.intro hc hsm)
  have HP19 : Hid (∀ W : World, Below w.heap.size w W → Calls Tryz.prog 24 #[.agg #[.slice ra rn rk, .slice rb rn' rk'], .string fr] W (LeastP W F fr)) := fun W hb => by
    have := least_t fr d t _ _ _ W (h2.below hb) h3.1 h3.2.1 (by rw [h4]; exact h5)
    rw [h4] at this
    exact this
  have HS1 : Hid (∀ W : World, Below w.heap.size w W → W.cell? ⟨q, 0, none⟩ = some (.pointer (some ⟨p, 0, none⟩)) ∧ W.cell? ⟨q, 1, none⟩ = some (.string fr) ∧ W.cell? ⟨p, 0, none⟩ = some (.slice ra rn rk) ∧ W.cell? ⟨p, 1, none⟩ = some (.slice rb rn' rk')) := fun W hb => ⟨(hc.below hb).cells.1, (hc.below hb).cells.2.1, (h1.below hb).cells.1, (h1.below hb).cells.2.1⟩
  obtain ⟨c0, c1, _, _⟩ := hc.cells
  clear h1 h2 h3 h4 h5 h6 hc hsm
  go_enter Tryz.func13, Tryz.ntmps13
  go_upto_region 3 with fail
  go_cut [5, 6] from 12 to 26 (fun s5 s6 wx => ∃ (b8 : Nat) (x : It) (v : Value), s5 = .pointer (some ⟨b8, 0, none⟩) ∧ s6 = v ∧ Hid (IV wx b8 x ∧ ((leastL fr F = some x ∧ v = .nilIface) ∨ (leastL fr F = none ∧ ∃ n, Chn wx 40 (n + 1) v)) ∧ w.heap.size ≤ b8 ∧ Below w.heap.size w wx))
  case first =>
    clear c0 c1
    refine wp_region_held_drew (S := fun w' => w'.cell? ⟨q, 0, none⟩ = some (.pointer (some ⟨p, 0, none⟩)) ∧ w'.cell? ⟨q, 1, none⟩ = some (.string fr) ∧ w'.cell? ⟨p, 0, none⟩ = some (.slice ra rn rk) ∧ w'.cell? ⟨p, 1, none⟩ = some (.slice rb rn' rk')) (by kernel_rfl) (unhide HS1 _ (Below.refl _ _).drew) (fun hHeld => ?_)
    obtain ⟨WS, hWS⟩ : ∃ WS, WS = w.drew := ⟨_, rfl⟩
    rw [← hWS] at hHeld ⊢
    have HB : Hid (Below w.heap.size w WS) := by rw [hWS]; exact (Below.refl _ _).drew
    clear hWS
    refine hand_to (i := 0) (d := 13) (v := (.pointer (some ⟨q, 0, none⟩))) rfl rfl (by kernel_rfl) (by kernel_rfl) (by kernel_rfl) (fun _ _ _ h => h) (Or.inl ⟨by rfl, ?_⟩) hHeld ?_
    · (intro w' hSw; obtain ⟨y0, y1, y2, y3⟩ := hSw; go_simp)
    simp only [Act.put, List.setIfInBounds_toArray, List.set_cons_zero, List.set_cons_succ]
    refine hand_to (i := 1) (d := 14) (v := (.pointer (some ⟨q, 0, none⟩))) rfl rfl (by kernel_rfl) (by kernel_rfl) (by kernel_rfl) (fun _ _ _ h => h) (Or.inl ⟨by rfl, ?_⟩) hHeld ?_
    · (intro w' hSw; obtain ⟨y0, y1, y2, y3⟩ := hSw; go_simp)
    simp only [Act.put, List.setIfInBounds_toArray, List.set_cons_zero, List.set_cons_succ]
    refine hand_to (i := 2) (d := 15) (v := (.pointer (some ⟨q, 0, none⟩))) rfl rfl (by kernel_rfl) (by kernel_rfl) (by kernel_rfl) (fun _ _ _ h => h) (Or.inl ⟨by rfl, ?_⟩) hHeld ?_
    · (intro w' hSw; obtain ⟨y0, y1, y2, y3⟩ := hSw; go_simp)
    simp only [Act.put, List.setIfInBounds_toArray, List.set_cons_zero, List.set_cons_succ]
    refine hand_to (i := 3) (d := 16) (v := (.pointer (some ⟨p, 0, none⟩))) rfl rfl (by kernel_rfl) (by kernel_rfl) (by kernel_rfl) (fun _ _ _ h => h) (Or.inl ⟨by rfl, ?_⟩) hHeld ?_
    · (intro w' hSw; obtain ⟨y0, y1, y2, y3⟩ := hSw; go_simp)
    simp only [Act.put, List.setIfInBounds_toArray, List.set_cons_zero, List.set_cons_succ]
    refine hand_to (i := 4) (d := 17) (v := (.pointer (some ⟨p, 0, none⟩))) rfl rfl (by kernel_rfl) (by kernel_rfl) (by kernel_rfl) (fun _ _ _ h => h) (Or.inl ⟨by rfl, ?_⟩) hHeld ?_
    · (intro w' hSw; obtain ⟨y0, y1, y2, y3⟩ := hSw; go_simp)
    simp only [Act.put, List.setIfInBounds_toArray, List.set_cons_zero, List.set_cons_succ]
    refine hand_to (i := 5) (d := 18) (v := (.pointer (some ⟨p, 0, none⟩))) rfl rfl (by kernel_rfl) (by kernel_rfl) (by kernel_rfl) (fun _ _ _ h => h) (Or.inl ⟨by rfl, ?_⟩) hHeld ?_
    · (intro w' hSw; obtain ⟨y0, y1, y2, y3⟩ := hSw; go_simp)
    simp only [Act.put, List.setIfInBounds_toArray, List.set_cons_zero, List.set_cons_succ]
    refine hand_to (i := 6) (d := 19) (v := (.agg #[.slice ra rn rk, .slice rb rn' rk'])) rfl rfl (by kernel_rfl) (by kernel_rfl) (by kernel_rfl) (fun _ _ _ h => h) (Or.inl ⟨by rfl, ?_⟩) hHeld ?_
    · (intro w' hSw; obtain ⟨y0, y1, y2, y3⟩ := hSw; go_simp)
    simp only [Act.put, List.setIfInBounds_toArray, List.set_cons_zero, List.set_cons_succ]
    refine hand_to (i := 7) (d := 20) (v := (.pointer (some ⟨q, 0, none⟩))) rfl rfl (by kernel_rfl) (by kernel_rfl) (by kernel_rfl) (fun _ _ _ h => h) (Or.inl ⟨by rfl, ?_⟩) hHeld ?_
    · (intro w' hSw; obtain ⟨y0, y1, y2, y3⟩ := hSw; go_simp)
    simp only [Act.put, List.setIfInBounds_toArray, List.set_cons_zero, List.set_cons_succ]
    refine hand_to (i := 8) (d := 21) (v := (.pointer (some ⟨q, 0, none⟩))) rfl rfl (by kernel_rfl) (by kernel_rfl) (by kernel_rfl) (fun _ _ _ h => h) (Or.inl ⟨by rfl, ?_⟩) hHeld ?_
    · (intro w' hSw; obtain ⟨y0, y1, y2, y3⟩ := hSw; go_simp)
    simp only [Act.put, List.setIfInBounds_toArray, List.set_cons_zero, List.set_cons_succ]
    refine hand_to (i := 9) (d := 22) (v := (.pointer (some ⟨q, 1, none⟩))) rfl rfl (by kernel_rfl) (by kernel_rfl) (by kernel_rfl) (fun _ _ _ h => h) (Or.inl ⟨by rfl, ?_⟩) hHeld ?_
    · (intro w' hSw; obtain ⟨y0, y1, y2, y3⟩ := hSw; go_simp)
    simp only [Act.put, List.setIfInBounds_toArray, List.set_cons_zero, List.set_cons_succ]
    refine hand_to (i := 10) (d := 23) (v := (.string fr)) rfl rfl (by kernel_rfl) (by kernel_rfl) (by kernel_rfl) (fun _ _ _ h => h) (Or.inl ⟨by rfl, ?_⟩) hHeld ?_
    · (intro w' hSw; obtain ⟨y0, y1, y2, y3⟩ := hSw; go_simp)
    simp only [Act.put, List.setIfInBounds_toArray, List.set_cons_zero, List.set_cons_succ]
    refine wpAnyH_ready (rs := [11, 15]) (by kernel_rfl) (by simp) ?_
    refine (AllReadyH.cons rfl (fun K hK => ?_) (AllReadyH.cons rfl (fun K hK => ?_) AllReadyH.nil))
    · skip
      skip
      go_simp
      (go_at_call 24; refine (unhide HP19 WS (unhide HB)).mono ?_; rintro e W6 ⟨x, v, rfl, hbb, q1⟩)
      (go_wp2_with fail)
      have H40 : Hid ((leastL fr F = some x ∧ v = .nilIface) ∨ (leastL fr F = none ∧ ∃ n, Chn W6 40 (n + 1) v)) := q1.imp id (fun h => ⟨h.1, h.2.2⟩)
      replace HB := hide (below_tr (unhide HB) hbb)
      clear hbb q1
      refine hK.out _ _ (unhide HS1 W6 (unhide HB)) (fun hHeld2 => ?_)
      clear hK K hHeld
      have hHeld := hHeld2
      clear hHeld2
      try simp only [Act.put, List.setIfInBounds_toArray, List.set_cons_zero, List.set_cons_succ]
      refine hand_to (i := 12) (d := 12) (v := (.tuple #[.agg #[.string x.1, .string x.2], v])) rfl rfl (by kernel_rfl) (by kernel_rfl) (by kernel_rfl) (fun _ _ _ h => h) (Or.inl ⟨by rfl, ?_⟩) hHeld ?_
      · (intro w' hSw; obtain ⟨y0, y1, y2, y3⟩ := hSw; go_simp)
      simp only [Act.put, List.setIfInBounds_toArray, List.set_cons_zero, List.set_cons_succ]
      refine hand_to (i := 13) (d := 25) (v := (.agg #[.string x.1, .string x.2])) rfl rfl (by kernel_rfl) (by kernel_rfl) (by kernel_rfl) (fun _ _ _ h => h) (Or.inl ⟨by rfl, ?_⟩) hHeld ?_
      · (intro w' hSw; obtain ⟨y0, y1, y2, y3⟩ := hSw; go_simp)
      simp only [Act.put, List.setIfInBounds_toArray, List.set_cons_zero, List.set_cons_succ]
      refine hand_to (i := 14) (d := 26) (v := v) rfl rfl (by kernel_rfl) (by kernel_rfl) (by kernel_rfl) (fun _ _ _ h => h) (Or.inl ⟨by rfl, ?_⟩) hHeld ?_
      · (intro w' hSw; obtain ⟨y0, y1, y2, y3⟩ := hSw; go_simp)
      simp only [Act.put, List.setIfInBounds_toArray, List.set_cons_zero, List.set_cons_succ]
      refine wpAnyH_ready (rs := [15]) (by kernel_rfl) (by simp) ?_
      refine AllReadyH.cons rfl (fun K hK => ?_) AllReadyH.nil
      skip
      go_simp
      skip
      (go_wp2_with fail)
      obtain ⟨W10, hW⟩ : ∃ W10, W10 = W6.alloc (.cells #[.string ⟨#[]⟩, .string ⟨#[]⟩] 62) := ⟨_, rfl⟩
      obtain ⟨b8, hb⟩ : ∃ b8, b8 = W6.heap.size := ⟨_, rfl⟩
      rw [← hW, ← hb]
      have hbb : Below W6.heap.size W6 W10 := by rw [hW]; exact (Below.refl _ _).alloc (Nat.le_refl _) _
      replace H40 : Hid ((leastL fr F = some x ∧ v = .nilIface) ∨ (leastL fr F = none ∧ ∃ n, Chn W10 40 (n + 1) v)) := (unhide H40).imp id (fun h => ⟨h.1, h.2.imp (fun _ h => h.below hbb)⟩)
      have H8 : Hid (IV W10 b8 (⟨#[]⟩, ⟨#[]⟩) ∧ w.heap.size ≤ b8) := by
        have hz := (unhide HB).size
        exact ⟨(by rw [hW, hb]; exact heap_alloc_new _ _), by omega⟩
      replace HB := hide (below_tr (unhide HB) hbb)
      clear hbb hW hb
      refine hK.out _ _ (unhide HS1 W10 (unhide HB)) (fun hHeld2 => ?_)
      clear hK K hHeld
      have hHeld := hHeld2
      clear hHeld2
      try simp only [Act.put, List.setIfInBounds_toArray, List.set_cons_zero, List.set_cons_succ]
      refine wpAnyH_ready (rs := [16]) (by kernel_rfl) (by simp) ?_
      refine AllReadyH.cons rfl (fun K hK => ?_) AllReadyH.nil
      have e0 : W10.cell? ⟨b8, 0, none⟩ = some (.string ⟨#[]⟩) := (unhide H8).1.cells.1
      have e1 : W10.cell? ⟨b8, 1, none⟩ = some (.string ⟨#[]⟩) := (unhide H8).1.cells.2
      have f0 := frzB2 (unhide H8).1 0
      have f1 := frzB2 (unhide H8).1 1
      go_simp
      skip
      (go_wp2_with fail)
      obtain ⟨W11, hW⟩ : ∃ W11, W11 = (W10.setCell ⟨b8, 0, none⟩ (.string x.1)).setCell ⟨b8, 1, none⟩ (.string x.2) := ⟨_, rfl⟩
      rw [← hW]
      have hz := (unhide H8).2
      replace H40 : Hid ((leastL fr F = some x ∧ v = .nilIface) ∨ (leastL fr F = none ∧ ∃ n, Chn W11 40 (n + 1) v)) := (unhide H40).imp id (fun h => ⟨h.1, h.2.imp (fun _ h => by rw [hW]; exact h.var2 (unhide H8).1)⟩)
      replace H8 : Hid (IV W11 b8 x ∧ w.heap.size ≤ b8) := by rw [hW]; exact ⟨set2_at (unhide H8).1, hz⟩
      replace HB : Hid (Below w.heap.size w W11) := by rw [hW]; exact set2_below (unhide HB) hz
      clear hW hz e0 e1 f0 f1
      refine hK.out _ _ (unhide HS1 W11 (unhide HB)) (fun hHeld2 => ?_)
      clear hK K hHeld
      have hHeld := hHeld2
      clear hHeld2
      try simp only [Act.put, List.setIfInBounds_toArray, List.set_cons_zero, List.set_cons_succ]
      refine hand_to (i := 17) (d := 6) (v := v) rfl rfl (by kernel_rfl) (by kernel_rfl) (by kernel_rfl) (fun _ _ _ h => h) (Or.inl ⟨by rfl, ?_⟩) hHeld ?_
      · (intro w' hSw; obtain ⟨y0, y1, y2, y3⟩ := hSw; go_simp)
      simp only [Act.put, List.setIfInBounds_toArray, List.set_cons_zero, List.set_cons_succ]
      refine wpAnyH_done (by kernel_rfl) ?_ _
      go_wp2_with fail
      go_meet
      exact ⟨b8, x, v, rfl, rfl, (unhide H8).1, unhide H40, (unhide H8).2, unhide HB⟩
    · skip
      skip
      go_simp
      skip
      (go_wp2_with fail)
      obtain ⟨W10, hW⟩ : ∃ W10, W10 = WS.alloc (.cells #[.string ⟨#[]⟩, .string ⟨#[]⟩] 62) := ⟨_, rfl⟩
      obtain ⟨b8, hb⟩ : ∃ b8, b8 = WS.heap.size := ⟨_, rfl⟩
      rw [← hW, ← hb]
      have hbb : Below WS.heap.size WS W10 := by rw [hW]; exact (Below.refl _ _).alloc (Nat.le_refl _) _
      have H8 : Hid (IV W10 b8 (⟨#[]⟩, ⟨#[]⟩) ∧ w.heap.size ≤ b8) := by
        have hz := (unhide HB).size
        exact ⟨(by rw [hW, hb]; exact heap_alloc_new _ _), by omega⟩
      replace HB := hide (below_tr (unhide HB) hbb)
      clear hbb hW hb
      refine hK.out _ _ (unhide HS1 W10 (unhide HB)) (fun hHeld2 => ?_)
      clear hK K hHeld
      have hHeld := hHeld2
      clear hHeld2
      try simp only [Act.put, List.setIfInBounds_toArray, List.set_cons_zero, List.set_cons_succ]
      refine wpAnyH_ready (rs := [11]) (by kernel_rfl) (by simp) ?_
      refine AllReadyH.cons rfl (fun K hK => ?_) AllReadyH.nil
      skip
      go_simp
      (go_at_call 24; refine (unhide HP19 W10 (unhide HB)).mono ?_; rintro e W6 ⟨x, v, rfl, hbb, q1⟩)
      (go_wp2_with fail)
      have H40 : Hid ((leastL fr F = some x ∧ v = .nilIface) ∨ (leastL fr F = none ∧ ∃ n, Chn W6 40 (n + 1) v)) := q1.imp id (fun h => ⟨h.1, h.2.2⟩)
      replace H8 := hide (And.intro ((unhide H8).1.below hbb) (unhide H8).2)
      replace HB := hide (below_tr (unhide HB) hbb)
      clear hbb q1
      refine hK.out _ _ (unhide HS1 W6 (unhide HB)) (fun hHeld2 => ?_)
      clear hK K hHeld
      have hHeld := hHeld2
      clear hHeld2
      try simp only [Act.put, List.setIfInBounds_toArray, List.set_cons_zero, List.set_cons_succ]
      refine hand_to (i := 12) (d := 12) (v := (.tuple #[.agg #[.string x.1, .string x.2], v])) rfl rfl (by kernel_rfl) (by kernel_rfl) (by kernel_rfl) (fun _ _ _ h => h) (Or.inl ⟨by rfl, ?_⟩) hHeld ?_
      · (intro w' hSw; obtain ⟨y0, y1, y2, y3⟩ := hSw; go_simp)
      simp only [Act.put, List.setIfInBounds_toArray, List.set_cons_zero, List.set_cons_succ]
      refine hand_to (i := 13) (d := 25) (v := (.agg #[.string x.1, .string x.2])) rfl rfl (by kernel_rfl) (by kernel_rfl) (by kernel_rfl) (fun _ _ _ h => h) (Or.inl ⟨by rfl, ?_⟩) hHeld ?_
      · (intro w' hSw; obtain ⟨y0, y1, y2, y3⟩ := hSw; go_simp)
      simp only [Act.put, List.setIfInBounds_toArray, List.set_cons_zero, List.set_cons_succ]
      refine hand_to (i := 14) (d := 26) (v := v) rfl rfl (by kernel_rfl) (by kernel_rfl) (by kernel_rfl) (fun _ _ _ h => h) (Or.inl ⟨by rfl, ?_⟩) hHeld ?_
      · (intro w' hSw; obtain ⟨y0, y1, y2, y3⟩ := hSw; go_simp)
      simp only [Act.put, List.setIfInBounds_toArray, List.set_cons_zero, List.set_cons_succ]
      refine wpAnyH_ready (rs := [16]) (by kernel_rfl) (by simp) ?_
      refine AllReadyH.cons rfl (fun K hK => ?_) AllReadyH.nil
      have e0 : W6.cell? ⟨b8, 0, none⟩ = some (.string ⟨#[]⟩) := (unhide H8).1.cells.1
      have e1 : W6.cell? ⟨b8, 1, none⟩ = some (.string ⟨#[]⟩) := (unhide H8).1.cells.2
      have f0 := frzB2 (unhide H8).1 0
      have f1 := frzB2 (unhide H8).1 1
      go_simp
      skip
      (go_wp2_with fail)
      obtain ⟨W11, hW⟩ : ∃ W11, W11 = (W6.setCell ⟨b8, 0, none⟩ (.string x.1)).setCell ⟨b8, 1, none⟩ (.string x.2) := ⟨_, rfl⟩
      rw [← hW]
      have hz := (unhide H8).2
      replace H40 : Hid ((leastL fr F = some x ∧ v = .nilIface) ∨ (leastL fr F = none ∧ ∃ n, Chn W11 40 (n + 1) v)) := (unhide H40).imp id (fun h => ⟨h.1, h.2.imp (fun _ h => by rw [hW]; exact h.var2 (unhide H8).1)⟩)
      replace H8 : Hid (IV W11 b8 x ∧ w.heap.size ≤ b8) := by rw [hW]; exact ⟨set2_at (unhide H8).1, hz⟩
      replace HB : Hid (Below w.heap.size w W11) := by rw [hW]; exact set2_below (unhide HB) hz
      clear hW hz e0 e1 f0 f1
      refine hK.out _ _ (unhide HS1 W11 (unhide HB)) (fun hHeld2 => ?_)
      clear hK K hHeld
      have hHeld := hHeld2
      clear hHeld2
      try simp only [Act.put, List.setIfInBounds_toArray, List.set_cons_zero, List.set_cons_succ]
      refine hand_to (i := 17) (d := 6) (v := v) rfl rfl (by kernel_rfl) (by kernel_rfl) (by kernel_rfl) (fun _ _ _ h => h) (Or.inl ⟨by rfl, ?_⟩) hHeld ?_
      · (intro w' hSw; obtain ⟨y0, y1, y2, y3⟩ := hSw; go_simp)
      simp only [Act.put, List.setIfInBounds_toArray, List.set_cons_zero, List.set_cons_succ]
      refine wpAnyH_done (by kernel_rfl) ?_ _
      go_wp2_with fail
      go_meet
      exact ⟨b8, x, v, rfl, rfl, (unhide H8).1, unhide H40, (unhide H8).2, unhide HB⟩
  case rest =>
    clear c0 c1
    obtain ⟨b8, x, v, rfl, rfl, HV8⟩ := hcut
    rcases (unhide HV8).2.1 with ⟨hx, rfl⟩ | ⟨hx, m, hch⟩
    · have HN := hide (Dk.is_nil 40 wc)
      have hxs : x.1.size ≤ 1000000 := (unhide HA).2 x (List.mem_of_find?_eq_some hx)
      have HBh := hide (fun W => behind_any x.1 W hxs)
      obtain ⟨c80, c81⟩ := (unhide HV8).1.cells
      have hcw := (unhide HA).1.below (unhide HV8).2.2.2
      obtain ⟨e0, e1, f0, f1⟩ := hcw.cells
      have HCW := hide hcw
      have hqb : q ≠ b8 := by have := (unhide HV8).2.2.1; omega
      have hqc : q < wc.heap.size := blk_lt hcw
      clear hcw HP19 HS1
      go_upto_region 7 with (first
        | (go_at_call 23; refine (unhide HN).mono ?_; rintro e w5 ⟨rfl, hw5⟩; rw [hw5]; clear hw5 HN)
        | (go_at_call 25; refine (unhide HBh _).mono ?_; rintro e w5 ⟨rfl, hw5⟩; rw [hw5]; clear hw5 HBh))
      obtain ⟨w6, hw6⟩ : ∃ w6, w6 = wc.setCell ⟨q, 1, none⟩ (.string (behindK x.1)) := ⟨_, rfl⟩
      rw [← hw6]
      have H6 : Hid (IV w6 b8 x ∧ CV w6 q p (behindK x.1) ∧ FrP q w w6) := by
        rw [hw6]
        exact ⟨(Below.heap_setCell wc ⟨q, 1, none⟩ _ b8 (Ne.symm hqb)).trans (unhide HV8).1, (heap_set_at (unhide HCW) _ _).trans rfl, (FrP.of_below (unhide HV8).2.2.2).trans (FrP.set _ _ _ _)⟩
      have HS7 : Hid (∀ W : World, Below w6.heap.size w6 W → W.cell? ⟨b8, 0, none⟩ = some (.string x.1) ∧ W.cell? ⟨b8, 1, none⟩ = some (.string x.2)) := fun W hb => ((unhide H6).1.below hb).cells
      have HX := hide hx
      clear hw6 HV8 HCW c80 c81 e0 e1 f0 f1 HA hx
      refine wp_region_held_drew (S := fun w' => w'.cell? ⟨b8, 0, none⟩ = some (.string x.1) ∧ w'.cell? ⟨b8, 1, none⟩ = some (.string x.2)) (by kernel_rfl) (unhide HS7 _ (Below.refl _ _).drew) (fun hHeld => ?_)
      obtain ⟨WS, hWS⟩ : ∃ WS, WS = w6.drew := ⟨_, rfl⟩
      rw [← hWS] at hHeld ⊢
      have HB : Hid (Below w6.heap.size w6 WS) := by rw [hWS]; exact (Below.refl _ _).drew
      clear hWS
      refine hand_to (i := 0) (d := 36) (v := (.pointer (some ⟨b8, 0, none⟩))) rfl rfl (by kernel_rfl) (by kernel_rfl) (by kernel_rfl) (fun _ _ _ h => h) (Or.inl ⟨by rfl, ?_⟩) hHeld ?_
      · (intro w' hSw; obtain ⟨y0, y1⟩ := hSw; go_simp)
      simp only [Act.put, List.setIfInBounds_toArray, List.set_cons_zero, List.set_cons_succ]
      refine hand_to (i := 1) (d := 37) (v := (.string x.1)) rfl rfl (by kernel_rfl) (by kernel_rfl) (by kernel_rfl) (fun _ _ _ h => h) (Or.inl ⟨by rfl, ?_⟩) hHeld ?_
      · (intro w' hSw; obtain ⟨y0, y1⟩ := hSw; go_simp)
      simp only [Act.put, List.setIfInBounds_toArray, List.set_cons_zero, List.set_cons_succ]
      refine hand_to (i := 3) (d := 39) (v := (.pointer (some ⟨b8, 1, none⟩))) rfl rfl (by kernel_rfl) (by kernel_rfl) (by kernel_rfl) (fun _ _ _ h => h) (Or.inl ⟨by rfl, ?_⟩) hHeld ?_
      · (intro w' hSw; obtain ⟨y0, y1⟩ := hSw; go_simp)
      simp only [Act.put, List.setIfInBounds_toArray, List.set_cons_zero, List.set_cons_succ]
      refine hand_to (i := 4) (d := 40) (v := (.string x.2)) rfl rfl (by kernel_rfl) (by kernel_rfl) (by kernel_rfl) (fun _ _ _ h => h) (Or.inl ⟨by rfl, ?_⟩) hHeld ?_
      · (intro w' hSw; obtain ⟨y0, y1⟩ := hSw; go_simp)
      simp only [Act.put, List.setIfInBounds_toArray, List.set_cons_zero, List.set_cons_succ]
      refine wpAnyH_ready (rs := [2, 5]) (by kernel_rfl) (by simp) ?_
      refine (AllReadyH.cons rfl (fun K hK => ?_) (AllReadyH.cons rfl (fun K hK => ?_) AllReadyH.nil))
      · skip
        have hcv := conv_run WS x.1
        go_simp
        skip
        (go_wp2_with fail)
        obtain ⟨V2, hW⟩ : ∃ V2, V2 = bytesWorld WS 5 x.1 := ⟨_, rfl⟩
        have hbb : Below WS.heap.size WS V2 := by rw [hW]; exact conv_below _ _ _
        have Ha : Hid (BR V2 (.slice (some ⟨WS.heap.size, 0, none⟩) x.1.size (grownCap WS x.1.size 0 5)) x.1) := by rw [hW]; exact conv_br _ _ _ _
        obtain ⟨va, hva⟩ : ∃ va, va = Value.slice (some ⟨WS.heap.size, 0, none⟩) x.1.size (grownCap WS x.1.size 0 5) := ⟨_, rfl⟩
        rw [← hW, ← hva]
        rw [← hva] at Ha
        replace HB := hide (below_tr (unhide HB) hbb)
        clear hbb hW hcv hva
        refine hK.out _ _ (unhide HS7 V2 (unhide HB)) (fun hHeld2 => ?_)
        clear hK K hHeld
        have hHeld := hHeld2
        clear hHeld2
        try simp only [Act.put, List.setIfInBounds_toArray, List.set_cons_zero, List.set_cons_succ]
        refine hand_to (i := 6) (d := 2) (v := va) rfl rfl (by kernel_rfl) (by kernel_rfl) (by kernel_rfl) (fun _ _ _ h => h) (Or.inl ⟨by rfl, ?_⟩) hHeld ?_
        · (intro w' hSw; obtain ⟨y0, y1⟩ := hSw; go_simp)
        simp only [Act.put, List.setIfInBounds_toArray, List.set_cons_zero, List.set_cons_succ]
        refine wpAnyH_ready (rs := [5]) (by kernel_rfl) (by simp) ?_
        refine AllReadyH.cons rfl (fun K hK => ?_) AllReadyH.nil
        have hcv := conv_run V2 x.2
        go_simp
        skip
        (go_wp2_with fail)
        obtain ⟨V5, hW⟩ : ∃ V5, V5 = bytesWorld V2 5 x.2 := ⟨_, rfl⟩
        have hbb : Below V2.heap.size V2 V5 := by rw [hW]; exact conv_below _ _ _
        have Hb : Hid (BR V5 (.slice (some ⟨V2.heap.size, 0, none⟩) x.2.size (grownCap V2 x.2.size 0 5)) x.2) := by rw [hW]; exact conv_br _ _ _ _
        obtain ⟨vb, hvb⟩ : ∃ vb, vb = Value.slice (some ⟨V2.heap.size, 0, none⟩) x.2.size (grownCap V2 x.2.size 0 5) := ⟨_, rfl⟩
        rw [← hW, ← hvb]
        rw [← hvb] at Hb
        replace Ha := hide ((unhide Ha).below hbb)
        replace HB := hide (below_tr (unhide HB) hbb)
        clear hbb hW hcv hvb
        refine hK.out _ _ (unhide HS7 V5 (unhide HB)) (fun hHeld2 => ?_)
        clear hK K hHeld
        have hHeld := hHeld2
        clear hHeld2
        try simp only [Act.put, List.setIfInBounds_toArray, List.set_cons_zero, List.set_cons_succ]
        refine hand_to (i := 7) (d := 3) (v := vb) rfl rfl (by kernel_rfl) (by kernel_rfl) (by kernel_rfl) (fun _ _ _ h => h) (Or.inl ⟨by rfl, ?_⟩) hHeld ?_
        · (intro w' hSw; obtain ⟨y0, y1⟩ := hSw; go_simp)
        simp only [Act.put, List.setIfInBounds_toArray, List.set_cons_zero, List.set_cons_succ]
        refine hand_to (i := 8) (d := 4) (v := (.bool true)) rfl rfl (by kernel_rfl) (by kernel_rfl) (by kernel_rfl) (fun _ _ _ h => h) (Or.inl ⟨by rfl, ?_⟩) hHeld ?_
        · (intro w' hSw; obtain ⟨y0, y1⟩ := hSw; go_simp)
        simp only [Act.put, List.setIfInBounds_toArray, List.set_cons_zero, List.set_cons_succ]
        refine wpAnyH_done (by kernel_rfl) ?_ _
        go_wp2_with fail
        go_ret3
        exact ⟨(unhide H6).2.2.trans (FrP.of_below (unhide HB)), .inl ⟨x, va, vb, unhide HX, rfl, (unhide H6).2.1.below (unhide HB), unhide Ha, unhide Hb⟩⟩
      · skip
        have hcv := conv_run WS x.2
        go_simp
        skip
        (go_wp2_with fail)
        obtain ⟨V5, hW⟩ : ∃ V5, V5 = bytesWorld WS 5 x.2 := ⟨_, rfl⟩
        have hbb : Below WS.heap.size WS V5 := by rw [hW]; exact conv_below _ _ _
        have Hb : Hid (BR V5 (.slice (some ⟨WS.heap.size, 0, none⟩) x.2.size (grownCap WS x.2.size 0 5)) x.2) := by rw [hW]; exact conv_br _ _ _ _
        obtain ⟨vb, hvb⟩ : ∃ vb, vb = Value.slice (some ⟨WS.heap.size, 0, none⟩) x.2.size (grownCap WS x.2.size 0 5) := ⟨_, rfl⟩
        rw [← hW, ← hvb]
        rw [← hvb] at Hb
        replace HB := hide (below_tr (unhide HB) hbb)
        clear hbb hW hcv hvb
        refine hK.out _ _ (unhide HS7 V5 (unhide HB)) (fun hHeld2 => ?_)
        clear hK K hHeld
        have hHeld := hHeld2
        clear hHeld2
        try simp only [Act.put, List.setIfInBounds_toArray, List.set_cons_zero, List.set_cons_succ]
        refine wpAnyH_ready (rs := [2]) (by kernel_rfl) (by simp) ?_
        refine AllReadyH.cons rfl (fun K hK => ?_) AllReadyH.nil
        have hcv := conv_run V5 x.1
        go_simp
        skip
        (go_wp2_with fail)
        obtain ⟨V2, hW⟩ : ∃ V2, V2 = bytesWorld V5 5 x.1 := ⟨_, rfl⟩
        have hbb : Below V5.heap.size V5 V2 := by rw [hW]; exact conv_below _ _ _
        have Ha : Hid (BR V2 (.slice (some ⟨V5.heap.size, 0, none⟩) x.1.size (grownCap V5 x.1.size 0 5)) x.1) := by rw [hW]; exact conv_br _ _ _ _
        obtain ⟨va, hva⟩ : ∃ va, va = Value.slice (some ⟨V5.heap.size, 0, none⟩) x.1.size (grownCap V5 x.1.size 0 5) := ⟨_, rfl⟩
        rw [← hW, ← hva]
        rw [← hva] at Ha
        replace Hb := hide ((unhide Hb).below hbb)
        replace HB := hide (below_tr (unhide HB) hbb)
        clear hbb hW hcv hva
        refine hK.out _ _ (unhide HS7 V2 (unhide HB)) (fun hHeld2 => ?_)
        clear hK K hHeld
        have hHeld := hHeld2
        clear hHeld2
        try simp only [Act.put, List.setIfInBounds_toArray, List.set_cons_zero, List.set_cons_succ]
        refine hand_to (i := 6) (d := 2) (v := va) rfl rfl (by kernel_rfl) (by kernel_rfl) (by kernel_rfl) (fun _ _ _ h => h) (Or.inl ⟨by rfl, ?_⟩) hHeld ?_
        · (intro w' hSw; obtain ⟨y0, y1⟩ := hSw; go_simp)
        simp only [Act.put, List.setIfInBounds_toArray, List.set_cons_zero, List.set_cons_succ]
        refine hand_to (i := 7) (d := 3) (v := vb) rfl rfl (by kernel_rfl) (by kernel_rfl) (by kernel_rfl) (fun _ _ _ h => h) (Or.inl ⟨by rfl, ?_⟩) hHeld ?_
        · (intro w' hSw; obtain ⟨y0, y1⟩ := hSw; go_simp)
        simp only [Act.put, List.setIfInBounds_toArray, List.set_cons_zero, List.set_cons_succ]
        refine hand_to (i := 8) (d := 4) (v := (.bool true)) rfl rfl (by kernel_rfl) (by kernel_rfl) (by kernel_rfl) (fun _ _ _ h => h) (Or.inl ⟨by rfl, ?_⟩) hHeld ?_
        · (intro w' hSw; obtain ⟨y0, y1⟩ := hSw; go_simp)
        simp only [Act.put, List.setIfInBounds_toArray, List.set_cons_zero, List.set_cons_succ]
        refine wpAnyH_done (by kernel_rfl) ?_ _
        go_wp2_with fail
        go_ret3
        exact ⟨(unhide H6).2.2.trans (FrP.of_below (unhide HB)), .inl ⟨x, va, vb, unhide HX, rfl, (unhide H6).2.1.below (unhide HB), unhide Ha, unhide Hb⟩⟩
    · have HN := hide (is_chain 40 hch)
      have HE : Hid (NextP w p q F fr (.returned (.tuple #[.slice none 0 0, .slice none 0 0, .bool false])) wc) := ⟨FrP.of_below (unhide HV8).2.2.2, .inr ⟨hx, rfl, (unhide HA).1.below (unhide HV8).2.2.2⟩⟩
      obtain ⟨Tc, xc, rfl⟩ := hch.iface
      clear HA HP19 HS1 HV8 hch hx
      go_wp2_with (go_at_call 23; refine (unhide HN).mono ?_; rintro e w5 ⟨rfl, rfl⟩; clear HN)
      go_ret3
      exact unhide HE
end
end Go.Proofs.YtlmjmhpdpgeplaaGreatDoor
