/- A tree's Put. -/
import Derived.Test.YtlmjmhpdpgeplaaGreatDoorTRoot
import Derived.Lib.ConvBytes
import Derived.Laws.BytesArg
namespace Go.Proofs.YtlmjmhpdpgeplaaGreatDoor
open Go.RowKit Go.Lib

/-- A tree's block. -/
def TV (w : World) (p : Nat) (vi vk : Value) (n : Nat) : Prop := w.heap[p]? = some (.cells #[vi, vk, .int .i64 (n : Int)] 56 (0, 0))
theorem TV.below {w w' : World} {p : Nat} {vi vk : Value} {n : Nat} (h : TV w p vi vk n) (hb : Below w.heap.size w w') : TV w' p vi vk n := blk_below h hb
theorem TV.cells {w : World} {p : Nat} {vi vk : Value} {n : Nat} (h : TV w p vi vk n) : w.cell? ⟨p, 0, none⟩ = some vi ∧ w.cell? ⟨p, 1, none⟩ = some vk ∧ w.cell? ⟨p, 2, none⟩ = some (.int .i64 (n : Int)) ∧ w.frozen? ⟨p, 0, none⟩ = false ∧ w.frozen? ⟨p, 1, none⟩ = false ∧ w.frozen? ⟨p, 2, none⟩ = false := ⟨cellB2 h 0, cellB2 h 1, cellB2 h 2, frzB2 h 0, frzB2 h 1, frzB2 h 2⟩
/-- A tree in memory: at block p, its nodes' rows in blocks of O; its items F. -/
def TreeAt (w : World) (p : Nat) (O : Nat → Prop) (F : List It) : Prop :=
  ∃ (d : Nat) (t : BT (d + 1)) (a b : Option Addr) (n k n' k' : Nat), TV w p (.slice a n k) (.slice b n' k') F.length ∧ NodeAt w O d t (.slice a n k) (.slice b n' k') ∧ RootOk d t ∧ flat d t = F ∧ Srt F ∧ ¬ O p
/-- No block but p turns. -/
def FrP (p : Nat) (w w' : World) : Prop := w'.os = w.os ∧ w'.tape = w.tape ∧ w'.output = w.output ∧ w.heap.size ≤ w'.heap.size ∧ ∀ g, g < w.heap.size → g ≠ p → w'.heap[g]? = w.heap[g]?
theorem FrP.refl (p : Nat) (w : World) : FrP p w w := ⟨rfl, rfl, rfl, Nat.le_refl _, fun _ _ _ => rfl⟩
theorem FrP.trans {p : Nat} {a b c : World} (h : FrP p a b) (k : FrP p b c) : FrP p a c := ⟨k.1.trans h.1, k.2.1.trans h.2.1, k.2.2.1.trans h.2.2.1, Nat.le_trans h.2.2.2.1 k.2.2.2.1, fun g hg hp => (k.2.2.2.2 g (Nat.lt_of_lt_of_le hg h.2.2.2.1) hp).trans (h.2.2.2.2 g hg hp)⟩
theorem FrP.of_below {p : Nat} {w w' : World} (h : Below w.heap.size w w') : FrP p w w' := ⟨h.os, h.tape, h.output, h.size, fun g hg _ => h.block g hg⟩
theorem FrP.set (p : Nat) (w : World) (i : Nat) (v : Value) : FrP p w (w.setCell ⟨p, i, none⟩ v) := ⟨rfl, rfl, rfl, by simp, fun g _ hg => Below.heap_setCell w ⟨p, i, none⟩ v g hg⟩
/-- A slice of bytes that is read as a text. -/
def Txt (w : World) (v : Value) (k : ByteArray) : Prop := ∀ w', Below w.heap.size w w' → (convert 30 9 v).run Tryz.prog w' = .ok (.string k) w'
section
variable {w : World} {O : Nat → Prop} {p : Nat} {F : List It} {kv vv : Value} {x : It}
set_option maxHeartbeats 25600000 in
set_option maxRecDepth 100000 in
theorem Put_any (ht : TreeAt w p O F) (hk : Txt w kv x.1) (hv : Txt w vv x.2) (hn : F.length ≤ 1000000) :
    Calls Tryz.prog 10 #[.pointer (some ⟨p, 0, none⟩), kv, vv] w fun e w' => e = .returned (.bool (!hasL x.1 F)) ∧ TreeAt w' p (OrN O w.heap.size) (insL x F) ∧ FrP p w w' := by
  obtain ⟨d, t, ra, rb, rn, rk, rn', rk', h1, h2, h3, h4, h5, h6⟩ := ht
  have hpl := blk_lt h1
  have HA := hide (And.intro h1 (And.intro h2 (And.intro h3 (And.intro h4 (And.intro h5 h6)))))
  have HT := hide (And.intro hk (And.intro hv hn))
  have HP19 : Hid (∀ W : World, Below w.heap.size w W → Calls Tryz.prog 20 #[.agg #[.slice ra rn rk, .slice rb rn' rk'], .agg #[.string x.1, .string x.2]] W (PutP W (fun g => O g ∧ g < w.heap.size) d (flat d t) x)) := fun W hb => put_t x d t _ _ _ W (h2.lt.below hb) h3.1 h3.2.1 h3.2.2 (by rw [h4]; exact h5)
  have HS1 : Hid (∀ W : World, Below w.heap.size w W → W.cell? ⟨p, 0, none⟩ = some (.slice ra rn rk) ∧ W.cell? ⟨p, 1, none⟩ = some (.slice rb rn' rk') ∧ (convert 30 9 kv).run Tryz.prog W = .ok (.string x.1) W ∧ (convert 30 9 vv).run Tryz.prog W = .ok (.string x.2) W) := fun W hb => ⟨(h1.below hb).cells.1, (h1.below hb).cells.2.1, hk W hb, hv W hb⟩
  clear h1 h2 h3 h4 h5 h6 hk hv hn
  go_enter Tryz.func10, Tryz.ntmps10
  go_upto_region 1 with fail
  go_cut [7, 8] from 9 to 21 (fun s7 s8 wx => ∃ (b8 : Nat) (pits : List It) (pkids : List (BT d)) (pk pc : Nat) (pa pb : Option Addr), s7 = .pointer (some ⟨b8, 0, none⟩) ∧ s8 = .bool (!hasL x.1 (flat d t)) ∧ Hid (NV wx b8 (.slice pa pits.length pk) (.slice pb pkids.length pc) ∧ NodeAt wx (fun g => (O g ∧ g < w.heap.size) ∨ (w.heap.size ≤ g ∧ g ≠ b8)) d (BT.mk pits pkids) (.slice pa pits.length pk) (.slice pb pkids.length pc) ∧ (Shp d (BT.mk pits pkids) ∧ pits.length ≤ 16 ∧ flat d (BT.mk pits pkids) = insL x (flat d t)) ∧ w.heap.size ≤ b8 ∧ Below w.heap.size w wx))
  case first =>
    refine wp_region_held_drew (S := fun w' => w'.cell? ⟨p, 0, none⟩ = some (.slice ra rn rk) ∧ w'.cell? ⟨p, 1, none⟩ = some (.slice rb rn' rk') ∧ (convert 30 9 kv).run Tryz.prog w' = .ok (.string x.1) w' ∧ (convert 30 9 vv).run Tryz.prog w' = .ok (.string x.2) w') (by kernel_rfl) (unhide HS1 _ (Below.refl _ _).drew) (fun hHeld => ?_)
    obtain ⟨WS, hWS⟩ : ∃ WS, WS = w.drew := ⟨_, rfl⟩
    rw [← hWS] at hHeld ⊢
    have HB : Hid (Below w.heap.size w WS) := by rw [hWS]; exact (Below.refl _ _).drew
    clear hWS
    refine hand_to (i := 0) (d := 10) (v := (.pointer (some ⟨p, 0, none⟩))) rfl rfl (by kernel_rfl) (by kernel_rfl) (by kernel_rfl) (fun _ _ _ h => h) (Or.inl ⟨by rfl, ?_⟩) hHeld ?_
    · (intro w' hSw; obtain ⟨y0, y1, y2, y3⟩ := hSw; go_simp)
    simp only [Act.put, List.setIfInBounds_toArray, List.set_cons_zero, List.set_cons_succ]
    refine hand_to (i := 1) (d := 11) (v := (.pointer (some ⟨p, 0, none⟩))) rfl rfl (by kernel_rfl) (by kernel_rfl) (by kernel_rfl) (fun _ _ _ h => h) (Or.inl ⟨by rfl, ?_⟩) hHeld ?_
    · (intro w' hSw; obtain ⟨y0, y1, y2, y3⟩ := hSw; go_simp)
    simp only [Act.put, List.setIfInBounds_toArray, List.set_cons_zero, List.set_cons_succ]
    refine hand_to (i := 2) (d := 12) (v := (.pointer (some ⟨p, 0, none⟩))) rfl rfl (by kernel_rfl) (by kernel_rfl) (by kernel_rfl) (fun _ _ _ h => h) (Or.inl ⟨by rfl, ?_⟩) hHeld ?_
    · (intro w' hSw; obtain ⟨y0, y1, y2, y3⟩ := hSw; go_simp)
    simp only [Act.put, List.setIfInBounds_toArray, List.set_cons_zero, List.set_cons_succ]
    refine hand_to (i := 3) (d := 13) (v := (.agg #[.slice ra rn rk, .slice rb rn' rk'])) rfl rfl (by kernel_rfl) (by kernel_rfl) (by kernel_rfl) (fun _ _ _ h => h) (Or.inl ⟨by rfl, ?_⟩) hHeld ?_
    · (intro w' hSw; obtain ⟨y0, y1, y2, y3⟩ := hSw; go_simp)
    simp only [Act.put, List.setIfInBounds_toArray, List.set_cons_zero, List.set_cons_succ]
    refine hand_to (i := 4) (d := 14) (v := kv) rfl rfl (by kernel_rfl) (by kernel_rfl) (by kernel_rfl) (fun _ _ _ h => h) (Or.inl ⟨by rfl, ?_⟩) hHeld ?_
    · (intro w' hSw; obtain ⟨y0, y1, y2, y3⟩ := hSw; go_simp)
    simp only [Act.put, List.setIfInBounds_toArray, List.set_cons_zero, List.set_cons_succ]
    refine hand_to (i := 5) (d := 15) (v := (.string x.1)) rfl rfl (by kernel_rfl) (by kernel_rfl) (by kernel_rfl) (fun _ _ _ h => h) (Or.inl ⟨by rfl, ?_⟩) hHeld ?_
    · (intro w' hSw; obtain ⟨y0, y1, y2, y3⟩ := hSw; go_simp)
    simp only [Act.put, List.setIfInBounds_toArray, List.set_cons_zero, List.set_cons_succ]
    refine hand_to (i := 6) (d := 16) (v := vv) rfl rfl (by kernel_rfl) (by kernel_rfl) (by kernel_rfl) (fun _ _ _ h => h) (Or.inl ⟨by rfl, ?_⟩) hHeld ?_
    · (intro w' hSw; obtain ⟨y0, y1, y2, y3⟩ := hSw; go_simp)
    simp only [Act.put, List.setIfInBounds_toArray, List.set_cons_zero, List.set_cons_succ]
    refine hand_to (i := 7) (d := 17) (v := (.string x.2)) rfl rfl (by kernel_rfl) (by kernel_rfl) (by kernel_rfl) (fun _ _ _ h => h) (Or.inl ⟨by rfl, ?_⟩) hHeld ?_
    · (intro w' hSw; obtain ⟨y0, y1, y2, y3⟩ := hSw; go_simp)
    simp only [Act.put, List.setIfInBounds_toArray, List.set_cons_zero, List.set_cons_succ]
    refine hand_to (i := 8) (d := 18) (v := (.agg #[.string x.1, .string x.2])) rfl rfl (by kernel_rfl) (by kernel_rfl) (by kernel_rfl) (fun _ _ _ h => h) (Or.inl ⟨by rfl, ?_⟩) hHeld ?_
    · (intro w' hSw; obtain ⟨y0, y1, y2, y3⟩ := hSw; go_simp)
    simp only [Act.put, List.setIfInBounds_toArray, List.set_cons_zero, List.set_cons_succ]
    refine wpAnyH_ready (rs := [9, 13]) (by kernel_rfl) (by simp) ?_
    refine (AllReadyH.cons rfl (fun K hK => ?_) (AllReadyH.cons rfl (fun K hK => ?_) AllReadyH.nil))
    · skip
      skip
      go_simp
      (go_at_call 20; refine (unhide HP19 WS (unhide HB)).mono ?_; rintro e W9 ⟨pits, pkids, pa, pk, pb, pc, rfl, q1, q2, q3, q4, hbb⟩)
      (go_wp2_with fail)
      have H40 : Hid (NodeAt W9 (fun g => (O g ∧ g < w.heap.size) ∨ w.heap.size ≤ g) d (BT.mk pits pkids) (.slice pa pits.length pk) (.slice pb pkids.length pc)) := q1.node.mono (fun g hg => hg.imp id (fun h => Nat.le_trans (unhide HB).size h))
      have H41 := hide (And.intro q2 (And.intro q3 q4))
      replace HB := hide (below_tr (unhide HB) hbb)
      clear hbb q1 q2 q3 q4
      refine hK.out _ _ (unhide HS1 W9 (unhide HB)) (fun hHeld2 => ?_)
      clear hK K hHeld
      have hHeld := hHeld2
      clear hHeld2
      try simp only [Act.put, List.setIfInBounds_toArray, List.set_cons_zero, List.set_cons_succ]
      refine hand_to (i := 10) (d := 9) (v := (.tuple #[.agg #[.slice pa pits.length pk, .slice pb pkids.length pc], .bool (!hasL x.1 (flat d t))])) rfl rfl (by kernel_rfl) (by kernel_rfl) (by kernel_rfl) (fun _ _ _ h => h) (Or.inl ⟨by rfl, ?_⟩) hHeld ?_
      · (intro w' hSw; obtain ⟨y0, y1, y2, y3⟩ := hSw; go_simp)
      simp only [Act.put, List.setIfInBounds_toArray, List.set_cons_zero, List.set_cons_succ]
      refine hand_to (i := 11) (d := 20) (v := (.agg #[.slice pa pits.length pk, .slice pb pkids.length pc])) rfl rfl (by kernel_rfl) (by kernel_rfl) (by kernel_rfl) (fun _ _ _ h => h) (Or.inl ⟨by rfl, ?_⟩) hHeld ?_
      · (intro w' hSw; obtain ⟨y0, y1, y2, y3⟩ := hSw; go_simp)
      simp only [Act.put, List.setIfInBounds_toArray, List.set_cons_zero, List.set_cons_succ]
      refine hand_to (i := 12) (d := 21) (v := (.bool (!hasL x.1 (flat d t)))) rfl rfl (by kernel_rfl) (by kernel_rfl) (by kernel_rfl) (fun _ _ _ h => h) (Or.inl ⟨by rfl, ?_⟩) hHeld ?_
      · (intro w' hSw; obtain ⟨y0, y1, y2, y3⟩ := hSw; go_simp)
      simp only [Act.put, List.setIfInBounds_toArray, List.set_cons_zero, List.set_cons_succ]
      refine wpAnyH_ready (rs := [13]) (by kernel_rfl) (by simp) ?_
      refine AllReadyH.cons rfl (fun K hK => ?_) AllReadyH.nil
      skip
      go_simp
      skip
      (go_wp2_with fail)
      obtain ⟨W13, hW⟩ : ∃ W13, W13 = W9.alloc (.cells #[.slice none 0 0, .slice none 0 0] 54) := ⟨_, rfl⟩
      obtain ⟨b8, hb⟩ : ∃ b8, b8 = W9.heap.size := ⟨_, rfl⟩
      rw [← hW, ← hb]
      have hbb : Below W9.heap.size W9 W13 := by rw [hW]; exact (Below.refl _ _).alloc (Nat.le_refl _) _
      replace H40 : Hid (NodeAt W13 (fun g => (O g ∧ g < w.heap.size) ∨ (w.heap.size ≤ g ∧ g ≠ b8)) d (BT.mk pits pkids) (.slice pa pits.length pk) (.slice pb pkids.length pc)) := ((unhide H40).ltn (fun g hg hl => hg.imp id (fun h => ⟨h, by omega⟩))).below hbb
      have H8 : Hid (NV W13 b8 (.slice none 0 0) (.slice none 0 0) ∧ w.heap.size ≤ b8) := by
        have hz := (unhide HB).size
        exact ⟨(by rw [hW, hb]; exact NV.new _ _ _), by omega⟩
      replace HB := hide (below_tr (unhide HB) hbb)
      clear hbb hW hb
      refine hK.out _ _ (unhide HS1 W13 (unhide HB)) (fun hHeld2 => ?_)
      clear hK K hHeld
      have hHeld := hHeld2
      clear hHeld2
      try simp only [Act.put, List.setIfInBounds_toArray, List.set_cons_zero, List.set_cons_succ]
      refine wpAnyH_ready (rs := [14]) (by kernel_rfl) (by simp) ?_
      refine AllReadyH.cons rfl (fun K hK => ?_) AllReadyH.nil
      obtain ⟨e0, e1, f0, f1⟩ := (unhide H8).1.cells
      go_simp
      skip
      (go_wp2_with fail)
      obtain ⟨W14, hW⟩ : ∃ W14, W14 = (W13.setCell ⟨b8, 0, none⟩ (.slice pa pits.length pk)).setCell ⟨b8, 1, none⟩ (.slice pb pkids.length pc) := ⟨_, rfl⟩
      rw [← hW]
      have hz := (unhide H8).2
      replace H8 : Hid (NV W14 b8 (.slice pa pits.length pk) (.slice pb pkids.length pc) ∧ w.heap.size ≤ b8) := by rw [hW]; exact ⟨set2_at (unhide H8).1, hz⟩
      replace H40 : Hid (NodeAt W14 (fun g => (O g ∧ g < w.heap.size) ∨ (w.heap.size ≤ g ∧ g ≠ b8)) d (BT.mk pits pkids) (.slice pa pits.length pk) (.slice pb pkids.length pc)) := by rw [hW]; exact (unhide H40).keep (by simp) (fun g hg _ => set2_ne (by rcases hg with hg | hg <;> omega))
      replace HB : Hid (Below w.heap.size w W14) := by rw [hW]; exact set2_below (unhide HB) hz
      clear hW hz e0 e1 f0 f1
      refine hK.out _ _ (unhide HS1 W14 (unhide HB)) (fun hHeld2 => ?_)
      clear hK K hHeld
      have hHeld := hHeld2
      clear hHeld2
      try simp only [Act.put, List.setIfInBounds_toArray, List.set_cons_zero, List.set_cons_succ]
      refine hand_to (i := 15) (d := 8) (v := (.bool (!hasL x.1 (flat d t)))) rfl rfl (by kernel_rfl) (by kernel_rfl) (by kernel_rfl) (fun _ _ _ h => h) (Or.inl ⟨by rfl, ?_⟩) hHeld ?_
      · (intro w' hSw; obtain ⟨y0, y1, y2, y3⟩ := hSw; go_simp)
      simp only [Act.put, List.setIfInBounds_toArray, List.set_cons_zero, List.set_cons_succ]
      refine wpAnyH_done (by kernel_rfl) ?_ _
      go_wp2_with fail
      go_meet
      exact ⟨b8, pits, pkids, pk, pc, pa, pb, rfl, rfl, (unhide H8).1, unhide H40, unhide H41, (unhide H8).2, unhide HB⟩
    · skip
      skip
      go_simp
      skip
      (go_wp2_with fail)
      obtain ⟨W13, hW⟩ : ∃ W13, W13 = WS.alloc (.cells #[.slice none 0 0, .slice none 0 0] 54) := ⟨_, rfl⟩
      obtain ⟨b8, hb⟩ : ∃ b8, b8 = WS.heap.size := ⟨_, rfl⟩
      rw [← hW, ← hb]
      have hbb : Below WS.heap.size WS W13 := by rw [hW]; exact (Below.refl _ _).alloc (Nat.le_refl _) _
      have H8 : Hid (NV W13 b8 (.slice none 0 0) (.slice none 0 0) ∧ w.heap.size ≤ b8) := by
        have hz := (unhide HB).size
        exact ⟨(by rw [hW, hb]; exact NV.new _ _ _), by omega⟩
      replace HB := hide (below_tr (unhide HB) hbb)
      clear hbb hW hb
      refine hK.out _ _ (unhide HS1 W13 (unhide HB)) (fun hHeld2 => ?_)
      clear hK K hHeld
      have hHeld := hHeld2
      clear hHeld2
      try simp only [Act.put, List.setIfInBounds_toArray, List.set_cons_zero, List.set_cons_succ]
      refine wpAnyH_ready (rs := [9]) (by kernel_rfl) (by simp) ?_
      refine AllReadyH.cons rfl (fun K hK => ?_) AllReadyH.nil
      skip
      go_simp
      (go_at_call 20; refine (unhide HP19 W13 (unhide HB)).mono ?_; rintro e W9 ⟨pits, pkids, pa, pk, pb, pc, rfl, q1, q2, q3, q4, hbb⟩)
      (go_wp2_with fail)
      have H40 : Hid (NodeAt W9 (fun g => (O g ∧ g < w.heap.size) ∨ (w.heap.size ≤ g ∧ g ≠ b8)) d (BT.mk pits pkids) (.slice pa pits.length pk) (.slice pb pkids.length pc)) := q1.node.mono (fun g hg => hg.imp id (fun h => by have h1 := blk_lt (unhide H8).1; have h2 := (unhide HB).size; exact ⟨by omega, by omega⟩))
      replace H8 := hide (And.intro ((unhide H8).1.below hbb) (unhide H8).2)
      have H41 := hide (And.intro q2 (And.intro q3 q4))
      replace HB := hide (below_tr (unhide HB) hbb)
      clear hbb q1 q2 q3 q4
      refine hK.out _ _ (unhide HS1 W9 (unhide HB)) (fun hHeld2 => ?_)
      clear hK K hHeld
      have hHeld := hHeld2
      clear hHeld2
      try simp only [Act.put, List.setIfInBounds_toArray, List.set_cons_zero, List.set_cons_succ]
      refine hand_to (i := 10) (d := 9) (v := (.tuple #[.agg #[.slice pa pits.length pk, .slice pb pkids.length pc], .bool (!hasL x.1 (flat d t))])) rfl rfl (by kernel_rfl) (by kernel_rfl) (by kernel_rfl) (fun _ _ _ h => h) (Or.inl ⟨by rfl, ?_⟩) hHeld ?_
      · (intro w' hSw; obtain ⟨y0, y1, y2, y3⟩ := hSw; go_simp)
      simp only [Act.put, List.setIfInBounds_toArray, List.set_cons_zero, List.set_cons_succ]
      refine hand_to (i := 11) (d := 20) (v := (.agg #[.slice pa pits.length pk, .slice pb pkids.length pc])) rfl rfl (by kernel_rfl) (by kernel_rfl) (by kernel_rfl) (fun _ _ _ h => h) (Or.inl ⟨by rfl, ?_⟩) hHeld ?_
      · (intro w' hSw; obtain ⟨y0, y1, y2, y3⟩ := hSw; go_simp)
      simp only [Act.put, List.setIfInBounds_toArray, List.set_cons_zero, List.set_cons_succ]
      refine hand_to (i := 12) (d := 21) (v := (.bool (!hasL x.1 (flat d t)))) rfl rfl (by kernel_rfl) (by kernel_rfl) (by kernel_rfl) (fun _ _ _ h => h) (Or.inl ⟨by rfl, ?_⟩) hHeld ?_
      · (intro w' hSw; obtain ⟨y0, y1, y2, y3⟩ := hSw; go_simp)
      simp only [Act.put, List.setIfInBounds_toArray, List.set_cons_zero, List.set_cons_succ]
      refine wpAnyH_ready (rs := [14]) (by kernel_rfl) (by simp) ?_
      refine AllReadyH.cons rfl (fun K hK => ?_) AllReadyH.nil
      obtain ⟨e0, e1, f0, f1⟩ := (unhide H8).1.cells
      go_simp
      skip
      (go_wp2_with fail)
      obtain ⟨W14, hW⟩ : ∃ W14, W14 = (W9.setCell ⟨b8, 0, none⟩ (.slice pa pits.length pk)).setCell ⟨b8, 1, none⟩ (.slice pb pkids.length pc) := ⟨_, rfl⟩
      rw [← hW]
      have hz := (unhide H8).2
      replace H8 : Hid (NV W14 b8 (.slice pa pits.length pk) (.slice pb pkids.length pc) ∧ w.heap.size ≤ b8) := by rw [hW]; exact ⟨set2_at (unhide H8).1, hz⟩
      replace H40 : Hid (NodeAt W14 (fun g => (O g ∧ g < w.heap.size) ∨ (w.heap.size ≤ g ∧ g ≠ b8)) d (BT.mk pits pkids) (.slice pa pits.length pk) (.slice pb pkids.length pc)) := by rw [hW]; exact (unhide H40).keep (by simp) (fun g hg _ => set2_ne (by rcases hg with hg | hg <;> omega))
      replace HB : Hid (Below w.heap.size w W14) := by rw [hW]; exact set2_below (unhide HB) hz
      clear hW hz e0 e1 f0 f1
      refine hK.out _ _ (unhide HS1 W14 (unhide HB)) (fun hHeld2 => ?_)
      clear hK K hHeld
      have hHeld := hHeld2
      clear hHeld2
      try simp only [Act.put, List.setIfInBounds_toArray, List.set_cons_zero, List.set_cons_succ]
      refine hand_to (i := 15) (d := 8) (v := (.bool (!hasL x.1 (flat d t)))) rfl rfl (by kernel_rfl) (by kernel_rfl) (by kernel_rfl) (fun _ _ _ h => h) (Or.inl ⟨by rfl, ?_⟩) hHeld ?_
      · (intro w' hSw; obtain ⟨y0, y1, y2, y3⟩ := hSw; go_simp)
      simp only [Act.put, List.setIfInBounds_toArray, List.set_cons_zero, List.set_cons_succ]
      refine wpAnyH_done (by kernel_rfl) ?_ _
      go_wp2_with fail
      go_meet
      exact ⟨b8, pits, pkids, pk, pc, pa, pb, rfl, rfl, (unhide H8).1, unhide H40, unhide H41, (unhide H8).2, unhide HB⟩
  case rest =>
    obtain ⟨b8, pits, pkids, pk, pc, pa, pb, rfl, rfl, HV8⟩ := hcut
    have HR : Hid (Calls Tryz.prog 21 #[.agg #[.slice pa pits.length pk, .slice pb pkids.length pc]] wc fun e w5 => ∃ a n k b n' k', e = .returned (.agg #[.slice a n k, .slice b n' k']) ∧ (w5.cell? ⟨p, 0, none⟩ = some (.slice ra rn rk) ∧ w5.cell? ⟨p, 1, none⟩ = some (.slice rb rn' rk') ∧ w5.cell? ⟨p, 2, none⟩ = some (.int .i64 (F.length : Int)) ∧ w5.frozen? ⟨p, 0, none⟩ = false ∧ w5.frozen? ⟨p, 1, none⟩ = false ∧ w5.frozen? ⟨p, 2, none⟩ = false) ∧ Hid (∀ m : Nat, (insL x F).length = m → ∀ W : World, TV W p (.slice a n k) (.slice b n' k') m → FrP p w5 W → TreeAt W p (OrN O w.heap.size) (insL x F) ∧ FrP p w W) ∧ Hid (TV w5 p (.slice ra rn rk) (.slice rb rn' rk') F.length)) := by
      obtain ⟨h1, h2, h3, h4, h5, h6⟩ := unhide HA
      obtain ⟨u1, u2, ⟨u3, u4, u5⟩, u6, u7⟩ := unhide HV8
      refine (rooted_up u2 u3 u4).mono ?_
      rintro e w5 ⟨d', t', a, b, n, k, n', k', rfl, q1, q2, q3, q4⟩
      have htv := (h1.below u7).below q4
      refine ⟨a, n, k, b, n', k', rfl, htv.cells, ?_, htv⟩
      intro m hm W hW hfr
      have hbw := below_tr u7 q4
      have hzc := u7.size
      refine ⟨⟨d', t', a, b, n, k, n', k', by rw [hm]; exact hW, (q1.keep hfr.2.2.2.1 (fun g hg hgl => hfr.2.2.2.2 g hgl ?_)).mono (fun g hg => ?_), q2, by rw [q3]; show flat d (BT.mk pits pkids) = _; rw [u5, h4], insL_srt h5, ?_⟩, (FrP.of_below hbw).trans hfr⟩
      · rintro rfl
        rcases hg with (hg | hg) | hg
        · exact h6 hg.1
        · omega
        · omega
      · rcases hg with (hg | hg) | hg
        · exact .inl hg.1
        · exact .inr hg.1
        · exact .inr (by omega)
      · rintro (h | h)
        · exact h6 h
        · omega
    obtain ⟨c80, c81, _, _⟩ := (unhide HV8).1.cells
    have HF4 : Hid (flat d t = F ∧ Srt F ∧ F.length ≤ 1000000) := ⟨(unhide HA).2.2.2.1, (unhide HA).2.2.2.2.1, (unhide HT).2.2⟩
    have HB9 : Hid (b8 ≠ p) := by have := (unhide HV8).2.2.2.1; show b8 ≠ p; omega
    have hpc : p < wc.heap.size := Nat.lt_of_lt_of_le hpl (unhide HV8).2.2.2.2.size
    have hl6 : (F.length : Int) ≤ 1000000 := by have := (unhide HF4).2.2; omega
    have hwl : IntKind.i64.wrap ((F.length : Int) + 1) = (F.length : Int) + 1 := by rw [IntKind.wrap_i64] <;> omega
    cases hh : hasL x.1 F
    · have hbn : (!hasL x.1 (flat d t)) = true := by rw [(unhide HF4).1, hh]; rfl
      have HL : Hid ((insL x F).length = F.length + 1) := ins_has hh
      rw [hbn]
      clear HA HT HP19 HS1 HV8 hbn
      go_wp2_with (go_at_call 21; refine (unhide HR).mono ?_; rintro e w5 ⟨a, n, k, b, n', k', rfl, ⟨r0, r1, r2, g0, g1, g2⟩, HE, HTV⟩; clear HR)
      go_ret
      refine ⟨by rw [hh]; rfl, unhide HE _ (unhide HL) _ ?_ ?_⟩
      · exact (heap_set_at (heap_set_at (heap_set_at (unhide HTV) _ _) _ _) _ _).trans (by simp)
      · exact ((FrP.set p _ _ _).trans (FrP.set p _ _ _)).trans (FrP.set p _ _ _)
    · have hbn : (!hasL x.1 (flat d t)) = false := by rw [(unhide HF4).1, hh]; rfl
      have HL : Hid ((insL x F).length = F.length) := ins_had (unhide HF4).2.1 hh
      rw [hbn]
      clear HA HT HP19 HS1 HV8 hbn
      go_wp2_with (go_at_call 21; refine (unhide HR).mono ?_; rintro e w5 ⟨a, n, k, b, n', k', rfl, ⟨r0, r1, r2, g0, g1, g2⟩, HE, HTV⟩; clear HR)
      go_ret
      refine ⟨by rw [hh]; rfl, unhide HE _ (unhide HL) _ ?_ ?_⟩
      · exact (heap_set_at (heap_set_at (unhide HTV) _ _) _ _).trans (by simp)
      · exact (FrP.set p _ _ _).trans (FrP.set p _ _ _)
end
end Go.Proofs.YtlmjmhpdpgeplaaGreatDoor
/- Slices of bytes that read as a text; []byte of a text. -/
namespace Go.Proofs.YtlmjmhpdpgeplaaGreatDoor
open Go.RowKit Go.Lib

/-- A slice that reads as these bytes. -/
def BR (w : World) (v : Value) (k : ByteArray) : Prop :=
  (k.size = 0 ∧ ∃ a c, v = .slice a 0 c) ∨ ∃ b off cap, v = .slice (some ⟨b, off, none⟩) k.size cap ∧ b < w.heap.size ∧ ∀ i, i < k.size → w.cell? ⟨b, off + i, none⟩ = some (.int .u8 ((k.data.toList.getD i 0).toNat : Int))
theorem BR.keep {w w' : World} {v : Value} {k : ByteArray} (h : BR w v k) (hz : w.heap.size ≤ w'.heap.size) (hk : ∀ g, g < w.heap.size → (∃ off n c, v = .slice (some ⟨g, off, none⟩) n c) → w'.heap[g]? = w.heap[g]?) : BR w' v k := by
  obtain h | ⟨b, off, cap, rfl, h2, h3⟩ := h
  · exact .inl h
  · exact .inr ⟨b, off, cap, rfl, Nat.lt_of_lt_of_le h2 hz, fun i hi => (World.cell?_of_block (hk b h2 ⟨_, _, _, rfl⟩)).trans (h3 i hi)⟩
theorem BR.below {w w' : World} {v : Value} {k : ByteArray} (h : BR w v k) (hb : Below w.heap.size w w') : BR w' v k := h.keep hb.size (fun g hg _ => hb.block g hg)
theorem conv_zero (a : Option Addr) (c : Nat) (w : World) : (convert 30 9 (.slice a 0 c)).run Tryz.prog w = .ok (.string ⟨#[]⟩) w := by
  cases a with
  | none => exact run_convert_bytes_nil w _ _ Tryz.underlying30 Tryz.underlying5 0 c _ Tryz.underlying9
  | some ad => kernel_rfl
theorem text_zero {k : ByteArray} (h : k.size = 0) : k = ⟨#[]⟩ := by
  obtain ⟨d⟩ := k
  have h : d.size = 0 := h
  have : d = #[] := Array.eq_empty_of_size_eq_zero h
  rw [this]
theorem strOfNums_text (k : ByteArray) : strOfNums (k.data.toList.map fun c => (c.toNat : Int)) = k := by
  obtain ⟨d⟩ := k
  unfold strOfNums
  congr 1
  have e : ((fun n : Int => UInt8.ofNat n.toNat) ∘ fun c : UInt8 => (c.toNat : Int)) = id := by funext c; simp
  simp [e]
theorem BR.conv {w : World} {v : Value} {k : ByteArray} (h : BR w v k) : (convert 30 9 v).run Tryz.prog w = .ok (.string k) w := by
  obtain ⟨h0, a, c, rfl⟩ | ⟨b, off, cap, rfl, h2, h3⟩ := h
  · rw [text_zero h0]; exact conv_zero a c w
  · have hl : (k.data.toList.map fun c => (c.toNat : Int)).length = k.size := by rw [List.length_map, Array.length_toList]; rfl
    have h := run_convert_bytes_arg (P := Tryz.prog) w 30 5 Tryz.underlying30 Tryz.underlying5 b off k.size cap (k.data.toList.map fun c => (c.toNat : Int)) hl (fun i hi => by
      rw [h3 i hi]
      have hi' : i < k.data.toList.length := by rw [Array.length_toList]; exact hi
      simp [List.getD, List.getElem?_eq_getElem hi', List.getElem?_map]) 9 Tryz.underlying9
    rw [h, strOfNums_text]
theorem BR.txt {w : World} {v : Value} {k : ByteArray} (h : BR w v k) : Txt w v k := fun _ hb => (h.below hb).conv
theorem conv_below (w : World) (e : TypeId) (s : ByteArray) : Below w.heap.size w (bytesWorld w e s) := ⟨rfl, rfl, rfl, by rw [bytesWorld_size]; omega, fun j hj => bytesWorld_at_old w e s j hj⟩
theorem conv_br (w : World) (e : TypeId) (s : ByteArray) (c : Nat) : BR (bytesWorld w e s) (.slice (some ⟨w.heap.size, 0, none⟩) s.size c) s :=
  .inr ⟨w.heap.size, 0, c, rfl, by rw [bytesWorld_size]; omega, fun i hi => by rw [Nat.zero_add]; exact bytesWorld_cell w e s i hi⟩
theorem conv_run (w : World) (s : ByteArray) : (convert 9 30 (.string s)).run Tryz.prog w = .ok (.slice (some ⟨w.heap.size, 0, none⟩) s.size (grownCap w s.size 0 5)) (bytesWorld w 5 s) :=
  Go.Lib.run_convert_string_bytes w _ _ _ s Tryz.underlying9 Tryz.underlying30 Tryz.underlying5
end Go.Proofs.YtlmjmhpdpgeplaaGreatDoor
