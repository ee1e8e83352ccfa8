/- WalPlays: what a Drop does to a state. -/
import Derived.Test.YthphadbcebeoaaaGreatDoorWaDoes
namespace Go.Proofs.YthphadbcebeoaaaGreatDoor
open Go.RowKit Go.Lib Go.Maps

theorem drew_alloc (W : World) (o : Obj) : W.drew.alloc o = (W.alloc o).drew := rfl
theorem EL.drop3 {w : World} {a : Option Addr} {n k m : Nat} {es : List GE} (h : EL w (.slice a n k) es) (hm : m ≤ es.length) : (k = m → EL w (.slice a (n - m) 0) (es.drop m)) ∧ (¬ k = m → EL w (.slice (a.map fun x => x.add (m * 5)) (n - m) (k - m)) (es.drop m)) := by
  rcases id h with ⟨e, rfl⟩ | ⟨g, off, k', cur, h1, h2, h3, h4, h5, h6⟩
  · cases e
    obtain rfl : m = 0 := by simpa using hm
    exact ⟨fun _ => .inl ⟨rfl, rfl⟩, fun hn => absurd rfl hn⟩
  · cases h1
    refine ⟨fun e => ?_, fun e => ?_⟩
    · have := h.drop m off hm (.inr ⟨e, by omega⟩)
      rw [e, Nat.sub_self] at this
      exact this
    · have := h.drop m (off + m * 5) hm (.inl rfl)
      simpa [Go.WideShapes.add_plain] using this
section
variable {w : World} {s : Sta} {v : Value} {x : GStp}
set_option maxHeartbeats 6400000 in
set_option maxRecDepth 100000 in
theorem does_drop_low (hv : EL w v s.es) (hx0 : x.what = 5) (hb : x.index < s.base) : Calls Tryz.prog 21 #[stA s v, spA x] w fun e w' => DoesP w v [] 40 e w' := by
  obtain ⟨wh, nu, ix, te, vo, l, es, k, ks⟩ := x
  dsimp only at *
  subst hx0
  obtain ⟨va, vk, rfl, hk1, hk2⟩ := id hv.slice
  have h1 : (ix : Int) < (s.base : Int) := by omega
  have HB : Hid (∀ W : World, W = (w.alloc (.cells #[.int .u64 (s.term : Int), .int .i64 ((s.vote : Int) - 1), .int .u64 (s.base : Int), .int .u64 (s.bt : Int), .slice va s.es.length vk] 56)).alloc (.cells #[.int .i64 5, .int .i64 nu, .int .u64 (ix : Int), .int .u64 (te : Int), .int .i64 vo, l, k] 59) → Below w.heap.size w W) := fun W h => by rw [h]; exact ((Below.refl _ _).alloc (Nat.le_refl _) _).alloc (by simp) _
  go_enter Tryz.func21, Tryz.ntmps21
  go_wp2_with fail
  go_ret2
  exact DoesP.nil0 (unhide HB _ rfl)
set_option maxHeartbeats 6400000 in
set_option maxRecDepth 100000 in
theorem does_drop_big (hv : EL w v s.es) (hx0 : x.what = 5) (hb : ¬ x.index < s.base) (hc : 4611686018427387904 < x.index) : Calls Tryz.prog 21 #[stA s v, spA x] w fun e w' => DoesP w v [] 40 e w' := by
  obtain ⟨wh, nu, ix, te, vo, l, es, k, ks⟩ := x
  dsimp only at *
  subst hx0
  obtain ⟨va, vk, rfl, hk1, hk2⟩ := id hv.slice
  have h1 : ¬ ((ix : Int) < (s.base : Int)) := by omega
  have h2 : (4611686018427387904 : Int) < (ix : Int) := by omega
  have HB : Hid (∀ W : World, W = (w.alloc (.cells #[.int .u64 (s.term : Int), .int .i64 ((s.vote : Int) - 1), .int .u64 (s.base : Int), .int .u64 (s.bt : Int), .slice va s.es.length vk] 56)).alloc (.cells #[.int .i64 5, .int .i64 nu, .int .u64 (ix : Int), .int .u64 (te : Int), .int .i64 vo, l, k] 59) → Below w.heap.size w W) := fun W h => by rw [h]; exact ((Below.refl _ _).alloc (Nat.le_refl _) _).alloc (by simp) _
  go_enter Tryz.func21, Tryz.ntmps21
  go_wp2_with fail
  go_ret2
  exact DoesP.nil0 (unhide HB _ rfl)
set_option maxHeartbeats 6400000 in
set_option maxRecDepth 100000 in
theorem does_drop_all (hv : EL w v s.es) (hx0 : x.what = 5) (hs : s.base ≤ 4611686018427387904) (hl : s.es.length ≤ 1000000) (hb : s.base ≤ x.index ∧ x.index ≤ 4611686018427387904) (hc : s.base + s.es.length < x.index) : Calls Tryz.prog 21 #[stA s v, spA x] w fun e w' => DoesP w v [⟨s.term, s.vote, x.index, x.term, []⟩] 0 e w' := by
  obtain ⟨wh, nu, ix, te, vo, l, es, k, ks⟩ := x
  dsimp only at *
  subst hx0
  obtain ⟨va, vk, rfl, hk1, hk2⟩ := id hv.slice
  have h1 : ¬ ((ix : Int) < (s.base : Int)) := by omega
  have h2 : ¬ ((4611686018427387904 : Int) < (ix : Int)) := by omega
  have h3 : ¬ ((ix : Int) ≤ (s.base : Int) + (s.es.length : Int)) := by omega
  have HL := hide (fun W : World => wlast_any W s va vk hs hl)
  obtain ⟨W0, hW0⟩ : ∃ W0, W0 = (w.alloc (.cells #[.int .u64 (s.term : Int), .int .i64 ((s.vote : Int) - 1), .int .u64 (s.base : Int), .int .u64 (s.bt : Int), .slice va s.es.length vk] 56)).alloc (.cells #[.int .i64 5, .int .i64 nu, .int .u64 (ix : Int), .int .u64 (te : Int), .int .i64 vo, l, k] 59) := ⟨_, rfl⟩
  have HX0 : Hid (X0 w s (.slice va s.es.length vk) ⟨5, nu, ix, te, vo, l, es, k, ks⟩ W0) := by rw [hW0]; exact X0.start w s _ ⟨5, nu, ix, te, vo, l, es, k, ks⟩
  go_enter Tryz.func21, Tryz.ntmps21
  go_wp2_with fail
  rw [← hW0]
  have HX1 : Hid (X0 w s (.slice va s.es.length vk) ⟨5, nu, ix, te, vo, l, es, k, ks⟩ W0.drew) := (unhide HX0).below (drew_below W0 1)
  clear hW0 HX0
  refine wp_region_held_drew (S := fun w' => w'.cell? ⟨w.heap.size + 1, 2, none⟩ = some (.int .u64 (ix : Int)) ∧ (w'.cell? ⟨w.heap.size, 0, none⟩ = some (.int .u64 (s.term : Int)) ∧ w'.cell? ⟨w.heap.size, 1, none⟩ = some (.int .i64 ((s.vote : Int) - 1)) ∧ w'.cell? ⟨w.heap.size, 2, none⟩ = some (.int .u64 (s.base : Int)) ∧ w'.cell? ⟨w.heap.size, 3, none⟩ = some (.int .u64 (s.bt : Int)) ∧ w'.cell? ⟨w.heap.size, 4, none⟩ = some (.slice va s.es.length vk))) (by kernel_rfl) ⟨(unhide HX1).cells.2.2.1, (unhide HX1).cells.1⟩ (fun hHeld => ?_)
  refine hand_to (i := 0) (d := 117) (v := (.pointer (some ⟨w.heap.size + 1, 2, none⟩))) rfl rfl (by kernel_rfl) (by kernel_rfl) (by kernel_rfl) (fun _ _ _ h => h) (Or.inl ⟨by rfl, ?_⟩) hHeld ?_
  · (intro w' hSw; obtain ⟨y0, y1, y2, y3, y4, y5⟩ := hSw; go_simp)
  simp only [Act.put, List.setIfInBounds_toArray, List.set_cons_zero, List.set_cons_succ]
  refine hand_to (i := 1) (d := 118) (v := (.int .u64 (ix : Int))) rfl rfl (by kernel_rfl) (by kernel_rfl) (by kernel_rfl) (fun _ _ _ h => h) (Or.inl ⟨by rfl, ?_⟩) hHeld ?_
  · (intro w' hSw; obtain ⟨y0, y1, y2, y3, y4, y5⟩ := hSw; go_simp)
  simp only [Act.put, List.setIfInBounds_toArray, List.set_cons_zero, List.set_cons_succ]
  refine hand_to (i := 2) (d := 119) (v := (.agg #[.int .u64 (s.term : Int), .int .i64 ((s.vote : Int) - 1), .int .u64 (s.base : Int), .int .u64 (s.bt : Int), .slice va s.es.length vk])) rfl rfl (by kernel_rfl) (by kernel_rfl) (by kernel_rfl) (fun _ _ _ h => h) (Or.inl ⟨by rfl, ?_⟩) hHeld ?_
  · (intro w' hSw; obtain ⟨y0, y1, y2, y3, y4, y5⟩ := hSw; go_simp)
  simp only [Act.put, List.setIfInBounds_toArray, List.set_cons_zero, List.set_cons_succ]
  refine wpAnyH_ready (rs := [3]) (by kernel_rfl) (by simp) ?_
  refine AllReadyH.cons rfl (fun K hK => ?_) AllReadyH.nil
  go_simp
  (go_at_call 42; refine (unhide HL _).mono ?_; rintro e w2 ⟨rfl, b2⟩; have HX2 := hide ((unhide HX1).below b2); clear HL HX1 b2)
  (go_wp2_with fail)
  refine hK.out _ _ ⟨(unhide HX2).cells.2.2.1, (unhide HX2).cells.1⟩ (fun hHeld2 => ?_)
  clear hK K hHeld
  have hHeld := hHeld2
  clear hHeld2
  refine hand_to (i := 4) (d := 121) (v := (.bool false)) rfl rfl (by kernel_rfl) (by kernel_rfl) (by kernel_rfl) (fun _ _ _ h => h) (Or.inl ⟨by rfl, ?_⟩) hHeld ?_
  · (intro w' hSw; obtain ⟨y0, y1, y2, y3, y4, y5⟩ := hSw; go_simp)
  simp only [Act.put, List.setIfInBounds_toArray, List.set_cons_zero, List.set_cons_succ]
  refine wpAnyH_done (by kernel_rfl) ?_ _
  obtain ⟨⟨z0, z1, z2, z3, z4⟩, z5, z6, z7, _⟩ := (unhide HX2).cells
  dsimp only at z5 z6 z7
  have f4 := (unhide HX2).frz 4
  have f2 := (unhide HX2).frz 2
  have f3 := (unhide HX2).frz 3
  obtain ⟨W3, hW3, g0, g1, g2, g3, g4, k2, k3, p2, p3, HB3⟩ : ∃ W3 : World, w2.setCell ⟨w.heap.size, 4, none⟩ (.slice none 0 0) = W3 ∧ W3.cell? ⟨w.heap.size, 0, none⟩ = some (.int .u64 (s.term : Int)) ∧ W3.cell? ⟨w.heap.size, 1, none⟩ = some (.int .i64 ((s.vote : Int) - 1)) ∧ W3.cell? ⟨w.heap.size, 2, none⟩ = some (.int .u64 (s.base : Int)) ∧ W3.cell? ⟨w.heap.size, 3, none⟩ = some (.int .u64 (s.bt : Int)) ∧ W3.cell? ⟨w.heap.size, 4, none⟩ = some (.slice none 0 0) ∧ W3.frozen? ⟨w.heap.size, 2, none⟩ = false ∧ W3.frozen? ⟨w.heap.size, 3, none⟩ = false ∧ W3.cell? ⟨w.heap.size + 1, 2, none⟩ = some (.int .u64 (ix : Int)) ∧ W3.cell? ⟨w.heap.size + 1, 3, none⟩ = some (.int .u64 (te : Int)) ∧ Hid (Below w.heap.size w W3) := by
    have hx := unhide HX2
    have h3 : (w2.setCell ⟨w.heap.size, 4, none⟩ (.slice none 0 0)).heap[w.heap.size]? = some (.cells #[.int .u64 (s.term : Int), .int .i64 ((s.vote : Int) - 1), .int .u64 (s.base : Int), .int .u64 (s.bt : Int), .slice none 0 0] 56 (0, 0)) := (Dk.heap_setCell_at hx.2.1 _ _).trans rfl
    have h4 : (w2.setCell ⟨w.heap.size, 4, none⟩ (.slice none 0 0)).heap[w.heap.size + 1]? = some (.cells #[.int .i64 5, .int .i64 nu, .int .u64 (ix : Int), .int .u64 (te : Int), .int .i64 vo, l, k] 59 (0, 0)) := (Dk.heap_setCell_ne _ _ (by omega)).trans hx.2.2
    exact ⟨_, rfl, (Dk.cellB h3 0).1, (Dk.cellB h3 1).1, (Dk.cellB h3 2).1, (Dk.cellB h3 3).1, (Dk.cellB h3 4).1, (Dk.cellB h3 2).2, (Dk.cellB h3 3).2, (Dk.cellB h4 2).1, (Dk.cellB h4 3).1, hx.1.setCell (p := ⟨w.heap.size, 4, none⟩) (Nat.le_refl _) _⟩
  go_wp2_with fail
  try rw [hW3]
  clear hW3 z0 z1 z2 z3 z4 z5 z6 z7 f2 f3 f4 HX2
  go_region
  all_goals
    go_wp2_with fail
    go_ret2
    have hbl : Below w.heap.size w ((W3.setCell ⟨w.heap.size, 2, none⟩ (.int .u64 (ix : Int))).setCell ⟨w.heap.size, 3, none⟩ (.int .u64 (te : Int))).drew := below_trans0 (((unhide HB3).setCell (p := ⟨w.heap.size, 2, none⟩) (Nat.le_refl _) _).setCell (p := ⟨w.heap.size, 3, none⟩) (Nat.le_refl _) _) (drew_below _ 1)
    have := DoesP.one (s := ⟨s.term, s.vote, ix, te, []⟩) (c := 0) (u := .slice none 0 0) (v := .slice va s.es.length vk) hbl (EL.nil _) (fun g hg => .inl (by obtain ⟨_, _, _, e⟩ := hg; cases e))
    rw [drew_alloc] at this
    simpa using this
set_option maxHeartbeats 6400000 in
set_option maxRecDepth 100000 in
theorem does_drop_same (hv : EL w v s.es) (hx0 : x.what = 5) (hs : s.base ≤ 4611686018427387904) (hl : s.es.length ≤ 1000000) (hb : s.base ≤ x.index ∧ x.index ≤ 4611686018427387904) (hc : x.index ≤ s.base + s.es.length) (hd : ∀ m, x.index = s.base + m → ∀ a n k, v = .slice a n k → k = m) : Calls Tryz.prog 21 #[stA s v, spA x] w fun e w' => DoesP w v [⟨s.term, s.vote, x.index, x.term, s.es.drop (x.index - s.base)⟩] 0 e w' := by
  obtain ⟨wh, nu, ix, te, vo, l, es, k, ks⟩ := x
  dsimp only at *
  subst hx0
  obtain ⟨va, vk, rfl, hk1, hk2⟩ := id hv.slice
  have h1 : ¬ ((ix : Int) < (s.base : Int)) := by omega
  have h2 : ¬ ((4611686018427387904 : Int) < (ix : Int)) := by omega
  have h3 : (ix : Int) ≤ (s.base : Int) + (s.es.length : Int) := by omega
  obtain ⟨m, hm⟩ : ∃ m, ix - s.base = m := ⟨_, rfl⟩
  have hw2 : IntKind.u64.wrap ((ix : Int) - (s.base : Int)) = (m : Int) := by rw [IntKind.wrap_u64] <;> omega
  have hmi : (m : Int) ≤ (s.es.length : Int) := by omega
  have hm0 : (0 : Int) ≤ (m : Int) := by omega
  have hvk : vk = m := hd m (by omega) va s.es.length vk rfl
  have HEL : ∀ W : World, Below w.heap.size w W → EL W (.slice va (s.es.length - m) 0) (s.es.drop m) := fun W hb => ((hv.below hb).drop3 (m := m) (by omega)).1 hvk
  have HMP : ∀ g, inB (.slice va (s.es.length - m) 0) g → inB (.slice va s.es.length vk) g := fun g hg => by
    obtain ⟨o, n2, k2, e2⟩ := hg
    cases va with
    | none => cases e2
    | some y =>
      rcases id hv with ⟨e, _⟩ | ⟨g', off, k', cur, h1, _⟩
      · cases e
      · cases h1
        have e3 : g' = g := by simp at e2; exact e2.1.1
        rw [← e3]
        exact ⟨_, _, _, rfl⟩
  rw [hm]
  have HVK := hide hvk
  clear hd hm hb hc hvk
  have HL := hide (fun W : World => wlast_any W s va vk hs hl)
  obtain ⟨W0, hW0⟩ : ∃ W0, W0 = (w.alloc (.cells #[.int .u64 (s.term : Int), .int .i64 ((s.vote : Int) - 1), .int .u64 (s.base : Int), .int .u64 (s.bt : Int), .slice va s.es.length vk] 56)).alloc (.cells #[.int .i64 5, .int .i64 nu, .int .u64 (ix : Int), .int .u64 (te : Int), .int .i64 vo, l, k] 59) := ⟨_, rfl⟩
  have HX0 : Hid (X0 w s (.slice va s.es.length vk) ⟨5, nu, ix, te, vo, l, es, k, ks⟩ W0) := by rw [hW0]; exact X0.start w s _ ⟨5, nu, ix, te, vo, l, es, k, ks⟩
  go_enter Tryz.func21, Tryz.ntmps21
  go_wp2_with fail
  rw [← hW0]
  have HX1 : Hid (X0 w s (.slice va s.es.length vk) ⟨5, nu, ix, te, vo, l, es, k, ks⟩ W0.drew) := (unhide HX0).below (drew_below W0 1)
  clear hW0 HX0
  refine wp_region_held_drew (S := fun w' => w'.cell? ⟨w.heap.size + 1, 2, none⟩ = some (.int .u64 (ix : Int)) ∧ (w'.cell? ⟨w.heap.size, 0, none⟩ = some (.int .u64 (s.term : Int)) ∧ w'.cell? ⟨w.heap.size, 1, none⟩ = some (.int .i64 ((s.vote : Int) - 1)) ∧ w'.cell? ⟨w.heap.size, 2, none⟩ = some (.int .u64 (s.base : Int)) ∧ w'.cell? ⟨w.heap.size, 3, none⟩ = some (.int .u64 (s.bt : Int)) ∧ w'.cell? ⟨w.heap.size, 4, none⟩ = some (.slice va s.es.length vk))) (by kernel_rfl) ⟨(unhide HX1).cells.2.2.1, (unhide HX1).cells.1⟩ (fun hHeld => ?_)
  refine hand_to (i := 0) (d := 117) (v := (.pointer (some ⟨w.heap.size + 1, 2, none⟩))) rfl rfl (by kernel_rfl) (by kernel_rfl) (by kernel_rfl) (fun _ _ _ h => h) (Or.inl ⟨by rfl, ?_⟩) hHeld ?_
  · (intro w' hSw; obtain ⟨y0, y1, y2, y3, y4, y5⟩ := hSw; go_simp)
  simp only [Act.put, List.setIfInBounds_toArray, List.set_cons_zero, List.set_cons_succ]
  refine hand_to (i := 1) (d := 118) (v := (.int .u64 (ix : Int))) rfl rfl (by kernel_rfl) (by kernel_rfl) (by kernel_rfl) (fun _ _ _ h => h) (Or.inl ⟨by rfl, ?_⟩) hHeld ?_
  · (intro w' hSw; obtain ⟨y0, y1, y2, y3, y4, y5⟩ := hSw; go_simp)
  simp only [Act.put, List.setIfInBounds_toArray, List.set_cons_zero, List.set_cons_succ]
  refine hand_to (i := 2) (d := 119) (v := (.agg #[.int .u64 (s.term : Int), .int .i64 ((s.vote : Int) - 1), .int .u64 (s.base : Int), .int .u64 (s.bt : Int), .slice va s.es.length vk])) rfl rfl (by kernel_rfl) (by kernel_rfl) (by kernel_rfl) (fun _ _ _ h => h) (Or.inl ⟨by rfl, ?_⟩) hHeld ?_
  · (intro w' hSw; obtain ⟨y0, y1, y2, y3, y4, y5⟩ := hSw; go_simp)
  simp only [Act.put, List.setIfInBounds_toArray, List.set_cons_zero, List.set_cons_succ]
  refine wpAnyH_ready (rs := [3]) (by kernel_rfl) (by simp) ?_
  refine AllReadyH.cons rfl (fun K hK => ?_) AllReadyH.nil
  go_simp
  (go_at_call 42; refine (unhide HL _).mono ?_; rintro e w2 ⟨rfl, b2⟩; have HX2 := hide ((unhide HX1).below b2); clear HL HX1 b2)
  (go_wp2_with fail)
  refine hK.out _ _ ⟨(unhide HX2).cells.2.2.1, (unhide HX2).cells.1⟩ (fun hHeld2 => ?_)
  clear hK K hHeld
  have hHeld := hHeld2
  clear hHeld2
  refine hand_to (i := 4) (d := 121) (v := (.bool true)) rfl rfl (by kernel_rfl) (by kernel_rfl) (by kernel_rfl) (fun _ _ _ h => h) (Or.inl ⟨by rfl, ?_⟩) hHeld ?_
  · (intro w' hSw; obtain ⟨y0, y1, y2, y3, y4, y5⟩ := hSw; go_simp)
  simp only [Act.put, List.setIfInBounds_toArray, List.set_cons_zero, List.set_cons_succ]
  refine wpAnyH_done (by kernel_rfl) ?_ _
  obtain ⟨⟨z0, z1, z2, z3, z4⟩, z5, z6, z7, _⟩ := (unhide HX2).cells
  dsimp only at z5 z6 z7
  have f4 := (unhide HX2).frz 4
  have f2 := (unhide HX2).frz 2
  have f3 := (unhide HX2).frz 3
  obtain ⟨W3, hW3, g0, g1, g2, g3, g4, k2, k3, p2, p3, HB3⟩ : ∃ W3 : World, w2.setCell ⟨w.heap.size, 4, none⟩ (.slice va (s.es.length - m) 0) = W3 ∧ W3.cell? ⟨w.heap.size, 0, none⟩ = some (.int .u64 (s.term : Int)) ∧ W3.cell? ⟨w.heap.size, 1, none⟩ = some (.int .i64 ((s.vote : Int) - 1)) ∧ W3.cell? ⟨w.heap.size, 2, none⟩ = some (.int .u64 (s.base : Int)) ∧ W3.cell? ⟨w.heap.size, 3, none⟩ = some (.int .u64 (s.bt : Int)) ∧ W3.cell? ⟨w.heap.size, 4, none⟩ = some (.slice va (s.es.length - m) 0) ∧ W3.frozen? ⟨w.heap.size, 2, none⟩ = false ∧ W3.frozen? ⟨w.heap.size, 3, none⟩ = false ∧ W3.cell? ⟨w.heap.size + 1, 2, none⟩ = some (.int .u64 (ix : Int)) ∧ W3.cell? ⟨w.heap.size + 1, 3, none⟩ = some (.int .u64 (te : Int)) ∧ Hid (Below w.heap.size w W3) := by
    have hx := unhide HX2
    have h3 : (w2.setCell ⟨w.heap.size, 4, none⟩ (.slice va (s.es.length - m) 0)).heap[w.heap.size]? = some (.cells #[.int .u64 (s.term : Int), .int .i64 ((s.vote : Int) - 1), .int .u64 (s.base : Int), .int .u64 (s.bt : Int), .slice va (s.es.length - m) 0] 56 (0, 0)) := (Dk.heap_setCell_at hx.2.1 _ _).trans rfl
    have h4 : (w2.setCell ⟨w.heap.size, 4, none⟩ (.slice va (s.es.length - m) 0)).heap[w.heap.size + 1]? = some (.cells #[.int .i64 5, .int .i64 nu, .int .u64 (ix : Int), .int .u64 (te : Int), .int .i64 vo, l, k] 59 (0, 0)) := (Dk.heap_setCell_ne _ _ (by omega)).trans hx.2.2
    exact ⟨_, rfl, (Dk.cellB h3 0).1, (Dk.cellB h3 1).1, (Dk.cellB h3 2).1, (Dk.cellB h3 3).1, (Dk.cellB h3 4).1, (Dk.cellB h3 2).2, (Dk.cellB h3 3).2, (Dk.cellB h4 2).1, (Dk.cellB h4 3).1, hx.1.setCell (p := ⟨w.heap.size, 4, none⟩) (Nat.le_refl _) _⟩
  have hvk := unhide HVK
  go_wp2_with fail
  try rw [hW3]
  clear hW3 z0 z1 z2 z3 z4 z5 z6 z7 f2 f3 f4 HX2
  go_region
  all_goals
    go_wp2_with fail
    go_ret2
    have hbl : Below w.heap.size w ((W3.setCell ⟨w.heap.size, 2, none⟩ (.int .u64 (ix : Int))).setCell ⟨w.heap.size, 3, none⟩ (.int .u64 (te : Int))).drew := below_trans0 (((unhide HB3).setCell (p := ⟨w.heap.size, 2, none⟩) (Nat.le_refl _) _).setCell (p := ⟨w.heap.size, 3, none⟩) (Nat.le_refl _) _) (drew_below _ 1)
    have := DoesP.one (s := ⟨s.term, s.vote, ix, te, s.es.drop m⟩) (c := 0) (u := .slice va (s.es.length - m) 0) (v := .slice va s.es.length vk) hbl (HEL _ hbl) (fun g hg => .inl (HMP g hg))
    rw [drew_alloc] at this
    simpa using this
set_option maxHeartbeats 6400000 in
set_option maxRecDepth 100000 in
theorem does_drop_some (hv : EL w v s.es) (hx0 : x.what = 5) (hs : s.base ≤ 4611686018427387904) (hl : s.es.length ≤ 1000000) (hb : s.base ≤ x.index ∧ x.index ≤ 4611686018427387904) (hc : x.index ≤ s.base + s.es.length) (hd : ∀ m, x.index = s.base + m → ∀ a n k, v = .slice a n k → ¬ k = m) : Calls Tryz.prog 21 #[stA s v, spA x] w fun e w' => DoesP w v [⟨s.term, s.vote, x.index, x.term, s.es.drop (x.index - s.base)⟩] 0 e w' := by
  obtain ⟨wh, nu, ix, te, vo, l, es, k, ks⟩ := x
  dsimp only at *
  subst hx0
  obtain ⟨va, vk, rfl, hk1, hk2⟩ := id hv.slice
  have h1 : ¬ ((ix : Int) < (s.base : Int)) := by omega
  have h2 : ¬ ((4611686018427387904 : Int) < (ix : Int)) := by omega
  have h3 : (ix : Int) ≤ (s.base : Int) + (s.es.length : Int) := by omega
  obtain ⟨m, hm⟩ : ∃ m, ix - s.base = m := ⟨_, rfl⟩
  have hw2 : IntKind.u64.wrap ((ix : Int) - (s.base : Int)) = (m : Int) := by rw [IntKind.wrap_u64] <;> omega
  have hmi : (m : Int) ≤ (s.es.length : Int) := by omega
  have hm0 : (0 : Int) ≤ (m : Int) := by omega
  have hvk : ¬ vk = m := hd m (by omega) va s.es.length vk rfl
  have HEL : ∀ W : World, Below w.heap.size w W → EL W (.slice (va.map fun x => x.add (m * 5)) (s.es.length - m) (vk - m)) (s.es.drop m) := fun W hb => ((hv.below hb).drop3 (m := m) (by omega)).2 hvk
  have HMP : ∀ g, inB (.slice (va.map fun x => x.add (m * 5)) (s.es.length - m) (vk - m)) g → inB (.slice va s.es.length vk) g := fun g hg => by
    obtain ⟨o, n2, k2, e2⟩ := hg
    cases va with
    | none => cases e2
    | some y =>
      rcases id hv with ⟨e, _⟩ | ⟨g', off, k', cur, h1, _⟩
      · cases e
      · cases h1
        have e3 : g' = g := by simp [Go.WideShapes.add_plain] at e2; exact e2.1.1
        rw [← e3]
        exact ⟨_, _, _, rfl⟩
  rw [hm]
  have HVK := hide hvk
  clear hd hm hb hc hvk
  have HL := hide (fun W : World => wlast_any W s va vk hs hl)
  obtain ⟨W0, hW0⟩ : ∃ W0, W0 = (w.alloc (.cells #[.int .u64 (s.term : Int), .int .i64 ((s.vote : Int) - 1), .int .u64 (s.base : Int), .int .u64 (s.bt : Int), .slice va s.es.length vk] 56)).alloc (.cells #[.int .i64 5, .int .i64 nu, .int .u64 (ix : Int), .int .u64 (te : Int), .int .i64 vo, l, k] 59) := ⟨_, rfl⟩
  have HX0 : Hid (X0 w s (.slice va s.es.length vk) ⟨5, nu, ix, te, vo, l, es, k, ks⟩ W0) := by rw [hW0]; exact X0.start w s _ ⟨5, nu, ix, te, vo, l, es, k, ks⟩
  go_enter Tryz.func21, Tryz.ntmps21
  go_wp2_with fail
  rw [← hW0]
  have HX1 : Hid (X0 w s (.slice va s.es.length vk) ⟨5, nu, ix, te, vo, l, es, k, ks⟩ W0.drew) := (unhide HX0).below (drew_below W0 1)
  clear hW0 HX0
  refine wp_region_held_drew (S := fun w' => w'.cell? ⟨w.heap.size + 1, 2, none⟩ = some (.int .u64 (ix : Int)) ∧ (w'.cell? ⟨w.heap.size, 0, none⟩ = some (.int .u64 (s.term : Int)) ∧ w'.cell? ⟨w.heap.size, 1, none⟩ = some (.int .i64 ((s.vote : Int) - 1)) ∧ w'.cell? ⟨w.heap.size, 2, none⟩ = some (.int .u64 (s.base : Int)) ∧ w'.cell? ⟨w.heap.size, 3, none⟩ = some (.int .u64 (s.bt : Int)) ∧ w'.cell? ⟨w.heap.size, 4, none⟩ = some (.slice va s.es.length vk))) (by kernel_rfl) ⟨(unhide HX1).cells.2.2.1, (unhide HX1).cells.1⟩ (fun hHeld => ?_)
  refine hand_to (i := 0) (d := 117) (v := (.pointer (some ⟨w.heap.size + 1, 2, none⟩))) rfl rfl (by kernel_rfl) (by kernel_rfl) (by kernel_rfl) (fun _ _ _ h => h) (Or.inl ⟨by rfl, ?_⟩) hHeld ?_
  · (intro w' hSw; obtain ⟨y0, y1, y2, y3, y4, y5⟩ := hSw; go_simp)
  simp only [Act.put, List.setIfInBounds_toArray, List.set_cons_zero, List.set_cons_succ]
  refine hand_to (i := 1) (d := 118) (v := (.int .u64 (ix : Int))) rfl rfl (by kernel_rfl) (by kernel_rfl) (by kernel_rfl) (fun _ _ _ h => h) (Or.inl ⟨by rfl, ?_⟩) hHeld ?_
  · (intro w' hSw; obtain ⟨y0, y1, y2, y3, y4, y5⟩ := hSw; go_simp)
  simp only [Act.put, List.setIfInBounds_toArray, List.set_cons_zero, List.set_cons_succ]
  refine hand_to (i := 2) (d := 119) (v := (.agg #[.int .u64 (s.term : Int), .int .i64 ((s.vote : Int) - 1), .int .u64 (s.base : Int), .int .u64 (s.bt : Int), .slice va s.es.length vk])) rfl rfl (by kernel_rfl) (by kernel_rfl) (by kernel_rfl) (fun _ _ _ h => h) (Or.inl ⟨by rfl, ?_⟩) hHeld ?_
  · (intro w' hSw; obtain ⟨y0, y1, y2, y3, y4, y5⟩ := hSw; go_simp)
  simp only [Act.put, List.setIfInBounds_toArray, List.set_cons_zero, List.set_cons_succ]
  refine wpAnyH_ready (rs := [3]) (by kernel_rfl) (by simp) ?_
  refine AllReadyH.cons rfl (fun K hK => ?_) AllReadyH.nil
  go_simp
  (go_at_call 42; refine (unhide HL _).mono ?_; rintro e w2 ⟨rfl, b2⟩; have HX2 := hide ((unhide HX1).below b2); clear HL HX1 b2)
  (go_wp2_with fail)
  refine hK.out _ _ ⟨(unhide HX2).cells.2.2.1, (unhide HX2).cells.1⟩ (fun hHeld2 => ?_)
  clear hK K hHeld
  have hHeld := hHeld2
  clear hHeld2
  refine hand_to (i := 4) (d := 121) (v := (.bool true)) rfl rfl (by kernel_rfl) (by kernel_rfl) (by kernel_rfl) (fun _ _ _ h => h) (Or.inl ⟨by rfl, ?_⟩) hHeld ?_
  · (intro w' hSw; obtain ⟨y0, y1, y2, y3, y4, y5⟩ := hSw; go_simp)
  simp only [Act.put, List.setIfInBounds_toArray, List.set_cons_zero, List.set_cons_succ]
  refine wpAnyH_done (by kernel_rfl) ?_ _
  obtain ⟨⟨z0, z1, z2, z3, z4⟩, z5, z6, z7, _⟩ := (unhide HX2).cells
  dsimp only at z5 z6 z7
  have f4 := (unhide HX2).frz 4
  have f2 := (unhide HX2).frz 2
  have f3 := (unhide HX2).frz 3
  obtain ⟨W3, hW3, g0, g1, g2, g3, g4, k2, k3, p2, p3, HB3⟩ : ∃ W3 : World, w2.setCell ⟨w.heap.size, 4, none⟩ (.slice (va.map fun x => x.add (m * 5)) (s.es.length - m) (vk - m)) = W3 ∧ W3.cell? ⟨w.heap.size, 0, none⟩ = some (.int .u64 (s.term : Int)) ∧ W3.cell? ⟨w.heap.size, 1, none⟩ = some (.int .i64 ((s.vote : Int) - 1)) ∧ W3.cell? ⟨w.heap.size, 2, none⟩ = some (.int .u64 (s.base : Int)) ∧ W3.cell? ⟨w.heap.size, 3, none⟩ = some (.int .u64 (s.bt : Int)) ∧ W3.cell? ⟨w.heap.size, 4, none⟩ = some (.slice (va.map fun x => x.add (m * 5)) (s.es.length - m) (vk - m)) ∧ W3.frozen? ⟨w.heap.size, 2, none⟩ = false ∧ W3.frozen? ⟨w.heap.size, 3, none⟩ = false ∧ W3.cell? ⟨w.heap.size + 1, 2, none⟩ = some (.int .u64 (ix : Int)) ∧ W3.cell? ⟨w.heap.size + 1, 3, none⟩ = some (.int .u64 (te : Int)) ∧ Hid (Below w.heap.size w W3) := by
    have hx := unhide HX2
    have h3 : (w2.setCell ⟨w.heap.size, 4, none⟩ (.slice (va.map fun x => x.add (m * 5)) (s.es.length - m) (vk - m))).heap[w.heap.size]? = some (.cells #[.int .u64 (s.term : Int), .int .i64 ((s.vote : Int) - 1), .int .u64 (s.base : Int), .int .u64 (s.bt : Int), .slice (va.map fun x => x.add (m * 5)) (s.es.length - m) (vk - m)] 56 (0, 0)) := (Dk.heap_setCell_at hx.2.1 _ _).trans rfl
    have h4 : (w2.setCell ⟨w.heap.size, 4, none⟩ (.slice (va.map fun x => x.add (m * 5)) (s.es.length - m) (vk - m))).heap[w.heap.size + 1]? = some (.cells #[.int .i64 5, .int .i64 nu, .int .u64 (ix : Int), .int .u64 (te : Int), .int .i64 vo, l, k] 59 (0, 0)) := (Dk.heap_setCell_ne _ _ (by omega)).trans hx.2.2
    exact ⟨_, rfl, (Dk.cellB h3 0).1, (Dk.cellB h3 1).1, (Dk.cellB h3 2).1, (Dk.cellB h3 3).1, (Dk.cellB h3 4).1, (Dk.cellB h3 2).2, (Dk.cellB h3 3).2, (Dk.cellB h4 2).1, (Dk.cellB h4 3).1, hx.1.setCell (p := ⟨w.heap.size, 4, none⟩) (Nat.le_refl _) _⟩
  have hvk := unhide HVK
  go_wp2_with fail
  try rw [hW3]
  clear hW3 z0 z1 z2 z3 z4 z5 z6 z7 f2 f3 f4 HX2
  go_region
  all_goals
    go_wp2_with fail
    go_ret2
    have hbl : Below w.heap.size w ((W3.setCell ⟨w.heap.size, 2, none⟩ (.int .u64 (ix : Int))).setCell ⟨w.heap.size, 3, none⟩ (.int .u64 (te : Int))).drew := below_trans0 (((unhide HB3).setCell (p := ⟨w.heap.size, 2, none⟩) (Nat.le_refl _) _).setCell (p := ⟨w.heap.size, 3, none⟩) (Nat.le_refl _) _) (drew_below _ 1)
    have := DoesP.one (s := ⟨s.term, s.vote, ix, te, s.es.drop m⟩) (c := 0) (u := .slice (va.map fun x => x.add (m * 5)) (s.es.length - m) (vk - m)) (v := .slice va s.es.length vk) hbl (HEL _ hbl) (fun g hg => .inl (HMP g hg))
    rw [drew_alloc] at this
    simpa using this
end
end Go.Proofs.YthphadbcebeoaaaGreatDoor
