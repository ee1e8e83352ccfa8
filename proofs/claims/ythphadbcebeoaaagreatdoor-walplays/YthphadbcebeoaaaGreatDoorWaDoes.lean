/- WalPlays: what a step does to a state. -/
import Derived.Test.YthphadbcebeoaaaGreatDoorWaIs
import Derived.Test.YthphadbcebeoaaaGreatDoorJWaFewWaStepWaInWaIn2
namespace Go.Proofs.YthphadbcebeoaaaGreatDoor
open Go.RowKit Go.Lib Go.Maps

/-- A state of the statement's as cells; a row of them. -/
def stC (s : Sta) (v : Value) : List Value := [.int .u64 (s.term : Int), .int .i64 ((s.vote : Int) - 1), .int .u64 (s.base : Int), .int .u64 (s.bt : Int), v]
def msC (ms : List (Sta × Value)) : List Value := ms.flatMap fun x => stC x.1 x.2
theorem msC_len : ∀ ms : List (Sta × Value), (msC ms).length = ms.length * 5
  | [] => rfl
  | x :: r => by rw [msC, List.flatMap_cons, List.length_append]; have := msC_len r; unfold msC at this; rw [this, List.length_cons]; simp [stC]; omega
theorem msC_app (a b : List (Sta × Value)) : msC (a ++ b) = msC a ++ msC b := by simp [msC]
/-- What a step tells: states, a class. -/
def DoesP (w : World) (v : Value) (L : List Sta) (c : Int) (e : Ending) (w' : World) : Prop :=
  ∃ (ms : List (Sta × Value)) (ma : Option Addr) (mk : Nat), e = .returned (.tuple #[.slice ma ms.length mk, .int .i64 c]) ∧ w'.ownsRow w.heap.size 56 5 (.slice ma ms.length mk) ms.length (msC ms) ∧ (∀ y ∈ ms, EL w' y.2 y.1.es ∧ ∀ g, inB y.2 g → inB v g ∨ w.heap.size ≤ g) ∧ Below w.heap.size w w' ∧ ms.map Prod.fst = L
theorem DoesP.nil0 {w w' : World} {v : Value} {c : Int} (hb : Below w.heap.size w w') : DoesP w v [] c (.returned (.tuple #[.slice none 0 0, .int .i64 c])) w' := ⟨[], none, 0, rfl, World.ownsRow_nil _ _ _ _, fun y hy => (by cases hy), hb, rfl⟩
theorem DoesP.one {w W : World} {v u : Value} {c : Int} {s : Sta} (hb : Below w.heap.size w W) (hu : EL W u s.es) (hin : ∀ g, inB u g → inB v g ∨ w.heap.size ≤ g) : DoesP w v [s] c (.returned (.tuple #[.slice (some ⟨W.heap.size, 0, none⟩) 1 1, .int .i64 c])) (W.alloc (.cells #[.int .u64 (s.term : Int), .int .i64 ((s.vote : Int) - 1), .int .u64 (s.base : Int), .int .u64 (s.bt : Int), u] 56)) := by
  have hb1 := box_below W (.cells #[.int .u64 (s.term : Int), .int .i64 ((s.vote : Int) - 1), .int .u64 (s.base : Int), .int .u64 (s.bt : Int), u] 56)
  refine ⟨[(s, u)], some ⟨W.heap.size, 0, none⟩, 1, rfl, ⟨rfl, .inr ⟨W.heap.size, 1, _, rfl, hb.size, heap_alloc_new _ _, Nat.le_refl _, by decide, by simp, by simp [msC, stC]⟩⟩, fun y hy => ?_, below_trans0 hb hb1, rfl⟩
  rw [List.mem_singleton.1 hy]
  exact ⟨hu.below hb1, hin⟩
section
variable {w : World} {s : Sta} {v : Value} {x : GStp}
/-- The call's arguments. -/
abbrev stA (s : Sta) (v : Value) : Value := .agg #[.int .u64 (s.term : Int), .int .i64 ((s.vote : Int) - 1), .int .u64 (s.base : Int), .int .u64 (s.bt : Int), v]
abbrev spA (x : GStp) : Value := .agg #[.int .i64 x.what, .int .i64 x.num, .int .u64 (x.index : Int), .int .u64 (x.term : Int), .int .i64 x.vote, x.l, x.k]
set_option maxHeartbeats 6400000 in
set_option maxRecDepth 100000 in
theorem does_set_bad (hv : EL w v s.es) (hx0 : x.what = 0) (hb : x.vote < -1 ∨ 1000 < x.vote) : Calls Tryz.prog 21 #[stA s v, spA x] w fun e w' => DoesP w v [] 20 e w' := by
  obtain ⟨wh, nu, ix, te, vo, l, es, k, ks⟩ := x
  dsimp only at *
  subst hx0
  obtain ⟨va, vk, rfl, _, _⟩ := id hv.slice
  have HB : Hid (∀ W : World, W = (w.alloc (.cells #[.int .u64 (s.term : Int), .int .i64 ((s.vote : Int) - 1), .int .u64 (s.base : Int), .int .u64 (s.bt : Int), .slice va s.es.length vk] 56)).alloc (.cells #[.int .i64 0, .int .i64 nu, .int .u64 (ix : Int), .int .u64 (te : Int), .int .i64 vo, l, k] 59) → Below w.heap.size w W) := fun W h => by rw [h]; exact ((Below.refl _ _).alloc (Nat.le_refl _) _).alloc (by simp) _
  by_cases h1 : vo < -1
  · go_enter Tryz.func21, Tryz.ntmps21
    go_wp2_with fail
    go_ret2
    exact DoesP.nil0 (unhide HB _ rfl)
  · have h2 : 1000 < vo := by omega
    go_enter Tryz.func21, Tryz.ntmps21
    go_wp2_with fail
    go_ret2
    exact DoesP.nil0 (unhide HB _ rfl)
set_option maxHeartbeats 6400000 in
set_option maxRecDepth 100000 in
theorem does_set_go (hv : EL w v s.es) (hx0 : x.what = 0) (hb : -1 ≤ x.vote ∧ x.vote ≤ 1000) : Calls Tryz.prog 21 #[stA s v, spA x] w fun e w' => DoesP w v [⟨x.term, plN x.vote, s.base, s.bt, s.es⟩] 0 e w' := by
  obtain ⟨wh, nu, ix, te, vo, l, es, k, ks⟩ := x
  dsimp only at *
  subst hx0
  obtain ⟨va, vk, rfl, _, _⟩ := id hv.slice
  have h1 : ¬ (vo < -1) := by omega
  have h2 : ¬ (1000 < vo) := by omega
  have HB : Hid (∀ W : World, W = (w.alloc (.cells #[.int .u64 (te : Int), .int .i64 vo, .int .u64 (s.base : Int), .int .u64 (s.bt : Int), .slice va s.es.length vk] 56)).alloc (.cells #[.int .i64 0, .int .i64 nu, .int .u64 (ix : Int), .int .u64 (te : Int), .int .i64 vo, l, k] 59) → DoesP w (.slice va s.es.length vk) [⟨te, plN vo, s.base, s.bt, s.es⟩] 0 (.returned (.tuple #[.slice (some ⟨W.heap.size, 0, none⟩) 1 1, .int .i64 0])) (W.alloc (.cells #[.int .u64 (te : Int), .int .i64 vo, .int .u64 (s.base : Int), .int .u64 (s.bt : Int), .slice va s.es.length vk] 56))) := fun W h => by
    have hbl : Below w.heap.size w W := by rw [h]; exact ((Below.refl _ _).alloc (Nat.le_refl _) _).alloc (by simp) _
    have e1 : vo = ((plN vo : Nat) : Int) - 1 := by have := plN_small hb.1 hb.2; omega
    have := DoesP.one (s := ⟨te, plN vo, s.base, s.bt, s.es⟩) (c := 0) (v := .slice va s.es.length vk) hbl (hv.below hbl) (fun g hg => .inl hg)
    dsimp only at this
    rw [← e1] at this
    exact this
  clear hv hb
  go_enter Tryz.func21, Tryz.ntmps21
  go_wp2_with fail
  go_ret2
  have := unhide HB _ rfl
  simpa using this
set_option maxHeartbeats 1600000 in
theorem wlast_any (w : World) (s : Sta) (va : Option Addr) (vk : Nat) (hs : s.base ≤ 4611686018427387904) (hl : s.es.length ≤ 1000000) : Calls Tryz.prog 42 #[stA s (.slice va s.es.length vk)] w fun e w' => e = .returned (.int .u64 ((s.base : Int) + (s.es.length : Int))) ∧ Below w.heap.size w w' := by
  have hw : IntKind.u64.wrap (s.es.length : Int) = (s.es.length : Int) := by rw [IntKind.wrap_u64] <;> omega
  have hw2 : IntKind.u64.wrap ((s.base : Int) + (s.es.length : Int)) = (s.base : Int) + (s.es.length : Int) := by rw [IntKind.wrap_u64] <;> omega
  have HB := hide (box_below w (.cells #[.int .u64 (s.term : Int), .int .i64 ((s.vote : Int) - 1), .int .u64 (s.base : Int), .int .u64 (s.bt : Int), .slice va s.es.length vk] 56))
  go_enter Tryz.func42, Tryz.ntmps42
  go_wp2_with fail
  go_ret
  exact ⟨rfl, unhide HB⟩
theorem EL.cap {w : World} {a : Option Addr} {n k : Nat} {es : List GE} (h : EL w (.slice a n k) es) : EL w (.slice a n n) es := by
  rcases h with ⟨h, rfl⟩ | ⟨g, off, k', cur, h1, h2, h3, h4, h5, h6⟩
  · cases h
    exact .inl ⟨rfl, rfl⟩
  · cases h1
    exact .inr ⟨g, off, es.length, cur, rfl, h2, Nat.le_refl _, by omega, by omega, h6⟩
theorem inB.wide {a : Option Addr} {n k g : Nat} (h : inB (.slice a n k) g) (a' : Option Addr) (n' k' : Nat) (e : a' = a := by rfl) : inB (.slice a' n' k') g := by
  obtain ⟨o, n2, k2, e2⟩ := h
  cases e2
  exact ⟨o, n', k', by rw [e]⟩
/-- The call's two variables. -/
def X0 (w : World) (s : Sta) (v : Value) (x : GStp) (W : World) : Prop :=
  Below w.heap.size w W ∧ W.heap[w.heap.size]? = some (.cells #[.int .u64 (s.term : Int), .int .i64 ((s.vote : Int) - 1), .int .u64 (s.base : Int), .int .u64 (s.bt : Int), v] 56 (0, 0)) ∧ W.heap[w.heap.size + 1]? = some (.cells #[.int .i64 x.what, .int .i64 x.num, .int .u64 (x.index : Int), .int .u64 (x.term : Int), .int .i64 x.vote, x.l, x.k] 59 (0, 0))
theorem X0.start (w : World) (s : Sta) (v : Value) (x : GStp) : X0 w s v x ((w.alloc (.cells #[.int .u64 (s.term : Int), .int .i64 ((s.vote : Int) - 1), .int .u64 (s.base : Int), .int .u64 (s.bt : Int), v] 56)).alloc (.cells #[.int .i64 x.what, .int .i64 x.num, .int .u64 (x.index : Int), .int .u64 (x.term : Int), .int .i64 x.vote, x.l, x.k] 59)) := by
  have hb := box_below (w.alloc (.cells #[.int .u64 (s.term : Int), .int .i64 ((s.vote : Int) - 1), .int .u64 (s.base : Int), .int .u64 (s.bt : Int), v] 56)) (.cells #[.int .i64 x.what, .int .i64 x.num, .int .u64 (x.index : Int), .int .u64 (x.term : Int), .int .i64 x.vote, x.l, x.k] 59)
  refine ⟨below_trans0 (box_below w _) hb, (hb.block _ (by simp)).trans (heap_alloc_new _ _), ?_⟩
  have e : w.heap.size + 1 = (w.alloc (.cells #[.int .u64 (s.term : Int), .int .i64 ((s.vote : Int) - 1), .int .u64 (s.base : Int), .int .u64 (s.bt : Int), v] 56)).heap.size := by simp
  rw [e]
  exact heap_alloc_new _ _
theorem X0.below {w W W' : World} {s : Sta} {v : Value} {x : GStp} (h : X0 w s v x W) (hb : Below W.heap.size W W') : X0 w s v x W' :=
  ⟨below_trans0 h.1 hb, (hb.block _ (Array.getElem?_eq_some_iff.1 h.2.1).1).trans h.2.1, (hb.block _ (Array.getElem?_eq_some_iff.1 h.2.2).1).trans h.2.2⟩
theorem X0.cells {w W : World} {s : Sta} {v : Value} {x : GStp} (h : X0 w s v x W) : (W.cell? ⟨w.heap.size, 0, none⟩ = some (.int .u64 (s.term : Int)) ∧ W.cell? ⟨w.heap.size, 1, none⟩ = some (.int .i64 ((s.vote : Int) - 1)) ∧ W.cell? ⟨w.heap.size, 2, none⟩ = some (.int .u64 (s.base : Int)) ∧ W.cell? ⟨w.heap.size, 3, none⟩ = some (.int .u64 (s.bt : Int)) ∧ W.cell? ⟨w.heap.size, 4, none⟩ = some v) ∧ W.cell? ⟨w.heap.size + 1, 0, none⟩ = some (.int .i64 x.what) ∧ W.cell? ⟨w.heap.size + 1, 2, none⟩ = some (.int .u64 (x.index : Int)) ∧ W.cell? ⟨w.heap.size + 1, 3, none⟩ = some (.int .u64 (x.term : Int)) ∧ W.cell? ⟨w.heap.size + 1, 5, none⟩ = some x.l :=
  ⟨⟨(Dk.cellB h.2.1 0).1, (Dk.cellB h.2.1 1).1, (Dk.cellB h.2.1 2).1, (Dk.cellB h.2.1 3).1, (Dk.cellB h.2.1 4).1⟩, (Dk.cellB h.2.2 0).1, (Dk.cellB h.2.2 2).1, (Dk.cellB h.2.2 3).1, (Dk.cellB h.2.2 5).1⟩
theorem X0.frz {w W : World} {s : Sta} {v : Value} {x : GStp} (h : X0 w s v x W) (i : Nat) : W.frozen? ⟨w.heap.size, i, none⟩ = false := (Dk.cellB h.2.1 i).2
set_option maxHeartbeats 6400000 in
set_option maxRecDepth 100000 in
theorem does_cut_low (hv : EL w v s.es) (hx0 : x.what = 4) (hs : s.base ≤ 4611686018427387904) (hl : s.es.length ≤ 1000000) (hb : x.index ≤ s.base) : Calls Tryz.prog 21 #[stA s v, spA x] w fun e w' => DoesP w v [] 40 e w' := by
  obtain ⟨wh, nu, ix, te, vo, l, es, k, ks⟩ := x
  dsimp only at *
  subst hx0
  obtain ⟨va, vk, rfl, hk1, hk2⟩ := id hv.slice
  have h1 : (ix : Int) ≤ (s.base : Int) := by omega
  have HL := hide (fun W : World => wlast_any W s va vk hs hl)
  obtain ⟨W0, hW0⟩ : ∃ W0, W0 = (w.alloc (.cells #[.int .u64 (s.term : Int), .int .i64 ((s.vote : Int) - 1), .int .u64 (s.base : Int), .int .u64 (s.bt : Int), .slice va s.es.length vk] 56)).alloc (.cells #[.int .i64 4, .int .i64 nu, .int .u64 (ix : Int), .int .u64 (te : Int), .int .i64 vo, l, k] 59) := ⟨_, rfl⟩
  have HX0 : Hid (X0 w s (.slice va s.es.length vk) ⟨4, nu, ix, te, vo, l, es, k, ks⟩ W0) := by rw [hW0]; exact X0.start w s _ ⟨4, nu, ix, te, vo, l, es, k, ks⟩
  go_enter Tryz.func21, Tryz.ntmps21
  go_wp2_with fail
  rw [← hW0]
  have HX1 : Hid (X0 w s (.slice va s.es.length vk) ⟨4, nu, ix, te, vo, l, es, k, ks⟩ W0.drew) := (unhide HX0).below (drew_below W0 1)
  clear hW0 HX0
  refine wp_region_held_drew (S := fun w' => w'.cell? ⟨w.heap.size + 1, 2, none⟩ = some (.int .u64 (ix : Int)) ∧ (w'.cell? ⟨w.heap.size, 0, none⟩ = some (.int .u64 (s.term : Int)) ∧ w'.cell? ⟨w.heap.size, 1, none⟩ = some (.int .i64 ((s.vote : Int) - 1)) ∧ w'.cell? ⟨w.heap.size, 2, none⟩ = some (.int .u64 (s.base : Int)) ∧ w'.cell? ⟨w.heap.size, 3, none⟩ = some (.int .u64 (s.bt : Int)) ∧ w'.cell? ⟨w.heap.size, 4, none⟩ = some (.slice va s.es.length vk))) (by kernel_rfl) ⟨(unhide HX1).cells.2.2.1, (unhide HX1).cells.1⟩ (fun hHeld => ?_)
  refine hand_to (i := 0) (d := 76) (v := (.pointer (some ⟨w.heap.size + 1, 2, none⟩))) rfl rfl (by kernel_rfl) (by kernel_rfl) (by kernel_rfl) (fun _ _ _ h => h) (Or.inl ⟨by rfl, ?_⟩) hHeld ?_
  · (intro w' hSw; obtain ⟨y0, y1, y2, y3, y4, y5⟩ := hSw; go_simp)
  simp only [Act.put, List.setIfInBounds_toArray, List.set_cons_zero, List.set_cons_succ]
  refine hand_to (i := 1) (d := 77) (v := (.int .u64 (ix : Int))) rfl rfl (by kernel_rfl) (by kernel_rfl) (by kernel_rfl) (fun _ _ _ h => h) (Or.inl ⟨by rfl, ?_⟩) hHeld ?_
  · (intro w' hSw; obtain ⟨y0, y1, y2, y3, y4, y5⟩ := hSw; go_simp)
  simp only [Act.put, List.setIfInBounds_toArray, List.set_cons_zero, List.set_cons_succ]
  refine hand_to (i := 2) (d := 78) (v := (.pointer (some ⟨w.heap.size, 2, none⟩))) rfl rfl (by kernel_rfl) (by kernel_rfl) (by kernel_rfl) (fun _ _ _ h => h) (Or.inl ⟨by rfl, ?_⟩) hHeld ?_
  · (intro w' hSw; obtain ⟨y0, y1, y2, y3, y4, y5⟩ := hSw; go_simp)
  simp only [Act.put, List.setIfInBounds_toArray, List.set_cons_zero, List.set_cons_succ]
  refine hand_to (i := 3) (d := 79) (v := (.int .u64 (s.base : Int))) rfl rfl (by kernel_rfl) (by kernel_rfl) (by kernel_rfl) (fun _ _ _ h => h) (Or.inl ⟨by rfl, ?_⟩) hHeld ?_
  · (intro w' hSw; obtain ⟨y0, y1, y2, y3, y4, y5⟩ := hSw; go_simp)
  simp only [Act.put, List.setIfInBounds_toArray, List.set_cons_zero, List.set_cons_succ]
  refine hand_to (i := 4) (d := 80) (v := (.bool true)) rfl rfl (by kernel_rfl) (by kernel_rfl) (by kernel_rfl) (fun _ _ _ h => h) (Or.inl ⟨by rfl, ?_⟩) hHeld ?_
  · (intro w' hSw; obtain ⟨y0, y1, y2, y3, y4, y5⟩ := hSw; go_simp)
  simp only [Act.put, List.setIfInBounds_toArray, List.set_cons_zero, List.set_cons_succ]
  refine hand_to (i := 5) (d := 81) (v := (.bool true)) rfl rfl (by kernel_rfl) (by kernel_rfl) (by kernel_rfl) (fun _ _ _ h => h) (Or.inl ⟨by rfl, ?_⟩) hHeld ?_
  · (intro w' hSw; obtain ⟨y0, y1, y2, y3, y4, y5⟩ := hSw; go_simp)
  simp only [Act.put, List.setIfInBounds_toArray, List.set_cons_zero, List.set_cons_succ]
  refine hand_to (i := 6) (d := 82) (v := undef) rfl rfl (by kernel_rfl) (by kernel_rfl) (by kernel_rfl) (fun _ _ _ h => h) (Or.inr ⟨by rfl, by rfl⟩) hHeld ?_
  simp only [Act.put, List.setIfInBounds_toArray, List.set_cons_zero, List.set_cons_succ]
  refine hand_to (i := 7) (d := 83) (v := undef) rfl rfl (by kernel_rfl) (by kernel_rfl) (by kernel_rfl) (fun _ _ _ h => h) (Or.inr ⟨by rfl, by rfl⟩) hHeld ?_
  simp only [Act.put, List.setIfInBounds_toArray, List.set_cons_zero, List.set_cons_succ]
  refine hand_to (i := 8) (d := 84) (v := undef) rfl rfl (by kernel_rfl) (by kernel_rfl) (by kernel_rfl) (fun _ _ _ h => h) (Or.inr ⟨by rfl, by rfl⟩) hHeld ?_
  simp only [Act.put, List.setIfInBounds_toArray, List.set_cons_zero, List.set_cons_succ]
  refine hand_to (i := 9) (d := 85) (v := undef) rfl rfl (by kernel_rfl) (by kernel_rfl) (by kernel_rfl) (fun _ _ _ h => h) (Or.inr ⟨by rfl, by rfl⟩) hHeld ?_
  simp only [Act.put, List.setIfInBounds_toArray, List.set_cons_zero, List.set_cons_succ]
  refine hand_to (i := 10) (d := 86) (v := undef) rfl rfl (by kernel_rfl) (by kernel_rfl) (by kernel_rfl) (fun _ _ _ h => h) (Or.inr ⟨by rfl, by rfl⟩) hHeld ?_
  simp only [Act.put, List.setIfInBounds_toArray, List.set_cons_zero, List.set_cons_succ]
  refine hand_to (i := 11) (d := 87) (v := undef) rfl rfl (by kernel_rfl) (by kernel_rfl) (by kernel_rfl) (fun _ _ _ h => h) (Or.inr ⟨by rfl, by rfl⟩) hHeld ?_
  simp only [Act.put, List.setIfInBounds_toArray, List.set_cons_zero, List.set_cons_succ]
  refine hand_to (i := 12) (d := 88) (v := (.bool true)) rfl rfl (by kernel_rfl) (by kernel_rfl) (by kernel_rfl) (fun _ _ _ h => h) (Or.inl ⟨by rfl, ?_⟩) hHeld ?_
  · (intro w' hSw; obtain ⟨y0, y1, y2, y3, y4, y5⟩ := hSw; go_simp)
  simp only [Act.put, List.setIfInBounds_toArray, List.set_cons_zero, List.set_cons_succ]
  refine wpAnyH_done (by kernel_rfl) ?_ _
  go_wp2_with fail
  go_ret2
  exact DoesP.nil0 (unhide HX1).1
set_option maxHeartbeats 6400000 in
set_option maxRecDepth 100000 in
theorem does_cut_high (hv : EL w v s.es) (hx0 : x.what = 4) (hs : s.base ≤ 4611686018427387904) (hl : s.es.length ≤ 1000000) (hb : s.base < x.index ∧ s.base + s.es.length + 1 < x.index) : Calls Tryz.prog 21 #[stA s v, spA x] w fun e w' => DoesP w v [] 40 e w' := by
  obtain ⟨wh, nu, ix, te, vo, l, es, k, ks⟩ := x
  dsimp only at *
  subst hx0
  obtain ⟨va, vk, rfl, hk1, hk2⟩ := id hv.slice
  have h1 : ¬ ((ix : Int) ≤ (s.base : Int)) := by omega
  have h2 : (s.base : Int) + (s.es.length : Int) + 1 < (ix : Int) := by omega
  have hw1 : IntKind.u64.wrap ((s.base : Int) + (s.es.length : Int) + 1) = (s.base : Int) + (s.es.length : Int) + 1 := by rw [IntKind.wrap_u64] <;> omega
  have HL := hide (fun W : World => wlast_any W s va vk hs hl)
  obtain ⟨W0, hW0⟩ : ∃ W0, W0 = (w.alloc (.cells #[.int .u64 (s.term : Int), .int .i64 ((s.vote : Int) - 1), .int .u64 (s.base : Int), .int .u64 (s.bt : Int), .slice va s.es.length vk] 56)).alloc (.cells #[.int .i64 4, .int .i64 nu, .int .u64 (ix : Int), .int .u64 (te : Int), .int .i64 vo, l, k] 59) := ⟨_, rfl⟩
  have HX0 : Hid (X0 w s (.slice va s.es.length vk) ⟨4, nu, ix, te, vo, l, es, k, ks⟩ W0) := by rw [hW0]; exact X0.start w s _ ⟨4, nu, ix, te, vo, l, es, k, ks⟩
  go_enter Tryz.func21, Tryz.ntmps21
  go_wp2_with fail
  rw [← hW0]
  have HX1 : Hid (X0 w s (.slice va s.es.length vk) ⟨4, nu, ix, te, vo, l, es, k, ks⟩ W0.drew) := (unhide HX0).below (drew_below W0 1)
  clear hW0 HX0
  refine wp_region_held_drew (S := fun w' => w'.cell? ⟨w.heap.size + 1, 2, none⟩ = some (.int .u64 (ix : Int)) ∧ (w'.cell? ⟨w.heap.size, 0, none⟩ = some (.int .u64 (s.term : Int)) ∧ w'.cell? ⟨w.heap.size, 1, none⟩ = some (.int .i64 ((s.vote : Int) - 1)) ∧ w'.cell? ⟨w.heap.size, 2, none⟩ = some (.int .u64 (s.base : Int)) ∧ w'.cell? ⟨w.heap.size, 3, none⟩ = some (.int .u64 (s.bt : Int)) ∧ w'.cell? ⟨w.heap.size, 4, none⟩ = some (.slice va s.es.length vk))) (by kernel_rfl) ⟨(unhide HX1).cells.2.2.1, (unhide HX1).cells.1⟩ (fun hHeld => ?_)
  refine hand_to (i := 0) (d := 76) (v := (.pointer (some ⟨w.heap.size + 1, 2, none⟩))) rfl rfl (by kernel_rfl) (by kernel_rfl) (by kernel_rfl) (fun _ _ _ h => h) (Or.inl ⟨by rfl, ?_⟩) hHeld ?_
  · (intro w' hSw; obtain ⟨y0, y1, y2, y3, y4, y5⟩ := hSw; go_simp)
  simp only [Act.put, List.setIfInBounds_toArray, List.set_cons_zero, List.set_cons_succ]
  refine hand_to (i := 1) (d := 77) (v := (.int .u64 (ix : Int))) rfl rfl (by kernel_rfl) (by kernel_rfl) (by kernel_rfl) (fun _ _ _ h => h) (Or.inl ⟨by rfl, ?_⟩) hHeld ?_
  · (intro w' hSw; obtain ⟨y0, y1, y2, y3, y4, y5⟩ := hSw; go_simp)
  simp only [Act.put, List.setIfInBounds_toArray, List.set_cons_zero, List.set_cons_succ]
  refine hand_to (i := 2) (d := 78) (v := (.pointer (some ⟨w.heap.size, 2, none⟩))) rfl rfl (by kernel_rfl) (by kernel_rfl) (by kernel_rfl) (fun _ _ _ h => h) (Or.inl ⟨by rfl, ?_⟩) hHeld ?_
  · (intro w' hSw; obtain ⟨y0, y1, y2, y3, y4, y5⟩ := hSw; go_simp)
  simp only [Act.put, List.setIfInBounds_toArray, List.set_cons_zero, List.set_cons_succ]
  refine hand_to (i := 3) (d := 79) (v := (.int .u64 (s.base : Int))) rfl rfl (by kernel_rfl) (by kernel_rfl) (by kernel_rfl) (fun _ _ _ h => h) (Or.inl ⟨by rfl, ?_⟩) hHeld ?_
  · (intro w' hSw; obtain ⟨y0, y1, y2, y3, y4, y5⟩ := hSw; go_simp)
  simp only [Act.put, List.setIfInBounds_toArray, List.set_cons_zero, List.set_cons_succ]
  refine hand_to (i := 4) (d := 80) (v := (.bool false)) rfl rfl (by kernel_rfl) (by kernel_rfl) (by kernel_rfl) (fun _ _ _ h => h) (Or.inl ⟨by rfl, ?_⟩) hHeld ?_
  · (intro w' hSw; obtain ⟨y0, y1, y2, y3, y4, y5⟩ := hSw; go_simp)
  simp only [Act.put, List.setIfInBounds_toArray, List.set_cons_zero, List.set_cons_succ]
  refine hand_to (i := 5) (d := 81) (v := (.bool false)) rfl rfl (by kernel_rfl) (by kernel_rfl) (by kernel_rfl) (fun _ _ _ h => h) (Or.inl ⟨by rfl, ?_⟩) hHeld ?_
  · (intro w' hSw; obtain ⟨y0, y1, y2, y3, y4, y5⟩ := hSw; go_simp)
  simp only [Act.put, List.setIfInBounds_toArray, List.set_cons_zero, List.set_cons_succ]
  refine hand_to (i := 6) (d := 82) (v := (.pointer (some ⟨w.heap.size + 1, 2, none⟩))) rfl rfl (by kernel_rfl) (by kernel_rfl) (by kernel_rfl) (fun _ _ _ h => h) (Or.inl ⟨by rfl, ?_⟩) hHeld ?_
  · (intro w' hSw; obtain ⟨y0, y1, y2, y3, y4, y5⟩ := hSw; go_simp)
  simp only [Act.put, List.setIfInBounds_toArray, List.set_cons_zero, List.set_cons_succ]
  refine hand_to (i := 7) (d := 83) (v := (.int .u64 (ix : Int))) rfl rfl (by kernel_rfl) (by kernel_rfl) (by kernel_rfl) (fun _ _ _ h => h) (Or.inl ⟨by rfl, ?_⟩) hHeld ?_
  · (intro w' hSw; obtain ⟨y0, y1, y2, y3, y4, y5⟩ := hSw; go_simp)
  simp only [Act.put, List.setIfInBounds_toArray, List.set_cons_zero, List.set_cons_succ]
  refine hand_to (i := 8) (d := 84) (v := (.agg #[.int .u64 (s.term : Int), .int .i64 ((s.vote : Int) - 1), .int .u64 (s.base : Int), .int .u64 (s.bt : Int), .slice va s.es.length vk])) rfl rfl (by kernel_rfl) (by kernel_rfl) (by kernel_rfl) (fun _ _ _ h => h) (Or.inl ⟨by rfl, ?_⟩) hHeld ?_
  · (intro w' hSw; obtain ⟨y0, y1, y2, y3, y4, y5⟩ := hSw; go_simp)
  simp only [Act.put, List.setIfInBounds_toArray, List.set_cons_zero, List.set_cons_succ]
  refine wpAnyH_ready (rs := [9]) (by kernel_rfl) (by simp) ?_
  refine AllReadyH.cons rfl (fun K hK => ?_) AllReadyH.nil
  go_simp
  (go_at_call 42; refine (unhide HL _).mono ?_; rintro e w2 ⟨rfl, b2⟩; have HX2 := hide ((unhide HX1).below b2); clear HL HX1 b2)
  (go_wp2_with fail)
  refine hK.out _ _ ⟨(unhide HX2).cells.2.2.1, (unhide HX2).cells.1⟩ (fun hHeld2 => ?_)
  clear hK K hHeld
  have hHeld := hHeld2
  clear hHeld2
  refine hand_to (i := 10) (d := 86) (v := (.int .u64 ((s.base : Int) + (s.es.length : Int) + 1))) rfl rfl (by kernel_rfl) (by kernel_rfl) (by kernel_rfl) (fun _ _ _ h => h) (Or.inl ⟨by rfl, ?_⟩) hHeld ?_
  · (intro w' hSw; obtain ⟨y0, y1, y2, y3, y4, y5⟩ := hSw; go_simp)
  simp only [Act.put, List.setIfInBounds_toArray, List.set_cons_zero, List.set_cons_succ]
  refine hand_to (i := 11) (d := 87) (v := (.bool true)) rfl rfl (by kernel_rfl) (by kernel_rfl) (by kernel_rfl) (fun _ _ _ h => h) (Or.inl ⟨by rfl, ?_⟩) hHeld ?_
  · (intro w' hSw; obtain ⟨y0, y1, y2, y3, y4, y5⟩ := hSw; go_simp)
  simp only [Act.put, List.setIfInBounds_toArray, List.set_cons_zero, List.set_cons_succ]
  refine hand_to (i := 12) (d := 88) (v := (.bool true)) rfl rfl (by kernel_rfl) (by kernel_rfl) (by kernel_rfl) (fun _ _ _ h => h) (Or.inl ⟨by rfl, ?_⟩) hHeld ?_
  · (intro w' hSw; obtain ⟨y0, y1, y2, y3, y4, y5⟩ := hSw; go_simp)
  simp only [Act.put, List.setIfInBounds_toArray, List.set_cons_zero, List.set_cons_succ]
  refine wpAnyH_done (by kernel_rfl) ?_ _
  go_wp2_with fail
  go_ret2
  exact DoesP.nil0 (unhide HX2).1
set_option maxHeartbeats 6400000 in
set_option maxRecDepth 100000 in
theorem does_cut_go (hv : EL w v s.es) (hx0 : x.what = 4) (hs : s.base ≤ 4611686018427387904) (hl : s.es.length ≤ 1000000) (hb : s.base < x.index ∧ x.index ≤ s.base + s.es.length + 1) : Calls Tryz.prog 21 #[stA s v, spA x] w fun e w' => DoesP w v [⟨s.term, s.vote, s.base, s.bt, s.es.take (x.index - s.base - 1)⟩] 0 e w' := by
  obtain ⟨wh, nu, ix, te, vo, l, es, k, ks⟩ := x
  dsimp only at *
  subst hx0
  obtain ⟨va, vk, rfl, hk1, hk2⟩ := id hv.slice
  obtain ⟨m, hix⟩ : ∃ m, ix = s.base + m + 1 := ⟨ix - s.base - 1, by omega⟩
  have hm : m ≤ s.es.length := by omega
  have hmi : (m : Int) ≤ (s.es.length : Int) := by omega
  have hm0 : (0 : Int) ≤ (m : Int) := by omega
  have hw1 : IntKind.u64.wrap ((s.base : Int) + (s.es.length : Int) + 1) = (s.base : Int) + (s.es.length : Int) + 1 := by rw [IntKind.wrap_u64] <;> omega
  have h1 : ¬ ((ix : Int) ≤ (s.base : Int)) := by omega
  have h2 : ¬ ((s.base : Int) + (s.es.length : Int) + 1 < (ix : Int)) := by omega
  have hw2 : IntKind.u64.wrap ((ix : Int) - (s.base : Int)) = (m : Int) + 1 := by rw [IntKind.wrap_u64] <;> omega
  have hw3 : IntKind.u64.wrap ((m : Int) + 1 - 1) = (m : Int) := by rw [IntKind.wrap_u64] <;> omega
  have em : ix - s.base - 1 = m := by omega
  have hlt : s.base < ix := by omega
  rw [em]
  clear hb hix em
  have HL := hide (fun W : World => wlast_any W s va vk hs hl)
  obtain ⟨W0, hW0⟩ : ∃ W0, W0 = (w.alloc (.cells #[.int .u64 (s.term : Int), .int .i64 ((s.vote : Int) - 1), .int .u64 (s.base : Int), .int .u64 (s.bt : Int), .slice va s.es.length vk] 56)).alloc (.cells #[.int .i64 4, .int .i64 nu, .int .u64 (ix : Int), .int .u64 (te : Int), .int .i64 vo, l, k] 59) := ⟨_, rfl⟩
  have HX0 : Hid (X0 w s (.slice va s.es.length vk) ⟨4, nu, ix, te, vo, l, es, k, ks⟩ W0) := by rw [hW0]; exact X0.start w s _ ⟨4, nu, ix, te, vo, l, es, k, ks⟩
  go_enter Tryz.func21, Tryz.ntmps21
  go_wp2_with fail
  rw [← hW0]
  have HX1 : Hid (X0 w s (.slice va s.es.length vk) ⟨4, nu, ix, te, vo, l, es, k, ks⟩ W0.drew) := (unhide HX0).below (drew_below W0 1)
  clear hW0 HX0
  refine wp_region_held_drew (S := fun w' => w'.cell? ⟨w.heap.size + 1, 2, none⟩ = some (.int .u64 (ix : Int)) ∧ (w'.cell? ⟨w.heap.size, 0, none⟩ = some (.int .u64 (s.term : Int)) ∧ w'.cell? ⟨w.heap.size, 1, none⟩ = some (.int .i64 ((s.vote : Int) - 1)) ∧ w'.cell? ⟨w.heap.size, 2, none⟩ = some (.int .u64 (s.base : Int)) ∧ w'.cell? ⟨w.heap.size, 3, none⟩ = some (.int .u64 (s.bt : Int)) ∧ w'.cell? ⟨w.heap.size, 4, none⟩ = some (.slice va s.es.length vk))) (by kernel_rfl) ⟨(unhide HX1).cells.2.2.1, (unhide HX1).cells.1⟩ (fun hHeld => ?_)
  refine hand_to (i := 0) (d := 76) (v := (.pointer (some ⟨w.heap.size + 1, 2, none⟩))) rfl rfl (by kernel_rfl) (by kernel_rfl) (by kernel_rfl) (fun _ _ _ h => h) (Or.inl ⟨by rfl, ?_⟩) hHeld ?_
  · (intro w' hSw; obtain ⟨y0, y1, y2, y3, y4, y5⟩ := hSw; go_simp)
  simp only [Act.put, List.setIfInBounds_toArray, List.set_cons_zero, List.set_cons_succ]
  refine hand_to (i := 1) (d := 77) (v := (.int .u64 (ix : Int))) rfl rfl (by kernel_rfl) (by kernel_rfl) (by kernel_rfl) (fun _ _ _ h => h) (Or.inl ⟨by rfl, ?_⟩) hHeld ?_
  · (intro w' hSw; obtain ⟨y0, y1, y2, y3, y4, y5⟩ := hSw; go_simp)
  simp only [Act.put, List.setIfInBounds_toArray, List.set_cons_zero, List.set_cons_succ]
  refine hand_to (i := 2) (d := 78) (v := (.pointer (some ⟨w.heap.size, 2, none⟩))) rfl rfl (by kernel_rfl) (by kernel_rfl) (by kernel_rfl) (fun _ _ _ h => h) (Or.inl ⟨by rfl, ?_⟩) hHeld ?_
  · (intro w' hSw; obtain ⟨y0, y1, y2, y3, y4, y5⟩ := hSw; go_simp)
  simp only [Act.put, List.setIfInBounds_toArray, List.set_cons_zero, List.set_cons_succ]
  refine hand_to (i := 3) (d := 79) (v := (.int .u64 (s.base : Int))) rfl rfl (by kernel_rfl) (by kernel_rfl) (by kernel_rfl) (fun _ _ _ h => h) (Or.inl ⟨by rfl, ?_⟩) hHeld ?_
  · (intro w' hSw; obtain ⟨y0, y1, y2, y3, y4, y5⟩ := hSw; go_simp)
  simp only [Act.put, List.setIfInBounds_toArray, List.set_cons_zero, List.set_cons_succ]
  refine hand_to (i := 4) (d := 80) (v := (.bool false)) rfl rfl (by kernel_rfl) (by kernel_rfl) (by kernel_rfl) (fun _ _ _ h => h) (Or.inl ⟨by rfl, ?_⟩) hHeld ?_
  · (intro w' hSw; obtain ⟨y0, y1, y2, y3, y4, y5⟩ := hSw; go_simp)
  simp only [Act.put, List.setIfInBounds_toArray, List.set_cons_zero, List.set_cons_succ]
  refine hand_to (i := 5) (d := 81) (v := (.bool false)) rfl rfl (by kernel_rfl) (by kernel_rfl) (by kernel_rfl) (fun _ _ _ h => h) (Or.inl ⟨by rfl, ?_⟩) hHeld ?_
  · (intro w' hSw; obtain ⟨y0, y1, y2, y3, y4, y5⟩ := hSw; go_simp)
  simp only [Act.put, List.setIfInBounds_toArray, List.set_cons_zero, List.set_cons_succ]
  refine hand_to (i := 6) (d := 82) (v := (.pointer (some ⟨w.heap.size + 1, 2, none⟩))) rfl rfl (by kernel_rfl) (by kernel_rfl) (by kernel_rfl) (fun _ _ _ h => h) (Or.inl ⟨by rfl, ?_⟩) hHeld ?_
  · (intro w' hSw; obtain ⟨y0, y1, y2, y3, y4, y5⟩ := hSw; go_simp)
  simp only [Act.put, List.setIfInBounds_toArray, List.set_cons_zero, List.set_cons_succ]
  refine hand_to (i := 7) (d := 83) (v := (.int .u64 (ix : Int))) rfl rfl (by kernel_rfl) (by kernel_rfl) (by kernel_rfl) (fun _ _ _ h => h) (Or.inl ⟨by rfl, ?_⟩) hHeld ?_
  · (intro w' hSw; obtain ⟨y0, y1, y2, y3, y4, y5⟩ := hSw; go_simp)
  simp only [Act.put, List.setIfInBounds_toArray, List.set_cons_zero, List.set_cons_succ]
  refine hand_to (i := 8) (d := 84) (v := (.agg #[.int .u64 (s.term : Int), .int .i64 ((s.vote : Int) - 1), .int .u64 (s.base : Int), .int .u64 (s.bt : Int), .slice va s.es.length vk])) rfl rfl (by kernel_rfl) (by kernel_rfl) (by kernel_rfl) (fun _ _ _ h => h) (Or.inl ⟨by rfl, ?_⟩) hHeld ?_
  · (intro w' hSw; obtain ⟨y0, y1, y2, y3, y4, y5⟩ := hSw; go_simp)
  simp only [Act.put, List.setIfInBounds_toArray, List.set_cons_zero, List.set_cons_succ]
  refine wpAnyH_ready (rs := [9]) (by kernel_rfl) (by simp) ?_
  refine AllReadyH.cons rfl (fun K hK => ?_) AllReadyH.nil
  go_simp
  (go_at_call 42; refine (unhide HL _).mono ?_; rintro e w2 ⟨rfl, b2⟩; have HX2 := hide ((unhide HX1).below b2); clear HL HX1 b2)
  (go_wp2_with fail)
  refine hK.out _ _ ⟨(unhide HX2).cells.2.2.1, (unhide HX2).cells.1⟩ (fun hHeld2 => ?_)
  clear hK K hHeld
  have hHeld := hHeld2
  clear hHeld2
  refine hand_to (i := 10) (d := 86) (v := (.int .u64 ((s.base : Int) + (s.es.length : Int) + 1))) rfl rfl (by kernel_rfl) (by kernel_rfl) (by kernel_rfl) (fun _ _ _ h => h) (Or.inl ⟨by rfl, ?_⟩) hHeld ?_
  · (intro w' hSw; obtain ⟨y0, y1, y2, y3, y4, y5⟩ := hSw; go_simp)
  simp only [Act.put, List.setIfInBounds_toArray, List.set_cons_zero, List.set_cons_succ]
  refine hand_to (i := 11) (d := 87) (v := (.bool false)) rfl rfl (by kernel_rfl) (by kernel_rfl) (by kernel_rfl) (fun _ _ _ h => h) (Or.inl ⟨by rfl, ?_⟩) hHeld ?_
  · (intro w' hSw; obtain ⟨y0, y1, y2, y3, y4, y5⟩ := hSw; go_simp)
  simp only [Act.put, List.setIfInBounds_toArray, List.set_cons_zero, List.set_cons_succ]
  refine hand_to (i := 12) (d := 88) (v := (.bool false)) rfl rfl (by kernel_rfl) (by kernel_rfl) (by kernel_rfl) (fun _ _ _ h => h) (Or.inl ⟨by rfl, ?_⟩) hHeld ?_
  · (intro w' hSw; obtain ⟨y0, y1, y2, y3, y4, y5⟩ := hSw; go_simp)
  simp only [Act.put, List.setIfInBounds_toArray, List.set_cons_zero, List.set_cons_succ]
  refine wpAnyH_done (by kernel_rfl) ?_ _
  obtain ⟨⟨z0, z1, z2, z3, z4⟩, z5, z6, z7, _⟩ := (unhide HX2).cells
  dsimp only at z5 z6 z7
  have f4 := (unhide HX2).frz 4
  go_wp2_with fail
  go_ret2
  have hbl := (unhide HX2).1.setCell (p := ⟨w.heap.size, 4, none⟩) (Nat.le_refl _) (.slice va m m)
  have := DoesP.one (s := ⟨s.term, s.vote, s.base, s.bt, s.es.take m⟩) (c := 0) (v := .slice va s.es.length vk) hbl ((hv.below hbl).take m hm).cap (fun g hg => .inl (hg.wide _ _ _))
  simpa using this
end
end Go.Proofs.YthphadbcebeoaaaGreatDoor
