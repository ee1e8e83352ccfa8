/- NetPlays: Find; places that aren't there. -/
import Derived.Test.YtahpfhnekmilmaaGreatDoorJNKnownNFullS
namespace Go.Proofs.YtahpfhnekmilmaaGreatDoor
open Go.RowKit Go.Lib Go.Maps

/-- The first place of an end; -1: none. -/
def fnd (t : Int) : List (Int × Nat) → Nat → Int
  | [], _ => -1
  | a :: r, k => if a.1 = t then (k : Int) else fnd t r (k + 1)
theorem fnd_at {t : Int} {A : List (Int × Nat)} {k : Nat} {a : Int × Nat} (h : A[k]? = some a) : fnd t (A.drop k) k = if a.1 = t then (k : Int) else fnd t (A.drop (k + 1)) (k + 1) := by
  have hk := (List.getElem?_eq_some_iff.1 h).1
  have e : A.drop k = a :: A.drop (k + 1) := by
    rw [List.drop_eq_getElem_cons hk]
    rw [List.getElem?_eq_getElem hk] at h
    injection h with h
    rw [h]
  rw [e, fnd]
theorem fnd_end {t : Int} {A : List (Int × Nat)} {k : Nat} (h : A.length ≤ k) : fnd t (A.drop k) k = -1 := by
  rw [List.drop_of_length_le h, fnd]

set_option maxHeartbeats 3200000 in
set_option maxRecDepth 100000 in
theorem find_any {w : World} {p : Nat} {vf : Value} {L : List Fl} {O : Nat → Prop} {A : List (Int × Nat)} (t : Int) (h : NX w p vf L O) (hf : FL L A) :
    Calls Tryz.prog 13 #[.pointer (some ⟨p, 0, none⟩), .int .i64 1, .int .i64 t] w fun e w' => e = .returned (.int .i64 (fnd t A 0)) ∧ Below w.heap.size w w' := by
  have hfew := h.few
  obtain ⟨N, hN⟩ : ∃ N, N = A.length := ⟨_, rfl⟩
  have hL : L.length = N := by rw [hN]; exact hf.1
  have HN := hide hN
  have HG : Hid (∀ (k : Nat) wr, k < N → Below w.heap.size w wr → ∃ (e : Fl) (a : Int × Nat), A[k]? = some a ∧ e.to' = a.1 ∧ e.fr = 1 ∧ (∃ va vk, e.v = .slice va e.d.length vk) ∧ Calls Tryz.prog 20 #[.pointer (some ⟨p, 0, none⟩), .int .i64 (k : Int)] wr fun ev w' => ev = .returned (.tuple #[.agg #[.int .i64 e.fr, .int .i64 e.to', e.v], .nilIface]) ∧ Below wr.heap.size wr w') := by
    intro k wr hk hb
    have hk' : k < A.length := by omega
    obtain ⟨e, he, e1, e2⟩ := hf.at (List.getElem?_eq_getElem hk')
    exact ⟨e, A[k], List.getElem?_eq_getElem hk', e1, e2.fr, (h.dat e (List.mem_of_getElem? he)).slice, nat_good k e (h.below hb) he⟩
  have HB : Hid (∀ (k : Nat) wr, N ≤ k → Below w.heap.size w wr → Calls Tryz.prog 20 #[.pointer (some ⟨p, 0, none⟩), .int .i64 (k : Int)] wr fun e w' => ∃ b, e = .returned (.tuple #[.agg #[.int .i64 0, .int .i64 0, .slice none 0 0], ev b]) ∧ wr.heap.size ≤ b ∧ ErrAt w' b (k : Int) 40 ∧ Below wr.heap.size wr w') := fun k wr hk hb => nat_bad (k : Int) (h.below hb) (.inr (by omega))
  have hN4 : N ≤ 4096 := by omega
  clear h hf hfew hL hN
  go_enter Tryz.func13, Tryz.ntmps13
  go_wp2
  go_loopw [7] (fun i wr => ∃ k : Nat, k ≤ N ∧ i = .int .i64 k ∧ Hid (fnd t A 0 = fnd t (A.drop k) k ∧ Below w.heap.size w wr)) (fun i _ => N + 1 - (intOf i).toNat)
  case atStart => exact ⟨0, Nat.zero_le _, rfl, rfl, Below.refl _ _⟩
  case round =>
    obtain ⟨k, hk, rfl, hr⟩ := hrel
    by_cases hlt : k < N
    · obtain ⟨e, a, ha, e1, e2, ⟨va, vk, e3⟩, HA⟩ := unhide HG k wr hlt (unhide hr).2
      have HA := hide HA
      rw [e1, e2, e3] at HA
      have hstep := fnd_at (t := t) ha
      have hB0 := (unhide hr).2
      by_cases hto : a.1 = t
      · rw [if_pos hto] at hstep
        have HR : Hid (fnd t A 0 = (k : Int)) := hide ((unhide hr).1.trans hstep)
        have heq : (a.1 == t) = true := by simpa using hto
        clear hstep hto hr ha HG HB HN e1 e2 e3
        generalize a.1 = at' at *
        generalize e.d.length = dl at *
        go_wp2_with (first
          | (go_at_call 20; refine (unhide HA).mono ?_; rintro ev w1 ⟨rfl, b1⟩; clear HA)
          | (go_at_call 19; refine (is_nil 40 _).mono ?_; rintro ev w2 ⟨rfl, rfl⟩))
        go_ret
        exact ⟨by rw [unhide HR]; rfl, bt (bt hB0 b1) (below_alloc _ (Nat.le_refl _))⟩
      · rw [if_neg hto] at hstep
        have HR : Hid (fnd t A 0 = fnd t (A.drop (k + 1)) (k + 1)) := hide ((unhide hr).1.trans hstep)
        have heq : (a.1 == t) = false := by simpa using hto
        clear hstep hto hr ha HG HB HN e1 e2 e3
        generalize a.1 = at' at *
        generalize e.d.length = dl at *
        go_wp2_with (first
          | (go_at_call 20; refine (unhide HA).mono ?_; rintro ev w1 ⟨rfl, b1⟩; clear HA)
          | (go_at_call 19; refine (is_nil 40 _).mono ?_; rintro ev w2 ⟨rfl, rfl⟩))
        go_roundw
        case rel => exact ⟨k + 1, by omega, by go_num, unhide HR, bt (bt hB0 b1) (below_alloc _ (Nat.le_refl _))⟩
        case measure => simp [intOf]; omega
    · have HA := hide (unhide HB k wr (by omega) (unhide hr).2)
      have HR : Hid (fnd t A 0 = -1) := hide ((unhide hr).1.trans (fnd_end (by have := unhide HN; omega)))
      have hB0 := (unhide hr).2
      clear hr HG HB HN
      go_wp2_with (first
        | (go_at_call 20; refine (unhide HA).mono ?_; rintro ev w1 ⟨b, rfl, hb, he, b1⟩; clear HA; have HI := hide (is_placed b 40 40 (w1.alloc (.cells #[.int .i64 0, .int .i64 0, .slice none 0 0] 60)) (he.alloc _).2); clear he)
        | (go_at_call 19; refine (unhide HI).mono ?_; rintro ev w2 ⟨rfl, rfl⟩; clear HI))
      go_ret
      exact ⟨by rw [unhide HR]; rfl, bt (bt hB0 b1) (below_alloc _ (Nat.le_refl _))⟩
theorem ns_find {w0 w : World} {p : Nat} {A : List (Int × Nat)} {K : Nat → Prop} (t : Int) (h : NS w0 w p A K) :
    Calls Tryz.prog 13 #[.pointer (some ⟨p, 0, none⟩), .int .i64 1, .int .i64 t] w fun e w' => e = .returned (.int .i64 (fnd t A 0)) ∧ NS w0 w' p A K ∧ KK K w w' := by
  have h0 := h
  obtain ⟨⟨vf, L, O, hx, hf, hO⟩, h2, h3⟩ := h
  refine (find_any t hx hf).mono ?_
  rintro e w' ⟨rfl, hb⟩
  exact ⟨rfl, h0.below hb⟩
set_option maxHeartbeats 1600000 in
set_option maxRecDepth 100000 in
theorem drop_bad {w : World} {p : Nat} {vf : Value} {L : List Fl} {O : Nat → Prop} (i : Int) (h : NX w p vf L O) (hi : i < 0 ∨ (L.length : Int) ≤ i) :
    Calls Tryz.prog 10 #[.pointer (some ⟨p, 0, none⟩), .int .i64 i] w fun e w' => ∃ b, e = .returned (ev b) ∧ ErrAt w' b i 40 ∧ Below w.heap.size w w' := by
  have HA := hide (nat_bad i h hi)
  clear h hi
  go_enter Tryz.func10, Tryz.ntmps10
  go_wp2_with (first
    | (go_at_call 20; refine (unhide HA).mono ?_; rintro e w1 ⟨b, rfl, hb, he, b1⟩; clear HA; have HE := hide (he.alloc (.cells #[.int .i64 0, .int .i64 0, .slice none 0 0] 60)); clear he))
  go_ret
  exact ⟨b, rfl, unhide HE, bt b1 (below_alloc _ (Nat.le_refl _))⟩
/-- The cells of the zero message. -/
def zL : List Value := [.int .i64 0, .int .i64 0, .int .i64 0, .int .u64 0, .int .u64 0, .int .u64 0, .slice none 0 0, .int .u64 0, .int .u64 0, .bool false, .int .i64 0, .slice none 0 0, .bool false, .int .u64 0, .int .u64 0, .string ⟨#[]⟩, .int .u64 0, .int .i64 0, .slice none 0 0, .slice none 0 0, .int .i64 0, .int .u64 0, .int .i64 0]
theorem zL_one : zL.toArray.all (·.oneCell') = true := all_oneCell_toArray (by intro v hv; simp [zL] at hv; rcases hv with rfl | rfl | rfl | rfl | rfl | rfl | rfl | rfl | rfl | rfl | rfl | rfl | rfl | rfl | rfl | rfl | rfl | rfl | rfl | rfl | rfl | rfl | rfl <;> rfl)
theorem ErrAt.over {w : World} {b p : Nat} {i : Int} {c : Int} (h : ErrAt w b i c) (hp : p ≠ b) (cs : List Value) : ErrAt (w.setCells p 0 cs) b i c := by
  have e := setCells_other cs 0 w b (b := p) (fun e => hp e.symm)
  exact ⟨(cell_same e _).trans h.1, (cell_same e _).trans h.2⟩

set_option maxHeartbeats 1600000 in
set_option maxRecDepth 100000 in
theorem peek_bad {w : World} {p : Nat} {vf : Value} {L : List Fl} {O : Nat → Prop} (i : Int) (h : NX w p vf L O) (hi : i < 0 ∨ (L.length : Int) ≤ i) :
    Calls Tryz.prog 14 #[.pointer (some ⟨p, 0, none⟩), .int .i64 i] w fun e w' => ∃ b, e = .returned (.tuple #[.agg zL.toArray, ev b]) ∧ w.heap.size ≤ b ∧ ErrAt w' b i 40 ∧ Below w.heap.size w w' := by
  obtain ⟨W, hW⟩ : ∃ W, W = w.alloc (.cells zM 43) := ⟨_, rfl⟩
  have hbW : Below w.heap.size w W := by rw [hW]; exact (Below.refl _ _).alloc (Nat.le_refl _) _
  have hWz : W.heap.size = w.heap.size + 1 := by rw [hW]; simp
  have hWt : W.there w.heap.size 0 23 := by rw [hW]; exact there_new w 43 zM 23 rfl
  have HA := hide (nat_bad i (h.below hbW) hi)
  have HB := hide hbW
  clear h hi hbW
  go_enter Tryz.func14, Tryz.ntmps14
  go_upto_region 1 with fail
  rw [← hW]
  clear hW
  go_upto_region 3 with (first
    | (go_at_call 20; refine (unhide HA).mono ?_; rintro e w1 ⟨b, rfl, hb, he, b1⟩; clear HA; have HE := hide (he.alloc (.cells #[.int .i64 0, .int .i64 0, .slice none 0 0] 60)); have HB1 := hide (bt b1 (below_alloc (.cells #[.int .i64 0, .int .i64 0, .slice none 0 0] 60) (Nat.le_refl w1.heap.size))); clear he b1))
  generalize w1.alloc (.cells #[.int .i64 0, .int .i64 0, .slice none 0 0] 60) = W1 at HE HB1 ⊢
  have ht : W1.there w.heap.size 0 23 := there_same hWt ((unhide HB1).block _ (by omega))
  refine wp_region_list ?_
  refine list_to (d := 16) (v := .agg zL.toArray) rfl rfl (by unfold zL; go_simp) ?_
  simp only [Act.put, List.setIfInBounds_toArray, List.set_cons_zero, List.set_cons_succ]
  refine list_to (d := 17) (v := ev b) rfl rfl (by go_simp) ?_
  simp only [Act.put, List.setIfInBounds_toArray, List.set_cons_zero, List.set_cons_succ]
  refine wpList_store_mid rfl 43 (.tmp 4) (.tmp 16) rfl w.heap.size 0 zL.toArray rfl rfl ht Tryz.sizeM zL_one ?_
  rw [List.toList_toArray]
  have hr3 := World.rangeAt_setCells_same W1 w.heap.size 0 zL ht
  have hb3 : Below w.heap.size w (W1.setCells w.heap.size 0 zL) := Below.over (Nat.le_refl _) zL _ 0 (bt (unhide HB) (unhide HB1))
  have he3 := (unhide HE).over (p := w.heap.size) (by omega) zL
  generalize W1.setCells w.heap.size 0 zL = W3 at hr3 hb3 he3 ⊢
  have HR := hide hr3
  have HE3 := hide he3
  clear hr3 he3
  go_wp2
  refine bodyPost_ret (v := .tuple #[.agg zL.toArray, ev b]) ?_ rfl ⟨b, rfl, by omega, unhide HE3, hb3⟩
  rw [results_cell_tmp rfl]
  refine (res_addr (b := w.heap.size) ?_).trans ?_
  · rfl
  · rw [run_loadVar_mid W3 w.heap.size 0 43 zL _ (unhide HR) Tryz.underlying43 rfl Tryz.sizeM]
    rfl
set_option maxHeartbeats 1600000 in
set_option maxRecDepth 100000 in
theorem take_bad {w : World} {p : Nat} {vf : Value} {L : List Fl} {O : Nat → Prop} (i : Int) (h : NX w p vf L O) (hi : i < 0 ∨ (L.length : Int) ≤ i) :
    Calls Tryz.prog 9 #[.pointer (some ⟨p, 0, none⟩), .int .i64 i] w fun e w' => ∃ b, e = .returned (.tuple #[.agg zL.toArray, ev b]) ∧ w.heap.size ≤ b ∧ ErrAt w' b i 40 ∧ Below w.heap.size w w' := by
  obtain ⟨W, hW⟩ : ∃ W, W = w.alloc (.cells zM 43) := ⟨_, rfl⟩
  have hbW : Below w.heap.size w W := by rw [hW]; exact (Below.refl _ _).alloc (Nat.le_refl _) _
  have hWz : W.heap.size = w.heap.size + 1 := by rw [hW]; simp
  have hWt : W.there w.heap.size 0 23 := by rw [hW]; exact there_new w 43 zM 23 rfl
  have HA := hide (peek_bad i (h.below hbW) hi)
  have HB := hide hbW
  clear h hi hbW
  go_enter Tryz.func9, Tryz.ntmps9
  go_upto_region 1 with fail
  rw [← hW]
  clear hW
  go_wp2_with fail
  refine (unhide HA).mono ?_
  rintro e0 w1 ⟨b, rfl, hb, he, b1⟩
  clear HA
  have HE := hide (he.alloc (.cells zL.toArray 43))
  have HB1 := hide (bt b1 (below_alloc (.cells zL.toArray 43) (Nat.le_refl w1.heap.size)))
  clear he b1
  rename_i K0 hK0
  refine hK0 _ _ ?_
  refine list_to (d := 8) (v := .tuple #[.agg zL.toArray, ev b]) rfl rfl (by go_simp) ?_
  simp only [Act.put, List.setIfInBounds_toArray, List.set_cons_zero, List.set_cons_succ]
  refine list_to (d := 12) (v := .agg zL.toArray) rfl rfl (by go_simp) ?_
  simp only [Act.put, List.setIfInBounds_toArray, List.set_cons_zero, List.set_cons_succ]
  refine list_to (d := 13) (v := ev b) rfl rfl (by go_simp) ?_
  simp only [Act.put, List.setIfInBounds_toArray, List.set_cons_zero, List.set_cons_succ]
  refine wpList_alloc_new rfl 43 rfl zM (zero_of_info Tryz.zeroM).1 ?_
  refine wpList_store_mid rfl 43 (.tmp 6) (.tmp 12) rfl w1.heap.size 0 zL.toArray rfl rfl (there_new w1 43 zM 23 rfl) Tryz.sizeM zL_one ?_
  rw [List.toList_toArray, setCells_new w1 43 zM zL rfl]
  generalize w1.alloc (.cells zL.toArray 43) = W1 at HE HB1 ⊢
  have ht : W1.there w.heap.size 0 23 := there_same hWt ((unhide HB1).block _ (by omega))
  go_upto_region 3 with fail
  refine wp_region_list ?_
  refine list_to (d := 16) (v := .agg zL.toArray) rfl rfl (by unfold zL; go_simp) ?_
  simp only [Act.put, List.setIfInBounds_toArray, List.set_cons_zero, List.set_cons_succ]
  refine list_to (d := 17) (v := ev b) rfl rfl (by go_simp) ?_
  simp only [Act.put, List.setIfInBounds_toArray, List.set_cons_zero, List.set_cons_succ]
  refine wpList_store_mid rfl 43 (.tmp 4) (.tmp 16) rfl w.heap.size 0 zL.toArray rfl rfl ht Tryz.sizeM zL_one ?_
  rw [List.toList_toArray]
  have hr3 := World.rangeAt_setCells_same W1 w.heap.size 0 zL ht
  have hb3 : Below w.heap.size w (W1.setCells w.heap.size 0 zL) := Below.over (Nat.le_refl _) zL _ 0 (bt (unhide HB) (unhide HB1))
  have he3 := (unhide HE).over (p := w.heap.size) (by omega) zL
  generalize W1.setCells w.heap.size 0 zL = W3 at hr3 hb3 he3 ⊢
  have HR := hide hr3
  have HE3 := hide he3
  clear hr3 he3
  go_wp2
  refine bodyPost_ret (v := .tuple #[.agg zL.toArray, ev b]) ?_ rfl ⟨b, rfl, by omega, unhide HE3, hb3⟩
  rw [results_cell_tmp rfl]
  refine (res_addr (b := w.heap.size) ?_).trans ?_
  · rfl
  · rw [run_loadVar_mid W3 w.heap.size 0 43 zL _ (unhide HR) Tryz.underlying43 rfl Tryz.sizeM]
    rfl
end Go.Proofs.YtahpfhnekmilmaaGreatDoor
