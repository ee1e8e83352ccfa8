/- ValueTells: its walk. -/
import Derived.Test.YtjmkoceiepcphaaGreatDoorVRefTest
import Derived.Test.YtjmkoceiepcphaaGreatDoorVRefDo
import Derived.Test.YtjmkoceiepcphaaGreatDoorVPrint
import Derived.Test.YtjmkoceiepcphaaGreatDoorVTest2
import Derived.Test.YtjmkoceiepcphaaGreatDoorVSum3
import Derived.Test.YtjmkoceiepcphaaGreatDoorVFew
import Derived.Test.YtjmkoceiepcphaaGreatDoorHand
namespace Go.Proofs.YtjmkoceiepcphaaGreatDoor
open Go.RowKit Go.Lib

theorem PT.below {w w' : World} (h : PT w) (hb : Below w.heap.size w w') (hl : 2 < w.heap.size) : PT w' := by
  unfold PT TabIs World.var? at *
  rw [show Tryz.prog.globalNamed "internal/strconv.uint64pow10" = some 2 by kernel_rfl] at *
  simp only [Option.bind_some] at *
  rw [hb.block _ hl]
  exact h
abbrev V1 (f : Nat) (k n : Int) (t : ByteArray) (v : Value) (w : World) : Prop := ∀ W : World, Below w.heap.size w W → Calls Tryz.prog f #[.agg #[.int .i64 k, .int .i64 n, .string t]] W fun e w' => e = .returned v ∧ Below W.heap.size W w'
abbrev V2 (f : Nat) (k n : Int) (t : ByteArray) (k' n' : Int) (t' : ByteArray) (v : Value) : Prop := ∀ W : World, Calls Tryz.prog f #[.agg #[.int .i64 k, .int .i64 n, .string t], .agg #[.int .i64 k', .int .i64 n', .string t']] W fun e w' => e = .returned v ∧ Below W.heap.size W w'
abbrev V3 (f : Nat) (op k n : Int) (t : ByteArray) (k' n' : Int) (t' : ByteArray) (v : Value) : Prop := ∀ W : World, Calls Tryz.prog f #[.int .i64 op, .agg #[.int .i64 k, .int .i64 n, .string t], .agg #[.int .i64 k', .int .i64 n', .string t']] W fun e w' => e = .returned v ∧ Below W.heap.size W w'
abbrev VC (v : Value) (c : Int) (w : World) : Prop := ∀ W : World, Below w.heap.size w W → Calls Tryz.prog 14 #[v] W fun e w' => e = .returned (.int .i64 c) ∧ Below W.heap.size W w'

set_option maxHeartbeats 12800000 in
theorem tells_good (op k n : Int) (t : ByteArray) (k' n' : Int) (t' : ByteArray) (w : World) (hE : ET w)
    (ma : Bool) (d x c k2 n2 c2 : Int) (s t2 : ByteArray) (ev ev2 : Value)
    (HF : Hid (∀ W : World, Calls Tryz.prog 5 #[.slice (some ⟨W.heap.size, 0, none⟩) 2 2, .int .i64 2] (W.alloc (.cells #[.int .i64 k, .int .i64 n, .string t, .int .i64 k', .int .i64 n', .string t'] 23)) fun e w' => e = .returned (.bool true) ∧ w' = W.alloc (.cells #[.int .i64 k, .int .i64 n, .string t, .int .i64 k', .int .i64 n', .string t'] 23)))
    (HI : Hid (V1 6 k n t (.bool ma) w)) (HJ : Hid (V1 7 k n t (.bool ma) w))
    (HC : Hid (V2 8 k n t k' n' t' (.int .i64 d))) (HD : Hid (V2 9 k n t k' n' t' (.int .i64 d)))
    (HP : Hid (V1 10 k n t (.string s) w)) (HQ : Hid (V1 11 k n t (.string s) w))
    (HT : Hid (V3 12 op k n t k' n' t' (.tuple #[.int .i64 x, ev]))) (HU : Hid (V3 13 op k n t k' n' t' (.tuple #[.int .i64 x, .int .i64 c])))
    (HV : Hid (V3 15 op k n t k' n' t' (.tuple #[.agg #[.int .i64 k2, .int .i64 n2, .string t2], ev2]))) (HW : Hid (V3 16 op k n t k' n' t' (.tuple #[.agg #[.int .i64 k2, .int .i64 n2, .string t2], .int .i64 c2])))
    (HX : Hid (VC ev c w)) (HY : Hid (VC ev2 c2 w)) :
    Calls Tryz.prog 3 #[.int .i64 op, .agg #[.int .i64 k, .int .i64 n, .string t], .agg #[.int .i64 k', .int .i64 n', .string t']] w fun e w' => e = .returned (.bool true) ∧ Below w.heap.size w w' := by
  have HK := hide (known_any ((w.alloc (.cells #[.int .i64 k, .int .i64 n, .string t] 23)).alloc (.cells #[.int .i64 k', .int .i64 n', .string t'] 23)) ((hE.alloc _).alloc _))
  clear hE
  go_enter Tryz.func3, Tryz.ntmps3
  go_wp2_with (first
    | (go_at_call 4; refine (unhide HK).mono ?_; clear HK; rintro e w1 ⟨rfl, hb1⟩; have Q1 := hide (two_below2 hb1); have A1 := hide (((B3.new w w.heap.size k n t rfl).alloc _).after hb1); have B1 := hide ((B3.new _ (w.heap.size + 1) k' n' t' (by simp)).after hb1); obtain ⟨a0, a1, a2, _, _, _⟩ := unhide A1; obtain ⟨b0, b1, b2, _, _, _⟩ := unhide B1; clear hb1)
    | (go_at_call 5; refine (unhide HF _).mono ?_; clear HF; rintro e w0 ⟨rfl, rfl⟩; clear a0 a1 a2 b0 b1 b2))
  obtain ⟨w2, hw2⟩ : ∃ w2, w2 = w1.alloc (.cells #[.int .i64 k, .int .i64 n, .string t, .int .i64 k', .int .i64 n', .string t'] 23) := ⟨_, rfl⟩
  rw [← hw2]
  have Q2 : Hid (Below w.heap.size w w2.drew) := hide (by rw [hw2]; exact (one_new' (unhide Q1) _).drew)
  have A2 : Hid (B3 w2.drew w.heap.size k n t) := hide (by rw [hw2]; exact ((unhide A1).alloc _).drew)
  have B2 : Hid (B3 w2.drew (w.heap.size + 1) k' n' t') := hide (by rw [hw2]; exact ((unhide B1).alloc _).drew)
  clear hw2 Q1 A1 B1
  refine wp_region_held_drew (S := fun w' => B3 w' w.heap.size k n t ∧ B3 w' (w.heap.size + 1) k' n' t') (by kernel_rfl) ⟨unhide A2, unhide B2⟩ (fun hHeld => ?_)
  refine hand_to (i := 0) (d := 20) (v := .agg #[.int .i64 k, .int .i64 n, .string t]) rfl rfl (by kernel_rfl) (by kernel_rfl) (by kernel_rfl) (fun _ _ _ h => h) (Or.inl ⟨by rfl, ?_⟩) hHeld ?_
  · (intro w' hSw; obtain ⟨⟨hx0, hx1, hx2, _, _, _⟩, hy0, hy1, hy2, _, _, _⟩ := hSw; go_simp)
  simp only [Act.put, List.setIfInBounds_toArray, List.set_cons_zero, List.set_cons_succ]
  refine hand_to (i := 2) (d := 22) (v := .agg #[.int .i64 k, .int .i64 n, .string t]) rfl rfl (by kernel_rfl) (by kernel_rfl) (by kernel_rfl) (fun _ _ _ h => h) (Or.inl ⟨by rfl, ?_⟩) hHeld ?_
  · (intro w' hSw; obtain ⟨⟨hx0, hx1, hx2, _, _, _⟩, hy0, hy1, hy2, _, _, _⟩ := hSw; go_simp)
  simp only [Act.put, List.setIfInBounds_toArray, List.set_cons_zero, List.set_cons_succ]
  refine wpAnyH_ready (rs := [1]) (by kernel_rfl) (by simp) ?_
  refine AllReadyH.cons rfl (fun K hK => ?_) AllReadyH.nil
  go_simp
  (go_at_call 6; refine (unhide HI _ (unhide Q2)).mono ?_; clear HI; rintro e w3 ⟨rfl, hb3⟩; have Q3 := hide (one_step (unhide Q2) hb3); have A3 := hide ((unhide A2).after hb3); have B3 := hide ((unhide B2).after hb3); clear hb3 A2 B2)
  (go_wp2_with fail)
  refine hK.out _ _ ⟨unhide A3, unhide B3⟩ (fun hHeld2 => ?_)
  clear hK K hHeld
  have hHeld := hHeld2
  clear hHeld2
  refine wpAnyH_ready (rs := [3]) (by kernel_rfl) (by simp) ?_
  refine AllReadyH.cons rfl (fun K hK => ?_) AllReadyH.nil
  go_simp
  (go_at_call 7; refine (unhide HJ _ (unhide Q3)).mono ?_; clear HJ; rintro e w4 ⟨rfl, hb4⟩; have Q4 := hide (one_step (unhide Q3) hb4); have A4 := hide ((unhide A3).after hb4); have B4 := hide ((unhide B3).after hb4); clear hb4 A3 B3)
  (go_wp2_with fail)
  refine hK.out _ _ ⟨unhide A4, unhide B4⟩ (fun hHeld2 => ?_)
  clear hK K hHeld
  have hHeld := hHeld2
  clear hHeld2
  refine hand_to (i := 4) (d := 24) (v := .bool false) rfl rfl (by kernel_rfl) (by kernel_rfl) (by kernel_rfl) (fun _ _ _ h => h) (Or.inl ⟨by rfl, ?_⟩) hHeld ?_
  · (intro w' hSw; obtain ⟨⟨hx0, hx1, hx2, _, _, _⟩, hy0, hy1, hy2, _, _, _⟩ := hSw; go_simp)
  simp only [Act.put, List.setIfInBounds_toArray, List.set_cons_zero, List.set_cons_succ]
  refine hand_to (i := 5) (d := 25) (v := .bool false) rfl rfl (by kernel_rfl) (by kernel_rfl) (by kernel_rfl) (fun _ _ _ h => h) (Or.inl ⟨by rfl, ?_⟩) hHeld ?_
  · (intro w' hSw; obtain ⟨⟨hx0, hx1, hx2, _, _, _⟩, hy0, hy1, hy2, _, _, _⟩ := hSw; go_simp)
  simp only [Act.put, List.setIfInBounds_toArray, List.set_cons_zero, List.set_cons_succ]
  refine hand_to (i := 6) (d := 26) (v := .agg #[.int .i64 k, .int .i64 n, .string t]) rfl rfl (by kernel_rfl) (by kernel_rfl) (by kernel_rfl) (fun _ _ _ h => h) (Or.inl ⟨by rfl, ?_⟩) hHeld ?_
  · (intro w' hSw; obtain ⟨⟨hx0, hx1, hx2, _, _, _⟩, hy0, hy1, hy2, _, _, _⟩ := hSw; go_simp)
  simp only [Act.put, List.setIfInBounds_toArray, List.set_cons_zero, List.set_cons_succ]
  refine hand_to (i := 7) (d := 27) (v := .agg #[.int .i64 k', .int .i64 n', .string t']) rfl rfl (by kernel_rfl) (by kernel_rfl) (by kernel_rfl) (fun _ _ _ h => h) (Or.inl ⟨by rfl, ?_⟩) hHeld ?_
  · (intro w' hSw; obtain ⟨⟨hx0, hx1, hx2, _, _, _⟩, hy0, hy1, hy2, _, _, _⟩ := hSw; go_simp)
  simp only [Act.put, List.setIfInBounds_toArray, List.set_cons_zero, List.set_cons_succ]
  refine hand_to (i := 9) (d := 29) (v := .agg #[.int .i64 k, .int .i64 n, .string t]) rfl rfl (by kernel_rfl) (by kernel_rfl) (by kernel_rfl) (fun _ _ _ h => h) (Or.inl ⟨by rfl, ?_⟩) hHeld ?_
  · (intro w' hSw; obtain ⟨⟨hx0, hx1, hx2, _, _, _⟩, hy0, hy1, hy2, _, _, _⟩ := hSw; go_simp)
  simp only [Act.put, List.setIfInBounds_toArray, List.set_cons_zero, List.set_cons_succ]
  refine hand_to (i := 10) (d := 30) (v := .agg #[.int .i64 k', .int .i64 n', .string t']) rfl rfl (by kernel_rfl) (by kernel_rfl) (by kernel_rfl) (fun _ _ _ h => h) (Or.inl ⟨by rfl, ?_⟩) hHeld ?_
  · (intro w' hSw; obtain ⟨⟨hx0, hx1, hx2, _, _, _⟩, hy0, hy1, hy2, _, _, _⟩ := hSw; go_simp)
  simp only [Act.put, List.setIfInBounds_toArray, List.set_cons_zero, List.set_cons_succ]
  refine wpAnyH_ready (rs := [8]) (by kernel_rfl) (by simp) ?_
  refine AllReadyH.cons rfl (fun K hK => ?_) AllReadyH.nil
  go_simp
  (go_at_call 8; refine (unhide HC _).mono ?_; clear HC; rintro e w5 ⟨rfl, hb5⟩; have Q5 := hide (one_step (unhide Q4) hb5); have A5 := hide ((unhide A4).after hb5); have B5 := hide ((unhide B4).after hb5); clear hb5 A4 B4)
  (go_wp2_with fail)
  refine hK.out _ _ ⟨unhide A5, unhide B5⟩ (fun hHeld2 => ?_)
  clear hK K hHeld
  have hHeld := hHeld2
  clear hHeld2
  refine wpAnyH_ready (rs := [11]) (by kernel_rfl) (by simp) ?_
  refine AllReadyH.cons rfl (fun K hK => ?_) AllReadyH.nil
  go_simp
  (go_at_call 9; refine (unhide HD _).mono ?_; clear HD; rintro e w6 ⟨rfl, hb6⟩; have Q6 := hide (one_step (unhide Q5) hb6); have A6 := hide ((unhide A5).after hb6); have B6 := hide ((unhide B5).after hb6); clear hb6 A5 B5)
  (go_wp2_with fail)
  refine hK.out _ _ ⟨unhide A6, unhide B6⟩ (fun hHeld2 => ?_)
  clear hK K hHeld
  have hHeld := hHeld2
  clear hHeld2
  refine hand_to (i := 12) (d := 32) (v := .bool false) rfl rfl (by kernel_rfl) (by kernel_rfl) (by kernel_rfl) (fun _ _ _ h => h) (Or.inl ⟨by rfl, ?_⟩) hHeld ?_
  · (intro w' hSw; obtain ⟨⟨hx0, hx1, hx2, _, _, _⟩, hy0, hy1, hy2, _, _, _⟩ := hSw; go_simp)
  simp only [Act.put, List.setIfInBounds_toArray, List.set_cons_zero, List.set_cons_succ]
  refine hand_to (i := 13) (d := 33) (v := .bool false) rfl rfl (by kernel_rfl) (by kernel_rfl) (by kernel_rfl) (fun _ _ _ h => h) (Or.inl ⟨by rfl, ?_⟩) hHeld ?_
  · (intro w' hSw; obtain ⟨⟨hx0, hx1, hx2, _, _, _⟩, hy0, hy1, hy2, _, _, _⟩ := hSw; go_simp)
  simp only [Act.put, List.setIfInBounds_toArray, List.set_cons_zero, List.set_cons_succ]
  refine hand_to (i := 14) (d := 34) (v := .bool false) rfl rfl (by kernel_rfl) (by kernel_rfl) (by kernel_rfl) (fun _ _ _ h => h) (Or.inl ⟨by rfl, ?_⟩) hHeld ?_
  · (intro w' hSw; obtain ⟨⟨hx0, hx1, hx2, _, _, _⟩, hy0, hy1, hy2, _, _, _⟩ := hSw; go_simp)
  simp only [Act.put, List.setIfInBounds_toArray, List.set_cons_zero, List.set_cons_succ]
  refine hand_to (i := 15) (d := 35) (v := .agg #[.int .i64 k, .int .i64 n, .string t]) rfl rfl (by kernel_rfl) (by kernel_rfl) (by kernel_rfl) (fun _ _ _ h => h) (Or.inl ⟨by rfl, ?_⟩) hHeld ?_
  · (intro w' hSw; obtain ⟨⟨hx0, hx1, hx2, _, _, _⟩, hy0, hy1, hy2, _, _, _⟩ := hSw; go_simp)
  simp only [Act.put, List.setIfInBounds_toArray, List.set_cons_zero, List.set_cons_succ]
  refine hand_to (i := 17) (d := 37) (v := .agg #[.int .i64 k, .int .i64 n, .string t]) rfl rfl (by kernel_rfl) (by kernel_rfl) (by kernel_rfl) (fun _ _ _ h => h) (Or.inl ⟨by rfl, ?_⟩) hHeld ?_
  · (intro w' hSw; obtain ⟨⟨hx0, hx1, hx2, _, _, _⟩, hy0, hy1, hy2, _, _, _⟩ := hSw; go_simp)
  simp only [Act.put, List.setIfInBounds_toArray, List.set_cons_zero, List.set_cons_succ]
  refine wpAnyH_ready (rs := [16]) (by kernel_rfl) (by simp) ?_
  refine AllReadyH.cons rfl (fun K hK => ?_) AllReadyH.nil
  go_simp
  (go_at_call 10; refine (unhide HP _ (unhide Q6)).mono ?_; clear HP; rintro e w7 ⟨rfl, hb7⟩; have Q7 := hide (one_step (unhide Q6) hb7); have A7 := hide ((unhide A6).after hb7); have B7 := hide ((unhide B6).after hb7); clear hb7 A6 B6)
  (go_wp2_with fail)
  refine hK.out _ _ ⟨unhide A7, unhide B7⟩ (fun hHeld2 => ?_)
  clear hK K hHeld
  have hHeld := hHeld2
  clear hHeld2
  refine wpAnyH_ready (rs := [18]) (by kernel_rfl) (by simp) ?_
  refine AllReadyH.cons rfl (fun K hK => ?_) AllReadyH.nil
  go_simp
  (go_at_call 11; refine (unhide HQ _ (unhide Q7)).mono ?_; clear HQ; rintro e w8 ⟨rfl, hb8⟩; have Q8 := hide (one_step (unhide Q7) hb8); have A8 := hide ((unhide A7).after hb8); have B8 := hide ((unhide B7).after hb8); clear hb8 A7 B7)
  (go_wp2_with fail)
  refine hK.out _ _ ⟨unhide A8, unhide B8⟩ (fun hHeld2 => ?_)
  clear hK K hHeld
  have hHeld := hHeld2
  clear hHeld2
  refine hand_to (i := 19) (d := 39) (v := .bool false) rfl rfl (by kernel_rfl) (by kernel_rfl) (by kernel_rfl) (fun _ _ _ h => h) (Or.inl ⟨by rfl, ?_⟩) hHeld ?_
  · (intro w' hSw; obtain ⟨⟨hx0, hx1, hx2, _, _, _⟩, hy0, hy1, hy2, _, _, _⟩ := hSw; go_simp)
  simp only [Act.put, List.setIfInBounds_toArray, List.set_cons_zero, List.set_cons_succ]
  refine hand_to (i := 20) (d := 40) (v := .bool false) rfl rfl (by kernel_rfl) (by kernel_rfl) (by kernel_rfl) (fun _ _ _ h => h) (Or.inl ⟨by rfl, ?_⟩) hHeld ?_
  · (intro w' hSw; obtain ⟨⟨hx0, hx1, hx2, _, _, _⟩, hy0, hy1, hy2, _, _, _⟩ := hSw; go_simp)
  simp only [Act.put, List.setIfInBounds_toArray, List.set_cons_zero, List.set_cons_succ]
  refine wpAnyH_done (by kernel_rfl) ?_ _
  obtain ⟨a0, a1, a2, _, _, _⟩ := unhide A8
  obtain ⟨b0, b1, b2, _, _, _⟩ := unhide B8
  go_wp2_with (first
    | (go_at_call 12; refine (unhide HT _).mono ?_; clear HT a0 a1 a2 b0 b1 b2; rintro e w9 ⟨rfl, hb9⟩; have Q9 := hide (one_step (unhide Q8) hb9); have A9 := hide ((unhide A8).after hb9); have B9 := hide ((unhide B8).after hb9); obtain ⟨a0, a1, a2, _, _, _⟩ := unhide A9; obtain ⟨b0, b1, b2, _, _, _⟩ := unhide B9; clear hb9)
    | (go_at_call 13; refine (unhide HU _).mono ?_; clear HU a0 a1 a2 b0 b1 b2; rintro e w10 ⟨rfl, hb10⟩; have Q10 := hide (one_step (unhide Q9) hb10); have A10 := hide ((unhide A9).after hb10); have B10 := hide ((unhide B9).after hb10); obtain ⟨a0, a1, a2, _, _, _⟩ := unhide A10; obtain ⟨b0, b1, b2, _, _, _⟩ := unhide B10; clear hb10)
    | (go_at_call 14; refine (unhide HX _ (unhide Q10)).mono ?_; clear HX a0 a1 a2 b0 b1 b2; rintro e w11 ⟨rfl, hb11⟩; have Q11 := hide (one_step (unhide Q10) hb11); have A11 := hide ((unhide A10).after hb11); have B11 := hide ((unhide B10).after hb11); obtain ⟨a0, a1, a2, _, _, _⟩ := unhide A11; obtain ⟨b0, b1, b2, _, _, _⟩ := unhide B11; clear hb11)
    | (go_at_call 15; refine (unhide HV _).mono ?_; clear HV a0 a1 a2 b0 b1 b2; rintro e w12 ⟨rfl, hb12⟩; have Q12 := hide (one_new' (one_step (unhide Q11) hb12) (.cells #[.int .i64 k2, .int .i64 n2, .string t2] 23)); have A12 := hide (((unhide A11).after hb12).alloc (.cells #[.int .i64 k2, .int .i64 n2, .string t2] 23)); have B12 := hide (((unhide B11).after hb12).alloc (.cells #[.int .i64 k2, .int .i64 n2, .string t2] 23)); have C12 := hide (B3.new w12 w12.heap.size k2 n2 t2 rfl); obtain ⟨a0, a1, a2, _, _, _⟩ := unhide A12; obtain ⟨b0, b1, b2, _, _, _⟩ := unhide B12; clear hb12)
    | (go_at_call 16; refine (unhide HW _).mono ?_; clear HW a0 a1 a2 b0 b1 b2; rintro e w13 ⟨rfl, hb13⟩; have Q13 := hide (one_new' (one_step (unhide Q12) hb13) (.cells #[.int .i64 k2, .int .i64 n2, .string t2] 23)); have C13 := hide (((unhide C12).after hb13).alloc (.cells #[.int .i64 k2, .int .i64 n2, .string t2] 23)); obtain ⟨c0, c1, c2', _, _, _⟩ := unhide C13; clear hb13)
    | (go_at_call 14; refine (unhide HY _ (unhide Q13)).mono ?_; clear HY; rintro e w14 ⟨rfl, hb14⟩; have Q14 := hide (one_step (unhide Q13) hb14)))
  go_ret
  exact ⟨rfl, unhide Q14⟩

set_option maxHeartbeats 3200000 in
theorem tells_few (op k n : Int) (t : ByteArray) (k' n' : Int) (t' : ByteArray) (w : World) (hE : ET w)
    (HF : Hid (∀ W : World, Calls Tryz.prog 5 #[.slice (some ⟨W.heap.size, 0, none⟩) 2 2, .int .i64 2] (W.alloc (.cells #[.int .i64 k, .int .i64 n, .string t, .int .i64 k', .int .i64 n', .string t'] 23)) fun e w' => e = .returned (.bool false) ∧ w' = W.alloc (.cells #[.int .i64 k, .int .i64 n, .string t, .int .i64 k', .int .i64 n', .string t'] 23))) :
    Calls Tryz.prog 3 #[.int .i64 op, .agg #[.int .i64 k, .int .i64 n, .string t], .agg #[.int .i64 k', .int .i64 n', .string t']] w fun e w' => e = .returned (.bool true) ∧ Below w.heap.size w w' := by
  have HK := hide (known_any ((w.alloc (.cells #[.int .i64 k, .int .i64 n, .string t] 23)).alloc (.cells #[.int .i64 k', .int .i64 n', .string t'] 23)) ((hE.alloc _).alloc _))
  clear hE
  go_enter Tryz.func3, Tryz.ntmps3
  go_wp2_with (first
    | (go_at_call 4; refine (unhide HK).mono ?_; clear HK; rintro e w1 ⟨rfl, hb1⟩; have Q1 := hide (two_below2 hb1); have A1 := hide (((B3.new w w.heap.size k n t rfl).alloc _).after hb1); have B1 := hide ((B3.new _ (w.heap.size + 1) k' n' t' (by simp)).after hb1); obtain ⟨a0, a1, a2, _, _, _⟩ := unhide A1; obtain ⟨b0, b1, b2, _, _, _⟩ := unhide B1; clear hb1)
    | (go_at_call 5; refine (unhide HF _).mono ?_; clear HF; rintro e w0 ⟨rfl, rfl⟩; clear a0 a1 a2 b0 b1 b2))
  go_ret
  exact ⟨rfl, one_new' (unhide Q1) _⟩

theorem tells_any (op : Int) (a b : GV) (w : World) (hE : ET w) (hM : MX w) (hP : PT w) (hl : 2 < w.heap.size) (ha : a.ok) (hb : b.ok) :
    Calls Tryz.prog 3 #[.int .i64 op, a.agg, b.agg] w fun e w' => e = .returned (.bool true) ∧ Below w.heap.size w w' := by
  have hT : ∀ W, Below w.heap.size w W → PT W := fun W h => hP.below h hl
  by_cases hf : a.text.size ≤ 100 ∧ b.text.size ≤ 100
  · have e1 : decide (a.text.size ≤ 100 ∧ b.text.size ≤ 100) = true := decide_eq_true hf
    refine tells_good op a.kind a.int a.text b.kind b.int b.text w hE a.may (compareG a b) (testG op a b).1 (testG op a b).2 (doG op a b).1.kind (doG op a b).1.int (doG op a b).2 ⟨(printG a).toArray⟩ (doG op a b).1.text (errG (testG op a b).2) (errG (doG op a b).2)
      (hide fun W => e1 ▸ few2 a b W ha hb) (hide fun W _ => is_any a W ha) (hide fun W _ => (refIs_any a W ha).mono fun e w' h => ⟨h.1, h.2 ▸ one_new' (Below.refl _ _) _⟩)
      (hide fun W => compare_any a b W ha hb) (hide fun W => refCompare_any a b W ha hb)
      (hide fun W h => print_any a W ha (hM.below h) (fun W' h' => hT W' (one_step h h'))) (hide fun W _ => rprint_any a W ha)
      (hide fun W => test_any op a b W ha hb) (hide fun W => refTest_any op a b W ha hb)
      (hide fun W => do_any op a b W ha (.inr hb)) (hide fun W => refDo_any op a b W ha hb)
      (hide fun W h => class_g _ W (hE.below h hE.lt)) (hide fun W h => class_g _ W (hE.below h hE.lt))
  · have e1 : decide (a.text.size ≤ 100 ∧ b.text.size ≤ 100) = false := decide_eq_false hf
    exact tells_few op a.kind a.int a.text b.kind b.int b.text w hE (hide fun W => e1 ▸ few2 a b W ha hb)
end Go.Proofs.YtjmkoceiepcphaaGreatDoor
