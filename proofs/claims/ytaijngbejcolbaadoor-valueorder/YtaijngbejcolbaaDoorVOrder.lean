/- ValueOrder: its walk. -/
import Derived.Test.YtaijngbejcolbaaDoorVTests
import Derived.Deep.CutBlock
namespace Go.Proofs.YtaijngbejcolbaaDoor
open Go.RowKit Go.Lib

abbrev CmpI (k n : Int) (t : ByteArray) (k' n' : Int) (t' : ByteArray) (x : Int) : Prop := ∀ W : World, Calls Tryd.prog 14 #[.agg #[.int .i64 k, .int .i64 n, .string t], .agg #[.int .i64 k', .int .i64 n', .string t']] W fun e w' => e = .returned (.int .i64 x) ∧ Below W.heap.size W w'
abbrev IsI (k n : Int) (t : ByteArray) (m : Bool) : Prop := ∀ W : World, Calls Tryd.prog 15 #[.agg #[.int .i64 k, .int .i64 n, .string t]] W fun e w' => e = .returned (.bool m) ∧ Below W.heap.size W w'
theorem three_below2 {w w1 : World} {o o' o'' : Obj} (h : Below (((w.alloc o).alloc o').alloc o'').heap.size (((w.alloc o).alloc o').alloc o'') w1) : Below w.heap.size w w1 := three_below h

set_option maxHeartbeats 12800000 in
set_option maxRecDepth 100000 in
theorem order_lt (k n : Int) (t : ByteArray) (k' n' : Int) (t' : ByteArray) (k2 n2 : Int) (t2 : ByteArray) (z u : Int) (ma mb : Bool) (w : World) (hE : ET w)
    (HF : Hid (∀ W : World, Calls Tryd.prog 13 #[.slice (some ⟨W.heap.size, 0, none⟩) 3 3, .int .i64 3] (W.alloc (.cells #[.int .i64 k, .int .i64 n, .string t, .int .i64 k', .int .i64 n', .string t', .int .i64 k2, .int .i64 n2, .string t2] 29)) fun e w' => e = .returned (.bool true) ∧ w' = W.alloc (.cells #[.int .i64 k, .int .i64 n, .string t, .int .i64 k', .int .i64 n', .string t', .int .i64 k2, .int .i64 n2, .string t2] 29)))
    (H1 : Hid (CmpI k n t k' n' t' (-1))) (H2 : Hid (CmpI k' n' t' k n t (1))) (H3 : Hid (CmpI k n t k n t 0)) (H4 : Hid (CmpI k' n' t' k2 n2 t2 z)) (H5 : Hid (CmpI k n t k2 n2 t2 u)) (hzu : z ≤ 0 → u ≤ 0)
    (HA : Hid (IsI k n t ma)) (HB : Hid (IsI k' n' t' mb)) (HT : Hid (ma = true → mb = true → k = k' → k ≠ 0 → TestI 5 k n t k' n' t' 0 .nilIface ∧ TestI 6 k n t k' n' t' 1 .nilIface ∧ TestI 7 k n t k' n' t' 1 .nilIface ∧ TestI 8 k n t k' n' t' 1 .nilIface ∧ TestI 9 k n t k' n' t' 0 .nilIface ∧ TestI 10 k n t k' n' t' 0 .nilIface)) :
    Calls Tryd.prog 4 #[.agg #[.int .i64 k, .int .i64 n, .string t], .agg #[.int .i64 k', .int .i64 n', .string t'], .agg #[.int .i64 k2, .int .i64 n2, .string t2]] w fun e w' => e = .returned (.bool true) ∧ Below w.heap.size w w' := by
  have HK := hide (known_any (((w.alloc (.cells #[.int .i64 k, .int .i64 n, .string t] 29)).alloc (.cells #[.int .i64 k', .int .i64 n', .string t'] 29)).alloc (.cells #[.int .i64 k2, .int .i64 n2, .string t2] 29)) (((hE.alloc _).alloc _).alloc _))
  clear hE
  go_enter Tryd.func4, Tryd.ntmps4
  go_upto_region 6 with (first
    | (go_at_call 9; refine (unhide HK).mono ?_; clear HK; rintro e w1 ⟨rfl, hb1⟩; have Q1 := hide (one_new' (three_below2 hb1) (.cells #[.int .i64 k, .int .i64 n, .string t, .int .i64 k', .int .i64 n', .string t', .int .i64 k2, .int .i64 n2, .string t2] 29)); have A1 := hide (((((B3.new w w.heap.size k n t rfl).alloc _).alloc _).after hb1)); have B1 := hide (((B3.new _ (w.heap.size + 1) k' n' t' (by simp)).alloc _).after hb1); have C1' := hide ((B3.new _ (w.heap.size + 1 + 1) k2 n2 t2 (by simp)).after hb1); obtain ⟨a0, a1, a2, _, _, _⟩ := unhide A1; obtain ⟨b0, b1, b2, _, _, _⟩ := unhide B1; obtain ⟨c0, c1, c2, _, _, _⟩ := unhide C1'; clear hb1)
    | (go_at_call 13; refine (unhide HF _).mono ?_; clear HF; rintro e w0 ⟨rfl, rfl⟩; clear a0 a1 a2 b0 b1 b2 c0 c1 c2; have AF := hide ((unhide A1).alloc (.cells #[.int .i64 k, .int .i64 n, .string t, .int .i64 k', .int .i64 n', .string t', .int .i64 k2, .int .i64 n2, .string t2] 29)); have BF := hide ((unhide B1).alloc (.cells #[.int .i64 k, .int .i64 n, .string t, .int .i64 k', .int .i64 n', .string t', .int .i64 k2, .int .i64 n2, .string t2] 29)); have CF := hide ((unhide C1').alloc (.cells #[.int .i64 k, .int .i64 n, .string t, .int .i64 k', .int .i64 n', .string t', .int .i64 k2, .int .i64 n2, .string t2] 29)); obtain ⟨a0, a1, a2, _, _, _⟩ := unhide AF; obtain ⟨b0, b1, b2, _, _, _⟩ := unhide BF)
    | (go_at_call 14; refine (unhide H1 _).mono ?_; clear H1 a0 a1 a2 b0 b1 b2; rintro e w2 ⟨rfl, hb2⟩; have Q2 := hide (one_step (unhide Q1) hb2); have A2 := hide ((unhide AF).after hb2); have B2 := hide ((unhide BF).after hb2); have C2 := hide ((unhide CF).after hb2); clear hb2))
  go_cut [50] from 23 to 50 (fun s wx => s = .bool false ∧ Hid (Below w.heap.size w wx) ∧ Hid (B3 wx w.heap.size k n t) ∧ Hid (B3 wx (w.heap.size + 1) k' n' t'))
  case first =>
    clear HT HA HB
    obtain ⟨a0, a1, a2, _, _, _⟩ := unhide A2
    obtain ⟨b0, b1, b2, _, _, _⟩ := unhide B2
    obtain ⟨c0, c1, c2, _, _, _⟩ := unhide C2
    by_cases hz : z ≤ 0
    · have hu : (0 < u) = False := by have := hzu hz; simp; omega
      clear hzu
      go_wp2_with (first
        | (go_at_call 14; refine (unhide H2 _).mono ?_; clear H2 a0 a1 a2 b0 b1 b2 c0 c1 c2; rintro e w3 ⟨rfl, hb3⟩; have Q3 := hide (one_step (unhide Q2) hb3); have A3 := hide ((unhide A2).after hb3); have B3 := hide ((unhide B2).after hb3); have C3 := hide ((unhide C2).after hb3); obtain ⟨a0, a1, a2, _, _, _⟩ := unhide A3; obtain ⟨b0, b1, b2, _, _, _⟩ := unhide B3; obtain ⟨c0, c1, c2, _, _, _⟩ := unhide C3; clear hb3)
        | (go_at_call 14; refine (unhide H3 _).mono ?_; clear H3 a0 a1 a2 b0 b1 b2 c0 c1 c2; rintro e w4 ⟨rfl, hb4⟩; have Q4 := hide (one_step (unhide Q3) hb4); have A4 := hide ((unhide A3).after hb4); have B4 := hide ((unhide B3).after hb4); have C4 := hide ((unhide C3).after hb4); obtain ⟨a0, a1, a2, _, _, _⟩ := unhide A4; obtain ⟨b0, b1, b2, _, _, _⟩ := unhide B4; obtain ⟨c0, c1, c2, _, _, _⟩ := unhide C4; clear hb4)
        | (go_at_call 14; refine (unhide H4 _).mono ?_; clear H4 a0 a1 a2 b0 b1 b2 c0 c1 c2; rintro e w5 ⟨rfl, hb5⟩; have Q5 := hide (one_step (unhide Q4) hb5); have A5 := hide ((unhide A4).after hb5); have B5 := hide ((unhide B4).after hb5); have C5 := hide ((unhide C4).after hb5); obtain ⟨a0, a1, a2, _, _, _⟩ := unhide A5; obtain ⟨b0, b1, b2, _, _, _⟩ := unhide B5; obtain ⟨c0, c1, c2, _, _, _⟩ := unhide C5; clear hb5)
        | (go_at_call 14; refine (unhide H5 _).mono ?_; clear H5 a0 a1 a2 b0 b1 b2 c0 c1 c2; rintro e w6 ⟨rfl, hb6⟩; have Q6 := hide (one_step (unhide Q5) hb6); have A6 := hide ((unhide A5).after hb6); have B6 := hide ((unhide B5).after hb6); have C6 := hide ((unhide C5).after hb6); obtain ⟨a0, a1, a2, _, _, _⟩ := unhide A6; obtain ⟨b0, b1, b2, _, _, _⟩ := unhide B6; obtain ⟨c0, c1, c2, _, _, _⟩ := unhide C6; clear hb6))
      go_meet
      exact ⟨rfl, unhide Q6, unhide A6, unhide B6⟩
    · have hz' : (z ≤ 0) = False := by simpa using hz
      clear hzu hz
      go_wp2_with (first
        | (go_at_call 14; refine (unhide H2 _).mono ?_; clear H2 a0 a1 a2 b0 b1 b2 c0 c1 c2; rintro e w3 ⟨rfl, hb3⟩; have Q3 := hide (one_step (unhide Q2) hb3); have A3 := hide ((unhide A2).after hb3); have B3 := hide ((unhide B2).after hb3); have C3 := hide ((unhide C2).after hb3); obtain ⟨a0, a1, a2, _, _, _⟩ := unhide A3; obtain ⟨b0, b1, b2, _, _, _⟩ := unhide B3; obtain ⟨c0, c1, c2, _, _, _⟩ := unhide C3; clear hb3)
        | (go_at_call 14; refine (unhide H3 _).mono ?_; clear H3 a0 a1 a2 b0 b1 b2 c0 c1 c2; rintro e w4 ⟨rfl, hb4⟩; have Q4 := hide (one_step (unhide Q3) hb4); have A4 := hide ((unhide A3).after hb4); have B4 := hide ((unhide B3).after hb4); have C4 := hide ((unhide C3).after hb4); obtain ⟨a0, a1, a2, _, _, _⟩ := unhide A4; obtain ⟨b0, b1, b2, _, _, _⟩ := unhide B4; obtain ⟨c0, c1, c2, _, _, _⟩ := unhide C4; clear hb4)
        | (go_at_call 14; refine (unhide H4 _).mono ?_; clear H4 a0 a1 a2 b0 b1 b2 c0 c1 c2; rintro e w5 ⟨rfl, hb5⟩; have Q5 := hide (one_step (unhide Q4) hb5); have A5 := hide ((unhide A4).after hb5); have B5 := hide ((unhide B4).after hb5); have C5 := hide ((unhide C4).after hb5); obtain ⟨a0, a1, a2, _, _, _⟩ := unhide A5; obtain ⟨b0, b1, b2, _, _, _⟩ := unhide B5; obtain ⟨c0, c1, c2, _, _, _⟩ := unhide C5; clear hb5))
      go_meet
      exact ⟨rfl, unhide Q5, unhide A5, unhide B5⟩
  case rest =>
    obtain ⟨rfl, Qc, Ac, Bc⟩ := hcut
    clear H2 H3 H4 H5 hzu A1 B1 C1' AF BF CF A2 B2 C2 Q1 Q2
    obtain ⟨a0, a1, a2, _, _, _⟩ := unhide Ac
    obtain ⟨b0, b1, b2, _, _, _⟩ := unhide Bc
    cases ma with
    | false =>
      clear HT HB
      as_aux_lemma =>
        go_wp2_with (first
          | (go_at_call 15; refine (unhide HA _).mono ?_; clear HA a0 a1 a2 b0 b1 b2; rintro e w7 ⟨rfl, hb7⟩; have Q7 := hide (one_step (unhide Qc) hb7); have A7 := hide ((unhide Ac).after hb7); have B7 := hide ((unhide Bc).after hb7); obtain ⟨a0, a1, a2, _, _, _⟩ := unhide A7; obtain ⟨b0, b1, b2, _, _, _⟩ := unhide B7; clear hb7))
        go_ret
        exact ⟨rfl, unhide Q7⟩
    | true =>
      cases mb with
      | false =>
        clear HT
        as_aux_lemma =>
          go_wp2_with (first
            | (go_at_call 15; refine (unhide HA _).mono ?_; clear HA a0 a1 a2 b0 b1 b2; rintro e w7 ⟨rfl, hb7⟩; have Q7 := hide (one_step (unhide Qc) hb7); have A7 := hide ((unhide Ac).after hb7); have B7 := hide ((unhide Bc).after hb7); obtain ⟨a0, a1, a2, _, _, _⟩ := unhide A7; obtain ⟨b0, b1, b2, _, _, _⟩ := unhide B7; clear hb7)
            | (go_at_call 15; refine (unhide HB _).mono ?_; clear HB a0 a1 a2 b0 b1 b2; rintro e w8 ⟨rfl, hb8⟩; have Q8 := hide (one_step (unhide Q7) hb8); have A8 := hide ((unhide A7).after hb8); have B8 := hide ((unhide B7).after hb8); obtain ⟨a0, a1, a2, _, _, _⟩ := unhide A8; obtain ⟨b0, b1, b2, _, _, _⟩ := unhide B8; clear hb8))
          go_ret
          exact ⟨rfl, unhide Q8⟩
      | true =>
        by_cases hk : k = k'
        · subst hk
          have en : (k != k) = false := by simp
          by_cases h0 : k = 0
          · subst h0
            clear HT
            as_aux_lemma =>
              go_wp2_with (first
                | (go_at_call 15; refine (unhide HA _).mono ?_; clear HA a0 a1 a2 b0 b1 b2; rintro e w7 ⟨rfl, hb7⟩; have Q7 := hide (one_step (unhide Qc) hb7); have A7 := hide ((unhide Ac).after hb7); have B7 := hide ((unhide Bc).after hb7); obtain ⟨a0, a1, a2, _, _, _⟩ := unhide A7; obtain ⟨b0, b1, b2, _, _, _⟩ := unhide B7; clear hb7)
                | (go_at_call 15; refine (unhide HB _).mono ?_; clear HB a0 a1 a2 b0 b1 b2; rintro e w8 ⟨rfl, hb8⟩; have Q8 := hide (one_step (unhide Q7) hb8); have A8 := hide ((unhide A7).after hb8); have B8 := hide ((unhide B7).after hb8); obtain ⟨a0, a1, a2, _, _, _⟩ := unhide A8; obtain ⟨b0, b1, b2, _, _, _⟩ := unhide B8; clear hb8))
              go_ret
              exact ⟨rfl, unhide Q8⟩
          have e0 : (k == 0) = false := by simpa using h0
          obtain ⟨T0, T1, T2, T3, T4, T5⟩ := unhide HT rfl rfl rfl h0
          have T0 := hide T0
          have T1 := hide T1
          have T2 := hide T2
          have T3 := hide T3
          have T4 := hide T4
          have T5 := hide T5
          clear HT h0
          go_wp2_with (first
            | (go_at_call 15; refine (unhide HA _).mono ?_; clear HA a0 a1 a2 b0 b1 b2; rintro e w7 ⟨rfl, hb7⟩; have Q7 := hide (one_step (unhide Qc) hb7); have A7 := hide ((unhide Ac).after hb7); have B7 := hide ((unhide Bc).after hb7); obtain ⟨a0, a1, a2, _, _, _⟩ := unhide A7; obtain ⟨b0, b1, b2, _, _, _⟩ := unhide B7; clear hb7)
            | (go_at_call 15; refine (unhide HB _).mono ?_; clear HB a0 a1 a2 b0 b1 b2; rintro e w8 ⟨rfl, hb8⟩; have Q8 := hide (one_step (unhide Q7) hb8); have A8 := hide ((unhide A7).after hb8); have B8 := hide ((unhide B7).after hb8); obtain ⟨a0, a1, a2, _, _, _⟩ := unhide A8; obtain ⟨b0, b1, b2, _, _, _⟩ := unhide B8; clear hb8; have x0 := a0; have y0 := b0; have Q9 := hide (one_new' (unhide Q8) (.cells #[.bool false, .bool true, .bool true, .bool true, .bool false, .bool false] 34)); have A9 := hide ((unhide A8).alloc (.cells #[.bool false, .bool true, .bool true, .bool true, .bool false, .bool false] 34)); have B9 := hide ((unhide B8).alloc (.cells #[.bool false, .bool true, .bool true, .bool true, .bool false, .bool false] 34)); have I0 := hide (C1.new (w := w8) (b := w8.heap.size) (i := 0) (v := .bool false) #[.bool false, .bool true, .bool true, .bool true, .bool false, .bool false] 34 rfl rfl); have I1 := hide (C1.new (w := w8) (b := w8.heap.size) (i := 1) (v := .bool true) #[.bool false, .bool true, .bool true, .bool true, .bool false, .bool false] 34 rfl rfl); have I2 := hide (C1.new (w := w8) (b := w8.heap.size) (i := 2) (v := .bool true) #[.bool false, .bool true, .bool true, .bool true, .bool false, .bool false] 34 rfl rfl); have I3 := hide (C1.new (w := w8) (b := w8.heap.size) (i := 3) (v := .bool true) #[.bool false, .bool true, .bool true, .bool true, .bool false, .bool false] 34 rfl rfl); have I4 := hide (C1.new (w := w8) (b := w8.heap.size) (i := 4) (v := .bool false) #[.bool false, .bool true, .bool true, .bool true, .bool false, .bool false] 34 rfl rfl); have I5 := hide (C1.new (w := w8) (b := w8.heap.size) (i := 5) (v := .bool false) #[.bool false, .bool true, .bool true, .bool true, .bool false, .bool false] 34 rfl rfl)))
          refine wp_loop_rounds 7 ?_
          (try clear a0 a1 a2 b0 b1 b2)
          obtain ⟨a0, a1, a2, _, _, _⟩ := unhide A9
          obtain ⟨b0, b1, b2, _, _, _⟩ := unhide B9
          rw [rounds_succ]
          go_wp2_with (first
            | (go_at_call 16; refine (unhide T0 _).mono ?_; clear T0 a0 a1 a2 b0 b1 b2; rintro e w10 ⟨rfl, hb10⟩; have Q10 := hide (one_step (unhide Q9) hb10); have A10 := hide ((unhide A9).after hb10); have B10 := hide ((unhide B9).after hb10); have J0_10 := hide ((unhide I0).after hb10); have J1_10 := hide ((unhide I1).after hb10); have J2_10 := hide ((unhide I2).after hb10); have J3_10 := hide ((unhide I3).after hb10); have J4_10 := hide ((unhide I4).after hb10); have J5_10 := hide ((unhide I5).after hb10); have ii : w10.cell? ⟨w8.heap.size, 0, none⟩ = some (.bool false) := unhide J0_10; clear hb10))
          obtain ⟨a0, a1, a2, _, _, _⟩ := unhide A10
          obtain ⟨b0, b1, b2, _, _, _⟩ := unhide B10
          rw [rounds_succ]
          go_wp2_with (first
            | (go_at_call 16; refine (unhide T1 _).mono ?_; clear T1 a0 a1 a2 b0 b1 b2; rintro e w11 ⟨rfl, hb11⟩; have Q11 := hide (one_step (unhide Q10) hb11); have A11 := hide ((unhide A10).after hb11); have B11 := hide ((unhide B10).after hb11); have J1_11 := hide ((unhide J1_10).after hb11); have J2_11 := hide ((unhide J2_10).after hb11); have J3_11 := hide ((unhide J3_10).after hb11); have J4_11 := hide ((unhide J4_10).after hb11); have J5_11 := hide ((unhide J5_10).after hb11); have ii : w11.cell? ⟨w8.heap.size, 1, none⟩ = some (.bool true) := unhide J1_11; clear hb11))
          obtain ⟨a0, a1, a2, _, _, _⟩ := unhide A11
          obtain ⟨b0, b1, b2, _, _, _⟩ := unhide B11
          rw [rounds_succ]
          go_wp2_with (first
            | (go_at_call 16; refine (unhide T2 _).mono ?_; clear T2 a0 a1 a2 b0 b1 b2; rintro e w12 ⟨rfl, hb12⟩; have Q12 := hide (one_step (unhide Q11) hb12); have A12 := hide ((unhide A11).after hb12); have B12 := hide ((unhide B11).after hb12); have J2_12 := hide ((unhide J2_11).after hb12); have J3_12 := hide ((unhide J3_11).after hb12); have J4_12 := hide ((unhide J4_11).after hb12); have J5_12 := hide ((unhide J5_11).after hb12); have ii : w12.cell? ⟨w8.heap.size, 2, none⟩ = some (.bool true) := unhide J2_12; clear hb12))
          obtain ⟨a0, a1, a2, _, _, _⟩ := unhide A12
          obtain ⟨b0, b1, b2, _, _, _⟩ := unhide B12
          rw [rounds_succ]
          go_wp2_with (first
            | (go_at_call 16; refine (unhide T3 _).mono ?_; clear T3 a0 a1 a2 b0 b1 b2; rintro e w13 ⟨rfl, hb13⟩; have Q13 := hide (one_step (unhide Q12) hb13); have A13 := hide ((unhide A12).after hb13); have B13 := hide ((unhide B12).after hb13); have J3_13 := hide ((unhide J3_12).after hb13); have J4_13 := hide ((unhide J4_12).after hb13); have J5_13 := hide ((unhide J5_12).after hb13); have ii : w13.cell? ⟨w8.heap.size, 3, none⟩ = some (.bool true) := unhide J3_13; clear hb13))
          obtain ⟨a0, a1, a2, _, _, _⟩ := unhide A13
          obtain ⟨b0, b1, b2, _, _, _⟩ := unhide B13
          rw [rounds_succ]
          go_wp2_with (first
            | (go_at_call 16; refine (unhide T4 _).mono ?_; clear T4 a0 a1 a2 b0 b1 b2; rintro e w14 ⟨rfl, hb14⟩; have Q14 := hide (one_step (unhide Q13) hb14); have A14 := hide ((unhide A13).after hb14); have B14 := hide ((unhide B13).after hb14); have J4_14 := hide ((unhide J4_13).after hb14); have J5_14 := hide ((unhide J5_13).after hb14); have ii : w14.cell? ⟨w8.heap.size, 4, none⟩ = some (.bool false) := unhide J4_14; clear hb14))
          obtain ⟨a0, a1, a2, _, _, _⟩ := unhide A14
          obtain ⟨b0, b1, b2, _, _, _⟩ := unhide B14
          rw [rounds_succ]
          go_wp2_with (first
            | (go_at_call 16; refine (unhide T5 _).mono ?_; clear T5 a0 a1 a2 b0 b1 b2; rintro e w15 ⟨rfl, hb15⟩; have Q15 := hide (one_step (unhide Q14) hb15); have A15 := hide ((unhide A14).after hb15); have B15 := hide ((unhide B14).after hb15); have J5_15 := hide ((unhide J5_14).after hb15); have ii : w15.cell? ⟨w8.heap.size, 5, none⟩ = some (.bool false) := unhide J5_15; clear hb15))
          rw [rounds_succ]
          go_wp2_with fail
          go_ret
          exact ⟨rfl, unhide Q15⟩
        · have en : (k != k') = true := by simpa using hk
          clear HT hk
          as_aux_lemma =>
            go_wp2_with (first
              | (go_at_call 15; refine (unhide HA _).mono ?_; clear HA a0 a1 a2 b0 b1 b2; rintro e w7 ⟨rfl, hb7⟩; have Q7 := hide (one_step (unhide Qc) hb7); have A7 := hide ((unhide Ac).after hb7); have B7 := hide ((unhide Bc).after hb7); obtain ⟨a0, a1, a2, _, _, _⟩ := unhide A7; obtain ⟨b0, b1, b2, _, _, _⟩ := unhide B7; clear hb7)
              | (go_at_call 15; refine (unhide HB _).mono ?_; clear HB a0 a1 a2 b0 b1 b2; rintro e w8 ⟨rfl, hb8⟩; have Q8 := hide (one_step (unhide Q7) hb8); have A8 := hide ((unhide A7).after hb8); have B8 := hide ((unhide B7).after hb8); obtain ⟨a0, a1, a2, _, _, _⟩ := unhide A8; obtain ⟨b0, b1, b2, _, _, _⟩ := unhide B8; clear hb8))
            go_ret
            exact ⟨rfl, unhide Q8⟩

set_option maxHeartbeats 12800000 in
set_option maxRecDepth 100000 in
theorem order_eq (k n : Int) (t : ByteArray) (k' n' : Int) (t' : ByteArray) (k2 n2 : Int) (t2 : ByteArray) (z u : Int) (ma mb : Bool) (w : World) (hE : ET w)
    (HF : Hid (∀ W : World, Calls Tryd.prog 13 #[.slice (some ⟨W.heap.size, 0, none⟩) 3 3, .int .i64 3] (W.alloc (.cells #[.int .i64 k, .int .i64 n, .string t, .int .i64 k', .int .i64 n', .string t', .int .i64 k2, .int .i64 n2, .string t2] 29)) fun e w' => e = .returned (.bool true) ∧ w' = W.alloc (.cells #[.int .i64 k, .int .i64 n, .string t, .int .i64 k', .int .i64 n', .string t', .int .i64 k2, .int .i64 n2, .string t2] 29)))
    (H1 : Hid (CmpI k n t k' n' t' (0))) (H2 : Hid (CmpI k' n' t' k n t (0))) (H3 : Hid (CmpI k n t k n t 0)) (H4 : Hid (CmpI k' n' t' k2 n2 t2 z)) (H5 : Hid (CmpI k n t k2 n2 t2 u)) (hzu : z ≤ 0 → u ≤ 0)
    (HA : Hid (IsI k n t ma)) (HB : Hid (IsI k' n' t' mb)) (HT : Hid (ma = true → mb = true → k = k' → k ≠ 0 → TestI 5 k n t k' n' t' 1 .nilIface ∧ TestI 6 k n t k' n' t' 0 .nilIface ∧ TestI 7 k n t k' n' t' 0 .nilIface ∧ TestI 8 k n t k' n' t' 1 .nilIface ∧ TestI 9 k n t k' n' t' 0 .nilIface ∧ TestI 10 k n t k' n' t' 1 .nilIface)) :
    Calls Tryd.prog 4 #[.agg #[.int .i64 k, .int .i64 n, .string t], .agg #[.int .i64 k', .int .i64 n', .string t'], .agg #[.int .i64 k2, .int .i64 n2, .string t2]] w fun e w' => e = .returned (.bool true) ∧ Below w.heap.size w w' := by
  have HK := hide (known_any (((w.alloc (.cells #[.int .i64 k, .int .i64 n, .string t] 29)).alloc (.cells #[.int .i64 k', .int .i64 n', .string t'] 29)).alloc (.cells #[.int .i64 k2, .int .i64 n2, .string t2] 29)) (((hE.alloc _).alloc _).alloc _))
  clear hE
  go_enter Tryd.func4, Tryd.ntmps4
  go_upto_region 6 with (first
    | (go_at_call 9; refine (unhide HK).mono ?_; clear HK; rintro e w1 ⟨rfl, hb1⟩; have Q1 := hide (one_new' (three_below2 hb1) (.cells #[.int .i64 k, .int .i64 n, .string t, .int .i64 k', .int .i64 n', .string t', .int .i64 k2, .int .i64 n2, .string t2] 29)); have A1 := hide (((((B3.new w w.heap.size k n t rfl).alloc _).alloc _).after hb1)); have B1 := hide (((B3.new _ (w.heap.size + 1) k' n' t' (by simp)).alloc _).after hb1); have C1' := hide ((B3.new _ (w.heap.size + 1 + 1) k2 n2 t2 (by simp)).after hb1); obtain ⟨a0, a1, a2, _, _, _⟩ := unhide A1; obtain ⟨b0, b1, b2, _, _, _⟩ := unhide B1; obtain ⟨c0, c1, c2, _, _, _⟩ := unhide C1'; clear hb1)
    | (go_at_call 13; refine (unhide HF _).mono ?_; clear HF; rintro e w0 ⟨rfl, rfl⟩; clear a0 a1 a2 b0 b1 b2 c0 c1 c2; have AF := hide ((unhide A1).alloc (.cells #[.int .i64 k, .int .i64 n, .string t, .int .i64 k', .int .i64 n', .string t', .int .i64 k2, .int .i64 n2, .string t2] 29)); have BF := hide ((unhide B1).alloc (.cells #[.int .i64 k, .int .i64 n, .string t, .int .i64 k', .int .i64 n', .string t', .int .i64 k2, .int .i64 n2, .string t2] 29)); have CF := hide ((unhide C1').alloc (.cells #[.int .i64 k, .int .i64 n, .string t, .int .i64 k', .int .i64 n', .string t', .int .i64 k2, .int .i64 n2, .string t2] 29)); obtain ⟨a0, a1, a2, _, _, _⟩ := unhide AF; obtain ⟨b0, b1, b2, _, _, _⟩ := unhide BF)
    | (go_at_call 14; refine (unhide H1 _).mono ?_; clear H1 a0 a1 a2 b0 b1 b2; rintro e w2 ⟨rfl, hb2⟩; have Q2 := hide (one_step (unhide Q1) hb2); have A2 := hide ((unhide AF).after hb2); have B2 := hide ((unhide BF).after hb2); have C2 := hide ((unhide CF).after hb2); clear hb2))
  go_cut [50] from 23 to 50 (fun s wx => s = .bool false ∧ Hid (Below w.heap.size w wx) ∧ Hid (B3 wx w.heap.size k n t) ∧ Hid (B3 wx (w.heap.size + 1) k' n' t'))
  case first =>
    clear HT HA HB
    obtain ⟨a0, a1, a2, _, _, _⟩ := unhide A2
    obtain ⟨b0, b1, b2, _, _, _⟩ := unhide B2
    obtain ⟨c0, c1, c2, _, _, _⟩ := unhide C2
    by_cases hz : z ≤ 0
    · have hu : (0 < u) = False := by have := hzu hz; simp; omega
      clear hzu
      go_wp2_with (first
        | (go_at_call 14; refine (unhide H2 _).mono ?_; clear H2 a0 a1 a2 b0 b1 b2 c0 c1 c2; rintro e w3 ⟨rfl, hb3⟩; have Q3 := hide (one_step (unhide Q2) hb3); have A3 := hide ((unhide A2).after hb3); have B3 := hide ((unhide B2).after hb3); have C3 := hide ((unhide C2).after hb3); obtain ⟨a0, a1, a2, _, _, _⟩ := unhide A3; obtain ⟨b0, b1, b2, _, _, _⟩ := unhide B3; obtain ⟨c0, c1, c2, _, _, _⟩ := unhide C3; clear hb3)
        | (go_at_call 14; refine (unhide H3 _).mono ?_; clear H3 a0 a1 a2 b0 b1 b2 c0 c1 c2; rintro e w4 ⟨rfl, hb4⟩; have Q4 := hide (one_step (unhide Q3) hb4); have A4 := hide ((unhide A3).after hb4); have B4 := hide ((unhide B3).after hb4); have C4 := hide ((unhide C3).after hb4); obtain ⟨a0, a1, a2, _, _, _⟩ := unhide A4; obtain ⟨b0, b1, b2, _, _, _⟩ := unhide B4; obtain ⟨c0, c1, c2, _, _, _⟩ := unhide C4; clear hb4)
        | (go_at_call 14; refine (unhide H4 _).mono ?_; clear H4 a0 a1 a2 b0 b1 b2 c0 c1 c2; rintro e w5 ⟨rfl, hb5⟩; have Q5 := hide (one_step (unhide Q4) hb5); have A5 := hide ((unhide A4).after hb5); have B5 := hide ((unhide B4).after hb5); have C5 := hide ((unhide C4).after hb5); obtain ⟨a0, a1, a2, _, _, _⟩ := unhide A5; obtain ⟨b0, b1, b2, _, _, _⟩ := unhide B5; obtain ⟨c0, c1, c2, _, _, _⟩ := unhide C5; clear hb5)
        | (go_at_call 14; refine (unhide H5 _).mono ?_; clear H5 a0 a1 a2 b0 b1 b2 c0 c1 c2; rintro e w6 ⟨rfl, hb6⟩; have Q6 := hide (one_step (unhide Q5) hb6); have A6 := hide ((unhide A5).after hb6); have B6 := hide ((unhide B5).after hb6); have C6 := hide ((unhide C5).after hb6); obtain ⟨a0, a1, a2, _, _, _⟩ := unhide A6; obtain ⟨b0, b1, b2, _, _, _⟩ := unhide B6; obtain ⟨c0, c1, c2, _, _, _⟩ := unhide C6; clear hb6))
      go_meet
      exact ⟨rfl, unhide Q6, unhide A6, unhide B6⟩
    · have hz' : (z ≤ 0) = False := by simpa using hz
      clear hzu hz
      go_wp2_with (first
        | (go_at_call 14; refine (unhide H2 _).mono ?_; clear H2 a0 a1 a2 b0 b1 b2 c0 c1 c2; rintro e w3 ⟨rfl, hb3⟩; have Q3 := hide (one_step (unhide Q2) hb3); have A3 := hide ((unhide A2).after hb3); have B3 := hide ((unhide B2).after hb3); have C3 := hide ((unhide C2).after hb3); obtain ⟨a0, a1, a2, _, _, _⟩ := unhide A3; obtain ⟨b0, b1, b2, _, _, _⟩ := unhide B3; obtain ⟨c0, c1, c2, _, _, _⟩ := unhide C3; clear hb3)
        | (go_at_call 14; refine (unhide H3 _).mono ?_; clear H3 a0 a1 a2 b0 b1 b2 c0 c1 c2; rintro e w4 ⟨rfl, hb4⟩; have Q4 := hide (one_step (unhide Q3) hb4); have A4 := hide ((unhide A3).after hb4); have B4 := hide ((unhide B3).after hb4); have C4 := hide ((unhide C3).after hb4); obtain ⟨a0, a1, a2, _, _, _⟩ := unhide A4; obtain ⟨b0, b1, b2, _, _, _⟩ := unhide B4; obtain ⟨c0, c1, c2, _, _, _⟩ := unhide C4; clear hb4)
        | (go_at_call 14; refine (unhide H4 _).mono ?_; clear H4 a0 a1 a2 b0 b1 b2 c0 c1 c2; rintro e w5 ⟨rfl, hb5⟩; have Q5 := hide (one_step (unhide Q4) hb5); have A5 := hide ((unhide A4).after hb5); have B5 := hide ((unhide B4).after hb5); have C5 := hide ((unhide C4).after hb5); obtain ⟨a0, a1, a2, _, _, _⟩ := unhide A5; obtain ⟨b0, b1, b2, _, _, _⟩ := unhide B5; obtain ⟨c0, c1, c2, _, _, _⟩ := unhide C5; clear hb5))
      go_meet
      exact ⟨rfl, unhide Q5, unhide A5, unhide B5⟩
  case rest =>
    obtain ⟨rfl, Qc, Ac, Bc⟩ := hcut
    clear H2 H3 H4 H5 hzu A1 B1 C1' AF BF CF A2 B2 C2 Q1 Q2
    obtain ⟨a0, a1, a2, _, _, _⟩ := unhide Ac
    obtain ⟨b0, b1, b2, _, _, _⟩ := unhide Bc
    cases ma with
    | false =>
      clear HT HB
      as_aux_lemma =>
        go_wp2_with (first
          | (go_at_call 15; refine (unhide HA _).mono ?_; clear HA a0 a1 a2 b0 b1 b2; rintro e w7 ⟨rfl, hb7⟩; have Q7 := hide (one_step (unhide Qc) hb7); have A7 := hide ((unhide Ac).after hb7); have B7 := hide ((unhide Bc).after hb7); obtain ⟨a0, a1, a2, _, _, _⟩ := unhide A7; obtain ⟨b0, b1, b2, _, _, _⟩ := unhide B7; clear hb7))
        go_ret
        exact ⟨rfl, unhide Q7⟩
    | true =>
      cases mb with
      | false =>
        clear HT
        as_aux_lemma =>
          go_wp2_with (first
            | (go_at_call 15; refine (unhide HA _).mono ?_; clear HA a0 a1 a2 b0 b1 b2; rintro e w7 ⟨rfl, hb7⟩; have Q7 := hide (one_step (unhide Qc) hb7); have A7 := hide ((unhide Ac).after hb7); have B7 := hide ((unhide Bc).after hb7); obtain ⟨a0, a1, a2, _, _, _⟩ := unhide A7; obtain ⟨b0, b1, b2, _, _, _⟩ := unhide B7; clear hb7)
            | (go_at_call 15; refine (unhide HB _).mono ?_; clear HB a0 a1 a2 b0 b1 b2; rintro e w8 ⟨rfl, hb8⟩; have Q8 := hide (one_step (unhide Q7) hb8); have A8 := hide ((unhide A7).after hb8); have B8 := hide ((unhide B7).after hb8); obtain ⟨a0, a1, a2, _, _, _⟩ := unhide A8; obtain ⟨b0, b1, b2, _, _, _⟩ := unhide B8; clear hb8))
          go_ret
          exact ⟨rfl, unhide Q8⟩
      | true =>
        by_cases hk : k = k'
        · subst hk
          have en : (k != k) = false := by simp
          by_cases h0 : k = 0
          · subst h0
            clear HT
            as_aux_lemma =>
              go_wp2_with (first
                | (go_at_call 15; refine (unhide HA _).mono ?_; clear HA a0 a1 a2 b0 b1 b2; rintro e w7 ⟨rfl, hb7⟩; have Q7 := hide (one_step (unhide Qc) hb7); have A7 := hide ((unhide Ac).after hb7); have B7 := hide ((unhide Bc).after hb7); obtain ⟨a0, a1, a2, _, _, _⟩ := unhide A7; obtain ⟨b0, b1, b2, _, _, _⟩ := unhide B7; clear hb7)
                | (go_at_call 15; refine (unhide HB _).mono ?_; clear HB a0 a1 a2 b0 b1 b2; rintro e w8 ⟨rfl, hb8⟩; have Q8 := hide (one_step (unhide Q7) hb8); have A8 := hide ((unhide A7).after hb8); have B8 := hide ((unhide B7).after hb8); obtain ⟨a0, a1, a2, _, _, _⟩ := unhide A8; obtain ⟨b0, b1, b2, _, _, _⟩ := unhide B8; clear hb8))
              go_ret
              exact ⟨rfl, unhide Q8⟩
          have e0 : (k == 0) = false := by simpa using h0
          obtain ⟨T0, T1, T2, T3, T4, T5⟩ := unhide HT rfl rfl rfl h0
          have T0 := hide T0
          have T1 := hide T1
          have T2 := hide T2
          have T3 := hide T3
          have T4 := hide T4
          have T5 := hide T5
          clear HT h0
          go_wp2_with (first
            | (go_at_call 15; refine (unhide HA _).mono ?_; clear HA a0 a1 a2 b0 b1 b2; rintro e w7 ⟨rfl, hb7⟩; have Q7 := hide (one_step (unhide Qc) hb7); have A7 := hide ((unhide Ac).after hb7); have B7 := hide ((unhide Bc).after hb7); obtain ⟨a0, a1, a2, _, _, _⟩ := unhide A7; obtain ⟨b0, b1, b2, _, _, _⟩ := unhide B7; clear hb7)
            | (go_at_call 15; refine (unhide HB _).mono ?_; clear HB a0 a1 a2 b0 b1 b2; rintro e w8 ⟨rfl, hb8⟩; have Q8 := hide (one_step (unhide Q7) hb8); have A8 := hide ((unhide A7).after hb8); have B8 := hide ((unhide B7).after hb8); obtain ⟨a0, a1, a2, _, _, _⟩ := unhide A8; obtain ⟨b0, b1, b2, _, _, _⟩ := unhide B8; clear hb8; have x0 := a0; have y0 := b0; have Q9 := hide (one_new' (unhide Q8) (.cells #[.bool true, .bool false, .bool false, .bool true, .bool false, .bool true] 34)); have A9 := hide ((unhide A8).alloc (.cells #[.bool true, .bool false, .bool false, .bool true, .bool false, .bool true] 34)); have B9 := hide ((unhide B8).alloc (.cells #[.bool true, .bool false, .bool false, .bool true, .bool false, .bool true] 34)); have I0 := hide (C1.new (w := w8) (b := w8.heap.size) (i := 0) (v := .bool true) #[.bool true, .bool false, .bool false, .bool true, .bool false, .bool true] 34 rfl rfl); have I1 := hide (C1.new (w := w8) (b := w8.heap.size) (i := 1) (v := .bool false) #[.bool true, .bool false, .bool false, .bool true, .bool false, .bool true] 34 rfl rfl); have I2 := hide (C1.new (w := w8) (b := w8.heap.size) (i := 2) (v := .bool false) #[.bool true, .bool false, .bool false, .bool true, .bool false, .bool true] 34 rfl rfl); have I3 := hide (C1.new (w := w8) (b := w8.heap.size) (i := 3) (v := .bool true) #[.bool true, .bool false, .bool false, .bool true, .bool false, .bool true] 34 rfl rfl); have I4 := hide (C1.new (w := w8) (b := w8.heap.size) (i := 4) (v := .bool false) #[.bool true, .bool false, .bool false, .bool true, .bool false, .bool true] 34 rfl rfl); have I5 := hide (C1.new (w := w8) (b := w8.heap.size) (i := 5) (v := .bool true) #[.bool true, .bool false, .bool false, .bool true, .bool false, .bool true] 34 rfl rfl)))
          refine wp_loop_rounds 7 ?_
          (try clear a0 a1 a2 b0 b1 b2)
          obtain ⟨a0, a1, a2, _, _, _⟩ := unhide A9
          obtain ⟨b0, b1, b2, _, _, _⟩ := unhide B9
          rw [rounds_succ]
          go_wp2_with (first
            | (go_at_call 16; refine (unhide T0 _).mono ?_; clear T0 a0 a1 a2 b0 b1 b2; rintro e w10 ⟨rfl, hb10⟩; have Q10 := hide (one_step (unhide Q9) hb10); have A10 := hide ((unhide A9).after hb10); have B10 := hide ((unhide B9).after hb10); have J0_10 := hide ((unhide I0).after hb10); have J1_10 := hide ((unhide I1).after hb10); have J2_10 := hide ((unhide I2).after hb10); have J3_10 := hide ((unhide I3).after hb10); have J4_10 := hide ((unhide I4).after hb10); have J5_10 := hide ((unhide I5).after hb10); have ii : w10.cell? ⟨w8.heap.size, 0, none⟩ = some (.bool true) := unhide J0_10; clear hb10))
          obtain ⟨a0, a1, a2, _, _, _⟩ := unhide A10
          obtain ⟨b0, b1, b2, _, _, _⟩ := unhide B10
          rw [rounds_succ]
          go_wp2_with (first
            | (go_at_call 16; refine (unhide T1 _).mono ?_; clear T1 a0 a1 a2 b0 b1 b2; rintro e w11 ⟨rfl, hb11⟩; have Q11 := hide (one_step (unhide Q10) hb11); have A11 := hide ((unhide A10).after hb11); have B11 := hide ((unhide B10).after hb11); have J1_11 := hide ((unhide J1_10).after hb11); have J2_11 := hide ((unhide J2_10).after hb11); have J3_11 := hide ((unhide J3_10).after hb11); have J4_11 := hide ((unhide J4_10).after hb11); have J5_11 := hide ((unhide J5_10).after hb11); have ii : w11.cell? ⟨w8.heap.size, 1, none⟩ = some (.bool false) := unhide J1_11; clear hb11))
          obtain ⟨a0, a1, a2, _, _, _⟩ := unhide A11
          obtain ⟨b0, b1, b2, _, _, _⟩ := unhide B11
          rw [rounds_succ]
          go_wp2_with (first
            | (go_at_call 16; refine (unhide T2 _).mono ?_; clear T2 a0 a1 a2 b0 b1 b2; rintro e w12 ⟨rfl, hb12⟩; have Q12 := hide (one_step (unhide Q11) hb12); have A12 := hide ((unhide A11).after hb12); have B12 := hide ((unhide B11).after hb12); have J2_12 := hide ((unhide J2_11).after hb12); have J3_12 := hide ((unhide J3_11).after hb12); have J4_12 := hide ((unhide J4_11).after hb12); have J5_12 := hide ((unhide J5_11).after hb12); have ii : w12.cell? ⟨w8.heap.size, 2, none⟩ = some (.bool false) := unhide J2_12; clear hb12))
          obtain ⟨a0, a1, a2, _, _, _⟩ := unhide A12
          obtain ⟨b0, b1, b2, _, _, _⟩ := unhide B12
          rw [rounds_succ]
          go_wp2_with (first
            | (go_at_call 16; refine (unhide T3 _).mono ?_; clear T3 a0 a1 a2 b0 b1 b2; rintro e w13 ⟨rfl, hb13⟩; have Q13 := hide (one_step (unhide Q12) hb13); have A13 := hide ((unhide A12).after hb13); have B13 := hide ((unhide B12).after hb13); have J3_13 := hide ((unhide J3_12).after hb13); have J4_13 := hide ((unhide J4_12).after hb13); have J5_13 := hide ((unhide J5_12).after hb13); have ii : w13.cell? ⟨w8.heap.size, 3, none⟩ = some (.bool true) := unhide J3_13; clear hb13))
          obtain ⟨a0, a1, a2, _, _, _⟩ := unhide A13
          obtain ⟨b0, b1, b2, _, _, _⟩ := unhide B13
          rw [rounds_succ]
          go_wp2_with (first
            | (go_at_call 16; refine (unhide T4 _).mono ?_; clear T4 a0 a1 a2 b0 b1 b2; rintro e w14 ⟨rfl, hb14⟩; have Q14 := hide (one_step (unhide Q13) hb14); have A14 := hide ((unhide A13).after hb14); have B14 := hide ((unhide B13).after hb14); have J4_14 := hide ((unhide J4_13).after hb14); have J5_14 := hide ((unhide J5_13).after hb14); have ii : w14.cell? ⟨w8.heap.size, 4, none⟩ = some (.bool false) := unhide J4_14; clear hb14))
          obtain ⟨a0, a1, a2, _, _, _⟩ := unhide A14
          obtain ⟨b0, b1, b2, _, _, _⟩ := unhide B14
          rw [rounds_succ]
          go_wp2_with (first
            | (go_at_call 16; refine (unhide T5 _).mono ?_; clear T5 a0 a1 a2 b0 b1 b2; rintro e w15 ⟨rfl, hb15⟩; have Q15 := hide (one_step (unhide Q14) hb15); have A15 := hide ((unhide A14).after hb15); have B15 := hide ((unhide B14).after hb15); have J5_15 := hide ((unhide J5_14).after hb15); have ii : w15.cell? ⟨w8.heap.size, 5, none⟩ = some (.bool true) := unhide J5_15; clear hb15))
          rw [rounds_succ]
          go_wp2_with fail
          go_ret
          exact ⟨rfl, unhide Q15⟩
        · have en : (k != k') = true := by simpa using hk
          clear HT hk
          as_aux_lemma =>
            go_wp2_with (first
              | (go_at_call 15; refine (unhide HA _).mono ?_; clear HA a0 a1 a2 b0 b1 b2; rintro e w7 ⟨rfl, hb7⟩; have Q7 := hide (one_step (unhide Qc) hb7); have A7 := hide ((unhide Ac).after hb7); have B7 := hide ((unhide Bc).after hb7); obtain ⟨a0, a1, a2, _, _, _⟩ := unhide A7; obtain ⟨b0, b1, b2, _, _, _⟩ := unhide B7; clear hb7)
              | (go_at_call 15; refine (unhide HB _).mono ?_; clear HB a0 a1 a2 b0 b1 b2; rintro e w8 ⟨rfl, hb8⟩; have Q8 := hide (one_step (unhide Q7) hb8); have A8 := hide ((unhide A7).after hb8); have B8 := hide ((unhide B7).after hb8); obtain ⟨a0, a1, a2, _, _, _⟩ := unhide A8; obtain ⟨b0, b1, b2, _, _, _⟩ := unhide B8; clear hb8))
            go_ret
            exact ⟨rfl, unhide Q8⟩

set_option maxHeartbeats 12800000 in
set_option maxRecDepth 100000 in
theorem order_gt (k n : Int) (t : ByteArray) (k' n' : Int) (t' : ByteArray) (k2 n2 : Int) (t2 : ByteArray) (z u : Int) (ma mb : Bool) (w : World) (hE : ET w)
    (HF : Hid (∀ W : World, Calls Tryd.prog 13 #[.slice (some ⟨W.heap.size, 0, none⟩) 3 3, .int .i64 3] (W.alloc (.cells #[.int .i64 k, .int .i64 n, .string t, .int .i64 k', .int .i64 n', .string t', .int .i64 k2, .int .i64 n2, .string t2] 29)) fun e w' => e = .returned (.bool true) ∧ w' = W.alloc (.cells #[.int .i64 k, .int .i64 n, .string t, .int .i64 k', .int .i64 n', .string t', .int .i64 k2, .int .i64 n2, .string t2] 29)))
    (H1 : Hid (CmpI k n t k' n' t' (1))) (H2 : Hid (CmpI k' n' t' k n t (-1))) (H3 : Hid (CmpI k n t k n t 0)) (_H4 : Hid (CmpI k' n' t' k2 n2 t2 z)) (_H5 : Hid (CmpI k n t k2 n2 t2 u)) (_hzu : True)
    (HA : Hid (IsI k n t ma)) (HB : Hid (IsI k' n' t' mb)) (HT : Hid (ma = true → mb = true → k = k' → k ≠ 0 → TestI 5 k n t k' n' t' 0 .nilIface ∧ TestI 6 k n t k' n' t' 1 .nilIface ∧ TestI 7 k n t k' n' t' 0 .nilIface ∧ TestI 8 k n t k' n' t' 0 .nilIface ∧ TestI 9 k n t k' n' t' 1 .nilIface ∧ TestI 10 k n t k' n' t' 1 .nilIface)) :
    Calls Tryd.prog 4 #[.agg #[.int .i64 k, .int .i64 n, .string t], .agg #[.int .i64 k', .int .i64 n', .string t'], .agg #[.int .i64 k2, .int .i64 n2, .string t2]] w fun e w' => e = .returned (.bool true) ∧ Below w.heap.size w w' := by
  have HK := hide (known_any (((w.alloc (.cells #[.int .i64 k, .int .i64 n, .string t] 29)).alloc (.cells #[.int .i64 k', .int .i64 n', .string t'] 29)).alloc (.cells #[.int .i64 k2, .int .i64 n2, .string t2] 29)) (((hE.alloc _).alloc _).alloc _))
  clear hE
  go_enter Tryd.func4, Tryd.ntmps4
  go_upto_region 6 with (first
    | (go_at_call 9; refine (unhide HK).mono ?_; clear HK; rintro e w1 ⟨rfl, hb1⟩; have Q1 := hide (one_new' (three_below2 hb1) (.cells #[.int .i64 k, .int .i64 n, .string t, .int .i64 k', .int .i64 n', .string t', .int .i64 k2, .int .i64 n2, .string t2] 29)); have A1 := hide (((((B3.new w w.heap.size k n t rfl).alloc _).alloc _).after hb1)); have B1 := hide (((B3.new _ (w.heap.size + 1) k' n' t' (by simp)).alloc _).after hb1); have C1' := hide ((B3.new _ (w.heap.size + 1 + 1) k2 n2 t2 (by simp)).after hb1); obtain ⟨a0, a1, a2, _, _, _⟩ := unhide A1; obtain ⟨b0, b1, b2, _, _, _⟩ := unhide B1; obtain ⟨c0, c1, c2, _, _, _⟩ := unhide C1'; clear hb1)
    | (go_at_call 13; refine (unhide HF _).mono ?_; clear HF; rintro e w0 ⟨rfl, rfl⟩; clear a0 a1 a2 b0 b1 b2 c0 c1 c2; have AF := hide ((unhide A1).alloc (.cells #[.int .i64 k, .int .i64 n, .string t, .int .i64 k', .int .i64 n', .string t', .int .i64 k2, .int .i64 n2, .string t2] 29)); have BF := hide ((unhide B1).alloc (.cells #[.int .i64 k, .int .i64 n, .string t, .int .i64 k', .int .i64 n', .string t', .int .i64 k2, .int .i64 n2, .string t2] 29)); have CF := hide ((unhide C1').alloc (.cells #[.int .i64 k, .int .i64 n, .string t, .int .i64 k', .int .i64 n', .string t', .int .i64 k2, .int .i64 n2, .string t2] 29)); obtain ⟨a0, a1, a2, _, _, _⟩ := unhide AF; obtain ⟨b0, b1, b2, _, _, _⟩ := unhide BF)
    | (go_at_call 14; refine (unhide H1 _).mono ?_; clear H1 a0 a1 a2 b0 b1 b2; rintro e w2 ⟨rfl, hb2⟩; have Q2 := hide (one_step (unhide Q1) hb2); have A2 := hide ((unhide AF).after hb2); have B2 := hide ((unhide BF).after hb2); have C2 := hide ((unhide CF).after hb2); clear hb2))
  go_cut [50] from 23 to 50 (fun s wx => s = .bool false ∧ Hid (Below w.heap.size w wx) ∧ Hid (B3 wx w.heap.size k n t) ∧ Hid (B3 wx (w.heap.size + 1) k' n' t'))
  case first =>
    clear HT HA HB
    obtain ⟨a0, a1, a2, _, _, _⟩ := unhide A2
    obtain ⟨b0, b1, b2, _, _, _⟩ := unhide B2
    obtain ⟨c0, c1, c2, _, _, _⟩ := unhide C2
    go_wp2_with (first
      | (go_at_call 14; refine (unhide H2 _).mono ?_; clear H2 a0 a1 a2 b0 b1 b2 c0 c1 c2; rintro e w3 ⟨rfl, hb3⟩; have Q3 := hide (one_step (unhide Q2) hb3); have A3 := hide ((unhide A2).after hb3); have B3 := hide ((unhide B2).after hb3); have C3 := hide ((unhide C2).after hb3); obtain ⟨a0, a1, a2, _, _, _⟩ := unhide A3; obtain ⟨b0, b1, b2, _, _, _⟩ := unhide B3; obtain ⟨c0, c1, c2, _, _, _⟩ := unhide C3; clear hb3)
      | (go_at_call 14; refine (unhide H3 _).mono ?_; clear H3 a0 a1 a2 b0 b1 b2 c0 c1 c2; rintro e w4 ⟨rfl, hb4⟩; have Q4 := hide (one_step (unhide Q3) hb4); have A4 := hide ((unhide A3).after hb4); have B4 := hide ((unhide B3).after hb4); have C4 := hide ((unhide C3).after hb4); obtain ⟨a0, a1, a2, _, _, _⟩ := unhide A4; obtain ⟨b0, b1, b2, _, _, _⟩ := unhide B4; obtain ⟨c0, c1, c2, _, _, _⟩ := unhide C4; clear hb4))
    go_meet
    exact ⟨rfl, unhide Q4, unhide A4, unhide B4⟩
  case rest =>
    obtain ⟨rfl, Qc, Ac, Bc⟩ := hcut
    clear H2 H3 _H4 _H5 _hzu A1 B1 C1' AF BF CF A2 B2 C2 Q1 Q2
    obtain ⟨a0, a1, a2, _, _, _⟩ := unhide Ac
    obtain ⟨b0, b1, b2, _, _, _⟩ := unhide Bc
    cases ma with
    | false =>
      clear HT HB
      as_aux_lemma =>
        go_wp2_with (first
          | (go_at_call 15; refine (unhide HA _).mono ?_; clear HA a0 a1 a2 b0 b1 b2; rintro e w7 ⟨rfl, hb7⟩; have Q7 := hide (one_step (unhide Qc) hb7); have A7 := hide ((unhide Ac).after hb7); have B7 := hide ((unhide Bc).after hb7); obtain ⟨a0, a1, a2, _, _, _⟩ := unhide A7; obtain ⟨b0, b1, b2, _, _, _⟩ := unhide B7; clear hb7))
        go_ret
        exact ⟨rfl, unhide Q7⟩
    | true =>
      cases mb with
      | false =>
        clear HT
        as_aux_lemma =>
          go_wp2_with (first
            | (go_at_call 15; refine (unhide HA _).mono ?_; clear HA a0 a1 a2 b0 b1 b2; rintro e w7 ⟨rfl, hb7⟩; have Q7 := hide (one_step (unhide Qc) hb7); have A7 := hide ((unhide Ac).after hb7); have B7 := hide ((unhide Bc).after hb7); obtain ⟨a0, a1, a2, _, _, _⟩ := unhide A7; obtain ⟨b0, b1, b2, _, _, _⟩ := unhide B7; clear hb7)
            | (go_at_call 15; refine (unhide HB _).mono ?_; clear HB a0 a1 a2 b0 b1 b2; rintro e w8 ⟨rfl, hb8⟩; have Q8 := hide (one_step (unhide Q7) hb8); have A8 := hide ((unhide A7).after hb8); have B8 := hide ((unhide B7).after hb8); obtain ⟨a0, a1, a2, _, _, _⟩ := unhide A8; obtain ⟨b0, b1, b2, _, _, _⟩ := unhide B8; clear hb8))
          go_ret
          exact ⟨rfl, unhide Q8⟩
      | true =>
        by_cases hk : k = k'
        · subst hk
          have en : (k != k) = false := by simp
          by_cases h0 : k = 0
          · subst h0
            clear HT
            as_aux_lemma =>
              go_wp2_with (first
                | (go_at_call 15; refine (unhide HA _).mono ?_; clear HA a0 a1 a2 b0 b1 b2; rintro e w7 ⟨rfl, hb7⟩; have Q7 := hide (one_step (unhide Qc) hb7); have A7 := hide ((unhide Ac).after hb7); have B7 := hide ((unhide Bc).after hb7); obtain ⟨a0, a1, a2, _, _, _⟩ := unhide A7; obtain ⟨b0, b1, b2, _, _, _⟩ := unhide B7; clear hb7)
                | (go_at_call 15; refine (unhide HB _).mono ?_; clear HB a0 a1 a2 b0 b1 b2; rintro e w8 ⟨rfl, hb8⟩; have Q8 := hide (one_step (unhide Q7) hb8); have A8 := hide ((unhide A7).after hb8); have B8 := hide ((unhide B7).after hb8); obtain ⟨a0, a1, a2, _, _, _⟩ := unhide A8; obtain ⟨b0, b1, b2, _, _, _⟩ := unhide B8; clear hb8))
              go_ret
              exact ⟨rfl, unhide Q8⟩
          have e0 : (k == 0) = false := by simpa using h0
          obtain ⟨T0, T1, T2, T3, T4, T5⟩ := unhide HT rfl rfl rfl h0
          have T0 := hide T0
          have T1 := hide T1
          have T2 := hide T2
          have T3 := hide T3
          have T4 := hide T4
          have T5 := hide T5
          clear HT h0
          go_wp2_with (first
            | (go_at_call 15; refine (unhide HA _).mono ?_; clear HA a0 a1 a2 b0 b1 b2; rintro e w7 ⟨rfl, hb7⟩; have Q7 := hide (one_step (unhide Qc) hb7); have A7 := hide ((unhide Ac).after hb7); have B7 := hide ((unhide Bc).after hb7); obtain ⟨a0, a1, a2, _, _, _⟩ := unhide A7; obtain ⟨b0, b1, b2, _, _, _⟩ := unhide B7; clear hb7)
            | (go_at_call 15; refine (unhide HB _).mono ?_; clear HB a0 a1 a2 b0 b1 b2; rintro e w8 ⟨rfl, hb8⟩; have Q8 := hide (one_step (unhide Q7) hb8); have A8 := hide ((unhide A7).after hb8); have B8 := hide ((unhide B7).after hb8); obtain ⟨a0, a1, a2, _, _, _⟩ := unhide A8; obtain ⟨b0, b1, b2, _, _, _⟩ := unhide B8; clear hb8; have x0 := a0; have y0 := b0; have Q9 := hide (one_new' (unhide Q8) (.cells #[.bool false, .bool true, .bool false, .bool false, .bool true, .bool true] 34)); have A9 := hide ((unhide A8).alloc (.cells #[.bool false, .bool true, .bool false, .bool false, .bool true, .bool true] 34)); have B9 := hide ((unhide B8).alloc (.cells #[.bool false, .bool true, .bool false, .bool false, .bool true, .bool true] 34)); have I0 := hide (C1.new (w := w8) (b := w8.heap.size) (i := 0) (v := .bool false) #[.bool false, .bool true, .bool false, .bool false, .bool true, .bool true] 34 rfl rfl); have I1 := hide (C1.new (w := w8) (b := w8.heap.size) (i := 1) (v := .bool true) #[.bool false, .bool true, .bool false, .bool false, .bool true, .bool true] 34 rfl rfl); have I2 := hide (C1.new (w := w8) (b := w8.heap.size) (i := 2) (v := .bool false) #[.bool false, .bool true, .bool false, .bool false, .bool true, .bool true] 34 rfl rfl); have I3 := hide (C1.new (w := w8) (b := w8.heap.size) (i := 3) (v := .bool false) #[.bool false, .bool true, .bool false, .bool false, .bool true, .bool true] 34 rfl rfl); have I4 := hide (C1.new (w := w8) (b := w8.heap.size) (i := 4) (v := .bool true) #[.bool false, .bool true, .bool false, .bool false, .bool true, .bool true] 34 rfl rfl); have I5 := hide (C1.new (w := w8) (b := w8.heap.size) (i := 5) (v := .bool true) #[.bool false, .bool true, .bool false, .bool false, .bool true, .bool true] 34 rfl rfl)))
          refine wp_loop_rounds 7 ?_
          (try clear a0 a1 a2 b0 b1 b2)
          obtain ⟨a0, a1, a2, _, _, _⟩ := unhide A9
          obtain ⟨b0, b1, b2, _, _, _⟩ := unhide B9
          rw [rounds_succ]
          go_wp2_with (first
            | (go_at_call 16; refine (unhide T0 _).mono ?_; clear T0 a0 a1 a2 b0 b1 b2; rintro e w10 ⟨rfl, hb10⟩; have Q10 := hide (one_step (unhide Q9) hb10); have A10 := hide ((unhide A9).after hb10); have B10 := hide ((unhide B9).after hb10); have J0_10 := hide ((unhide I0).after hb10); have J1_10 := hide ((unhide I1).after hb10); have J2_10 := hide ((unhide I2).after hb10); have J3_10 := hide ((unhide I3).after hb10); have J4_10 := hide ((unhide I4).after hb10); have J5_10 := hide ((unhide I5).after hb10); have ii : w10.cell? ⟨w8.heap.size, 0, none⟩ = some (.bool false) := unhide J0_10; clear hb10))
          obtain ⟨a0, a1, a2, _, _, _⟩ := unhide A10
          obtain ⟨b0, b1, b2, _, _, _⟩ := unhide B10
          rw [rounds_succ]
          go_wp2_with (first
            | (go_at_call 16; refine (unhide T1 _).mono ?_; clear T1 a0 a1 a2 b0 b1 b2; rintro e w11 ⟨rfl, hb11⟩; have Q11 := hide (one_step (unhide Q10) hb11); have A11 := hide ((unhide A10).after hb11); have B11 := hide ((unhide B10).after hb11); have J1_11 := hide ((unhide J1_10).after hb11); have J2_11 := hide ((unhide J2_10).after hb11); have J3_11 := hide ((unhide J3_10).after hb11); have J4_11 := hide ((unhide J4_10).after hb11); have J5_11 := hide ((unhide J5_10).after hb11); have ii : w11.cell? ⟨w8.heap.size, 1, none⟩ = some (.bool true) := unhide J1_11; clear hb11))
          obtain ⟨a0, a1, a2, _, _, _⟩ := unhide A11
          obtain ⟨b0, b1, b2, _, _, _⟩ := unhide B11
          rw [rounds_succ]
          go_wp2_with (first
            | (go_at_call 16; refine (unhide T2 _).mono ?_; clear T2 a0 a1 a2 b0 b1 b2; rintro e w12 ⟨rfl, hb12⟩; have Q12 := hide (one_step (unhide Q11) hb12); have A12 := hide ((unhide A11).after hb12); have B12 := hide ((unhide B11).after hb12); have J2_12 := hide ((unhide J2_11).after hb12); have J3_12 := hide ((unhide J3_11).after hb12); have J4_12 := hide ((unhide J4_11).after hb12); have J5_12 := hide ((unhide J5_11).after hb12); have ii : w12.cell? ⟨w8.heap.size, 2, none⟩ = some (.bool false) := unhide J2_12; clear hb12))
          obtain ⟨a0, a1, a2, _, _, _⟩ := unhide A12
          obtain ⟨b0, b1, b2, _, _, _⟩ := unhide B12
          rw [rounds_succ]
          go_wp2_with (first
            | (go_at_call 16; refine (unhide T3 _).mono ?_; clear T3 a0 a1 a2 b0 b1 b2; rintro e w13 ⟨rfl, hb13⟩; have Q13 := hide (one_step (unhide Q12) hb13); have A13 := hide ((unhide A12).after hb13); have B13 := hide ((unhide B12).after hb13); have J3_13 := hide ((unhide J3_12).after hb13); have J4_13 := hide ((unhide J4_12).after hb13); have J5_13 := hide ((unhide J5_12).after hb13); have ii : w13.cell? ⟨w8.heap.size, 3, none⟩ = some (.bool false) := unhide J3_13; clear hb13))
          obtain ⟨a0, a1, a2, _, _, _⟩ := unhide A13
          obtain ⟨b0, b1, b2, _, _, _⟩ := unhide B13
          rw [rounds_succ]
          go_wp2_with (first
            | (go_at_call 16; refine (unhide T4 _).mono ?_; clear T4 a0 a1 a2 b0 b1 b2; rintro e w14 ⟨rfl, hb14⟩; have Q14 := hide (one_step (unhide Q13) hb14); have A14 := hide ((unhide A13).after hb14); have B14 := hide ((unhide B13).after hb14); have J4_14 := hide ((unhide J4_13).after hb14); have J5_14 := hide ((unhide J5_13).after hb14); have ii : w14.cell? ⟨w8.heap.size, 4, none⟩ = some (.bool true) := unhide J4_14; clear hb14))
          obtain ⟨a0, a1, a2, _, _, _⟩ := unhide A14
          obtain ⟨b0, b1, b2, _, _, _⟩ := unhide B14
          rw [rounds_succ]
          go_wp2_with (first
            | (go_at_call 16; refine (unhide T5 _).mono ?_; clear T5 a0 a1 a2 b0 b1 b2; rintro e w15 ⟨rfl, hb15⟩; have Q15 := hide (one_step (unhide Q14) hb15); have A15 := hide ((unhide A14).after hb15); have B15 := hide ((unhide B14).after hb15); have J5_15 := hide ((unhide J5_14).after hb15); have ii : w15.cell? ⟨w8.heap.size, 5, none⟩ = some (.bool true) := unhide J5_15; clear hb15))
          rw [rounds_succ]
          go_wp2_with fail
          go_ret
          exact ⟨rfl, unhide Q15⟩
        · have en : (k != k') = true := by simpa using hk
          clear HT hk
          as_aux_lemma =>
            go_wp2_with (first
              | (go_at_call 15; refine (unhide HA _).mono ?_; clear HA a0 a1 a2 b0 b1 b2; rintro e w7 ⟨rfl, hb7⟩; have Q7 := hide (one_step (unhide Qc) hb7); have A7 := hide ((unhide Ac).after hb7); have B7 := hide ((unhide Bc).after hb7); obtain ⟨a0, a1, a2, _, _, _⟩ := unhide A7; obtain ⟨b0, b1, b2, _, _, _⟩ := unhide B7; clear hb7)
              | (go_at_call 15; refine (unhide HB _).mono ?_; clear HB a0 a1 a2 b0 b1 b2; rintro e w8 ⟨rfl, hb8⟩; have Q8 := hide (one_step (unhide Q7) hb8); have A8 := hide ((unhide A7).after hb8); have B8 := hide ((unhide B7).after hb8); obtain ⟨a0, a1, a2, _, _, _⟩ := unhide A8; obtain ⟨b0, b1, b2, _, _, _⟩ := unhide B8; clear hb8))
            go_ret
            exact ⟨rfl, unhide Q8⟩

set_option maxHeartbeats 1600000 in
theorem order_out (k n : Int) (t : ByteArray) (k' n' : Int) (t' : ByteArray) (k2 n2 : Int) (t2 : ByteArray) (w : World) (hE : ET w)
    (HF : Hid (∀ W : World, Calls Tryd.prog 13 #[.slice (some ⟨W.heap.size, 0, none⟩) 3 3, .int .i64 3] (W.alloc (.cells #[.int .i64 k, .int .i64 n, .string t, .int .i64 k', .int .i64 n', .string t', .int .i64 k2, .int .i64 n2, .string t2] 29)) fun e w' => e = .returned (.bool false) ∧ w' = W.alloc (.cells #[.int .i64 k, .int .i64 n, .string t, .int .i64 k', .int .i64 n', .string t', .int .i64 k2, .int .i64 n2, .string t2] 29))) :
    Calls Tryd.prog 4 #[.agg #[.int .i64 k, .int .i64 n, .string t], .agg #[.int .i64 k', .int .i64 n', .string t'], .agg #[.int .i64 k2, .int .i64 n2, .string t2]] w fun e w' => e = .returned (.bool true) ∧ Below w.heap.size w w' := by
  have HK := hide (known_any (((w.alloc (.cells #[.int .i64 k, .int .i64 n, .string t] 29)).alloc (.cells #[.int .i64 k', .int .i64 n', .string t'] 29)).alloc (.cells #[.int .i64 k2, .int .i64 n2, .string t2] 29)) (((hE.alloc _).alloc _).alloc _))
  clear hE
  go_enter Tryd.func4, Tryd.ntmps4
  go_wp2_with (first
    | (go_at_call 9; refine (unhide HK).mono ?_; clear HK; rintro e w1 ⟨rfl, hb1⟩; have Q1 := hide (one_new' (three_below2 hb1) (.cells #[.int .i64 k, .int .i64 n, .string t, .int .i64 k', .int .i64 n', .string t', .int .i64 k2, .int .i64 n2, .string t2] 29)); obtain ⟨a0, a1, a2, _, _, _⟩ := ((((B3.new w w.heap.size k n t rfl).alloc _).alloc _).after hb1); obtain ⟨b0, b1, b2, _, _, _⟩ := ((B3.new _ (w.heap.size + 1) k' n' t' (by simp)).alloc _).after hb1; obtain ⟨c0, c1, c2, _, _, _⟩ := (B3.new _ (w.heap.size + 1 + 1) k2 n2 t2 (by simp)).after hb1; clear hb1)
    | (go_at_call 13; refine (unhide HF _).mono ?_; clear HF; rintro e w0 ⟨rfl, rfl⟩))
  go_ret
  exact ⟨rfl, unhide Q1⟩
theorem order_tell {a b : GV} (ha : a.may = true) (hb : b.may = true) (hk : a.kind = b.kind) (h0 : a.kind ≠ 0) (op : Int) (h : 5 ≤ op ∧ op ≤ 10) : testG op a b = (if holdsG op (compareG a b) then 1 else 0, 0) := by
  rw [test_may h (by simp [ha]) (by simp [hb]), if_neg (by omega), if_neg (fun h => h hk)]
  unfold compareG soundG
  rw [if_pos ha, if_pos hb]
  split <;> rfl
theorem order_any (a b c : GV) (w : World) (hE : ET w) (ha : a.ok) (hb : b.ok) (hc : c.ok) :
    Calls Tryd.prog 4 #[a.agg, b.agg, c.agg] w fun e w' => e = .returned (.bool true) ∧ Below w.heap.size w w' := by
  have HF := fun W => few3 a b c W ha hb hc
  by_cases h : a.text.size ≤ 100 ∧ b.text.size ≤ 100 ∧ c.text.size ≤ 100
  · rw [decide_eq_true h] at HF
    have H1 := fun W => compare_any a b W ha hb
    have H2 := fun W => compare_any b a W hb ha
    have H3 := fun W => compare_any a a W ha ha
    have H4 := fun W => compare_any b c W hb hc
    have H5 := fun W => compare_any a c W ha hc
    rw [compareG_self a] at H3
    have HT : ∀ op, (5 ≤ op ∧ op ≤ 10) → a.may = true → b.may = true → a.kind = b.kind → a.kind ≠ 0 → TestI op a.kind a.int a.text b.kind b.int b.text (if holdsG op (compareG a b) then 1 else 0) .nilIface :=
      fun op ho h1 h2 h3 h4 => testI_ok ha hb (order_tell h1 h2 h3 h4 op ho)
    have htr := compareG_trans a b c
    have hanti := compareG_anti b a
    rcases compareG_range a b with hx | hx | hx
    · rw [hx] at H1 HT htr hanti
      rw [hanti] at H2
      exact order_lt _ _ _ _ _ _ _ _ _ _ _ _ _ w hE HF H1 H2 H3 H4 H5 (htr (by decide)) (fun W => is_any a W ha) (fun W => is_any b W hb) (fun h1 h2 h3 h4 => ⟨HT 5 (by decide) h1 h2 h3 h4, HT 6 (by decide) h1 h2 h3 h4, HT 7 (by decide) h1 h2 h3 h4, HT 8 (by decide) h1 h2 h3 h4, HT 9 (by decide) h1 h2 h3 h4, HT 10 (by decide) h1 h2 h3 h4⟩)
    · rw [hx] at H1 HT htr hanti
      rw [hanti] at H2
      exact order_eq _ _ _ _ _ _ _ _ _ _ _ _ _ w hE HF H1 H2 H3 H4 H5 (htr (by decide)) (fun W => is_any a W ha) (fun W => is_any b W hb) (fun h1 h2 h3 h4 => ⟨HT 5 (by decide) h1 h2 h3 h4, HT 6 (by decide) h1 h2 h3 h4, HT 7 (by decide) h1 h2 h3 h4, HT 8 (by decide) h1 h2 h3 h4, HT 9 (by decide) h1 h2 h3 h4, HT 10 (by decide) h1 h2 h3 h4⟩)
    · rw [hx] at H1 HT htr hanti
      rw [hanti] at H2
      exact order_gt _ _ _ _ _ _ _ _ _ _ _ _ _ w hE HF H1 H2 H3 H4 H5 (trivial) (fun W => is_any a W ha) (fun W => is_any b W hb) (fun h1 h2 h3 h4 => ⟨HT 5 (by decide) h1 h2 h3 h4, HT 6 (by decide) h1 h2 h3 h4, HT 7 (by decide) h1 h2 h3 h4, HT 8 (by decide) h1 h2 h3 h4, HT 9 (by decide) h1 h2 h3 h4, HT 10 (by decide) h1 h2 h3 h4⟩)
  · rw [decide_eq_false h] at HF
    exact order_out _ _ _ _ _ _ _ _ _ w hE HF
end Go.Proofs.YtaijngbejcolbaaDoor
