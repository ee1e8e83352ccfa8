/- The walk of the statement WireLengths: it answers true; nothing old turns. -/
import Derived.Test.YtahcfanmfocljaaDoorKnown
import Derived.Test.YtahcfanmfocljaaDoorLenMath
namespace Go.Proofs.YtahcfanmfocljaaDoor
open Go.RowKit Go.Lib

/-- PutUint's bytes as cells. -/
theorem putUint_cells (x : Nat) (w : World) (hx : x < 18446744073709551616) :
    Calls Tryd.prog 10 #[.int .u64 x] w fun e w' => ∃ b cap, e = .returned (.slice (some ⟨b, 0, none⟩) (uvarint x).length cap) ∧
      (∀ i, i < (uvarint x).length → w'.cell? ⟨b, i, none⟩ = some (.int .u8 (((uvarint x).getD i 0).toNat : Int))) ∧ RBp w' w'.heap.size (.slice (some ⟨b, 0, none⟩) (uvarint x).length cap) (uvarint x) ∧ Below w.heap.size w w' := by
  refine (putUint_any x w hx).mono ?_
  rintro e w' ⟨v', rfl, ho, hb⟩
  have hl := uvarint_length64 hx
  have hp := uvarint_pos x
  have hr := rb_own ho (by omega)
  have hr' := hr
  obtain ⟨_, ⟨rfl, h2⟩ | ⟨b, off, cap, h3, h4, h5, rfl, h7⟩⟩ := hr
  · rw [h2] at hp; simp at hp
  · rcases ho.2 with ⟨h, _⟩ | ⟨g, cap', cur, h, _⟩
    · cases h
    · injection h with h8 h9 h10
      injection h8 with h8
      injection h8 with h8 h11
      subst h8; subst h11
      refine ⟨b, cap, rfl, fun i hi => ?_, hr', hb⟩
      have := h7 i hi
      rwa [Nat.zero_add] at this
theorem putInt_rb (n : Int) (w : World) (h0 : -9223372036854775808 ≤ n) (h1 : n < 9223372036854775808) :
    Calls Tryd.prog 11 #[.int .i64 n] w fun e w' => ∃ a k, e = .returned (.slice a (uvarint (zigzag n)).length k) ∧ RBp w' w'.heap.size (.slice a (uvarint (zigzag n)).length k) (uvarint (zigzag n)) ∧ Below w.heap.size w w' := by
  refine (putInt_any n w h0 h1).mono ?_
  rintro e w' ⟨v', rfl, ho, hb⟩
  obtain ⟨a, k, rfl⟩ := own_slice ho
  have hl := uvarint_length64 (zigzag_lt h0 (by omega : n ≤ 9223372036854775807))
  exact ⟨a, k, rfl, rb_own ho (by omega), hb⟩
theorem uint_back (x : Nat) (v : Value) (B : Nat) (w : World) (hx : x < 18446744073709551616) (hv : RBp w B v (uvarint x)) :
    Calls Tryd.prog 17 #[v] w fun e w' => e = .returned (.tuple #[.int .u64 x, .int .i64 ((uvarint x).length : Int), .nilIface]) ∧ w' = w := by
  have hd : decU (uvarint x) = (x, (uvarint x).length, 0, 0) := by have := decU_uv x hx []; rwa [List.append_nil] at this
  exact uint_ok v B x _ 0 _ w hv hd

set_option maxHeartbeats 4000000 in
set_option maxRecDepth 100000 in
theorem lengths_any (n : Nat) (k : Int) (w : World) (hn : n < 18446744073709551616) (hk0 : -9223372036854775808 ≤ k) (hk1 : k < 9223372036854775808) (hE : ET w) (hT : ST w) :
    Calls Tryd.prog 7 #[.int .u64 n, .int .i64 k] w fun e w' => e = .returned (.bool true) ∧ Below w.heap.size w w' := by
  have hnb := nbits_le 64 n (by omega)
  have hul := uv_length n
  have HM := hide (uv_mark n)
  have HP := hide (fun w => putUint_cells n w hn)
  have hup := uvarint_pos n
  have hul64 := uvarint_length64 hn
  have HK := hide (known_any w hE hT)
  clear hE hT
  go_enter Tryd.func7, Tryd.ntmps7
  go_wp2_with (first | (go_at_call 9; refine (unhide HK).mono ?_; rintro e w1 ⟨rfl, hb1⟩))
  clear HK
  have HU := hide hul
  clear hul
  go_loop [5, 6] (fun vb vm => ∃ m j : Nat, m < 18446744073709551616 ∧ vm = .int .u64 m ∧ vb = .int .i64 j ∧ j ≤ 64 ∧ j + nbits m = nbits n) (fun _ vm => (intOf vm).toNat)
  case atStart => exact ⟨n, 0, hn, rfl, rfl, by omega, by omega⟩
  case round =>
    obtain ⟨m, j, hm, rfl, rfl, hj, hjm⟩ := hrel
    by_cases hm0 : 0 < m
    · have hjm2 : j + 1 + nbits (m / 2) = nbits n := by have := nbits_pos hm0; omega
      have H2 := hide hjm2
      clear hjm hjm2
      go_wp2
      go_round
      case rel => exact ⟨m / 2, j + 1, by omega, by go_num, by go_num, by have := unhide H2; omega, unhide H2⟩
      case measure => simp [intOf]; omega
    · have hm1 : m = 0 := by omega
      subst hm1
      rw [nbits_zero, Nat.add_zero] at hjm
      have HL : Hid ((uvarint n).length = max 1 ((j + 6) / 7)) := by rw [hjm]; exact unhide HU
      clear hjm hm HU
      have hcase : ((1 : Int) < ((j : Int) + 6) / 7 ∧ ((((uvarint n).length : Nat) : Int) != ((j : Int) + 6) / 7) = false) ∨ (((j : Int) + 6) / 7 ≤ 1 ∧ ((((uvarint n).length : Nat) : Int) != 1) = false) := by
        have := unhide HL
        by_cases h : (j + 6) / 7 ≤ 1
        · right; refine ⟨by omega, ?_⟩; rw [bne_eq_false_iff_eq]; omega
        · left; refine ⟨by omega, ?_⟩; rw [bne_eq_false_iff_eq]; omega
      clear HL
      generalize hlu : uvarint n = lu at *
      clear hlu
      rcases hcase with ⟨hA, hB⟩ | ⟨hA, hB⟩
      all_goals
        go_wp2_with (first | (go_at_call 10; refine (unhide HP _).mono ?_; rintro e w2 ⟨b, cap, rfl, hc2, hv2, hb2⟩; clear hv2))
        clear hA hB
        have HC := hide hc2
        clear hc2 HP
        go_loop [8] (fun vi => ∃ i : Nat, i ≤ lu.length ∧ vi = .int .i64 i) (fun vi => lu.length - (intOf vi).toNat)
        case atStart => exact ⟨0, Nat.zero_le _, rfl⟩
        case round =>
          obtain ⟨i, hi, rfl⟩ := hrel
          by_cases hil : i < lu.length
          · have hcx := unhide HC i hil
            have hmk := unhide HM i hil
            generalize lu.getD i 0 = c at *
            clear HC HM
            by_cases hi1 : i + 1 < lu.length
            · have h128 : (128 : Int) ≤ (c.toNat : Int) := by have := hmk.2 hi1; omega
              have hi2 : ((i : Int) + 1) < ((lu.length : Nat) : Int) := by omega
              clear hmk
              go_wp2
              go_round
              case rel => exact ⟨i + 1, by omega, by go_num⟩
              case measure => simp [intOf]; omega
            · have h128 : (c.toNat : Int) < 128 := by
                rcases Nat.lt_or_ge c.toNat 128 with h | h
                · omega
                · exact absurd (hmk.1 h) hi1
              have hi2 : ¬ (((i : Int) + 1) < ((lu.length : Nat) : Int)) := by omega
              clear hmk
              go_wp2
              go_round
              case rel => exact ⟨i + 1, by omega, by go_num⟩
              case measure => simp [intOf]; omega
          · clear HC HM
            have z2 := hb2.size
            have z1 := hb1.size
            have HB := hide (hb1.trans (hb2.mono z1))
            by_cases hkn : k < 0
            · have hz := zig_even (k := -(k + 1)) (by omega) (by omega)
              obtain ⟨he, h1, hlt⟩ := hz
              generalize hX : zigzag (-(k + 1)) = X at *
              have HX := hide hX
              have H1 : Hid (zigzag k = X + 1) := by have h2 := h1; rwa [show -(-(k + 1)) - 1 = k by omega] at h2
              have hx2 : ((X : Int) % 2 == 0) = true := beq_iff_eq.2 (by omega)
              clear h1 hX
              go_wp2_with (fail)
              refine (putInt_rb _ _ (by omega) (by omega)).mono ?_
              rintro e w3 ⟨a3, k3, rfl, hv3, hb3⟩
              rw [unhide HX] at hv3 ⊢
              go_wp2_with (fail)
              refine (uint_back _ _ _ _ (by omega) hv3).mono ?_
              clear hv3
              rintro e w3 ⟨rfl, rfl⟩
              go_wp2_with (fail)
              refine (putInt_rb _ _ (by omega) (by omega)).mono ?_
              rintro e w4 ⟨a4, k4, rfl, hv4, hb4⟩
              rw [unhide H1] at hv4 ⊢
              go_wp2_with (fail)
              refine (uint_back _ _ _ _ (by omega) hv4).mono ?_
              clear hv4
              rintro e w4 ⟨rfl, rfl⟩
              have z3 := hb3.size
              go_wp2
              go_ret
              exact ⟨rfl, ((unhide HB).trans (hb3.mono (by omega))).trans (hb4.mono (by omega))⟩
            · have hz := zig_even (k := k) (by omega) (by omega)
              obtain ⟨he, h1, hlt⟩ := hz
              generalize hX : zigzag k = X at *
              have HX := hide hX
              have H1 : Hid (zigzag (-k - 1) = X + 1) := h1
              have hx2 : ((X : Int) % 2 == 0) = true := beq_iff_eq.2 (by omega)
              clear h1 hX
              go_wp2_with (fail)
              refine (putInt_rb _ _ (by omega) (by omega)).mono ?_
              rintro e w3 ⟨a3, k3, rfl, hv3, hb3⟩
              rw [unhide HX] at hv3 ⊢
              go_wp2_with (fail)
              refine (uint_back _ _ _ _ (by omega) hv3).mono ?_
              clear hv3
              rintro e w3 ⟨rfl, rfl⟩
              go_wp2_with (fail)
              refine (putInt_rb _ _ (by omega) (by omega)).mono ?_
              rintro e w4 ⟨a4, k4, rfl, hv4, hb4⟩
              rw [unhide H1] at hv4 ⊢
              go_wp2_with (fail)
              refine (uint_back _ _ _ _ (by omega) hv4).mono ?_
              clear hv4
              rintro e w4 ⟨rfl, rfl⟩
              have z3 := hb3.size
              go_wp2
              go_ret
              exact ⟨rfl, ((unhide HB).trans (hb3.mono (by omega))).trans (hb4.mono (by omega))⟩
end Go.Proofs.YtahcfanmfocljaaDoor
