/- WalRounds: its walk. -/
import Derived.Test.YthphadbcebeoaaaGreatDoorJWaRw4WaKnown3WaRd0
import Derived.Test.YthphadbcebeoaaaGreatDoorJHandWaStLawFramesSPack
import Derived.Deep.CutBlock
namespace Go.Proofs.YthphadbcebeoaaaGreatDoor
open Go.RowKit Go.Lib Go.Maps

theorem take_er {t : ByteArray} {r i : Nat} (h : i < 20) : (er t r).take (i + 1) = (er t r).take i ++ [gr t r i] := by
  rw [List.take_add_one, er_get h]; rfl
theorem take_er_len {t : ByteArray} {r i : Nat} (h : i ≤ 20) : ((er t r).take i).length = i := by rw [List.length_take, er_len]; omega

set_option maxHeartbeats 25600000 in
set_option maxRecDepth 100000 in
theorem rounds_law (w : World) (hE : ET w) (hT : ST w) (a b : Nat) (hb : b < 256) :
    Calls Tryz.prog 4 #[.int .u8 (a : Int), .int .u8 (b : Int)] w fun e w' => e = .returned (.bool true) ∧ Below w.heap.size w w' := by
  have HK := hide (wknown_any w hE hT)
  have HK1 : Hid (∀ w1 : World, Below w.heap.size w w1 → Hid (Below w.heap.size w w1 ∧ ET w1 ∧ ST w1)) := fun w1 hbb => ⟨hbb, hE.below hbb hE.lt, hT.below hbb hT.lt⟩
  have hwb : IntKind.i64.wrap (b : Int) = (b : Int) := by rw [IntKind.wrap_i64] <;> omega
  obtain ⟨c, hc⟩ : ∃ c, c = a % 80 := ⟨_, rfl⟩
  have hc80 : c < 80 := by omega
  have hra : Int.tmod (a : Int) 80 = (c : Int) := by rw [hc]; rfl
  have hwc : IntKind.i64.wrap (c : Int) = (c : Int) := by rw [IntKind.wrap_i64] <;> omega
  have hwc8 : IntKind.u8.wrap (c : Int) = (c : Int) := by rw [IntKind.wrap_u8] <;> omega
  have hwc1 : IntKind.i64.wrap (10 + (c : Int)) = 10 + (c : Int) := by rw [IntKind.wrap_i64] <;> omega
  clear hE hT hc
  go_enter Tryz.func4, Tryz.ntmps4
  go_wp2_with (first
    | (go_at_call 7; refine (unhide HK).mono ?_; rintro e w1 ⟨rfl, hb1⟩; have HB := unhide HK1 w1 hb1; clear HK HK1 hb1; have HN := hide (kb_new (w := w1) (room := 65536) (by decide) (unhide HB).2.1 (unhide HB).2.2))
    | (go_at_call 8; refine (unhide HN).mono ?_; rintro e w2 ⟨rfl, _, HO⟩; clear HN)
    | (go_at_call 9; refine (unhide HO).mono ?_; rintro e w3 ⟨p, rfl, K3⟩; clear HO))
  go_loopw [8, 9] (fun s8 s9 wr => ∃ (i : Nat) (t : ByteArray), i ≤ b ∧ s9 = .int .i64 (i : Int) ∧ s8 = .string t ∧ wr = w3 ∧ Hid (t.size = i)) (fun _ s9 _ => b - (RowKit.intOf s9).toNat)
  case atStart => exact ⟨0, _, Nat.zero_le _, rfl, rfl, rfl, rfl⟩
  case round =>
    obtain ⟨i, t, hi, rfl, rfl, rfl, ht⟩ := hrel
    by_cases hlt : i < b
    · have hii : (i : Int) < (b : Int) := by omega
      have hwi : IntKind.i64.wrap ((i : Int) + 1) = (i : Int) + 1 := by rw [IntKind.wrap_i64] <;> omega
      go_wp2_with fail
      · rename_i hx
        exact absurd hx (by have := unhide ht; omega)
      refine ⟨⟨i + 1, _, by omega, by simp, rfl, trivial, ?_⟩, ?_⟩
      · show (t ++ ⟨#[120]⟩).size = i + 1
        rw [ByteArray.size_append, unhide ht]; rfl
      · simp [RowKit.intOf]; omega
    · obtain rfl : i = b := by omega
      have hii : ¬ ((i : Int) < (i : Int)) := by omega
      have Ht : Hid (t.size ≤ 255) := by have := unhide ht; show t.size ≤ 255; omega
      have H0 : Hid (RH w1 wr p w1.heap.size t 0) := ⟨false, [], 0, unhide K3, by simp [recsB], fun _ => rfl⟩
      have HBf : Hid (∀ W, Below w1.heap.size w1 W → Below w.heap.size w W) := fun W hbb => (unhide HB).1.trans (hbb.mono (unhide HB).1.size)
      clear K3 HB ht hlt hii
      go_wp2_with fail
      go_loopw [6, 7, 10, 11, 12, 13, 14, 15] (fun s6 s7 s10 s11 s12 s13 s14 s15 wx => s7 = s7 ∧ s12 = s12 ∧ s13 = s13 ∧ s14 = s14 ∧ s15 = s15 ∧ ∃ (p r n : Nat), r ≤ 10 + c ∧ s6 = .pointer (some ⟨p, 0, none⟩) ∧ s10 = .int .u64 (n : Int) ∧ s11 = .int .i64 (r : Int) ∧ Hid (n = 20 * r ∧ RH w1 wx p w1.heap.size t r)) (fun _ _ _ s11 _ _ _ _ _ => 10 + c - (RowKit.intOf s11).toNat)
      case atStart => exact ⟨rfl, rfl, rfl, rfl, rfl, p, 0, 0, Nat.zero_le _, rfl, rfl, rfl, rfl, unhide H0⟩
      case round =>
        obtain ⟨-, -, -, -, -, p, r, n, hr, rfl, rfl, rfl, hh⟩ := hrel
        clear H0
        by_cases hlt : r < 10 + c
        rotate_left
        · have hii : ¬ ((r : Int) < 10 + (c : Int)) := by omega
          obtain ⟨_, pr, hk⟩ := unhide hh
          have HF := hide (unhide HBf _ hk.fr)
          clear hh hk
          go_wp2_with fail
          go_ret
          exact ⟨rfl, unhide HF⟩
        have hii : (r : Int) < 10 + (c : Int) := by omega
        obtain ⟨hn, pr, hk⟩ := unhide hh
        have HK := hide hk
        have Hn := hide hn
        have hn5 : (n : Int) ≤ 2000 := by omega
        have hr90 : (r : Int) < 90 := by omega
        clear hh hn hk
        have hwr : IntKind.u64.wrap (r : Int) = (r : Int) := by rw [IntKind.wrap_u64] <;> omega
        have hwr1 : IntKind.i64.wrap ((r : Int) + 1) = (r : Int) + 1 := by rw [IntKind.wrap_i64] <;> omega
        have hwn : IntKind.u64.wrap ((n : Int) + 20) = (n : Int) + 20 := by rw [IntKind.wrap_u64] <;> omega
        obtain ⟨m, hm⟩ : ∃ m, m = r % 16 := ⟨_, rfl⟩
        have hrem : Int.tmod (r : Int) 16 = (m : Int) := by rw [hm]; rfl
        have hwm : IntKind.i64.wrap (m : Int) = (m : Int) := by rw [IntKind.wrap_i64] <;> omega
        clear hm
        have hwn5 : IntKind.u64.wrap ((n : Int) + 20 - 5) = (n : Int) + 15 := by rw [IntKind.wrap_u64] <;> omega
        go_wp2_with fail
        obtain ⟨wh, hwh⟩ : ∃ wh : World, wh = wr := ⟨_, rfl⟩
        rw [← hwh] at HK
        go_loopw [12, 13] (fun s12 s13 wy => ∃ (i vc : Nat) (va : Option Addr), i ≤ 20 ∧ s13 = .int .i64 (i : Int) ∧ s12 = .slice va i vc ∧ Hid (wy.ownsRow wh.heap.size 37 5 (.slice va i vc) i (esC ((er t r).take i)) ∧ Below wh.heap.size wh wy)) (fun _ s13 _ => 20 - (RowKit.intOf s13).toNat)
        case atStart => exact ⟨0, _, _, Nat.zero_le _, rfl, rfl, World.ownsRow_nil _ _ _ _, by rw [hwh]; exact Below.refl _ _⟩
        case round =>
          obtain ⟨i, vc, va, hi, rfl, rfl, ho⟩ := hrel
          by_cases hlt2 : i < 20
          · have hi2 : (i : Int) < 20 := by omega
            have hwi : IntKind.u64.wrap (i : Int) = (i : Int) := by rw [IntKind.wrap_u64] <;> omega
            have hwi1 : IntKind.i64.wrap ((i : Int) + 1) = (i : Int) + 1 := by rw [IntKind.wrap_i64] <;> omega
            have hbx := box_below wr (.cells (geC (gr t r i)).toArray 37)
            obtain ⟨W2, hW2⟩ : ∃ W2, W2 = wr.alloc (.cells #[.int .u64 1, .int .i64 1, .int .u64 (i : Int), .int .u64 (r : Int), .string t] 37) := ⟨_, rfl⟩
            have HO2 : Hid (W2.ownsRow wh.heap.size 37 5 (.slice va i vc) ((er t r).take i).length (esC ((er t r).take i)) ∧ Below wh.heap.size wh W2 ∧ W2.heap[wr.heap.size]? = some (.cells (geC (gr t r i)).toArray 37 (0, 0))) := by
              rw [hW2]
              exact ⟨by rw [take_er_len hi]; exact own_later (unhide ho).1 hbx, below_trans0 (unhide ho).2 hbx, heap_alloc_new _ _⟩
            have HL2 : Hid (((er t r).take i).length ≤ 1000000) := by rw [take_er_len hi]; show i ≤ 1000000; omega
            have HT2 := hide (take_er_len (t := t) (r := r) (i := i + 1) (by omega))
            have HT3 := hide (take_er (t := t) (r := r) hlt2)
            clear ho hbx
            go_wp2_with (first
              | (at_builtin; rw [← hW2]; refine wpList_append_en rfl (.tmp 50) (.tmp 57) rfl wh.heap.size _ ((er t r).take i) (gr t r i) rfl (unhide HO2).1 wr.heap.size rfl (unhide HO2).2.2 (unhide HL2) (unhide HO2).2.1.size ?_; intro v4 w4 o4 b4; rw [← unhide HT3, unhide HT2] at o4; have HO4 := hide (And.intro o4 ((unhide HO2).2.1.trans b4)); obtain ⟨va4, vc4, rfl⟩ : ∃ va4 vc4, v4 = .slice va4 (i + 1) vc4 := own_slice o4; clear o4 b4))
            refine ⟨⟨i + 1, vc4, va4, by omega, by simp, rfl, unhide HO4⟩, ?_⟩
            simp [RowKit.intOf]; omega
          obtain rfl : i = 20 := by omega
          have HK4 : Hid (KQ w1 wr p w1.heap.size pr true (sr t r) (9000 - 20 * r) [(.slice va 20 vc, er t r)]) := by
            obtain ⟨o1, o2⟩ := unhide ho
            rw [List.take_of_length_le (by rw [er_len]; omega)] at o1
            obtain ⟨q1, q2⟩ := EL.own o1 (er_len t r).symm
            refine (unhide HK).rows o2 (fun x hx => ?_)
            rw [List.mem_singleton.1 hx]
            exact .inr ⟨q1, fun g hg => .inl (q2 g hg)⟩
          obtain ⟨lb, rfl, hvc1, hvc2⟩ : ∃ lb, va = some ⟨lb, 0, none⟩ ∧ (20 : Int) ≤ (vc : Int) ∧ (vc : Int) ≤ 9223372036854775807 := by
            obtain ⟨_, ⟨h1, h2⟩ | ⟨g, cap, cur, h1, h2, h3, h4, h5, h6⟩⟩ := (unhide ho).1
            · cases h1
            · cases h1
              exact ⟨g, rfl, by omega, by unfold maxLen at h5; omega⟩
          have HA := hide (round_calls (unhide HK4) (unhide Ht) (by omega) ((n : Int) + 15) (by have := unhide Hn; omega))
          clear ho HK HK4 hlt2 hi
          go_upto_if 90 with (first
            | (go_at_call 11; refine (unhide HA).mono ?_; rintro e w5 ⟨rfl, HA2⟩; clear HA)
            | (go_at_call 16; refine (unhide HA2).mono ?_; rintro e w6 ⟨rfl, HA3⟩; clear HA2)
            | (go_at_call 12; refine (unhide HA3).mono ?_; rintro e w7 ⟨rfl, HA4⟩; clear HA3)
            | (go_at_call 17; refine (unhide HA4).mono ?_; rintro e w8 ⟨rfl, HA5⟩; clear HA4)
            | (go_at_call 12; refine (unhide HA5).mono ?_; rintro e w9 ⟨rfl, HA6⟩; clear HA5))
          generalize ((m : Int) == 15) = bq
          go_cut [6, 7] from 91 to 104 (fun s6 s7 wx => s7 = s7 ∧ ∃ (p2 : Nat), s6 = .pointer (some ⟨p2, 0, none⟩) ∧ Hid (RT w1 wx p2 w1.heap.size t r (.slice (some ⟨lb, 0, none⟩) 20 vc)))
          case first =>
            cases bq
            · have H7 : Hid (RT w1 w9 p w1.heap.size t r (.slice (some ⟨lb, 0, none⟩) 20 vc)) := KQ.less (unhide HA6) (by omega)
              clear HA6
              go_wp2_with fail
              go_meet
              exact ⟨trivial, p, rfl, unhide H7⟩
            · have h7 : KQ w1 w9 p w1.heap.size true true (sr t (r + 1)) ((8987 - 20 * r) + 2) [(.slice (some ⟨lb, 0, none⟩) 20 vc, er t r)] := KQ.less (unhide HA6) (by omega)
              have HC := hide (kq_fall h7)
              clear HA6 h7
              go_wp2_with (first
                | (go_at_call 13; refine (unhide HC).mono ?_; rintro e w10 ⟨rfl, HO⟩; clear HC)
                | (go_at_call 9; refine (unhide HO).mono ?_; rintro e w11 ⟨p2, rfl, H11⟩; clear HO))
              go_meet
              exact ⟨trivial, p2, rfl, KQ.less (unhide H11) (by omega)⟩
          case rest =>
            obtain ⟨-, p2, rfl, H8⟩ := hcut
            have HBs : Hid (Calls Tryz.prog 18 #[.pointer (some ⟨p2, 0, none⟩)] wc fun e w' => e = .returned (.tuple #[.int .u64 ((n : Int) + 15), .int .u64 1]) ∧ ∃ k, w' = wc.drewN k) := by
              have e1 : (((sr t (r + 1)).base : Nat) : Int) = (n : Int) + 15 := by show ((20 * r + 15 : Nat) : Int) = _; have := unhide Hn; omega
              rw [← e1]
              exact kq_base (unhide H8)
            have HEn : Hid (∀ W : World, Below wc.heap.size wc W → Calls Tryz.prog 14 #[.pointer (some ⟨p2, 0, none⟩)] W fun e w' => ∃ v', e = .returned v' ∧ Hid (EL w' v' ((er t r).drop 15) ∧ Below W.heap.size W w')) := fun W hW => (kq_entries ((unhide H8).below hW)).mono fun e w' ⟨v', q1, q2, q3⟩ => ⟨v', q1, q2, q3⟩
            have HSm : Hid (∀ (W : World) (v' : Value), Below wc.heap.size wc W → EL W v' ((er t r).drop 15) → Calls Tryz.prog 15 #[v', .slice (some ⟨lb, 75, none⟩) 5 (vc - 15)] W fun e w' => e = .returned (.bool true) ∧ Below W.heap.size W w') := by
              intro W v' hW hv
              have hok : ∀ g ∈ (er t r).drop 15, g.ok := fun g hg => (er_ok (unhide Ht) (by omega) g (List.mem_of_mem_drop hg)).1.1
              have h2 : EL W (.slice (some ⟨lb, 75, none⟩) 5 (vc - 15)) ((er t r).drop 15) := ((unhide H8).below hW).el.drop 15 75 (by rw [er_len]; omega) (.inl rfl)
              exact (ents_same _ _ _ _ _ _ (hv.sle hok) (h2.sle hok)).mono fun e w' ⟨q1, k, q2⟩ => ⟨q1, by rw [q2]; exact drew_below _ k⟩
            have HHd : Hid (∀ W : World, Below wc.heap.size wc W → Calls Tryz.prog 19 #[.pointer (some ⟨p2, 0, none⟩)] W fun e w' => e = .returned (.agg #[.int .u64 (r : Int), .int .i64 1]) ∧ Below W.heap.size W w') := fun W hW => kq_hard ((unhide H8).below hW)
            have HNx : Hid (∀ W : World, Below wc.heap.size wc W → n + 20 = 20 * (r + 1) ∧ RH w1 W p2 w1.heap.size t (r + 1)) := fun W hW => ⟨by have := unhide Hn; omega, ((unhide H8).below hW).next⟩
            clear H8
            go_wp2_with (first
              | (go_at_call 18; refine (unhide HBs).mono ?_; rintro e w12 ⟨rfl, k, rfl⟩; clear HBs))
            have HX0 : Hid (Below wc.heap.size wc (wc.drewN k).drew) := below_trans0 (drew_below wc k) (drew_below _ 1)
            refine wp_region_held_drew (S := fun w' => True) (by kernel_rfl) trivial (fun hHeld => ?_)
            refine hand_to (i := 0) (d := 110) (v := (.int .u64 ((n : Int) + 15))) rfl rfl (by kernel_rfl) (by kernel_rfl) (by kernel_rfl) (fun _ _ _ h => h) (Or.inl ⟨by rfl, ?_⟩) hHeld ?_
            · (intro w' hSw; obtain - := hSw; go_simp)
            simp only [Act.put, List.setIfInBounds_toArray, List.set_cons_zero, List.set_cons_succ]
            refine hand_to (i := 1) (d := 111) (v := (.int .u64 ((n : Int) + 20))) rfl rfl (by kernel_rfl) (by kernel_rfl) (by kernel_rfl) (fun _ _ _ h => h) (Or.inl ⟨by rfl, ?_⟩) hHeld ?_
            · (intro w' hSw; obtain - := hSw; go_simp)
            simp only [Act.put, List.setIfInBounds_toArray, List.set_cons_zero, List.set_cons_succ]
            refine hand_to (i := 2) (d := 112) (v := (.int .u64 ((n : Int) + 15))) rfl rfl (by kernel_rfl) (by kernel_rfl) (by kernel_rfl) (fun _ _ _ h => h) (Or.inl ⟨by rfl, ?_⟩) hHeld ?_
            · (intro w' hSw; obtain - := hSw; go_simp)
            simp only [Act.put, List.setIfInBounds_toArray, List.set_cons_zero, List.set_cons_succ]
            refine hand_to (i := 3) (d := 113) (v := (.bool false)) rfl rfl (by kernel_rfl) (by kernel_rfl) (by kernel_rfl) (fun _ _ _ h => h) (Or.inl ⟨by rfl, ?_⟩) hHeld ?_
            · (intro w' hSw; obtain - := hSw; go_simp)
            simp only [Act.put, List.setIfInBounds_toArray, List.set_cons_zero, List.set_cons_succ]
            refine hand_to (i := 4) (d := 114) (v := (.bool false)) rfl rfl (by kernel_rfl) (by kernel_rfl) (by kernel_rfl) (fun _ _ _ h => h) (Or.inl ⟨by rfl, ?_⟩) hHeld ?_
            · (intro w' hSw; obtain - := hSw; go_simp)
            simp only [Act.put, List.setIfInBounds_toArray, List.set_cons_zero, List.set_cons_succ]
            refine hand_to (i := 5) (d := 115) (v := (.int .u64 1)) rfl rfl (by kernel_rfl) (by kernel_rfl) (by kernel_rfl) (fun _ _ _ h => h) (Or.inl ⟨by rfl, ?_⟩) hHeld ?_
            · (intro w' hSw; obtain - := hSw; go_simp)
            simp only [Act.put, List.setIfInBounds_toArray, List.set_cons_zero, List.set_cons_succ]
            refine hand_to (i := 6) (d := 116) (v := (.bool false)) rfl rfl (by kernel_rfl) (by kernel_rfl) (by kernel_rfl) (fun _ _ _ h => h) (Or.inl ⟨by rfl, ?_⟩) hHeld ?_
            · (intro w' hSw; obtain - := hSw; go_simp)
            simp only [Act.put, List.setIfInBounds_toArray, List.set_cons_zero, List.set_cons_succ]
            refine hand_to (i := 7) (d := 117) (v := (.bool false)) rfl rfl (by kernel_rfl) (by kernel_rfl) (by kernel_rfl) (fun _ _ _ h => h) (Or.inl ⟨by rfl, ?_⟩) hHeld ?_
            · (intro w' hSw; obtain - := hSw; go_simp)
            simp only [Act.put, List.setIfInBounds_toArray, List.set_cons_zero, List.set_cons_succ]
            refine hand_to (i := 8) (d := 118) (v := (.bool false)) rfl rfl (by kernel_rfl) (by kernel_rfl) (by kernel_rfl) (fun _ _ _ h => h) (Or.inl ⟨by rfl, ?_⟩) hHeld ?_
            · (intro w' hSw; obtain - := hSw; go_simp)
            simp only [Act.put, List.setIfInBounds_toArray, List.set_cons_zero, List.set_cons_succ]
            refine hand_to (i := 9) (d := 119) (v := (.pointer (some ⟨p2, 0, none⟩))) rfl rfl (by kernel_rfl) (by kernel_rfl) (by kernel_rfl) (fun _ _ _ h => h) (Or.inl ⟨by rfl, ?_⟩) hHeld ?_
            · (intro w' hSw; obtain - := hSw; go_simp)
            simp only [Act.put, List.setIfInBounds_toArray, List.set_cons_zero, List.set_cons_succ]
            refine hand_to (i := 11) (d := 121) (v := (.slice (some ⟨lb, 0, none⟩) 20 vc)) rfl rfl (by kernel_rfl) (by kernel_rfl) (by kernel_rfl) (fun _ _ _ h => h) (Or.inl ⟨by rfl, ?_⟩) hHeld ?_
            · (intro w' hSw; obtain - := hSw; go_simp)
            simp only [Act.put, List.setIfInBounds_toArray, List.set_cons_zero, List.set_cons_succ]
            refine hand_to (i := 12) (d := 122) (v := (.slice (some ⟨lb, 75, none⟩) 5 (vc - 15))) rfl rfl (by kernel_rfl) (by kernel_rfl) (by kernel_rfl) (fun _ _ _ h => h) (Or.inl ⟨by rfl, ?_⟩) hHeld ?_
            · (intro w' hSw; obtain - := hSw; (go_simp; omega))
            simp only [Act.put, List.setIfInBounds_toArray, List.set_cons_zero, List.set_cons_succ]
            refine wpAnyH_ready (rs := [10]) (by kernel_rfl) (by simp) ?_
            refine AllReadyH.cons rfl (fun K hK => ?_) AllReadyH.nil
            go_simp
            (go_at_call 14; refine (unhide HEn _ (unhide HX0)).mono ?_; rintro e w13 ⟨v13, rfl, X3⟩; have HX3 := hide (below_trans0 (unhide HX0) (unhide X3).2); have HQ3 := hide (unhide HSm w13 v13 (unhide HX3) (unhide X3).1); clear HEn HX0 X3 HSm)
            (go_wp2_with fail)
            refine hK.out _ _ trivial (fun hHeld2 => ?_)
            clear hK K hHeld
            have hHeld := hHeld2
            clear hHeld2
            refine wpAnyH_ready (rs := [13]) (by kernel_rfl) (by simp) ?_
            refine AllReadyH.cons rfl (fun K hK => ?_) AllReadyH.nil
            go_simp
            (go_at_call 15; refine (unhide HQ3).mono ?_; rintro e w14 ⟨rfl, b4⟩; have HX4 := hide (below_trans0 (unhide HX3) b4); clear HQ3 HX3 b4)
            (go_wp2_with fail)
            refine hK.out _ _ trivial (fun hHeld2 => ?_)
            clear hK K hHeld
            have hHeld := hHeld2
            clear hHeld2
            refine hand_to (i := 14) (d := 124) (v := (.bool false)) rfl rfl (by kernel_rfl) (by kernel_rfl) (by kernel_rfl) (fun _ _ _ h => h) (Or.inl ⟨by rfl, ?_⟩) hHeld ?_
            · (intro w' hSw; obtain - := hSw; go_simp)
            simp only [Act.put, List.setIfInBounds_toArray, List.set_cons_zero, List.set_cons_succ]
            refine hand_to (i := 15) (d := 125) (v := (.bool false)) rfl rfl (by kernel_rfl) (by kernel_rfl) (by kernel_rfl) (fun _ _ _ h => h) (Or.inl ⟨by rfl, ?_⟩) hHeld ?_
            · (intro w' hSw; obtain - := hSw; go_simp)
            simp only [Act.put, List.setIfInBounds_toArray, List.set_cons_zero, List.set_cons_succ]
            refine hand_to (i := 16) (d := 126) (v := (.bool false)) rfl rfl (by kernel_rfl) (by kernel_rfl) (by kernel_rfl) (fun _ _ _ h => h) (Or.inl ⟨by rfl, ?_⟩) hHeld ?_
            · (intro w' hSw; obtain - := hSw; go_simp)
            simp only [Act.put, List.setIfInBounds_toArray, List.set_cons_zero, List.set_cons_succ]
            refine hand_to (i := 17) (d := 127) (v := (.pointer (some ⟨p2, 0, none⟩))) rfl rfl (by kernel_rfl) (by kernel_rfl) (by kernel_rfl) (fun _ _ _ h => h) (Or.inl ⟨by rfl, ?_⟩) hHeld ?_
            · (intro w' hSw; obtain - := hSw; go_simp)
            simp only [Act.put, List.setIfInBounds_toArray, List.set_cons_zero, List.set_cons_succ]
            refine hand_to (i := 20) (d := 130) (v := (.int .i64 (r : Int))) rfl rfl (by kernel_rfl) (by kernel_rfl) (by kernel_rfl) (fun _ _ _ h => h) (Or.inl ⟨by rfl, ?_⟩) hHeld ?_
            · (intro w' hSw; obtain - := hSw; go_simp)
            simp only [Act.put, List.setIfInBounds_toArray, List.set_cons_zero, List.set_cons_succ]
            refine hand_to (i := 21) (d := 131) (v := (.int .u64 (r : Int))) rfl rfl (by kernel_rfl) (by kernel_rfl) (by kernel_rfl) (fun _ _ _ h => h) (Or.inl ⟨by rfl, ?_⟩) hHeld ?_
            · (intro w' hSw; obtain - := hSw; go_simp)
            simp only [Act.put, List.setIfInBounds_toArray, List.set_cons_zero, List.set_cons_succ]
            refine wpAnyH_ready (rs := [18]) (by kernel_rfl) (by simp) ?_
            refine AllReadyH.cons rfl (fun K hK => ?_) AllReadyH.nil
            go_simp
            (go_at_call 19; refine (unhide HHd _ (unhide HX4)).mono ?_; rintro e w15 ⟨rfl, b5⟩; have HX5 := hide (below_trans0 (unhide HX4) b5); clear HHd HX4 b5)
            (go_wp2_with fail)
            refine hK.out _ _ trivial (fun hHeld2 => ?_)
            clear hK K hHeld
            have hHeld := hHeld2
            clear hHeld2
            refine hand_to (i := 19) (d := 129) (v := (.int .u64 (r : Int))) rfl rfl (by kernel_rfl) (by kernel_rfl) (by kernel_rfl) (fun _ _ _ h => h) (Or.inl ⟨by rfl, ?_⟩) hHeld ?_
            · (intro w' hSw; obtain - := hSw; (go_simp; rfl))
            simp only [Act.put, List.setIfInBounds_toArray, List.set_cons_zero, List.set_cons_succ]
            refine hand_to (i := 22) (d := 132) (v := (.bool false)) rfl rfl (by kernel_rfl) (by kernel_rfl) (by kernel_rfl) (fun _ _ _ h => h) (Or.inl ⟨by rfl, ?_⟩) hHeld ?_
            · (intro w' hSw; obtain - := hSw; go_simp)
            simp only [Act.put, List.setIfInBounds_toArray, List.set_cons_zero, List.set_cons_succ]
            refine hand_to (i := 23) (d := 133) (v := (.bool false)) rfl rfl (by kernel_rfl) (by kernel_rfl) (by kernel_rfl) (fun _ _ _ h => h) (Or.inl ⟨by rfl, ?_⟩) hHeld ?_
            · (intro w' hSw; obtain - := hSw; go_simp)
            simp only [Act.put, List.setIfInBounds_toArray, List.set_cons_zero, List.set_cons_succ]
            refine wpAnyH_done (by kernel_rfl) ?_ _
            go_wp2_with fail
            go_roundw
            case rel => exact ⟨trivial, trivial, trivial, trivial, trivial, p2, r + 1, n + 20, by omega, rfl, by go_num, by go_num, unhide HNx _ (unhide HX5)⟩
            case measure => simp [RowKit.intOf]; omega
end Go.Proofs.YthphadbcebeoaaaGreatDoor
