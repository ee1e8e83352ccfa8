/- NetFull: its walk. -/
import Derived.Test.YtpepilcdlhkmkaaGreatDoorJNFullSNBagMNEq8
import Derived.Test.YtpepilcdlhkmkaaGreatDoorVErr
namespace Go.Proofs.YtpepilcdlhkmkaaGreatDoor
open Go.RowKit Go.Lib Go.Maps

theorem one_new'' (w : World) (o : Obj) : Below w.heap.size w (w.alloc o) := (Below.refl _ _).alloc (Nat.le_refl _) _
def seqs (k : Nat) : List (Int × Nat) := (List.range k).map fun j => (0, j)
theorem seqs_len (k : Nat) : (seqs k).length = k := by simp [seqs]
theorem seqs_succ (k : Nat) : seqs k ++ [(0, k)] = seqs (k + 1) := by simp [seqs, List.range_succ]
theorem seqs_at {k j : Nat} (h : j < k) : (seqs k)[j]? = some (0, j) := by simp [seqs, h]
theorem seqs_less {k j : Nat} (h : j + 1 < k) : ((seqs k).eraseIdx j)[j]? = some (0, j + 1) := by rw [List.getElem?_eraseIdx, if_neg (by omega), seqs_at h]
theorem seqs_less_len {k j : Nat} (h : j < k) : ((seqs k).eraseIdx j).length = k - 1 := by rw [List.length_eraseIdx, seqs_len, if_pos h]
theorem seqs_first (k j : Nat) : ∃ a, ((seqs k).eraseIdx j ++ [(0, j + 1)])[0]? = some a := by
  have : 0 < ((seqs k).eraseIdx j ++ [((0 : Int), j + 1)]).length := by simp
  exact ⟨_, List.getElem?_eq_getElem this⟩

set_option maxHeartbeats 6400000 in
set_option maxRecDepth 100000 in
theorem full_any (n : Nat) (hn : n < 256) (w : World) (hE : ET w) : Calls Tryz.prog 4 #[.int .u8 (n : Int)] w fun e w' => e = .returned (.bool true) ∧ Below w.heap.size w w' := by
  have HK := hide (nknown_any w hE)
  have HE := hide hE
  clear hE
  by_cases h8 : 8 ≤ n
  · have h8i : (8 : Int) ≤ (n : Int) := by omega
    go_enter Tryz.func4, Tryz.ntmps4
    go_wp2_with (go_at_call 6; refine (unhide HK).mono ?_; clear HK; rintro e w1 ⟨rfl, hb1⟩; have Q1 := hide hb1; clear hb1)
    go_ret
    exact ⟨rfl, unhide Q1⟩
  have h8i : ¬ (8 : Int) ≤ (n : Int) := by omega
  have h8j : (n : Int) < 8 := by omega
  have h80 : (0 : Int) ≤ (n : Int) := by omega
  have hn8 := hide (show n < 8 by omega)
  clear h8 hn
  go_enter Tryz.func4, Tryz.ntmps4
  go_wp2_with (first
    | (go_at_call 6; refine (unhide HK).mono ?_; clear HK; rintro e w1 ⟨rfl, hb1⟩; have Q1 := hide hb1; clear hb1; have HN := hide (ns_new w1))
    | (go_at_call 7; refine (unhide HN).mono ?_; clear HN; rintro e w2 ⟨rfl, h2⟩; have N2 := hide h2; clear h2))
  have HE1 := hide ((unhide HE).below (unhide Q1) (unhide HE).lt)
  go_loopw [4] (fun i wr => ∃ k : Nat, k ≤ 4096 ∧ i = .int .i64 k ∧ Hid (NS w1 wr w1.heap.size (seqs k) (fun _ => False))) (fun i _ => 4096 - (intOf i).toNat)
  case atStart => exact ⟨0, by omega, rfl, N2⟩
  case round =>
    obtain ⟨k, hk, rfl, NR⟩ := hrel
    clear N2
    by_cases hlt : k < 4096
    · have hlti : (k : Int) < 4096 := by omega
      have hk0 : (0 : Int) ≤ (k : Int) := by omega
      have HM := hide (fun W => nmk_any 0 0 0 k W)
      have HS := hide (fun W (h : NS w1 W w1.heap.size (seqs k) (fun _ => False)) => ns_send 0 k (by decide) (by omega) h (by rw [seqs_len]; exact hlt))
      have hw : IntKind.u64.wrap (k : Int) = (k : Int) := by rw [IntKind.wrap_u64]; omega
      go_wp2_with (first
        | (go_at_call 9; refine (unhide HM _).mono ?_; clear HM; rintro e w3 ⟨rfl, hb3⟩; have N3 := hide ((unhide NR).below hb3).1; clear hb3)
        | (go_at_call 8; refine (unhide HS _ (unhide N3)).mono ?_; clear HS; rintro e w4 ⟨rfl, h4, k4⟩; rw [seqs_succ] at h4; have N4 := hide h4; clear h4 k4 N3))
      go_roundw
      case rel => exact ⟨k + 1, by omega, by go_num, N4⟩
      case measure => simp [intOf]; omega
    · obtain rfl : k = 4096 := by omega
      have HM := hide (fun W => nmk_any 0 0 0 0 W)
      have HS := hide (fun W (h : NS w1 W w1.heap.size (seqs 4096) (fun _ => False)) => ns_send_full 0 0 (by decide) (by decide) h (seqs_len _))
      have HC := hide (fun W (h : NS w1 W w1.heap.size (seqs 4096) (fun _ => False)) => ns_copy_full (i := 0) (0, 0) h (seqs_at (by decide)) (seqs_len _))
      have HC2 := HC
      have HQ := hide (fun W (h : NS w1 W w1.heap.size (seqs 4096) (fun _ => False)) => class_bare 31 W (h.et (unhide HE1)))
      have HQ2 := HQ
      have HL := hide (fun W (h : NS w1 W w1.heap.size (seqs 4096) (fun _ => False)) => ns_len h)
      have HT := hide (fun W (h : NS w1 W w1.heap.size (seqs 4096) (fun _ => False)) => ns_take (i := n) (0, n) (h.et (unhide HE1)) h (seqs_at (by have := unhide hn8; omega)))
      have e4096 : (((seqs 4096).length : Nat) : Int) = 4096 := by rw [seqs_len]; rfl
      go_wp2_with (first
        | (go_at_call 9; refine (unhide HM _).mono ?_; clear HM; rintro e w3 ⟨rfl, hb3⟩; have N3 := hide ((unhide NR).below hb3).1; clear hb3)
        | (go_at_call 8; refine (unhide HS _ (unhide N3)).mono ?_; clear HS; rintro e w4 ⟨rfl, h4, k4⟩; have N4 := hide h4; clear h4 k4 N3)
        | (go_at_call 10; refine (unhide HQ _ (unhide N4)).mono ?_; clear HQ; rintro e w5 ⟨rfl, hb5⟩; have N5 := hide ((unhide N4).below hb5).1; clear hb5 N4)
        | (go_at_call 13; refine (unhide HC _ (unhide N5)).mono ?_; clear HC; rintro e w6 ⟨rfl, h6, k6⟩; have N6 := hide h6; clear h6 k6 N5)
        | (go_at_call 10; refine (unhide HQ2 _ (unhide N6)).mono ?_; clear HQ2; rintro e w7 ⟨rfl, hb7⟩; have N7 := hide ((unhide N6).below hb7).1; clear hb7 N6)
        | (go_at_call 14; refine (unhide HL _ (unhide N7)).mono ?_; clear HL; rintro e w8 ⟨rfl, rfl⟩))
      refine (unhide HT _ (unhide N7)).mono ?_
      rintro e w9 ⟨M, rfl, hM, h9, k9⟩
      clear HT N7 k9
      rename_i K0 hK0
      refine hK0 _ _ ?_
      clear hK0 K0
      refine list_to (d := 40) (v := .tuple #[.agg M.toArray, .nilIface]) rfl rfl (by go_simp) ?_
      simp only [Act.put, List.setIfInBounds_toArray, List.set_cons_zero, List.set_cons_succ]
      refine list_to (d := 45) (v := .agg M.toArray) rfl rfl (by go_simp) ?_
      simp only [Act.put, List.setIfInBounds_toArray, List.set_cons_zero, List.set_cons_succ]
      refine list_to (d := 46) (v := .nilIface) rfl rfl (by go_simp) ?_
      simp only [Act.put, List.setIfInBounds_toArray, List.set_cons_zero, List.set_cons_succ]
      refine wpList_alloc_new rfl 43 rfl zM (zero_of_info Tryz.zeroM).1 ?_
      refine wpList_store_mid rfl 43 (.tmp 5) (.tmp 45) rfl w9.heap.size 0 M.toArray rfl rfl (hM.there (there_new w9 43 zM 23 rfl)).1 hM.sizeA (all_oneCell_toArray hM.one) ?_
      rw [List.toList_toArray, setCells_new w9 43 zM M (by rw [hM.len]; rfl)]
      have Sw10 := ms_seq (w := w9) hM
      have Tw10 := ms_to (w := w9) hM
      have N10 := hide (h9.below (one_new'' w9 (.cells M.toArray 43))).1
      clear h9
      have zw10 : (w9.alloc (.cells M.toArray 43)).heap.size = w9.heap.size + 1 := by simp
      generalize w9.alloc (.cells M.toArray 43) = w10 at *
      have HD := hide (fun W (h : NS w1 W w1.heap.size ((seqs 4096).eraseIdx n) (fun _ => False)) => ns_copy (i := n) (0, n + 1) h (seqs_less (by have := unhide hn8; omega)) (by rw [seqs_less_len (by have := unhide hn8; omega)]; decide))
      obtain ⟨a1, ha1⟩ := seqs_first 4096 n
      have HF := hide (fun W (h : NS w1 W w1.heap.size ((seqs 4096).eraseIdx n ++ [(0, n + 1)]) (fun _ => False)) => ns_copy_full (i := 0) a1 h ha1 (by rw [List.length_append, seqs_less_len (by omega)]; rfl))
      have HG := hide (fun W (h : NS w1 W w1.heap.size ((seqs 4096).eraseIdx n ++ [(0, n + 1)]) (fun _ => False)) => class_bare 31 W (h.et (unhide HE1)))
      clear ha1
      go_wp2_with (first
        | (go_at_call 13; refine (unhide HD _ (unhide N10)).mono ?_; clear HD; rintro e w11 ⟨rfl, h11, k11⟩; have N11 := hide h11; clear h11 k11 N10)
        | (go_at_call 13; refine (unhide HF _ (unhide N11)).mono ?_; clear HF; rintro e w12 ⟨rfl, h12, k12⟩; have N12 := hide h12; clear h12 k12 N11)
        | (go_at_call 10; refine (unhide HG _ (unhide N12)).mono ?_; clear HG; rintro e w13 ⟨rfl, hb13⟩; have N13 := hide ((unhide N12).below hb13).1; clear hb13 N12))
      go_ret
      exact ⟨rfl, one_b (unhide Q1) (unhide N13).bel⟩
end Go.Proofs.YtpepilcdlhkmkaaGreatDoor
