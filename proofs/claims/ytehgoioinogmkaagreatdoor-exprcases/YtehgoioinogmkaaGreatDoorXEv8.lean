/- Package expr: choice. -/
import Derived.Test.YtehgoioinogmkaaGreatDoorXEv6
namespace Go.Proofs.YtehgoioinogmkaaGreatDoor
open Go.RowKit Go.Lib

set_option linter.unusedSimpArgs false in
set_option linter.unusedVariables false in
set_option maxHeartbeats 6400000 in
set_option maxRecDepth 20000 in
theorem choice_of (w : World) (pg ba oa k : Nat) (l : List (GV × Int)) (hl : l.length ≤ 1000) (hk : l.length ≤ k) (hkm : k ≤ maxLen) (hev : ∀ i r, l[i]? = some r → EvAt w pg ba (oa + 10 * i) r) : Calls Tryz.prog 74 #[.pointer (some ⟨pg, 0, none⟩), .slice (some ⟨ba, oa, none⟩) l.length k] w (GeP w (choiceG l)) := by
  have HEVL : Hid (∀ i r, l[i]? = some r → EvAt w pg ba (oa + 10 * i) r) := hev
  have hlI : (l.length : Int) ≤ 1000 := by omega
  obtain ⟨R, hR⟩ : ∃ R, R = choiceG l := ⟨_, rfl⟩
  obtain ⟨PP, hPP⟩ : ∃ PP, PP = GeP w R := ⟨_, rfl⟩
  have HPP := hide hPP
  rw [← hR, ← hPP]
  have HRL := hide hR
  clear hPP hev hR
  go_enter Tryz.func74, Tryz.ntmps74
  go_upto_region 1 with fail
  obtain ⟨w0, hw0⟩ : ∃ w0, w0 = w.alloc (.cells (gvC nullG).toArray 26) := ⟨_, rfl⟩
  have hb0 : Below w.heap.size w w0 := by rw [hw0]; exact alX (Below.refl _ _) _
  have HV := hide (show VV w0 w.heap.size nullG by rw [hw0]; exact VV.new w nullG)
  have HB := hide hb0
  rw [show (gvC nullG).toArray = #[.int .i64 0, .int .i64 0, .string ⟨#[]⟩] from rfl] at hw0
  rw [← hw0]
  clear hw0 hb0
  have HG0 : Hid (R = choiceG (l.drop 0) ∧ VV w0 w.heap.size nullG ∧ Below w.heap.size w w0) := ⟨by rw [unhide HRL, List.drop_zero], unhide HV, unhide HB⟩
  clear HV HB
  go_loopg [1, 6, 7] l.length (fun g s1 s6 s7 wr => ∃ (j m k' : Nat) (ad : Addr), g = m ∧ s1 = .slice (some ad) m k' ∧ m = (l.drop j).length ∧ m ≤ k' ∧ k' ≤ maxLen ∧ (m ≠ 0 → ad = ⟨ba, oa + 10 * j, none⟩) ∧ Hid (R = choiceG (l.drop j) ∧ VV wr w.heap.size nullG ∧ Below w.heap.size w wr))
  case atStart => exact ⟨0, l.length, k, _, rfl, rfl, by rw [List.drop_zero], hk, hkm, fun _ => rfl, HG0⟩
  case round =>
    obtain ⟨j, m, k', ad, hgm, rfl, hm, hmk0, hkm', had, HG⟩ := hrel
    clear HG0
    have HRG := hide (unhide HG).1
    have HV := hide (unhide HG).2.1
    have HB := hide (unhide HG).2.2
    clear HG
    have hmI : (m : Int) ≤ 9223372036854775807 := by unfold maxLen at hkm'; omega
    rcases Nat.lt_or_ge m 2 with hm2 | hm2
    · rcases Nat.lt_or_ge m 1 with hm1 | hm1
      · have hm0 : m = 0 := by omega
        as_aux_lemma =>
          have hdr : l.drop j = [] := List.length_eq_zero_iff.1 (by rw [← hm]; exact hm0)
          have HR : Hid (R = (nullG, 0)) := by show R = _; rw [unhide HRG, hdr]; rfl
          have hm2I : ¬ (2 : Int) ≤ (m : Int) := by omega
          obtain rfl := hm0
          clear hdr HRG hm
          obtain ⟨w5, hw5⟩ : ∃ w5, w5 = wr := ⟨_, rfl⟩
          rw [← hw5] at HV HB
          rw [← hw5]
          clear hw5
          go_upto_region 9 with fail
          refine wp_region_list ?_
          refine list_to (d := 37) (v := .agg (gvC nullG).toArray) rfl rfl (by kernel_rfl) ?_
          simp only [Act.put, sA, sB, sC]
          refine wpList_store_mid rfl 26 (.tmp 4) (.tmp 37) rfl w.heap.size 0 (gvC nullG).toArray rfl rfl (unhide HV).there sizeV (all_oneCell_toArray (gvC_one _)) ?_
          show wpList _ _ _ _ _ (w5.setCells w.heap.size 0 (gvC nullG))
          simp only [Act.put, sA, sB, sC]
          refine list_to (d := 5) (v := errG 0) rfl rfl (by kernel_rfl) ?_
          simp only [Act.put, sA, sB, sC]
          go_wp2_with fail
          refine bodyPost_ret (((unhide HV).set nullG).result2 rfl _ rfl) rfl ?_
          rw [unhide HPP, unhide HR]
          exact ⟨rfl, below_setCells0 (unhide HB) (Nat.le_refl _) _⟩
      · have hm1 : m = 1 := by omega
        as_aux_lemma =>
          obtain ⟨v, hdr⟩ : ∃ v, l.drop j = [v] := List.length_eq_one_iff.1 (by rw [← hm]; exact hm1)
          obtain rfl := had (by omega)
          have hjv : l[j]? = some v := by rw [← List.head?_drop, hdr]; rfl
          have HEV : Hid (EvAt w pg ba (oa + 10 * j) v) := unhide HEVL j v hjv
          have HR : Hid (R = v) := by show R = v; rw [unhide HRG, hdr]; rfl
          have hmk : m ≤ k' := by omega
          have hm2I : ¬ (2 : Int) ≤ (m : Int) := by omega
          obtain rfl := hm1
          clear hjv hdr HRG hm
          obtain ⟨w5, hw5⟩ : ∃ w5, w5 = wr := ⟨_, rfl⟩
          rw [← hw5] at HV HB
          rw [← hw5]
          clear hw5
          go_upto_region 10 with fail
          refine wp_region_list ?_
          refine list_to (d := 38) (v := .pointer (some ⟨pg, 0, none⟩)) rfl rfl (by kernel_rfl) ?_
          simp only [Act.put, sA, sB, sC]
          refine list_to (d := 39) (v := .slice (some ⟨ba, oa + 10 * j, none⟩) 1 k') rfl rfl (by kernel_rfl) ?_
          simp only [Act.put, sA, sB, sC]
          refine list_to (d := 40) (v := .pointer (some ⟨ba, oa + 10 * j, none⟩)) rfl rfl (by go_simp) ?_
          simp only [Act.put, sA, sB, sC]
          refine list_call rfl (some 41) rfl 36 #[.pointer (some ⟨pg, 0, none⟩), .pointer (some ⟨ba, oa + 10 * j, none⟩)] (by kernel_rfl) (unhide HEV w5 (unhide HB)) ?_
          rintro e w7 ⟨rfl, hb⟩
          refine ⟨_, rfl, ?_⟩
          simp only [Act.put, sA, sB, sC]
          have HB := hide (trX (unhide HB) hb)
          have HV := hide ((unhide HV).below hb)
          clear hb
          refine list_to (d := 42) (v := .agg (gvC v.1).toArray) rfl rfl (by kernel_rfl) ?_
          simp only [Act.put, sA, sB, sC]
          refine list_to (d := 43) (v := errG v.2) rfl rfl (by kernel_rfl) ?_
          simp only [Act.put, sA, sB, sC]
          refine wpList_store_mid rfl 26 (.tmp 4) (.tmp 42) rfl w.heap.size 0 (gvC v.1).toArray rfl rfl (unhide HV).there sizeV (all_oneCell_toArray (gvC_one _)) ?_
          show wpList _ _ _ _ _ (w7.setCells w.heap.size 0 (gvC v.1))
          simp only [Act.put, sA, sB, sC]
          refine list_to (d := 5) (v := errG v.2) rfl rfl (by kernel_rfl) ?_
          simp only [Act.put, sA, sB, sC]
          go_wp2_with fail
          refine bodyPost_ret (((unhide HV).set v.1).result2 rfl _ rfl) rfl ?_
          rw [unhide HPP, unhide HR]
          exact ⟨rfl, below_setCells0 (unhide HB) (Nat.le_refl _) _⟩
    · skip
      as_aux_lemma =>
        obtain ⟨c, v, l', hdr⟩ : ∃ c v l', l.drop j = c :: v :: l' := by
          match hd : l.drop j, hm2 with
          | [], h => exact absurd h (by rw [hd] at hm; simp at hm; omega)
          | [_], h => exact absurd h (by rw [hd] at hm; simp at hm; omega)
          | c :: v :: l', _ => exact ⟨c, v, l', rfl⟩
        obtain rfl := had (by omega)
        have hjc : l[j]? = some c := by rw [← List.head?_drop, hdr]; rfl
        have hjv : l[j + 1]? = some v := by
          have : (l.drop j)[1]? = some v := by rw [hdr]; rfl
          rwa [List.getElem?_drop] at this
        have hd2 : l.drop (j + 2) = l' := by
          have : (l.drop j).drop 2 = l' := by rw [hdr]; rfl
          rwa [List.drop_drop] at this
        have HC : Hid (EvAt wr pg ba (oa + 10 * j) c) := hide ((unhide HEVL j c hjc).mono (unhide HB))
        have HEV : Hid (EvAt w pg ba (oa + 10 * j + 10) v) := unhide HEVL (j + 1) v hjv
        have hR : R = choiceG (c :: v :: l') := by rw [unhide HRG, hdr]
        rw [choiceG] at hR
        have HD2 := hide hd2
        have hm2I : (2 : Int) ≤ (m : Int) := by omega
        have hm0f : (m = 0) = False := by simp; omega
        have hm1I : (1 : Int) < (m : Int) := by omega
        have hmk : m ≤ k' := by omega
        have hk2 : 2 ≤ k' := by omega
        have HM := hide hm
        clear hjc hjv hd2 hdr HRG hm
        obtain ⟨w5, hw5⟩ : ∃ w5, w5 = wr := ⟨_, rfl⟩
        rw [← hw5] at HC HV HB
        rw [← hw5]
        clear hw5
        go_upto_region 3 with fail
        refine wp_region_list ?_
        refine list_to (d := 14) (v := .pointer (some ⟨pg, 0, none⟩)) rfl rfl (by kernel_rfl) ?_
        simp only [Act.put, sA, sB, sC]
        refine list_to (d := 15) (v := .slice (some ⟨ba, oa + 10 * j, none⟩) m k') rfl rfl (by kernel_rfl) ?_
        simp only [Act.put, sA, sB, sC]
        refine list_to (d := 16) (v := .pointer (some ⟨ba, oa + 10 * j, none⟩)) rfl rfl (by go_simp) ?_
        simp only [Act.put, sA, sB, sC]
        refine list_call rfl (some 17) rfl 127 #[.pointer (some ⟨pg, 0, none⟩), .pointer (some ⟨ba, oa + 10 * j, none⟩)] (by kernel_rfl) (truth_of w5 pg ba (oa + 10 * j) c (unhide HC)) ?_
        rintro e w6 ⟨rfl, hb⟩
        refine ⟨_, rfl, ?_⟩
        simp only [Act.put, sA, sB, sC]
        have HB := hide (trX (unhide HB) hb)
        have HV := hide ((unhide HV).below hb)
        clear hb
        refine list_to (d := 13) (v := .tuple #[.int .i64 (trE c).1, errG (trE c).2]) rfl rfl (by kernel_rfl) ?_
        simp only [Act.put, sA, sB, sC]
        refine list_to (d := 18) (v := .int .i64 (trE c).1) rfl rfl (by kernel_rfl) ?_
        simp only [Act.put, sA, sB, sC]
        refine list_to (d := 19) (v := errG (trE c).2) rfl rfl (by kernel_rfl) ?_
        simp only [Act.put, sA, sB, sC]
        refine list_to (d := 6) (v := .int .i64 (trE c).1) rfl rfl (by kernel_rfl) ?_
        simp only [Act.put, sA, sB, sC]
        refine list_to (d := 7) (v := errG (trE c).2) rfl rfl (by kernel_rfl) ?_
        simp only [Act.put, sA, sB, sC]
        clear HC
        by_cases he : (trE c).2 = 0
        · rw [if_neg (fun h => h he)] at hR
          rw [he]
          clear he
          go_upto_region 4 with fail
          refine wp_region_list ?_
          refine list_to (d := 21) (v := errG 0) rfl rfl (by kernel_rfl) ?_
          simp only [Act.put, sA, sB, sC]
          refine list_to (d := 22) (v := .bool false) rfl rfl (by kernel_rfl) ?_
          simp only [Act.put, sA, sB, sC]
          refine list_to (d := 20) (v := .bool false) rfl rfl (by kernel_rfl) ?_
          simp only [Act.put, sA, sB, sC]
          by_cases h1 : (trE c).1 = 1
          · rw [if_pos h1] at hR
            have HR := hide hR
            rw [h1]
            clear hR h1
            go_upto_region 6 with fail
            refine wp_region_list ?_
            refine list_to (d := 26) (v := .int .i64 1) rfl rfl (by kernel_rfl) ?_
            simp only [Act.put, sA, sB, sC]
            refine list_to (d := 27) (v := .bool true) rfl rfl (by kernel_rfl) ?_
            simp only [Act.put, sA, sB, sC]
            refine list_to (d := 25) (v := .bool true) rfl rfl (by kernel_rfl) ?_
            simp only [Act.put, sA, sB, sC]
            go_upto_region 7 with fail
            refine wp_region_list ?_
            refine list_to (d := 28) (v := .pointer (some ⟨pg, 0, none⟩)) rfl rfl (by kernel_rfl) ?_
            simp only [Act.put, sA, sB, sC]
            refine list_to (d := 29) (v := .slice (some ⟨ba, oa + 10 * j, none⟩) m k') rfl rfl (by kernel_rfl) ?_
            simp only [Act.put, sA, sB, sC]
            refine list_to (d := 30) (v := .pointer (some ⟨ba, oa + 10 * j + 10, none⟩)) rfl rfl (by go_simp) ?_
            simp only [Act.put, sA, sB, sC]
            refine list_call rfl (some 31) rfl 36 #[.pointer (some ⟨pg, 0, none⟩), .pointer (some ⟨ba, oa + 10 * j + 10, none⟩)] (by kernel_rfl) (unhide HEV w6 (unhide HB)) ?_
            rintro e w7 ⟨rfl, hb⟩
            refine ⟨_, rfl, ?_⟩
            simp only [Act.put, sA, sB, sC]
            have HB := hide (trX (unhide HB) hb)
            have HV := hide ((unhide HV).below hb)
            clear hb
            refine list_to (d := 32) (v := .agg (gvC v.1).toArray) rfl rfl (by kernel_rfl) ?_
            simp only [Act.put, sA, sB, sC]
            refine list_to (d := 33) (v := errG v.2) rfl rfl (by kernel_rfl) ?_
            simp only [Act.put, sA, sB, sC]
            refine wpList_store_mid rfl 26 (.tmp 4) (.tmp 32) rfl w.heap.size 0 (gvC v.1).toArray rfl rfl (unhide HV).there sizeV (all_oneCell_toArray (gvC_one _)) ?_
            show wpList _ _ _ _ _ (w7.setCells w.heap.size 0 (gvC v.1))
            simp only [Act.put, sA, sB, sC]
            refine list_to (d := 5) (v := errG v.2) rfl rfl (by kernel_rfl) ?_
            simp only [Act.put, sA, sB, sC]
            go_wp2_with fail
            refine bodyPost_ret (((unhide HV).set v.1).result2 rfl _ rfl) rfl ?_
            rw [unhide HPP, unhide HR]
            exact ⟨rfl, below_setCells0 (unhide HB) (Nat.le_refl _) _⟩
          · rw [if_neg h1] at hR
            have e1 : ((trE c).1 == 1) = false := beq_eq_false_iff_ne.2 h1
            have HRN : Hid (R = choiceG (l.drop (j + 2))) := by show R = _; rw [unhide HD2]; exact hR
            have HNX : Hid (R = choiceG (l.drop (j + 2)) ∧ VV w6 w.heap.size nullG ∧ Below w.heap.size w w6) := ⟨unhide HRN, unhide HV, unhide HB⟩
            clear hR h1
            go_upto_region 6 with fail
            refine wp_region_list ?_
            refine list_to (d := 26) (v := .int .i64 (trE c).1) rfl rfl (by kernel_rfl) ?_
            simp only [Act.put, sA, sB, sC]
            refine list_to (d := 27) (v := .bool ((trE c).1 == 1)) rfl rfl (by kernel_rfl) ?_
            simp only [Act.put, sA, sB, sC]
            rw [e1]
            refine list_to (d := 25) (v := .bool false) rfl rfl (by kernel_rfl) ?_
            simp only [Act.put, sA, sB, sC]
            go_wp2_with fail
            · go_roundg (m - 2)
              case rel => exact ⟨j + 2, m - 2, 0, _, rfl, rfl, by have := unhide HM; rw [List.length_drop] at this ⊢; omega, by omega, Nat.zero_le _, fun h => absurd h (by omega), HNX⟩
              case measure => omega
            · go_roundg (m - 2)
              case rel => exact ⟨j + 2, m - 2, k' - 2, _, rfl, rfl, by have := unhide HM; rw [List.length_drop] at this ⊢; omega, by omega, by omega, fun _ => by rw [show oa + 10 * (j + 2) = oa + 10 * j + 20 by omega], HNX⟩
              case measure => omega
        · have HR := hide (hR.trans (if_pos he))
          have HERR := hide (errG_some he)
          rw [errG_some he]
          clear hR
          go_upto_region 4 with fail
          refine wp_region_list ?_
          refine list_to (d := 21) (v := .iface 102 (.int .i64 (trE c).2)) rfl rfl (by kernel_rfl) ?_
          simp only [Act.put, sA, sB, sC]
          refine list_to (d := 22) (v := .bool true) rfl rfl (by kernel_rfl) ?_
          simp only [Act.put, sA, sB, sC]
          refine list_to (d := 20) (v := .bool true) rfl rfl (by kernel_rfl) ?_
          simp only [Act.put, sA, sB, sC]
          go_upto_region 5 with fail
          refine wp_region_list ?_
          refine list_to (d := 23) (v := .agg (gvC nullG).toArray) rfl rfl (by kernel_rfl) ?_
          simp only [Act.put, sA, sB, sC]
          refine list_to (d := 24) (v := .iface 102 (.int .i64 (trE c).2)) rfl rfl (by kernel_rfl) ?_
          simp only [Act.put, sA, sB, sC]
          refine wpList_store_mid rfl 26 (.tmp 4) (.tmp 23) rfl w.heap.size 0 (gvC nullG).toArray rfl rfl (unhide HV).there sizeV (all_oneCell_toArray (gvC_one _)) ?_
          show wpList _ _ _ _ _ (w6.setCells w.heap.size 0 (gvC nullG))
          simp only [Act.put, sA, sB, sC]
          refine list_to (d := 5) (v := .iface 102 (.int .i64 (trE c).2)) rfl rfl (by kernel_rfl) ?_
          simp only [Act.put, sA, sB, sC]
          go_wp2_with fail
          refine bodyPost_ret (((unhide HV).set nullG).result2 rfl _ rfl) rfl ?_
          rw [unhide HPP, unhide HR]
          exact ⟨by (rw [show errG ((nullG, (trE c).2) : GV × Int).2 = _ from unhide HERR]) <;> rfl, below_setCells0 (unhide HB) (Nat.le_refl _) _⟩
set_option linter.unusedSimpArgs false in
set_option linter.unusedVariables false in
set_option maxHeartbeats 6400000 in
set_option maxRecDepth 20000 in
theorem eval_k6 (w : World) (pg be oe n k : Nat) (av : Option Addr) (lo hi : Int) (R : GV × Int) (c0 : w.cell? ⟨be, oe, none⟩ = some (.int .i64 6)) (c7 : w.cell? ⟨be, oe + 7, none⟩ = some (.slice av n k)) (har : ∀ W, Below w.heap.size w W → Calls Tryz.prog 68 #[.pointer (some ⟨be, oe, none⟩)] W fun e w' => e = .returned (.tuple #[.int .i64 lo, .int .i64 hi]) ∧ w' = W) (h1 : ¬ (n : Int) < lo) (h2 : ¬ hi < (n : Int)) (hin : ∀ W, Below w.heap.size w W → Calls Tryz.prog 74 #[.pointer (some ⟨pg, 0, none⟩), .slice av n k] W (GeP W R)) : Calls Tryz.prog 36 #[.pointer (some ⟨pg, 0, none⟩), .pointer (some ⟨be, oe, none⟩)] w (GeP w R) := by
  have HIN := hide hin
  clear hin
  have HC0 : Hid (w.cell? ⟨be, oe, none⟩ = some (.int .i64 6)) := c0
  have HBE : Hid (be < w.heap.size) := World.block_lt_of_cell? w _ c0
  have HC7 : Hid (w.cell? ⟨be, oe + 7, none⟩ = some (.slice av n k)) := c7
  have HAR := hide har
  clear c0 c7 har
  obtain ⟨PP, hPP⟩ : ∃ PP, PP = GeP w R := ⟨_, rfl⟩
  have HPP := hide hPP
  rw [← hPP]
  clear hPP
  go_enter Tryz.func36, Tryz.ntmps36
  go_upto_region 1 with fail
  obtain ⟨w0, hw0⟩ : ∃ w0, w0 = w.alloc (.cells (gvC nullG).toArray 26) := ⟨_, rfl⟩
  have hb0 : Below w.heap.size w w0 := by rw [hw0]; exact alX (Below.refl _ _) _
  have HV := hide (show VV w0 w.heap.size nullG by rw [hw0]; exact VV.new w nullG)
  have HB := hide hb0
  rw [show (gvC nullG).toArray = #[.int .i64 0, .int .i64 0, .string ⟨#[]⟩] from rfl] at hw0
  rw [← hw0]
  clear hw0 hb0
  have HC0 := hide (((unhide HB).cell (p := ⟨be, oe, none⟩) (unhide HBE)).trans (unhide HC0))
  have HC7 := hide (((unhide HB).cell (p := ⟨be, oe + 7, none⟩) (unhide HBE)).trans (unhide HC7))
  refine wp_region_list ?_
  refine list_to (d := 9) (v := .pointer (some ⟨be, oe, none⟩)) rfl rfl (by kernel_rfl) ?_
  simp only [Act.put, sA, sB, sC]
  refine list_call rfl (some 10) rfl 68 #[.pointer (some ⟨be, oe, none⟩)] (by kernel_rfl) (unhide HAR w0 (unhide HB)) ?_
  rintro e w9 ⟨rfl, hw9⟩
  refine ⟨_, rfl, ?_⟩
  simp only [Act.put, sA, sB, sC]
  rw [hw9]
  clear hw9 w9
  refine list_to (d := 8) (v := .tuple #[.int .i64 lo, .int .i64 hi]) rfl rfl (by kernel_rfl) ?_
  simp only [Act.put, sA, sB, sC]
  refine list_to (d := 11) (v := .int .i64 lo) rfl rfl (by kernel_rfl) ?_
  simp only [Act.put, sA, sB, sC]
  refine list_to (d := 12) (v := .int .i64 hi) rfl rfl (by kernel_rfl) ?_
  simp only [Act.put, sA, sB, sC]
  refine list_to (d := 6) (v := .int .i64 lo) rfl rfl (by kernel_rfl) ?_
  simp only [Act.put, sA, sB, sC]
  refine list_to (d := 7) (v := .int .i64 hi) rfl rfl (by kernel_rfl) ?_
  simp only [Act.put, sA, sB, sC]
  go_upto_region 2 with fail
  refine wp_region_list ?_
  have c7 := unhide HC7
  refine list_to (d := 13) (v := .pointer (some ⟨be, oe, none⟩)) rfl rfl (by kernel_rfl) ?_
  simp only [Act.put, sA, sB, sC]
  refine list_to (d := 14) (v := .pointer (some ⟨be, oe, none⟩)) rfl rfl (by kernel_rfl) ?_
  simp only [Act.put, sA, sB, sC]
  refine list_to (d := 15) (v := .pointer (some ⟨be, oe + 7, none⟩)) rfl rfl (by kernel_rfl) ?_
  simp only [Act.put, sA, sB, sC]
  refine list_to (d := 16) (v := .slice av n k) rfl rfl (by go_simp) ?_
  simp only [Act.put, sA, sB, sC]
  clear c7
  refine list_to (d := 17) (v := .int .i64 (n : Int)) rfl rfl (by kernel_rfl) ?_
  simp only [Act.put, sA, sB, sC]
  refine list_to (d := 18) (v := .int .i64 lo) rfl rfl (by kernel_rfl) ?_
  simp only [Act.put, sA, sB, sC]
  refine list_to (d := 19) (v := .bool (decide ((n : Int) < lo))) rfl rfl (by go_simp) ?_
  simp only [Act.put, sA, sB, sC]
  have e1 : decide ((n : Int) < lo) = false := decide_eq_false h1
  have e2 : decide (hi < (n : Int)) = false := decide_eq_false h2
  rw [e1]
  refine list_to (d := 20) (v := .bool false) rfl rfl (by kernel_rfl) ?_
  simp only [Act.put, sA, sB, sC]
  have c7 := unhide HC7
  refine list_want (d := 21) (v := .pointer (some ⟨be, oe, none⟩)) rfl (by kernel_rfl) (by kernel_rfl) ?_
  simp only [Act.put, sA, sB, sC]
  refine list_want (d := 22) (v := .pointer (some ⟨be, oe, none⟩)) rfl (by kernel_rfl) (by kernel_rfl) ?_
  simp only [Act.put, sA, sB, sC]
  refine list_want (d := 23) (v := .pointer (some ⟨be, oe + 7, none⟩)) rfl (by kernel_rfl) (by kernel_rfl) ?_
  simp only [Act.put, sA, sB, sC]
  refine list_want (d := 24) (v := .slice av n k) rfl (by kernel_rfl) (by go_simp) ?_
  simp only [Act.put, sA, sB, sC]
  clear c7
  refine list_want (d := 25) (v := .int .i64 (n : Int)) rfl (by kernel_rfl) (by kernel_rfl) ?_
  simp only [Act.put, sA, sB, sC]
  refine list_want (d := 26) (v := .int .i64 hi) rfl (by kernel_rfl) (by kernel_rfl) ?_
  simp only [Act.put, sA, sB, sC]
  refine list_want (d := 27) (v := .bool (decide (hi < (n : Int)))) rfl (by kernel_rfl) (by go_simp) ?_
  simp only [Act.put, sA, sB, sC]
  rw [e2]
  refine list_to (d := 28) (v := .bool false) rfl rfl (by kernel_rfl) ?_
  simp only [Act.put, sA, sB, sC]
  go_upto_region 4 with fail
  refine wp_region_list ?_
  have c0 := unhide HC0
  refine list_to (d := 31) (v := .pointer (some ⟨be, oe, none⟩)) rfl rfl (by kernel_rfl) ?_
  simp only [Act.put, sA, sB, sC]
  refine list_to (d := 32) (v := .pointer (some ⟨be, oe, none⟩)) rfl rfl (by kernel_rfl) ?_
  simp only [Act.put, sA, sB, sC]
  refine list_to (d := 33) (v := .pointer (some ⟨be, oe, none⟩)) rfl rfl (by kernel_rfl) ?_
  simp only [Act.put, sA, sB, sC]
  refine list_to (d := 34) (v := .int .i64 6) rfl rfl (by go_simp) ?_
  simp only [Act.put, sA, sB, sC]
  clear c0
  as_aux_lemma =>
    go_upto_region 16 with fail
    refine wp_region_list ?_
    refine list_to (d := 80) (v := .pointer (some ⟨pg, 0, none⟩)) rfl rfl (by kernel_rfl) ?_
    simp only [Act.put, sA, sB, sC]
    refine list_to (d := 81) (v := .pointer (some ⟨be, oe, none⟩)) rfl rfl (by kernel_rfl) ?_
    simp only [Act.put, sA, sB, sC]
    refine list_to (d := 82) (v := .pointer (some ⟨be, oe, none⟩)) rfl rfl (by kernel_rfl) ?_
    simp only [Act.put, sA, sB, sC]
    refine list_to (d := 83) (v := .pointer (some ⟨be, oe + 7, none⟩)) rfl rfl (by kernel_rfl) ?_
    simp only [Act.put, sA, sB, sC]
    have c7 := unhide HC7
    refine list_to (d := 84) (v := .slice av n k) rfl rfl (by go_simp) ?_
    simp only [Act.put, sA, sB, sC]
    clear c7
    refine list_call rfl (some 85) rfl 74 #[.pointer (some ⟨pg, 0, none⟩), .slice av n k] (by kernel_rfl) (unhide HIN w0 (unhide HB)) ?_
    rintro e w5 ⟨rfl, hb⟩
    refine ⟨_, rfl, ?_⟩
    simp only [Act.put, sA, sB, sC]
    have HB := hide (trX (unhide HB) hb)
    have HV := hide ((unhide HV).below hb)
    clear hb
    refine list_to (d := 86) (v := .agg (gvC R.1).toArray) rfl rfl (by kernel_rfl) ?_
    simp only [Act.put, sA, sB, sC]
    refine list_to (d := 87) (v := errG R.2) rfl rfl (by kernel_rfl) ?_
    simp only [Act.put, sA, sB, sC]
    refine wpList_store_mid rfl 26 (.tmp 4) (.tmp 86) rfl w.heap.size 0 (gvC R.1).toArray rfl rfl (unhide HV).there sizeV (all_oneCell_toArray (gvC_one _)) ?_
    show wpList _ _ _ _ _ (w5.setCells w.heap.size 0 (gvC R.1))
    simp only [Act.put, sA, sB, sC]
    refine list_to (d := 5) (v := errG R.2) rfl rfl (by kernel_rfl) ?_
    simp only [Act.put, sA, sB, sC]
    go_wp2_with fail
    refine bodyPost_ret (((unhide HV).set R.1).result2 rfl _ rfl) rfl ?_
    rw [unhide HPP]
    exact ⟨rfl, below_setCells0 (unhide HB) (Nat.le_refl _) _⟩
theorem evN6 {row : List GV} {a : Nd} {L : List (GV × Int)} (hc : ¬ ((L.length : Int) < (argK a.kind a.op).1 ∨ (argK a.kind a.op).2 < (L.length : Int))) (hk : a.kind = 6) : evN row a L = choiceG L := by
  unfold evN; rw [if_neg hc, if_neg (by rw [hk]; decide), if_neg (by rw [hk]; decide), hk]
  rfl
end Go.Proofs.YtehgoioinogmkaaGreatDoor
