/- Package expr: among. -/
import Derived.Test.YtehgoioinogmkaaGreatDoorXEv3
namespace Go.Proofs.YtehgoioinogmkaaGreatDoor
open Go.RowKit Go.Lib

def amongR (x : GV × Int) (l : List (GV × Int)) : GV × Int := if x.2 ≠ 0 ∨ x.1.kind = 0 then (nullG, x.2) else amongG x.1 0 l
theorem amongG_one {x : GV} {l : List (GV × Int)} : amongG x 1 l = (ofTruthG 1, 0) := by
  cases l with
  | nil => rfl
  | cons r l => rw [amongG, if_pos rfl]
set_option linter.unusedSimpArgs false in
set_option linter.unusedVariables false in
set_option maxHeartbeats 6400000 in
set_option maxRecDepth 20000 in
theorem among_of (w : World) (pg ba oa k : Nat) (x : GV × Int) (l : List (GV × Int)) (hl : l.length ≤ 1000) (hok : ∀ r ∈ x :: l, r.1.ok) (hev : ∀ i r, (x :: l)[i]? = some r → EvAt w pg ba (oa + 10 * i) r) : Calls Tryz.prog 73 #[.pointer (some ⟨pg, 0, none⟩), .slice (some ⟨ba, oa, none⟩) (l.length + 1) k] w (GeP w (amongR x l)) := by
  have HEVL : Hid (∀ i r, (x :: l)[i]? = some r → EvAt w pg ba (oa + 10 * i) r) := hev
  have HEV : Hid (EvAt w pg ba oa x) := hev 0 x rfl
  have HXO : Hid (x.1.ok) := hok x (List.mem_cons_self ..)
  have HOKL : Hid (∀ r ∈ l, r.1.ok) := fun r h => hok r (List.mem_cons_of_mem _ h)
  have hlI : (l.length : Int) ≤ 1000 := by omega
  obtain ⟨R, hR⟩ : ∃ R, R = amongR x l := ⟨_, rfl⟩
  obtain ⟨PP, hPP⟩ : ∃ PP, PP = GeP w R := ⟨_, rfl⟩
  have HPP := hide hPP
  rw [← hR, ← hPP]
  have HRL := hide hR
  clear hPP hev hR hok
  go_enter Tryz.func73, Tryz.ntmps73
  go_upto_region 1 with fail
  obtain ⟨w0, hw0⟩ : ∃ w0, w0 = w.alloc (.cells (gvC nullG).toArray 26) := ⟨_, rfl⟩
  have hb0 : Below w.heap.size w w0 := by rw [hw0]; exact alX (Below.refl _ _) _
  have HV := hide (show VV w0 w.heap.size nullG by rw [hw0]; exact VV.new w nullG)
  have HB := hide hb0
  rw [show (gvC nullG).toArray = #[.int .i64 0, .int .i64 0, .string ⟨#[]⟩] from rfl] at hw0
  rw [← hw0]
  clear hw0 hb0
  refine wp_region_list ?_
  refine list_to (d := 14) (v := .pointer (some ⟨pg, 0, none⟩)) rfl rfl (by kernel_rfl) ?_
  simp only [Act.put, sA, sB, sC]
  refine list_to (d := 15) (v := .slice (some ⟨ba, oa, none⟩) (l.length + 1) k) rfl rfl (by kernel_rfl) ?_
  simp only [Act.put, sA, sB, sC]
  refine list_to (d := 16) (v := .pointer (some ⟨ba, oa, none⟩)) rfl rfl (by go_simp) ?_
  simp only [Act.put, sA, sB, sC]
  refine list_call rfl (some 17) rfl 36 #[.pointer (some ⟨pg, 0, none⟩), .pointer (some ⟨ba, oa, none⟩)] (by kernel_rfl) (unhide HEV w0 (unhide HB)) ?_
  rintro e q1 ⟨rfl, hb⟩
  refine ⟨_, rfl, ?_⟩
  simp only [Act.put, sA, sB, sC]
  have HB := hide (trX (unhide HB) hb)
  have HV := hide ((unhide HV).below hb)
  clear hb
  refine list_to (d := 13) (v := .tuple #[x.1.agg, errG x.2]) rfl rfl (by kernel_rfl) ?_
  simp only [Act.put, sA, sB, sC]
  refine list_to (d := 18) (v := .agg (gvC x.1).toArray) rfl rfl (by kernel_rfl) ?_
  simp only [Act.put, sA, sB, sC]
  refine list_to (d := 19) (v := errG x.2) rfl rfl (by kernel_rfl) ?_
  simp only [Act.put, sA, sB, sC]
  refine list_new rfl 26 rfl (gvC nullG).toArray (zero_of_info zeroV).1 ?_
  simp only [Act.put, sA, sB, sC]
  refine wpList_store_mid rfl 26 (.tmp 6) (.tmp 18) rfl q1.heap.size 0 (gvC x.1).toArray rfl rfl (VV.new q1 nullG).there sizeV (all_oneCell_toArray (gvC_one _)) ?_
  show wpList _ _ _ _ _ ((q1.alloc (.cells (gvC nullG).toArray 26)).setCells q1.heap.size 0 (gvC x.1))
  rw [setV_new q1 x.1]
  simp only [Act.put, sA, sB, sC]
  refine list_to (d := 7) (v := errG x.2) rfl rfl (by kernel_rfl) ?_
  simp only [Act.put, sA, sB, sC]
  have LHX : Hid (w.heap.size < q1.heap.size) := ltX (unhide HV)
  have HX := hide (VV.new q1 x.1)
  have hb : Below q1.heap.size q1 (q1.alloc (.cells (gvC x.1).toArray 26)) := alX (Below.refl _ _) _
  have HB := hide (trX (unhide HB) hb)
  have HV := hide ((unhide HV).below hb)
  obtain ⟨bHX, hb9⟩ : ∃ bHX, bHX = q1.heap.size := ⟨_, rfl⟩
  obtain ⟨w1, hw9⟩ : ∃ w1, w1 = q1.alloc (.cells (gvC x.1).toArray 26) := ⟨_, rfl⟩
  rw [← hw9] at HB HX HV
  rw [← hw9]
  rw [← hb9] at HX LHX
  rw [← hb9]
  clear hb hw9 hb9
  by_cases hc : x.2 = 0
  · have HXC := hide hc
    rw [hc]
    clear hc
    go_upto_region 2 with fail
    refine wp_region_list ?_
    refine list_to (d := 20) (v := errG 0) rfl rfl (by kernel_rfl) ?_
    simp only [Act.put, sA, sB, sC]
    refine list_to (d := 21) (v := .bool false) rfl rfl (by kernel_rfl) ?_
    simp only [Act.put, sA, sB, sC]
    refine list_to (d := 22) (v := .bool false) rfl rfl (by kernel_rfl) ?_
    simp only [Act.put, sA, sB, sC]
    refine list_want (d := 23) (v := .pointer (some ⟨bHX, 0, none⟩)) rfl (by kernel_rfl) (by kernel_rfl) ?_
    simp only [Act.put, sA, sB, sC]
    have k0 := cellX (unhide HX) 0
    simp only [gvC] at k0
    refine list_want (d := 24) (v := .int .i64 x.1.kind) rfl (by kernel_rfl) (by go_simp) ?_
    simp only [Act.put, sA, sB, sC]
    refine list_want (d := 25) (v := .bool (x.1.kind == 0)) rfl (by kernel_rfl) (by go_simp) ?_
    simp only [Act.put, sA, sB, sC]
    clear k0
    by_cases hk : x.1.kind = 0
    · have hkb : (x.1.kind == 0) = true := by rw [hk]; rfl
      rw [hkb]
      refine list_to (d := 26) (v := .bool true) rfl rfl (by kernel_rfl) ?_
      simp only [Act.put, sA, sB, sC]
      have HR : Hid (R = (nullG, 0)) := by show R = _; rw [unhide HRL]; unfold amongR; rw [if_pos (.inr hk), unhide HXC]
      clear hk hkb
      go_upto_region 3 with fail
      refine wp_region_list ?_
      refine list_to (d := 27) (v := .agg (gvC nullG).toArray) rfl rfl (by kernel_rfl) ?_
      simp only [Act.put, sA, sB, sC]
      refine list_to (d := 28) (v := errG 0) rfl rfl (by kernel_rfl) ?_
      simp only [Act.put, sA, sB, sC]
      refine wpList_store_mid rfl 26 (.tmp 4) (.tmp 27) rfl w.heap.size 0 (gvC nullG).toArray rfl rfl (unhide HV).there sizeV (all_oneCell_toArray (gvC_one _)) ?_
      show wpList _ _ _ _ _ (w1.setCells w.heap.size 0 (gvC nullG))
      simp only [Act.put, sA, sB, sC]
      refine list_to (d := 5) (v := errG 0) rfl rfl (by kernel_rfl) ?_
      simp only [Act.put, sA, sB, sC]
      go_wp2_with fail
      refine bodyPost_ret (((unhide HV).set nullG).result2 rfl _ rfl) rfl ?_
      rw [unhide HPP, unhide HR]
      exact ⟨rfl, below_setCells0 (unhide HB) (Nat.le_refl _) _⟩
    · have hkb : (x.1.kind == 0) = false := beq_eq_false_iff_ne.2 hk
      rw [hkb]
      refine list_to (d := 26) (v := .bool false) rfl rfl (by kernel_rfl) ?_
      simp only [Act.put, sA, sB, sC]
      have HG0 : Hid (R = amongG x.1 0 (l.drop (1 - 1)) ∧ VV w1 w.heap.size nullG ∧ VV w1 bHX x.1 ∧ Below w.heap.size w w1) := ⟨by rw [unhide HRL]; unfold amongR; rw [if_neg (fun h => h.elim (fun q => q (unhide HXC)) hk)]; rfl, unhide HV, unhide HX, unhide HB⟩
      clear hk hkb
      go_wp2_with fail
      clear HV HX HB
      go_loopg [8, 9, 10, 11, 12] l.length (fun g s8 s9 s10 s11 s12 wr => ∃ (i : Nat) (found : Int), g = l.length + 1 - i ∧ s8 = .int .i64 found ∧ s9 = .int .i64 (i : Int) ∧ 1 ≤ i ∧ i ≤ l.length + 1 ∧ Hid (R = amongG x.1 found (l.drop (i - 1)) ∧ VV wr w.heap.size nullG ∧ VV wr bHX x.1 ∧ Below w.heap.size w wr))
      case atStart => exact ⟨1, 0, rfl, rfl, rfl, by omega, by omega, HG0⟩
      case round =>
        obtain ⟨i, found, rfl, rfl, rfl, hi1, hi, HG⟩ := hrel
        clear HG0
        obtain ⟨w5, hw5⟩ : ∃ w5, w5 = wr := ⟨_, rfl⟩
        rw [← hw5] at HG
        rw [← hw5]
        clear hw5
        have HRG := hide (unhide HG).1
        have HV := hide (unhide HG).2.1
        have HX := hide (unhide HG).2.2.1
        have HB := hide (unhide HG).2.2.2
        clear HG
        have hi0 : (0 : Int) ≤ (i : Int) := by omega
        by_cases hlt : i < l.length + 1
        · have hiI : (i : Int) < (l.length : Int) + 1 := by omega
          by_cases hf1 : found = 1
          · subst hf1
            have HR : Hid (R = (ofTruthG 1, 0)) := (unhide HRG).trans amongG_one
            obtain ⟨found, hfd⟩ : ∃ found : Int, found = 1 := ⟨1, rfl⟩
            clear HRG
            skip
            as_aux_lemma =>
              clear hfd
              go_upto_region 15 with fail
              refine wp_region_list ?_
              refine list_to (d := 67) (v := .int .i64 1) rfl rfl (by kernel_rfl) ?_
              simp only [Act.put, sA, sB, sC]
              refine list_call rfl (some 68) rfl 37 #[.int .i64 1] (by kernel_rfl) (ofTruth_any 1 w5) ?_
              rintro e w9 ⟨rfl, hb⟩
              refine ⟨_, rfl, ?_⟩
              simp only [Act.put, sA, sB, sC]
              have HB := hide (trX (unhide HB) hb)
              have HV := hide ((unhide HV).below hb)
              clear hb
              refine wpList_store_mid rfl 26 (.tmp 4) (.tmp 68) rfl w.heap.size 0 (gvC (ofTruthG 1)).toArray rfl rfl (unhide HV).there sizeV (all_oneCell_toArray (gvC_one _)) ?_
              show wpList _ _ _ _ _ (w9.setCells w.heap.size 0 (gvC (ofTruthG 1)))
              simp only [Act.put, sA, sB, sC]
              refine list_to (d := 5) (v := .nilIface) rfl rfl (by kernel_rfl) ?_
              simp only [Act.put, sA, sB, sC]
              go_wp2_with fail
              refine bodyPost_ret (((unhide HV).set (ofTruthG 1)).result2 rfl _ rfl) rfl ?_
              rw [unhide HPP, unhide HR]
              exact ⟨rfl, below_setCells0 (unhide HB) (Nat.le_refl _) _⟩
          · have hfb : (found == 1) = false := beq_eq_false_iff_ne.2 hf1
            skip
            as_aux_lemma =>
              obtain ⟨r, hr⟩ : ∃ r, l[i - 1]? = some r := ⟨_, List.getElem?_eq_getElem (by omega)⟩
              have hdr : l.drop (i - 1) = r :: l.drop i := by
                rw [List.getElem?_eq_some_iff] at hr
                obtain ⟨hr1, hr2⟩ := hr
                rw [List.drop_eq_getElem_cons hr1, hr2, show i - 1 + 1 = i by omega]
              have HER : Hid (EvAt w pg ba (oa + 10 * i) r) := unhide HEVL i r (by rw [show i = (i - 1) + 1 by omega, List.getElem?_cons_succ]; exact hr)
              have HRO : Hid (r.1.ok) := unhide HOKL r (List.mem_of_getElem? hr)
              have hR : R = amongG x.1 found (r :: l.drop i) := by rw [unhide HRG, hdr]
              rw [amongG, if_neg hf1] at hR
              have HIH : Hid (i - 1 + 1 = i) := by show i - 1 + 1 = i; omega
              clear hr hdr HRG
              go_upto_region 8 with fail
              refine wp_region_list ?_
              refine list_to (d := 40) (v := .pointer (some ⟨pg, 0, none⟩)) rfl rfl (by kernel_rfl) ?_
              simp only [Act.put, sA, sB, sC]
              refine list_to (d := 41) (v := .slice (some ⟨ba, oa, none⟩) (l.length + 1) k) rfl rfl (by kernel_rfl) ?_
              simp only [Act.put, sA, sB, sC]
              refine list_to (d := 42) (v := .int .i64 (i : Int)) rfl rfl (by kernel_rfl) ?_
              simp only [Act.put, sA, sB, sC]
              refine list_to (d := 43) (v := .pointer (some ⟨ba, oa + 10 * i, none⟩)) rfl rfl (by go_simp) ?_
              simp only [Act.put, sA, sB, sC]
              refine list_call rfl (some 44) rfl 36 #[.pointer (some ⟨pg, 0, none⟩), .pointer (some ⟨ba, oa + 10 * i, none⟩)] (by kernel_rfl) (unhide HER w5 (unhide HB)) ?_
              rintro e q6 ⟨rfl, hb⟩
              refine ⟨_, rfl, ?_⟩
              simp only [Act.put, sA, sB, sC]
              have HB := hide (trX (unhide HB) hb)
              have HV := hide ((unhide HV).below hb)
              have HX := hide ((unhide HX).below hb)
              clear hb
              refine list_to (d := 39) (v := .tuple #[r.1.agg, errG r.2]) rfl rfl (by kernel_rfl) ?_
              simp only [Act.put, sA, sB, sC]
              refine list_to (d := 45) (v := .agg (gvC r.1).toArray) rfl rfl (by kernel_rfl) ?_
              simp only [Act.put, sA, sB, sC]
              refine list_to (d := 46) (v := errG r.2) rfl rfl (by kernel_rfl) ?_
              simp only [Act.put, sA, sB, sC]
              refine list_new rfl 26 rfl (gvC nullG).toArray (zero_of_info zeroV).1 ?_
              simp only [Act.put, sA, sB, sC]
              refine wpList_store_mid rfl 26 (.tmp 10) (.tmp 45) rfl q6.heap.size 0 (gvC r.1).toArray rfl rfl (VV.new q6 nullG).there sizeV (all_oneCell_toArray (gvC_one _)) ?_
              show wpList _ _ _ _ _ ((q6.alloc (.cells (gvC nullG).toArray 26)).setCells q6.heap.size 0 (gvC r.1))
              rw [setV_new q6 r.1]
              simp only [Act.put, sA, sB, sC]
              refine list_to (d := 11) (v := errG r.2) rfl rfl (by kernel_rfl) ?_
              simp only [Act.put, sA, sB, sC]
              have LHZ : Hid (w.heap.size < q6.heap.size) := ltX (unhide HV)
              have HZ := hide (VV.new q6 r.1)
              have hb : Below q6.heap.size q6 (q6.alloc (.cells (gvC r.1).toArray 26)) := alX (Below.refl _ _) _
              have HB := hide (trX (unhide HB) hb)
              have HV := hide ((unhide HV).below hb)
              have HX := hide ((unhide HX).below hb)
              obtain ⟨bHZ, hb9⟩ : ∃ bHZ, bHZ = q6.heap.size := ⟨_, rfl⟩
              obtain ⟨w6, hw9⟩ : ∃ w6, w6 = q6.alloc (.cells (gvC r.1).toArray 26) := ⟨_, rfl⟩
              rw [← hw9] at HB HZ HV HX
              rw [← hw9]
              rw [← hb9] at HZ LHZ
              rw [← hb9]
              clear hb hw9 hb9
              by_cases hc : r.2 = 0
              · rw [if_neg (fun h => h hc)] at hR
                rw [hc]
                clear hc
                go_upto_region 9 with fail
                refine wp_region_list ?_
                refine list_to (d := 47) (v := errG 0) rfl rfl (by kernel_rfl) ?_
                simp only [Act.put, sA, sB, sC]
                refine list_to (d := 48) (v := .bool false) rfl rfl (by kernel_rfl) ?_
                simp only [Act.put, sA, sB, sC]
                go_upto_region 11 with fail
                refine wp_region_list ?_
                refine wpList_load_mid rfl 26 (.tmp 6) rfl bHX 0 rfl (gvC x.1) _ (unhide HX).range Tryz.underlying26 rfl sizeV ?_
                simp only [Act.put, sA, sB, sC]
                refine wpList_load_mid rfl 26 (.tmp 10) rfl bHZ 0 rfl (gvC r.1) _ (unhide HZ).range Tryz.underlying26 rfl sizeV ?_
                simp only [Act.put, sA, sB, sC]
                obtain ⟨tr, htr⟩ : ∃ tr, tr = testG 5 x.1 r.1 := ⟨_, rfl⟩
                have HTC : Hid (Calls Tryz.prog 125 #[.int .i64 5, .agg (gvC x.1).toArray, .agg (gvC r.1).toArray] w6 fun e w' => e = .returned (.tuple #[.int .i64 tr.1, errG tr.2]) ∧ Below w6.heap.size w6 w') := by rw [htr]; exact test_any 5 x.1 r.1 w6 (unhide HXO) (unhide HRO)
                rw [← htr] at hR
                clear htr
                refine list_call rfl (some 54) rfl 125 #[.int .i64 5, .agg (gvC x.1).toArray, .agg (gvC r.1).toArray] (by kernel_rfl) (unhide HTC) ?_
                rintro e w7 ⟨rfl, hb⟩
                refine ⟨_, rfl, ?_⟩
                simp only [Act.put, sA, sB, sC]
                have HX := hide ((unhide HX).below hb)
                have HB := hide (trX (unhide HB) hb)
                have HV := hide ((unhide HV).below hb)
                clear hb
                refine list_to (d := 51) (v := .tuple #[.int .i64 tr.1, errG tr.2]) rfl rfl (by kernel_rfl) ?_
                simp only [Act.put, sA, sB, sC]
                refine list_to (d := 55) (v := .int .i64 tr.1) rfl rfl (by kernel_rfl) ?_
                simp only [Act.put, sA, sB, sC]
                refine list_to (d := 56) (v := errG tr.2) rfl rfl (by kernel_rfl) ?_
                simp only [Act.put, sA, sB, sC]
                refine list_to (d := 12) (v := .int .i64 tr.1) rfl rfl (by kernel_rfl) ?_
                simp only [Act.put, sA, sB, sC]
                refine list_to (d := 11) (v := errG tr.2) rfl rfl (by kernel_rfl) ?_
                simp only [Act.put, sA, sB, sC]
                by_cases hd : tr.2 = 0
                · rw [if_neg (fun h => h hd)] at hR
                  have HRN := hide hR
                  rw [hd]
                  clear hd hR
                  go_upto_region 12 with fail
                  refine wp_region_list ?_
                  refine list_to (d := 57) (v := errG 0) rfl rfl (by kernel_rfl) ?_
                  simp only [Act.put, sA, sB, sC]
                  refine list_to (d := 58) (v := .bool false) rfl rfl (by kernel_rfl) ?_
                  simp only [Act.put, sA, sB, sC]
                  go_upto_region 14 with fail
                  refine wp_region_list ?_
                  refine list_to (d := 64) (v := .int .i64 found) rfl rfl (by kernel_rfl) ?_
                  simp only [Act.put, sA, sB, sC]
                  refine list_to (d := 65) (v := .int .i64 tr.1) rfl rfl (by kernel_rfl) ?_
                  simp only [Act.put, sA, sB, sC]
                  refine list_call rfl (some 66) rfl 126 #[.int .i64 found, .int .i64 tr.1] (by kernel_rfl) (or_any found tr.1 w7) ?_
                  rintro e w8 ⟨rfl, rfl⟩
                  refine ⟨_, rfl, ?_⟩
                  simp only [Act.put, sA, sB, sC]
                  refine list_to (d := 8) (v := .int .i64 (orG found tr.1)) rfl rfl (by kernel_rfl) ?_
                  simp only [Act.put, sA, sB, sC]
                  go_wp2_with fail
                  have HNX : Hid (R = amongG x.1 (orG found tr.1) (l.drop (i + 1 - 1)) ∧ VV w8 w.heap.size nullG ∧ VV w8 bHX x.1 ∧ Below w.heap.size w w8) := ⟨unhide HRN, unhide HV, unhide HX, unhide HB⟩
                  go_roundg (l.length + 1 - (i + 1))
                  case rel => exact ⟨i + 1, _, rfl, rfl, by rw [show ((i + 1 : Nat) : Int) = (i : Int) + 1 from rfl], by omega, by omega, HNX⟩
                  case measure => omega
                · have HR := hide (hR.trans (if_pos hd))
                  have HERR := hide (errG_some hd)
                  rw [errG_some hd]
                  clear hR
                  go_upto_region 12 with fail
                  refine wp_region_list ?_
                  refine list_to (d := 57) (v := .iface 102 (.int .i64 tr.2)) rfl rfl (by kernel_rfl) ?_
                  simp only [Act.put, sA, sB, sC]
                  refine list_to (d := 58) (v := .bool true) rfl rfl (by kernel_rfl) ?_
                  simp only [Act.put, sA, sB, sC]
                  go_upto_region 13 with fail
                  refine wp_region_list ?_
                  refine list_to (d := 59) (v := .int .i64 tr.1) rfl rfl (by kernel_rfl) ?_
                  simp only [Act.put, sA, sB, sC]
                  refine list_to (d := 60) (v := .iface 102 (.int .i64 tr.2)) rfl rfl (by kernel_rfl) ?_
                  simp only [Act.put, sA, sB, sC]
                  rw [← unhide HERR]
                  refine list_call rfl (some 61) rfl 121 #[.int .i64 tr.1, errG tr.2] (by kernel_rfl) (tested_any tr.1 tr.2 w7) ?_
                  rintro e w9 ⟨rfl, hb⟩
                  refine ⟨_, rfl, ?_⟩
                  simp only [Act.put, sA, sB, sC]
                  have HB := hide (trX (unhide HB) hb)
                  have HV := hide ((unhide HV).below hb)
                  clear hb
                  obtain ⟨Y, hY⟩ : ∃ Y, Y = testedG tr.1 tr.2 := ⟨_, rfl⟩
                  rw [← hY] at HR
                  rw [← hY]
                  clear hY
                  refine list_to (d := 62) (v := .agg (gvC Y.1).toArray) rfl rfl (by kernel_rfl) ?_
                  simp only [Act.put, sA, sB, sC]
                  refine list_to (d := 63) (v := errG Y.2) rfl rfl (by kernel_rfl) ?_
                  simp only [Act.put, sA, sB, sC]
                  refine wpList_store_mid rfl 26 (.tmp 4) (.tmp 62) rfl w.heap.size 0 (gvC Y.1).toArray rfl rfl (unhide HV).there sizeV (all_oneCell_toArray (gvC_one _)) ?_
                  show wpList _ _ _ _ _ (w9.setCells w.heap.size 0 (gvC Y.1))
                  simp only [Act.put, sA, sB, sC]
                  refine list_to (d := 5) (v := errG Y.2) rfl rfl (by kernel_rfl) ?_
                  simp only [Act.put, sA, sB, sC]
                  go_wp2_with fail
                  refine bodyPost_ret (((unhide HV).set Y.1).result2 rfl _ rfl) rfl ?_
                  rw [unhide HPP, unhide HR]
                  exact ⟨rfl, below_setCells0 (unhide HB) (Nat.le_refl _) _⟩
              · have HR := hide (hR.trans (if_pos hc))
                have HERR := hide (errG_some hc)
                rw [errG_some hc]
                clear hR
                go_upto_region 9 with fail
                refine wp_region_list ?_
                refine list_to (d := 47) (v := .iface 102 (.int .i64 r.2)) rfl rfl (by kernel_rfl) ?_
                simp only [Act.put, sA, sB, sC]
                refine list_to (d := 48) (v := .bool true) rfl rfl (by kernel_rfl) ?_
                simp only [Act.put, sA, sB, sC]
                go_upto_region 10 with fail
                refine wp_region_list ?_
                refine list_to (d := 49) (v := .agg (gvC nullG).toArray) rfl rfl (by kernel_rfl) ?_
                simp only [Act.put, sA, sB, sC]
                refine list_to (d := 50) (v := .iface 102 (.int .i64 r.2)) rfl rfl (by kernel_rfl) ?_
                simp only [Act.put, sA, sB, sC]
                refine wpList_store_mid rfl 26 (.tmp 4) (.tmp 49) rfl w.heap.size 0 (gvC nullG).toArray rfl rfl (unhide HV).there sizeV (all_oneCell_toArray (gvC_one _)) ?_
                show wpList _ _ _ _ _ (w6.setCells w.heap.size 0 (gvC nullG))
                simp only [Act.put, sA, sB, sC]
                refine list_to (d := 5) (v := .iface 102 (.int .i64 r.2)) rfl rfl (by kernel_rfl) ?_
                simp only [Act.put, sA, sB, sC]
                go_wp2_with fail
                refine bodyPost_ret (((unhide HV).set nullG).result2 rfl _ rfl) rfl ?_
                rw [unhide HPP, unhide HR]
                exact ⟨by (rw [show errG ((nullG, r.2) : GV × Int).2 = _ from unhide HERR]) <;> rfl, below_setCells0 (unhide HB) (Nat.le_refl _) _⟩
        · have hiI : ¬ (i : Int) < (l.length : Int) + 1 := by omega
          have HR : Hid (R = (ofTruthG found, 0)) := by show R = _; rw [unhide HRG, List.drop_eq_nil_of_le (by omega)]; rfl
          clear HRG
          skip
          as_aux_lemma =>
            go_upto_region 15 with fail
            refine wp_region_list ?_
            refine list_to (d := 67) (v := .int .i64 found) rfl rfl (by kernel_rfl) ?_
            simp only [Act.put, sA, sB, sC]
            refine list_call rfl (some 68) rfl 37 #[.int .i64 found] (by kernel_rfl) (ofTruth_any found w5) ?_
            rintro e w9 ⟨rfl, hb⟩
            refine ⟨_, rfl, ?_⟩
            simp only [Act.put, sA, sB, sC]
            have HB := hide (trX (unhide HB) hb)
            have HV := hide ((unhide HV).below hb)
            clear hb
            refine wpList_store_mid rfl 26 (.tmp 4) (.tmp 68) rfl w.heap.size 0 (gvC (ofTruthG found)).toArray rfl rfl (unhide HV).there sizeV (all_oneCell_toArray (gvC_one _)) ?_
            show wpList _ _ _ _ _ (w9.setCells w.heap.size 0 (gvC (ofTruthG found)))
            simp only [Act.put, sA, sB, sC]
            refine list_to (d := 5) (v := .nilIface) rfl rfl (by kernel_rfl) ?_
            simp only [Act.put, sA, sB, sC]
            go_wp2_with fail
            refine bodyPost_ret (((unhide HV).set (ofTruthG found)).result2 rfl _ rfl) rfl ?_
            rw [unhide HPP, unhide HR]
            exact ⟨rfl, below_setCells0 (unhide HB) (Nat.le_refl _) _⟩
  · have HR : Hid (R = (nullG, x.2)) := by show R = _; rw [unhide HRL]; unfold amongR; rw [if_pos (.inl hc)]
    have HERR := hide (errG_some hc)
    rw [errG_some hc]
    go_upto_region 2 with fail
    refine wp_region_list ?_
    refine list_to (d := 20) (v := .iface 102 (.int .i64 x.2)) rfl rfl (by kernel_rfl) ?_
    simp only [Act.put, sA, sB, sC]
    refine list_to (d := 21) (v := .bool true) rfl rfl (by kernel_rfl) ?_
    simp only [Act.put, sA, sB, sC]
    refine list_to (d := 22) (v := .bool true) rfl rfl (by kernel_rfl) ?_
    simp only [Act.put, sA, sB, sC]
    refine list_skip (d := 23) rfl (by kernel_rfl) ?_
    simp only [Act.put, sA, sB, sC]
    refine list_skip (d := 24) rfl (by kernel_rfl) ?_
    simp only [Act.put, sA, sB, sC]
    refine list_skip (d := 25) rfl (by kernel_rfl) ?_
    simp only [Act.put, sA, sB, sC]
    refine list_to (d := 26) (v := .bool true) rfl rfl (by kernel_rfl) ?_
    simp only [Act.put, sA, sB, sC]
    go_upto_region 3 with fail
    refine wp_region_list ?_
    refine list_to (d := 27) (v := .agg (gvC nullG).toArray) rfl rfl (by kernel_rfl) ?_
    simp only [Act.put, sA, sB, sC]
    refine list_to (d := 28) (v := .iface 102 (.int .i64 x.2)) rfl rfl (by kernel_rfl) ?_
    simp only [Act.put, sA, sB, sC]
    refine wpList_store_mid rfl 26 (.tmp 4) (.tmp 27) rfl w.heap.size 0 (gvC nullG).toArray rfl rfl (unhide HV).there sizeV (all_oneCell_toArray (gvC_one _)) ?_
    show wpList _ _ _ _ _ (w1.setCells w.heap.size 0 (gvC nullG))
    simp only [Act.put, sA, sB, sC]
    refine list_to (d := 5) (v := .iface 102 (.int .i64 x.2)) rfl rfl (by kernel_rfl) ?_
    simp only [Act.put, sA, sB, sC]
    go_wp2_with fail
    refine bodyPost_ret (((unhide HV).set nullG).result2 rfl _ rfl) rfl ?_
    rw [unhide HPP, unhide HR]
    exact ⟨by (rw [show errG ((nullG, x.2) : GV × Int).2 = _ from unhide HERR]) <;> rfl, below_setCells0 (unhide HB) (Nat.le_refl _) _⟩
end Go.Proofs.YtehgoioinogmkaaGreatDoor
