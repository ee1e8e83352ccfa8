/- NetPlays: its walk. -/
import Derived.Test.YtahpfhnekmilmaaGreatDoorJNPLaw0NPIn
import Derived.Deep.CutBlock
import Derived.Deep.RegionWith
import Derived.Deep.RegionHeld3
import Derived.Deep.LoopGhost
namespace Go.Proofs.YtahpfhnekmilmaaGreatDoor
open Go.RowKit Go.Lib Go.Proofs Go.Maps

theorem mayS_true {bad : Bool} {t : Int} (h : mayS bad t = true) : bad = false ∧ -1 ≤ t ∧ t ≤ 1000 := by
  cases bad
  · simp [mayS] at h
    exact ⟨rfl, h⟩
  · cases h
theorem mayS_false {bad : Bool} {t : Int} (h : mayS bad t = false) : bad = true ∨ (bad = false ∧ ¬ -1 ≤ t) ∨ (bad = false ∧ -1 ≤ t ∧ ¬ t ≤ 1000) := by
  cases bad
  · by_cases h0 : -1 ≤ t
    · by_cases h1 : t ≤ 1000
      · simp [mayS, h0, h1] at h
      · exact .inr (.inr ⟨rfl, h0, h1⟩)
    · exact .inr (.inl ⟨rfl, h0⟩)
  · exact .inl rfl
theorem ms_mL (t : Int) (q : Nat) : MS (mL t q) t q := by
  refine ⟨rfl, fun v hv => ?_, rfl, rfl, rfl⟩
  simp [mL] at hv
  rcases hv with rfl | rfl | rfl | rfl | rfl | rfl | rfl | rfl | rfl | rfl | rfl | rfl | rfl | rfl | rfl | rfl | rfl | rfl | rfl | rfl | rfl | rfl | rfl <;> rfl
theorem mc_of {M : List Value} {a : Int × Nat} (h1 : M.length = 23) (h2 : ∀ u ∈ M, u.oneCell' = true) (h3 : M[2]? = some (.int .i64 a.1)) (h4 : M[14]? = some (.int .u64 (a.2 : Int))) : MC M [a] := by
  refine ⟨by simp [h1], h2, fun i b hb => ?_, fun i b hb => ?_⟩
  · cases i with
    | zero => simp at hb; subst hb; simpa using h3
    | succ k => simp at hb
  · cases i with
    | zero => simp at hb; subst hb; simpa using h4
    | succ k => simp at hb

set_option maxHeartbeats 25600000 in
set_option maxRecDepth 100000 in
theorem nplays_law (w : World) (hE : ET w) (hP : PT w) (hG : 1 < w.heap.size) (la : Option Addr) (gs : List NG) (lc m : Nat) (hm : m = gs.length) (hl : InN w la gs) (hlm : m ≤ maxLen) :
    Calls Tryz.prog 3 #[.slice la m lc] w fun e w' => e = .returned (.bool true) ∧ Below w.heap.size w w' := by
  have HK := hide (nknown_any w hE)
  have hlm' : (m : Int) ≤ 9223372036854775807 := by unfold maxLen at hlm; omega
  clear hlm
  by_cases h100 : (100 : Int) < (m : Int)
  · clear hl hE hP
    go_enter Tryz.func3, Tryz.ntmps3
    go_wp2_with (first
      | (go_at_call 4; refine (unhide HK).mono ?_; rintro e w1 ⟨rfl, hb1⟩; clear HK))
    go_ret
    exact ⟨rfl, hb1⟩
  have HIN : Hid (∀ w1, Below w.heap.size w w1 → ET w1 ∧ PT w1 ∧ 1 < w1.heap.size ∧ ∀ j, j < m → ∃ s : NG, gs[j]? = some s ∧ s.sq < 18446744073709551616 ∧ (-9223372036854775808 ≤ s.i ∧ s.i ≤ 9223372036854775807) ∧ ∃ b off, la = some ⟨b, off, none⟩ ∧ b < w.heap.size ∧ ∀ k v, s.cells.toList[k]? = some v → w.cell? ⟨b, off + j * 5 + k, none⟩ = some v) := by
    intro w1 hb1
    refine ⟨hE.below hb1 hE.lt, hP.below hb1 hG, Nat.lt_of_lt_of_le hG hb1.size, fun j hj => ?_⟩
    have e : gs[j]? = some gs[j] := List.getElem?_eq_getElem (by omega)
    exact ⟨gs[j], e, hl j _ e⟩
  have hm100 : m ≤ 100 := by omega
  clear hl hE hP hG hm
  go_enter Tryz.func3, Tryz.ntmps3
  go_wp2_with (first
    | (go_at_call 4; refine (unhide HK).mono ?_; clear HK; rintro e w1 ⟨rfl, hb1⟩; have Q1 := hide hb1; clear hb1; have HN := hide (ns_new w1))
    | (go_at_call 5; refine (unhide HN).mono ?_; clear HN; rintro e w2 ⟨rfl, h2⟩; have N2 := hide (PH.start h2); clear h2))
  obtain ⟨hE1, hP1, hG1, hin1⟩ := unhide HIN w1 (unhide Q1)
  have HE := hide hE1
  have HP := hide (And.intro hP1 hG1)
  have HI := hide hin1
  clear HIN hE1 hP1 hG1 hin1
  generalize w1.heap.size = p at N2 ⊢
  go_loopw [4, 5] (fun s4 s5 wr => ∃ (j n mk : Nat) (ma : Option Addr) (A : List (Int × Nat)), j ≤ m ∧ n ≤ j ∧ s4 = .slice ma n mk ∧ s5 = .int .i64 j ∧ Hid (n = A.length ∧ PH w1 wr p (.slice ma n mk) A)) (fun _ s5 _ => m - (RowKit.intOf s5).toNat)
  case atStart => exact ⟨0, 0, 0, none, [], by omega, by omega, rfl, rfl, rfl, unhide N2⟩
  case round =>
    obtain ⟨j, n, mk, ma, A, hj, hnj, rfl, rfl, hr⟩ := hrel
    clear N2
    by_cases hlt : j < m
    · have hji : (j : Int) < (m : Int) := by omega
      have hj0 : (0 : Int) ≤ (j : Int) := by omega
      obtain ⟨s, _, hsq, hir, b, off, rfl, hbw, hcx⟩ := unhide HI j hlt
      obtain ⟨what, i, to', sq, bad⟩ := s
      dsimp only at hsq hir
      have hbel : Below w.heap.size w wr := one_b (unhide Q1) (unhide hr).2.1.bel
      have hc : ∀ k v, (NG.cells ⟨what, i, to', sq, bad⟩).toList[k]? = some v → wr.cell? ⟨b, off + j * 5 + k, none⟩ = some v := fun k v hk => (cell_same (hbel.block b hbw) _).trans (hcx k v hk)
      have c0 : wr.cell? ⟨b, off + j * 5, none⟩ = some (.int .i64 what) := hc 0 _ rfl
      have c1 : wr.cell? ⟨b, off + j * 5 + 1, none⟩ = some (.int .i64 i) := hc 1 _ rfl
      have c2 : wr.cell? ⟨b, off + j * 5 + 2, none⟩ = some (.int .i64 to') := hc 2 _ rfl
      have c3 : wr.cell? ⟨b, off + j * 5 + 3, none⟩ = some (.int .u64 (sq : Int)) := hc 3 _ rfl
      have c4 : wr.cell? ⟨b, off + j * 5 + 4, none⟩ = some (.bool bad) := hc 4 _ rfl
      have HS : Hid (n = A.length ∧ PS w1 (wr.alloc (.cells #[.int .i64 what, .int .i64 i, .int .i64 to', .int .u64 (sq : Int), .bool bad] 29)) p wr.heap.size (.slice ma n mk) A A ⟨what, i, to', sq, bad⟩) := hide ⟨(unhide hr).1, (unhide hr).2.make ⟨what, i, to', sq, bad⟩⟩
      clear hc hcx hbel hr HI
      go_upto_region 11 with fail
      generalize hW : wr.alloc (.cells #[.int .i64 what, .int .i64 i, .int .i64 to', .int .u64 (sq : Int), .bool bad] 29) = W at HS ⊢
      clear hW c0 c1 c2 c3 c4 hbw
      generalize wr.heap.size = sb at HS ⊢
      obtain ⟨d0, d1, d2, d3, d4⟩ := (unhide HS).2.sv.at
      dsimp only at d0 d1 d2 d3 d4
      go_cut [7] from 34 to 43 (fun s7 wx => ∃ inb : Bool, s7 = .bool inb ∧ Hid ((inb = true ↔ (0 ≤ i ∧ i < (n : Int))) ∧ n = A.length ∧ PS w1 wx p sb (.slice ma n mk) A A ⟨what, i, to', sq, bad⟩))
      case first =>
        by_cases hi0 : (0 : Int) ≤ i
        · by_cases hi1 : i < (n : Int)
          · go_wp2_with fail
            go_meet
            exact ⟨true, rfl, ⟨fun _ => (by omega), fun _ => rfl⟩, unhide HS⟩
          · go_wp2_with fail
            go_meet
            exact ⟨false, rfl, ⟨fun h => (by cases h), fun h => absurd h (by omega)⟩, unhide HS⟩
        · go_wp2_with fail
          go_meet
          exact ⟨false, rfl, ⟨fun h => (by cases h), fun h => absurd h (by omega)⟩, unhide HS⟩
      case rest =>
        clear HS d0 d1 d2 d3 d4
        obtain ⟨inb, rfl, HS0⟩ := hcut
        go_upto_if 44 with fail
        go_cut [8] from 44 to 46 (fun s8 wx => wx = wc ∧ ∃ wt : Int, s8 = .int .i64 wt ∧ (inb = true → wt = 0) ∧ (inb = false → wt = 40))
        case first =>
          cases inb
          · go_wp2_with fail
            go_meet
            exact ⟨rfl, 40, rfl, fun h => (by cases h), fun _ => rfl⟩
          · go_wp2_with fail
            go_meet
            exact ⟨rfl, 0, rfl, fun _ => rfl, fun h => (by cases h)⟩
        case rest =>
          obtain ⟨rfl, wt, rfl, hw0, hw1⟩ := hcut
          rename_i W
          obtain ⟨hinb, hS9⟩ := unhide HS0
          have HS := hide hS9
          clear hS9 HS0
          obtain ⟨d0, d1, d2, d3, d4⟩ := (unhide HS).2.sv.at
          dsimp only at d0 d1 d2 d3 d4
          go_upto_block 2 with fail
          go_cut [4, 9, 10, 11, 12] from 47 to 167 (fun s4 s9 s10 s11 s12 wx => s9 = s9 ∧ s10 = s10 ∧ s11 = s11 ∧ s12 = s12 ∧ ∃ (n' mk' : Nat) (ma' : Option Addr) (A' : List (Int × Nat)), s4 = .slice ma' n' mk' ∧ n' ≤ j + 1 ∧ Hid (n' = A'.length ∧ PS w1 wx p sb (.slice ma' n' mk') A' A' ⟨what, i, to', sq, bad⟩))
          case first =>
            obtain ⟨hnA, hS0⟩ := unhide HS
            have HnA := hide hnA
            have hf : A.length < 1000 := by omega
            clear hnA
            by_cases q0 : what = 0 ∨ what = 1 ∨ what = 2
            · clear hinb hw1 hw0
              as_aux_lemma =>
                have HS1 := hide hS0
                have HM1 : Hid (∀ (x : Int) (W : World), Calls Tryz.prog 7 #[.agg #[.int .i64 x, .int .i64 i, .int .i64 to', .int .u64 (sq : Int), .bool bad]] W fun e w' => e = .returned (.agg (xL bad to' sq).toArray) ∧ Below W.heap.size W w') := hide (fun x W => nmk_x x i to' sq bad W)
                have HM2 := HM1
                by_cases hmay : mayS bad to' = true
                · have HSd := hide (fun W (h : PS w1 W p sb (.slice ma n mk) A A ⟨what, i, to', sq, bad⟩) => ps_send to' sq bad hmay hsq h (by omega))
                  obtain ⟨rfl, t0, t1⟩ := mayS_true hmay
                  clear hmay hS0 HS
                  rcases q0 with rfl | rfl | rfl
                  all_goals
                    go_wp2_with (first
                      | (go_at_call 7; refine (unhide HM1 _ _).mono ?_; rintro e w3 ⟨rfl, hb3⟩; have H3 := hide ((unhide HS1).below hb3); clear hb3 HM1 HS1)
                      | (go_at_call 6; refine (unhide HSd _ (unhide H3)).mono ?_; rintro e w4 ⟨rfl, h4⟩; clear HSd; obtain ⟨e0, e1, e2, e3, e4⟩ := h4.sv.at; dsimp only at e0 e1 e2 e3 e4; have H4 := hide h4; clear h4 H3))
                    refine (unhide HM2 _ _).mono ?_
                    rintro e w5 ⟨rfl, hb5⟩
                    clear HM2
                    have H5 := hide ((unhide H4).below hb5)
                    clear hb5 H4 e0 e1 e2 e3 e4
                    first | (rename_i K0 hK0; refine hK0 _ _ ?_) | (rename_i K0 hK0 hJ0; refine hK0 _ _ ?_)
                    obtain ⟨i0, hi, hz0, hz1, hz2⟩ := Tryz.infoMs
                    refine wpList_buildSlice rfl 26 43 1 _ rfl (xL false to' sq).toArray i0 (.agg zM) Tryz.underlying26 hi hz0 (by rw [hz1]; decide) (by rw [hz1]; decide) (by simp only [List.map_toArray, List.map_cons, List.map_nil, hz1]; exact fill_one ((MC.single (a := (to', sq)) (ms_mL to' sq))).len) ?_
                    simp only [Act.put, List.setIfInBounds_toArray, List.set_cons_zero, List.set_cons_succ]
                    have hb7 := (unhide H5).alloc (.cells (xL false to' sq).toArray 43)
                    refine mr_append rfl (.tmp 83) (.tmp 86) rfl (B := w1.heap.size) (v := .slice ma n mk) (A := A) (e := (to', sq)) hb7.mr rfl hb7.bel.size (by omega) (M := (xL false to' sq)) (MC.single (a := (to', sq)) (ms_mL to' sq)) rfl (range_new w5 43 (xL false to' sq)) (fun v' w6 hm6 hg6 hv6 => ?_)
                    have h8 := hb7.row hm6 hg6 (.inr rfl) hv6
                    obtain ⟨a8, k8, rfl, hk8⟩ := hm6.slice
                    have H8 := hide h8
                    clear h8 hm6 hg6 hv6 hb7 hz0 hz1 hz2 hi hk8
                    have hl8 : (A ++ [(to', sq)]).length = n + 1 := by rw [List.length_append, ← unhide HnA]; rfl
                    rw [hl8] at H8 ⊢
                    simp only [Act.put, List.setIfInBounds_toArray, List.set_cons_zero, List.set_cons_succ]
                    refine list_to (d := 4) (v := .slice a8 (n + 1) k8) rfl rfl (by go_simp) ?_
                    simp only [Act.put, List.setIfInBounds_toArray, List.set_cons_zero, List.set_cons_succ]
                    go_wp2_with fail
                    go_meet
                    exact ⟨trivial, trivial, trivial, trivial, n + 1, k8, a8, A ++ [(to', sq)], rfl, by omega, hl8.symm, unhide H8⟩
                · have hmay' : mayS bad to' = false := by simpa using hmay
                  have HSd := hide (fun W (h : PS w1 W p sb (.slice ma n mk) A A ⟨what, i, to', sq, bad⟩) => ps_send_bad to' sq bad hmay' hsq (unhide HE) (unhide HP).1 (unhide HP).2 h)
                  have h3 := mayS_false hmay'
                  clear hmay hmay' hS0 HS
                  rcases q0 with rfl | rfl | rfl
                  all_goals
                    rcases h3 with rfl | ⟨rfl, t0⟩ | ⟨rfl, t0, t1⟩
                    all_goals
                      go_wp2_with (first
                        | (go_at_call 7; refine (unhide HM1 _ _).mono ?_; rintro e w3 ⟨rfl, hb3⟩; have H3 := hide ((unhide HS1).below hb3); clear hb3 HM1 HS1)
                        | (go_at_call 6; refine (unhide HSd _ (unhide H3)).mono ?_; rintro e w4 ⟨b4, rfl, h4, HC⟩; clear HSd; obtain ⟨e0, e1, e2, e3, e4⟩ := h4.sv.at; dsimp only at e0 e1 e2 e3 e4; have H4 := hide h4; clear h4 H3)
                        | (go_at_call 8; refine (unhide HC).mono ?_; rintro e w5 ⟨rfl, h5⟩; clear HC; have H5 := hide h5; clear h5))
                      go_meet
                      exact ⟨trivial, trivial, trivial, trivial, n, mk, ma, A, rfl, by omega, unhide HnA, unhide H5⟩
            by_cases q3 : what = 3
            · subst q3
              clear q0
              cases inb
              · obtain rfl := hw1 rfl
                have hbad : i < 0 ∨ (A.length : Int) ≤ i := by have := unhide HnA; simp at hinb; omega
                clear hinb hw0 hw1
                as_aux_lemma =>
                  have HB := hide (ns_bad i hbad hS0).1
                  have HC := hide (fun W b (h : PS w1 W p sb (.slice ma n mk) A A ⟨3, i, to', sq, bad⟩) (he : ErrAt W b i 40) => ps_class i 40 (unhide HE) h he)
                  clear hS0 HS hbad
                  go_wp2_with fail
                  refine (unhide HB).mono ?_
                  rintro e w4 ⟨b3, rfl, he3, h3⟩
                  clear HB
                  have HC3 := hide (unhide HC (w4.alloc (.cells zL.toArray 43)).drew b3 (h3.alloc _).drew (he3.alloc _).drew)
                  clear HC h3 he3
                  first | (rename_i K0 hK0; refine hK0 _ _ ?_) | (rename_i K0 hK0 hJ0; refine hK0 _ _ ?_)
                  refine list_to (d := 90) (v := .tuple #[.agg zL.toArray, ev b3]) rfl rfl (by go_simp) ?_
                  simp only [Act.put, List.setIfInBounds_toArray, List.set_cons_zero, List.set_cons_succ]
                  refine list_to (d := 95) (v := .agg zL.toArray) rfl rfl (by go_simp) ?_
                  simp only [Act.put, List.setIfInBounds_toArray, List.set_cons_zero, List.set_cons_succ]
                  refine list_to (d := 96) (v := ev b3) rfl rfl (by go_simp) ?_
                  simp only [Act.put, List.setIfInBounds_toArray, List.set_cons_zero, List.set_cons_succ]
                  refine wpList_alloc_new rfl 43 rfl zM (zero_of_info Tryz.zeroM).1 ?_
                  refine wpList_store_mid rfl 43 (.tmp 11) (.tmp 95) rfl w4.heap.size 0 zL.toArray rfl rfl (there_new w4 43 zM 23 rfl) Tryz.sizeM zL_one ?_
                  rw [List.toList_toArray, setCells_new w4 43 zM zL rfl]
                  generalize w4.alloc (.cells zL.toArray 43) = w5 at *
                  go_wp2_with fail
                  refine wp_region_held_drew (S := fun w' => True) (by kernel_rfl) trivial (fun hHeld => ?_)
                  refine hand_to (i := 0) (d := 97) (v := (ev b3)) rfl rfl (by kernel_rfl) (by kernel_rfl) (by kernel_rfl) (fun _ _ _ h => h) (Or.inl ⟨by rfl, ?_⟩) hHeld ?_
                  · (intro w' hSw; obtain _ := hSw; go_simp)
                  simp only [Act.put, List.setIfInBounds_toArray, List.set_cons_zero, List.set_cons_succ]
                  refine hand_to (i := 2) (d := 99) (v := (.int .i64 40)) rfl rfl (by kernel_rfl) (by kernel_rfl) (by kernel_rfl) (fun _ _ _ h => h) (Or.inl ⟨by rfl, ?_⟩) hHeld ?_
                  · (intro w' hSw; obtain _ := hSw; go_simp)
                  simp only [Act.put, List.setIfInBounds_toArray, List.set_cons_zero, List.set_cons_succ]
                  refine wpAnyH_ready (rs := [1]) (by kernel_rfl) (by simp) ?_
                  refine AllReadyH.cons rfl (fun K hK => ?_) AllReadyH.nil
                  go_simp
                  (go_at_call 8; refine (unhide HC3).mono ?_; rintro e w6 ⟨rfl, h6⟩; clear HC3; have H6 := hide h6; clear h6)
                  (go_wp2_with fail)
                  refine hK.out _ _ trivial (fun hHeld2 => ?_)
                  clear hK K hHeld
                  have hHeld := hHeld2
                  clear hHeld2
                  refine hand_to (i := 3) (d := 100) (v := (.bool false)) rfl rfl (by kernel_rfl) (by kernel_rfl) (by kernel_rfl) (fun _ _ _ h => h) (Or.inl ⟨by rfl, ?_⟩) hHeld ?_
                  · (intro w' hSw; obtain _ := hSw; go_simp)
                  simp only [Act.put, List.setIfInBounds_toArray, List.set_cons_zero, List.set_cons_succ]
                  refine hand_to (i := 4) (d := 101) (v := (.bool false)) rfl rfl (by kernel_rfl) (by kernel_rfl) (by kernel_rfl) (fun _ _ _ h => h) (Or.inl ⟨by rfl, ?_⟩) hHeld ?_
                  · (intro w' hSw; obtain _ := hSw; go_simp)
                  simp only [Act.put, List.setIfInBounds_toArray, List.set_cons_zero, List.set_cons_succ]
                  refine hand_to (i := 5) (d := 102) (v := (.bool false)) rfl rfl (by kernel_rfl) (by kernel_rfl) (by kernel_rfl) (fun _ _ _ h => h) (Or.inl ⟨by rfl, ?_⟩) hHeld ?_
                  · (intro w' hSw; obtain _ := hSw; go_simp)
                  simp only [Act.put, List.setIfInBounds_toArray, List.set_cons_zero, List.set_cons_succ]
                  refine hand_to (i := 6) (d := 103) (v := (.bool false)) rfl rfl (by kernel_rfl) (by kernel_rfl) (by kernel_rfl) (fun _ _ _ h => h) (Or.inl ⟨by rfl, ?_⟩) hHeld ?_
                  · (intro w' hSw; obtain _ := hSw; go_simp)
                  simp only [Act.put, List.setIfInBounds_toArray, List.set_cons_zero, List.set_cons_succ]
                  refine hand_to (i := 7) (d := 104) (v := undef) rfl rfl (by kernel_rfl) (by kernel_rfl) (by kernel_rfl) (fun _ _ _ h => h) (Or.inr ⟨by rfl, by rfl⟩) hHeld ?_
                  simp only [Act.put, List.setIfInBounds_toArray, List.set_cons_zero, List.set_cons_succ]
                  refine hand_to (i := 8) (d := 105) (v := undef) rfl rfl (by kernel_rfl) (by kernel_rfl) (by kernel_rfl) (fun _ _ _ h => h) (Or.inr ⟨by rfl, by rfl⟩) hHeld ?_
                  simp only [Act.put, List.setIfInBounds_toArray, List.set_cons_zero, List.set_cons_succ]
                  refine hand_to (i := 9) (d := 106) (v := undef) rfl rfl (by kernel_rfl) (by kernel_rfl) (by kernel_rfl) (fun _ _ _ h => h) (Or.inr ⟨by rfl, by rfl⟩) hHeld ?_
                  simp only [Act.put, List.setIfInBounds_toArray, List.set_cons_zero, List.set_cons_succ]
                  refine hand_to (i := 10) (d := 107) (v := undef) rfl rfl (by kernel_rfl) (by kernel_rfl) (by kernel_rfl) (fun _ _ _ h => h) (Or.inr ⟨by rfl, by rfl⟩) hHeld ?_
                  simp only [Act.put, List.setIfInBounds_toArray, List.set_cons_zero, List.set_cons_succ]
                  refine hand_to (i := 11) (d := 108) (v := undef) rfl rfl (by kernel_rfl) (by kernel_rfl) (by kernel_rfl) (fun _ _ _ h => h) (Or.inr ⟨by rfl, by rfl⟩) hHeld ?_
                  simp only [Act.put, List.setIfInBounds_toArray, List.set_cons_zero, List.set_cons_succ]
                  refine hand_to (i := 12) (d := 109) (v := undef) rfl rfl (by kernel_rfl) (by kernel_rfl) (by kernel_rfl) (fun _ _ _ h => h) (Or.inr ⟨by rfl, by rfl⟩) hHeld ?_
                  simp only [Act.put, List.setIfInBounds_toArray, List.set_cons_zero, List.set_cons_succ]
                  refine hand_to (i := 13) (d := 110) (v := undef) rfl rfl (by kernel_rfl) (by kernel_rfl) (by kernel_rfl) (fun _ _ _ h => h) (Or.inr ⟨by rfl, by rfl⟩) hHeld ?_
                  simp only [Act.put, List.setIfInBounds_toArray, List.set_cons_zero, List.set_cons_succ]
                  refine hand_to (i := 14) (d := 111) (v := undef) rfl rfl (by kernel_rfl) (by kernel_rfl) (by kernel_rfl) (fun _ _ _ h => h) (Or.inr ⟨by rfl, by rfl⟩) hHeld ?_
                  simp only [Act.put, List.setIfInBounds_toArray, List.set_cons_zero, List.set_cons_succ]
                  refine hand_to (i := 15) (d := 112) (v := undef) rfl rfl (by kernel_rfl) (by kernel_rfl) (by kernel_rfl) (fun _ _ _ h => h) (Or.inr ⟨by rfl, by rfl⟩) hHeld ?_
                  simp only [Act.put, List.setIfInBounds_toArray, List.set_cons_zero, List.set_cons_succ]
                  refine hand_to (i := 16) (d := 113) (v := (.bool false)) rfl rfl (by kernel_rfl) (by kernel_rfl) (by kernel_rfl) (fun _ _ _ h => h) (Or.inl ⟨by rfl, ?_⟩) hHeld ?_
                  · (intro w' hSw; obtain _ := hSw; go_simp)
                  simp only [Act.put, List.setIfInBounds_toArray, List.set_cons_zero, List.set_cons_succ]
                  refine hand_to (i := 17) (d := 114) (v := (.bool false)) rfl rfl (by kernel_rfl) (by kernel_rfl) (by kernel_rfl) (fun _ _ _ h => h) (Or.inl ⟨by rfl, ?_⟩) hHeld ?_
                  · (intro w' hSw; obtain _ := hSw; go_simp)
                  simp only [Act.put, List.setIfInBounds_toArray, List.set_cons_zero, List.set_cons_succ]
                  refine wpAnyH_done (by kernel_rfl) ?_ _
                  go_wp2_with fail
                  go_meet
                  exact ⟨trivial, trivial, trivial, trivial, n, mk, ma, A, rfl, by omega, unhide HnA, unhide H6⟩
              · obtain rfl := hw0 rfl
                obtain ⟨hi0, hi1⟩ : 0 ≤ i ∧ i < (n : Int) := hinb.1 rfl
                clear hinb hw0 hw1
                as_aux_lemma =>
                  obtain ⟨iq, rfl⟩ := Int.eq_ofNat_of_zero_le hi0
                  have hiq : iq < n := by omega
                  have ha : A[iq]? = some A[iq] := List.getElem?_eq_getElem (by have := unhide HnA; omega)
                  generalize A[iq] = a at ha
                  have Ha := hide ha
                  clear ha
                  have HD := hide (ps_take a (unhide HE) hS0 (unhide Ha))
                  clear hS0 HS
                  go_wp2_with fail
                  refine (unhide HD).mono ?_
                  rintro e w4 ⟨M, rfl, hM, h4⟩
                  clear HD
                  have HW := hide (h4.alloc (.cells M.toArray 43))
                  clear h4
                  first | (rename_i K0 hK0; refine hK0 _ _ ?_) | (rename_i K0 hK0 hJ0; refine hK0 _ _ ?_)
                  refine list_to (d := 90) (v := .tuple #[.agg M.toArray, .nilIface]) rfl rfl (by go_simp) ?_
                  simp only [Act.put, List.setIfInBounds_toArray, List.set_cons_zero, List.set_cons_succ]
                  refine list_to (d := 95) (v := .agg M.toArray) rfl rfl (by go_simp) ?_
                  simp only [Act.put, List.setIfInBounds_toArray, List.set_cons_zero, List.set_cons_succ]
                  refine list_to (d := 96) (v := .nilIface) rfl rfl (by go_simp) ?_
                  simp only [Act.put, List.setIfInBounds_toArray, List.set_cons_zero, List.set_cons_succ]
                  refine wpList_alloc_new rfl 43 rfl zM (zero_of_info Tryz.zeroM).1 ?_
                  refine wpList_store_mid rfl 43 (.tmp 11) (.tmp 95) rfl w4.heap.size 0 M.toArray rfl rfl (hM.there (there_new w4 43 zM 23 rfl)).1 hM.sizeA (all_oneCell_toArray hM.one) ?_
                  rw [List.toList_toArray, setCells_new w4 43 zM M (by rw [hM.len]; rfl)]
                  have Sw5 := ms_seq (w := w4) hM
                  have Tw5 := ms_to (w := w4) hM
                  have zw5 : (w4.alloc (.cells M.toArray 43)).heap.size = w4.heap.size + 1 := by simp
                  generalize w4.alloc (.cells M.toArray 43) = w5 at *
                  obtain ⟨g, k, hv, hk, _, y2, y14⟩ := (unhide HW).mr.cell (unhide Ha)
                  injection hv with hv1 hv2 hv3
                  subst hv1 hv3
                  have hkn : n ≤ mk := by omega
                  have x1 : w5.cell? ⟨sb, 1, none⟩ = some (.int .i64 (iq : Int)) := (unhide HW).sv.at.2.1
                  generalize w4.heap.size = xb at *
                  clear hv2 hk zw5 hM y2 Tw5
                  generalize a.2 = an' at *
                  go_wp2_with fail
                  refine wp_region_held_drew (S := fun w' => w'.cell? ⟨xb, 14, none⟩ = some (.int .u64 (an' : Int)) ∧ w'.cell? ⟨sb, 1, none⟩ = some (.int .i64 (iq : Int)) ∧ w'.cell? ⟨g, iq * 23 + 14, none⟩ = some (.int .u64 (an' : Int))) (by kernel_rfl) ⟨Sw5, x1, y14⟩ (fun hHeld => ?_)
                  refine hand_to (i := 0) (d := 97) (v := .nilIface) rfl rfl (by kernel_rfl) (by kernel_rfl) (by kernel_rfl) (fun _ _ _ h => h) (Or.inl ⟨by rfl, ?_⟩) hHeld ?_
                  · (intro w' hSw; obtain ⟨z1, z2, z3⟩ := hSw; go_simp)
                  simp only [Act.put, List.setIfInBounds_toArray, List.set_cons_zero, List.set_cons_succ]
                  refine hand_to (i := 2) (d := 99) (v := (.int .i64 0)) rfl rfl (by kernel_rfl) (by kernel_rfl) (by kernel_rfl) (fun _ _ _ h => h) (Or.inl ⟨by rfl, ?_⟩) hHeld ?_
                  · (intro w' hSw; obtain ⟨z1, z2, z3⟩ := hSw; go_simp)
                  simp only [Act.put, List.setIfInBounds_toArray, List.set_cons_zero, List.set_cons_succ]
                  refine wpAnyH_ready (rs := [1]) (by kernel_rfl) (by simp) ?_
                  refine AllReadyH.cons rfl (fun K hK => ?_) AllReadyH.nil
                  go_simp
                  (go_at_call 8; refine (class_nil _).mono ?_; rintro e w6 ⟨rfl, rfl⟩)
                  (go_wp2_with fail)
                  refine hK.out _ _ hHeld (fun hHeld2 => ?_)
                  clear hK K hHeld
                  have hHeld := hHeld2
                  clear hHeld2
                  refine hand_to (i := 3) (d := 100) (v := (.bool false)) rfl rfl (by kernel_rfl) (by kernel_rfl) (by kernel_rfl) (fun _ _ _ h => h) (Or.inl ⟨by rfl, ?_⟩) hHeld ?_
                  · (intro w' hSw; obtain ⟨z1, z2, z3⟩ := hSw; go_simp)
                  simp only [Act.put, List.setIfInBounds_toArray, List.set_cons_zero, List.set_cons_succ]
                  refine hand_to (i := 4) (d := 101) (v := (.bool false)) rfl rfl (by kernel_rfl) (by kernel_rfl) (by kernel_rfl) (fun _ _ _ h => h) (Or.inl ⟨by rfl, ?_⟩) hHeld ?_
                  · (intro w' hSw; obtain ⟨z1, z2, z3⟩ := hSw; go_simp)
                  simp only [Act.put, List.setIfInBounds_toArray, List.set_cons_zero, List.set_cons_succ]
                  refine hand_to (i := 5) (d := 102) (v := (.bool true)) rfl rfl (by kernel_rfl) (by kernel_rfl) (by kernel_rfl) (fun _ _ _ h => h) (Or.inl ⟨by rfl, ?_⟩) hHeld ?_
                  · (intro w' hSw; obtain ⟨z1, z2, z3⟩ := hSw; go_simp)
                  simp only [Act.put, List.setIfInBounds_toArray, List.set_cons_zero, List.set_cons_succ]
                  refine hand_to (i := 6) (d := 103) (v := (.bool true)) rfl rfl (by kernel_rfl) (by kernel_rfl) (by kernel_rfl) (fun _ _ _ h => h) (Or.inl ⟨by rfl, ?_⟩) hHeld ?_
                  · (intro w' hSw; obtain ⟨z1, z2, z3⟩ := hSw; go_simp)
                  simp only [Act.put, List.setIfInBounds_toArray, List.set_cons_zero, List.set_cons_succ]
                  refine hand_to (i := 7) (d := 104) (v := (.pointer (some ⟨xb, 14, none⟩))) rfl rfl (by kernel_rfl) (by kernel_rfl) (by kernel_rfl) (fun _ _ _ h => h) (Or.inl ⟨by rfl, ?_⟩) hHeld ?_
                  · (intro w' hSw; obtain ⟨z1, z2, z3⟩ := hSw; go_simp)
                  simp only [Act.put, List.setIfInBounds_toArray, List.set_cons_zero, List.set_cons_succ]
                  refine hand_to (i := 8) (d := 105) (v := (.int .u64 (an' : Int))) rfl rfl (by kernel_rfl) (by kernel_rfl) (by kernel_rfl) (fun _ _ _ h => h) (Or.inl ⟨by rfl, ?_⟩) hHeld ?_
                  · (intro w' hSw; obtain ⟨z1, z2, z3⟩ := hSw; go_simp)
                  simp only [Act.put, List.setIfInBounds_toArray, List.set_cons_zero, List.set_cons_succ]
                  refine hand_to (i := 9) (d := 106) (v := (.slice (some ⟨g, 0, none⟩) n mk)) rfl rfl (by kernel_rfl) (by kernel_rfl) (by kernel_rfl) (fun _ _ _ h => h) (Or.inl ⟨by rfl, ?_⟩) hHeld ?_
                  · (intro w' hSw; obtain ⟨z1, z2, z3⟩ := hSw; go_simp)
                  simp only [Act.put, List.setIfInBounds_toArray, List.set_cons_zero, List.set_cons_succ]
                  refine hand_to (i := 10) (d := 107) (v := (.pointer (some ⟨sb, 1, none⟩))) rfl rfl (by kernel_rfl) (by kernel_rfl) (by kernel_rfl) (fun _ _ _ h => h) (Or.inl ⟨by rfl, ?_⟩) hHeld ?_
                  · (intro w' hSw; obtain ⟨z1, z2, z3⟩ := hSw; go_simp)
                  simp only [Act.put, List.setIfInBounds_toArray, List.set_cons_zero, List.set_cons_succ]
                  refine hand_to (i := 11) (d := 108) (v := (.int .i64 (iq : Int))) rfl rfl (by kernel_rfl) (by kernel_rfl) (by kernel_rfl) (fun _ _ _ h => h) (Or.inl ⟨by rfl, ?_⟩) hHeld ?_
                  · (intro w' hSw; obtain ⟨z1, z2, z3⟩ := hSw; go_simp)
                  simp only [Act.put, List.setIfInBounds_toArray, List.set_cons_zero, List.set_cons_succ]
                  refine hand_to (i := 12) (d := 109) (v := (.pointer (some ⟨g, iq * 23, none⟩))) rfl rfl (by kernel_rfl) (by kernel_rfl) (by kernel_rfl) (fun _ _ _ h => h) (Or.inl ⟨by rfl, ?_⟩) hHeld ?_
                  · (intro w' hSw; obtain ⟨z1, z2, z3⟩ := hSw; go_simp)
                  simp only [Act.put, List.setIfInBounds_toArray, List.set_cons_zero, List.set_cons_succ]
                  refine hand_to (i := 13) (d := 110) (v := (.pointer (some ⟨g, iq * 23 + 14, none⟩))) rfl rfl (by kernel_rfl) (by kernel_rfl) (by kernel_rfl) (fun _ _ _ h => h) (Or.inl ⟨by rfl, ?_⟩) hHeld ?_
                  · (intro w' hSw; obtain ⟨z1, z2, z3⟩ := hSw; go_simp)
                  simp only [Act.put, List.setIfInBounds_toArray, List.set_cons_zero, List.set_cons_succ]
                  refine hand_to (i := 14) (d := 111) (v := (.int .u64 (an' : Int))) rfl rfl (by kernel_rfl) (by kernel_rfl) (by kernel_rfl) (fun _ _ _ h => h) (Or.inl ⟨by rfl, ?_⟩) hHeld ?_
                  · (intro w' hSw; obtain ⟨z1, z2, z3⟩ := hSw; go_simp)
                  simp only [Act.put, List.setIfInBounds_toArray, List.set_cons_zero, List.set_cons_succ]
                  refine hand_to (i := 15) (d := 112) (v := (.bool false)) rfl rfl (by kernel_rfl) (by kernel_rfl) (by kernel_rfl) (fun _ _ _ h => h) (Or.inl ⟨by rfl, ?_⟩) hHeld ?_
                  · (intro w' hSw; obtain ⟨z1, z2, z3⟩ := hSw; go_simp)
                  simp only [Act.put, List.setIfInBounds_toArray, List.set_cons_zero, List.set_cons_succ]
                  refine hand_to (i := 16) (d := 113) (v := (.bool false)) rfl rfl (by kernel_rfl) (by kernel_rfl) (by kernel_rfl) (fun _ _ _ h => h) (Or.inl ⟨by rfl, ?_⟩) hHeld ?_
                  · (intro w' hSw; obtain ⟨z1, z2, z3⟩ := hSw; go_simp)
                  simp only [Act.put, List.setIfInBounds_toArray, List.set_cons_zero, List.set_cons_succ]
                  refine hand_to (i := 17) (d := 114) (v := (.bool false)) rfl rfl (by kernel_rfl) (by kernel_rfl) (by kernel_rfl) (fun _ _ _ h => h) (Or.inl ⟨by rfl, ?_⟩) hHeld ?_
                  · (intro w' hSw; obtain ⟨z1, z2, z3⟩ := hSw; go_simp)
                  simp only [Act.put, List.setIfInBounds_toArray, List.set_cons_zero, List.set_cons_succ]
                  refine wpAnyH_done (by kernel_rfl) ?_ _
                  have HW5 := hide (unhide HW).drew
                  clear HW
                  have HW := HW5
                  clear HW5 y14 Sw5 x1
                  generalize w5.drew = w6 at *
                  go_wp2_with fail
                  have hwi : IntKind.i64.wrap ((iq : Int) + 1) = (iq : Int) + 1 := by rw [IntKind.wrap_i64] <;> omega
                  have hp0 : (0 : Int) ≤ (iq : Int) + 1 := by omega
                  have hp2 : ((iq : Int) + 1).toNat = iq + 1 := by omega
                  have hi2 : (iq : Int) + 1 ≤ (n : Int) := by omega
                  have hcap' : (n : Int) ≤ (mk : Int) := by omega
                  have hic : (iq : Int) ≤ (mk : Int) := by omega
                  have hic2 : (iq : Int) ≤ (n : Int) := by omega
                  obtain ⟨off', hofe, hof⟩ : ∃ off', (if mk = iq + 1 then some (⟨g, 0, none⟩ : Addr) else some ⟨g, (iq + 1) * 23, none⟩) = some ⟨g, off', none⟩ ∧ (off' = (iq + 1) * 23 ∨ A.length = iq + 1) := by
                    have := unhide HnA
                    split
                    · exact ⟨0, rfl, .inr (by omega)⟩
                    · exact ⟨_, rfl, .inl rfl⟩
                  have Hof := hide hof
                  have HX := hide (unhide HW).drew
                  have HMR := hide ((unhide HX).mr)
                  rw [unhide HnA] at HMR
                  have HBz := hide (unhide HX).bel.size
                  have x1 : w6.cell? ⟨sb, 1, none⟩ = some (.int .i64 (iq : Int)) := (unhide HW).sv.at.2.1
                  clear hof HW
                  refine wp_region_held_drew (S := fun w' => w'.cell? ⟨sb, 1, none⟩ = some (.int .i64 (iq : Int))) (by kernel_rfl) x1 (fun hHeld => ?_)
                  refine hand_to (i := 0) (d := 116) (v := (.slice (some ⟨g, 0, none⟩) n mk)) rfl rfl (by kernel_rfl) (by kernel_rfl) (by kernel_rfl) (fun _ _ _ h => h) (Or.inl ⟨by rfl, ?_⟩) hHeld ?_
                  · (intro w' hSw; obtain z1 := hSw; go_simp)
                  simp only [Act.put, List.setIfInBounds_toArray, List.set_cons_zero, List.set_cons_succ]
                  refine hand_to (i := 1) (d := 117) (v := (.pointer (some ⟨sb, 1, none⟩))) rfl rfl (by kernel_rfl) (by kernel_rfl) (by kernel_rfl) (fun _ _ _ h => h) (Or.inl ⟨by rfl, ?_⟩) hHeld ?_
                  · (intro w' hSw; obtain z1 := hSw; go_simp)
                  simp only [Act.put, List.setIfInBounds_toArray, List.set_cons_zero, List.set_cons_succ]
                  refine hand_to (i := 2) (d := 118) (v := (.int .i64 (iq : Int))) rfl rfl (by kernel_rfl) (by kernel_rfl) (by kernel_rfl) (fun _ _ _ h => h) (Or.inl ⟨by rfl, ?_⟩) hHeld ?_
                  · (intro w' hSw; obtain z1 := hSw; go_simp)
                  simp only [Act.put, List.setIfInBounds_toArray, List.set_cons_zero, List.set_cons_succ]
                  refine hand_to (i := 3) (d := 119) (v := (.pointer (some ⟨sb, 1, none⟩))) rfl rfl (by kernel_rfl) (by kernel_rfl) (by kernel_rfl) (fun _ _ _ h => h) (Or.inl ⟨by rfl, ?_⟩) hHeld ?_
                  · (intro w' hSw; obtain z1 := hSw; go_simp)
                  simp only [Act.put, List.setIfInBounds_toArray, List.set_cons_zero, List.set_cons_succ]
                  refine hand_to (i := 4) (d := 120) (v := (.int .i64 (iq : Int))) rfl rfl (by kernel_rfl) (by kernel_rfl) (by kernel_rfl) (fun _ _ _ h => h) (Or.inl ⟨by rfl, ?_⟩) hHeld ?_
                  · (intro w' hSw; obtain z1 := hSw; go_simp)
                  simp only [Act.put, List.setIfInBounds_toArray, List.set_cons_zero, List.set_cons_succ]
                  refine hand_to (i := 5) (d := 121) (v := (.slice (some ⟨g, 0, none⟩) iq iq)) rfl rfl (by kernel_rfl) (by kernel_rfl) (by kernel_rfl) (fun _ _ _ h => h) (Or.inl ⟨by rfl, ?_⟩) hHeld ?_
                  · (intro w' hSw; obtain z1 := hSw; go_simp)
                  simp only [Act.put, List.setIfInBounds_toArray, List.set_cons_zero, List.set_cons_succ]
                  refine hand_to (i := 6) (d := 122) (v := (.slice (some ⟨g, 0, none⟩) n mk)) rfl rfl (by kernel_rfl) (by kernel_rfl) (by kernel_rfl) (fun _ _ _ h => h) (Or.inl ⟨by rfl, ?_⟩) hHeld ?_
                  · (intro w' hSw; obtain z1 := hSw; go_simp)
                  simp only [Act.put, List.setIfInBounds_toArray, List.set_cons_zero, List.set_cons_succ]
                  refine hand_to (i := 7) (d := 123) (v := (.pointer (some ⟨sb, 1, none⟩))) rfl rfl (by kernel_rfl) (by kernel_rfl) (by kernel_rfl) (fun _ _ _ h => h) (Or.inl ⟨by rfl, ?_⟩) hHeld ?_
                  · (intro w' hSw; obtain z1 := hSw; go_simp)
                  simp only [Act.put, List.setIfInBounds_toArray, List.set_cons_zero, List.set_cons_succ]
                  refine hand_to (i := 8) (d := 124) (v := (.int .i64 (iq : Int))) rfl rfl (by kernel_rfl) (by kernel_rfl) (by kernel_rfl) (fun _ _ _ h => h) (Or.inl ⟨by rfl, ?_⟩) hHeld ?_
                  · (intro w' hSw; obtain z1 := hSw; go_simp)
                  simp only [Act.put, List.setIfInBounds_toArray, List.set_cons_zero, List.set_cons_succ]
                  refine hand_to (i := 9) (d := 125) (v := (.int .i64 ((iq : Int) + 1))) rfl rfl (by kernel_rfl) (by kernel_rfl) (by kernel_rfl) (fun _ _ _ h => h) (Or.inl ⟨by rfl, ?_⟩) hHeld ?_
                  · (intro w' hSw; obtain z1 := hSw; go_simp)
                  simp only [Act.put, List.setIfInBounds_toArray, List.set_cons_zero, List.set_cons_succ]
                  refine hand_to (i := 10) (d := 126) (v := (.slice (some ⟨g, off', none⟩) (n - (iq + 1)) (mk - (iq + 1)))) rfl rfl (by kernel_rfl) (by kernel_rfl) (by kernel_rfl) (fun _ _ _ h => h) (Or.inl ⟨by rfl, ?_⟩) hHeld ?_
                  · (intro w' hSw; obtain z1 := hSw; go_simp <;> (first | exact hofe | simp [hofe]))
                  simp only [Act.put, List.setIfInBounds_toArray, List.set_cons_zero, List.set_cons_succ]
                  refine wpAnyH_ready (rs := [11]) (by kernel_rfl) (by simp) ?_
                  refine AllReadyH.cons rfl (fun K hK => ?_) AllReadyH.nil
                  refine step_cut (d := 127) rfl rfl (.tmp 121) (.tmp 126) rfl (B := w1.heap.size) (g := g) (k := mk) (i := iq) (off := off') (c := mk - (iq + 1)) (A := A) (unhide HMR) (unhide HBz) (by omega) (by have := unhide HnA; omega) rfl (by rw [← unhide HnA]; rfl) (unhide Hof) (fun v' w6 hm6 hg6 hv6 => ?_)
                  have h8 := (unhide HX).row hm6 hg6 (.inl rfl) (fun q hq => (hv6 q hq).imp (fun e => by rw [e]; rfl) id)
                  obtain ⟨a8, k8, rfl, hk8⟩ := hm6.slice
                  have H8 := hide h8
                  have hl8 : (A.eraseIdx iq).length = n - 1 := by rw [List.length_eraseIdx, ← unhide HnA, if_pos (by omega)]
                  rw [hl8] at H8 ⊢
                  refine hK.out _ _ h8.sv.at.2.1 (fun hHeld2 => ?_)
                  clear hK K hHeld h8 hm6 hg6 hv6 hk8
                  have hHeld := hHeld2
                  clear hHeld2
                  simp only [Act.put, List.setIfInBounds_toArray, List.set_cons_zero, List.set_cons_succ]
                  refine hand_to (i := 12) (d := 4) (v := (.slice a8 (n - 1) k8)) rfl rfl (by kernel_rfl) (by kernel_rfl) (by kernel_rfl) (fun _ _ _ h => h) (Or.inl ⟨by rfl, ?_⟩) hHeld ?_
                  · (intro w' hSw; obtain z1 := hSw; go_simp)
                  simp only [Act.put, List.setIfInBounds_toArray, List.set_cons_zero, List.set_cons_succ]
                  refine wpAnyH_done (by kernel_rfl) ?_ _
                  go_wp2_with fail
                  go_meet
                  exact ⟨trivial, trivial, trivial, trivial, n - 1, k8, a8, A.eraseIdx iq, rfl, by omega, hl8.symm, unhide H8⟩
            by_cases q4 : what = 4
            · subst q4
              clear q0 q3
              cases inb
              · obtain rfl := hw1 rfl
                have hbad : i < 0 ∨ (A.length : Int) ≤ i := by have := unhide HnA; simp at hinb; omega
                clear hinb hw0 hw1
                as_aux_lemma =>
                  have HB := hide (ns_bad i hbad hS0).2.1
                  have HC := hide (fun W b (h : PS w1 W p sb (.slice ma n mk) A A ⟨4, i, to', sq, bad⟩) (he : ErrAt W b i 40) => ps_class i 40 (unhide HE) h he)
                  clear hS0 HS hbad
                  go_wp2_with (first
                    | (go_at_call 10; refine (unhide HB).mono ?_; rintro e w3 ⟨b3, rfl, he3, h3⟩; clear HB; have HC3 := hide (unhide HC w3 b3 h3 he3); clear HC h3 he3)
                    | (go_at_call 8; refine (unhide HC3).mono ?_; rintro e w4 ⟨rfl, h4⟩; clear HC3; have H4 := hide h4; clear h4))
                  go_meet
                  exact ⟨trivial, trivial, trivial, trivial, n, mk, ma, A, rfl, by omega, unhide HnA, unhide H4⟩
              · obtain rfl := hw0 rfl
                obtain ⟨hi0, hi1⟩ : 0 ≤ i ∧ i < (n : Int) := hinb.1 rfl
                clear hinb hw0 hw1
                as_aux_lemma =>
                  obtain ⟨iq, rfl⟩ := Int.eq_ofNat_of_zero_le hi0
                  have hiq : iq < n := by omega
                  have ha : A[iq]? = some A[iq] := List.getElem?_eq_getElem (by have := unhide HnA; omega)
                  generalize A[iq] = a at ha
                  have Ha := hide ha
                  clear ha
                  have HD := hide (ps_drop a hS0 (unhide Ha))
                  clear hS0 HS
                  go_wp2_with (first
                    | (go_at_call 10; refine (unhide HD).mono ?_; rintro e w3 ⟨rfl, h3⟩; clear HD; have HW := hide h3; clear h3)
                    | (go_at_call 8; refine (class_nil _).mono ?_; rintro e w4 ⟨rfl, rfl⟩))
                  obtain ⟨g, k, hv, hk, _, y2, y14⟩ := (unhide HW).mr.cell (unhide Ha)
                  injection hv with hv1 hv2 hv3
                  subst hv1 hv3
                  have hwi : IntKind.i64.wrap ((iq : Int) + 1) = (iq : Int) + 1 := by rw [IntKind.wrap_i64] <;> omega
                  have hp0 : (0 : Int) ≤ (iq : Int) + 1 := by omega
                  have hp2 : ((iq : Int) + 1).toNat = iq + 1 := by omega
                  have hi2 : (iq : Int) + 1 ≤ (n : Int) := by omega
                  have hkn : n ≤ mk := by omega
                  have hcap' : (n : Int) ≤ (mk : Int) := by omega
                  have hic : (iq : Int) ≤ (mk : Int) := by omega
                  have hic2 : (iq : Int) ≤ (n : Int) := by omega
                  obtain ⟨off', hofe, hof⟩ : ∃ off', (if mk = iq + 1 then some (⟨g, 0, none⟩ : Addr) else some ⟨g, (iq + 1) * 23, none⟩) = some ⟨g, off', none⟩ ∧ (off' = (iq + 1) * 23 ∨ A.length = iq + 1) := by
                    have := unhide HnA
                    split
                    · exact ⟨0, rfl, .inr (by omega)⟩
                    · exact ⟨_, rfl, .inl rfl⟩
                  have Hof := hide hof
                  have HX := hide (unhide HW).drew
                  have HMR := hide ((unhide HX).mr)
                  rw [unhide HnA] at HMR
                  have HBz := hide (unhide HX).bel.size
                  have x1 : w4.cell? ⟨sb, 1, none⟩ = some (.int .i64 (iq : Int)) := (unhide HW).sv.at.2.1
                  clear hof hv2 hk y2 HW
                  clear y14
                  refine wp_region_held_drew (S := fun w' => w'.cell? ⟨sb, 1, none⟩ = some (.int .i64 (iq : Int))) (by kernel_rfl) x1 (fun hHeld => ?_)
                  refine hand_to (i := 0) (d := 138) (v := (.slice (some ⟨g, 0, none⟩) n mk)) rfl rfl (by kernel_rfl) (by kernel_rfl) (by kernel_rfl) (fun _ _ _ h => h) (Or.inl ⟨by rfl, ?_⟩) hHeld ?_
                  · (intro w' hSw; obtain z1 := hSw; go_simp)
                  simp only [Act.put, List.setIfInBounds_toArray, List.set_cons_zero, List.set_cons_succ]
                  refine hand_to (i := 1) (d := 139) (v := (.pointer (some ⟨sb, 1, none⟩))) rfl rfl (by kernel_rfl) (by kernel_rfl) (by kernel_rfl) (fun _ _ _ h => h) (Or.inl ⟨by rfl, ?_⟩) hHeld ?_
                  · (intro w' hSw; obtain z1 := hSw; go_simp)
                  simp only [Act.put, List.setIfInBounds_toArray, List.set_cons_zero, List.set_cons_succ]
                  refine hand_to (i := 2) (d := 140) (v := (.int .i64 (iq : Int))) rfl rfl (by kernel_rfl) (by kernel_rfl) (by kernel_rfl) (fun _ _ _ h => h) (Or.inl ⟨by rfl, ?_⟩) hHeld ?_
                  · (intro w' hSw; obtain z1 := hSw; go_simp)
                  simp only [Act.put, List.setIfInBounds_toArray, List.set_cons_zero, List.set_cons_succ]
                  refine hand_to (i := 3) (d := 141) (v := (.pointer (some ⟨sb, 1, none⟩))) rfl rfl (by kernel_rfl) (by kernel_rfl) (by kernel_rfl) (fun _ _ _ h => h) (Or.inl ⟨by rfl, ?_⟩) hHeld ?_
                  · (intro w' hSw; obtain z1 := hSw; go_simp)
                  simp only [Act.put, List.setIfInBounds_toArray, List.set_cons_zero, List.set_cons_succ]
                  refine hand_to (i := 4) (d := 142) (v := (.int .i64 (iq : Int))) rfl rfl (by kernel_rfl) (by kernel_rfl) (by kernel_rfl) (fun _ _ _ h => h) (Or.inl ⟨by rfl, ?_⟩) hHeld ?_
                  · (intro w' hSw; obtain z1 := hSw; go_simp)
                  simp only [Act.put, List.setIfInBounds_toArray, List.set_cons_zero, List.set_cons_succ]
                  refine hand_to (i := 5) (d := 143) (v := (.slice (some ⟨g, 0, none⟩) iq iq)) rfl rfl (by kernel_rfl) (by kernel_rfl) (by kernel_rfl) (fun _ _ _ h => h) (Or.inl ⟨by rfl, ?_⟩) hHeld ?_
                  · (intro w' hSw; obtain z1 := hSw; go_simp)
                  simp only [Act.put, List.setIfInBounds_toArray, List.set_cons_zero, List.set_cons_succ]
                  refine hand_to (i := 6) (d := 144) (v := (.slice (some ⟨g, 0, none⟩) n mk)) rfl rfl (by kernel_rfl) (by kernel_rfl) (by kernel_rfl) (fun _ _ _ h => h) (Or.inl ⟨by rfl, ?_⟩) hHeld ?_
                  · (intro w' hSw; obtain z1 := hSw; go_simp)
                  simp only [Act.put, List.setIfInBounds_toArray, List.set_cons_zero, List.set_cons_succ]
                  refine hand_to (i := 7) (d := 145) (v := (.pointer (some ⟨sb, 1, none⟩))) rfl rfl (by kernel_rfl) (by kernel_rfl) (by kernel_rfl) (fun _ _ _ h => h) (Or.inl ⟨by rfl, ?_⟩) hHeld ?_
                  · (intro w' hSw; obtain z1 := hSw; go_simp)
                  simp only [Act.put, List.setIfInBounds_toArray, List.set_cons_zero, List.set_cons_succ]
                  refine hand_to (i := 8) (d := 146) (v := (.int .i64 (iq : Int))) rfl rfl (by kernel_rfl) (by kernel_rfl) (by kernel_rfl) (fun _ _ _ h => h) (Or.inl ⟨by rfl, ?_⟩) hHeld ?_
                  · (intro w' hSw; obtain z1 := hSw; go_simp)
                  simp only [Act.put, List.setIfInBounds_toArray, List.set_cons_zero, List.set_cons_succ]
                  refine hand_to (i := 9) (d := 147) (v := (.int .i64 ((iq : Int) + 1))) rfl rfl (by kernel_rfl) (by kernel_rfl) (by kernel_rfl) (fun _ _ _ h => h) (Or.inl ⟨by rfl, ?_⟩) hHeld ?_
                  · (intro w' hSw; obtain z1 := hSw; go_simp)
                  simp only [Act.put, List.setIfInBounds_toArray, List.set_cons_zero, List.set_cons_succ]
                  refine hand_to (i := 10) (d := 148) (v := (.slice (some ⟨g, off', none⟩) (n - (iq + 1)) (mk - (iq + 1)))) rfl rfl (by kernel_rfl) (by kernel_rfl) (by kernel_rfl) (fun _ _ _ h => h) (Or.inl ⟨by rfl, ?_⟩) hHeld ?_
                  · (intro w' hSw; obtain z1 := hSw; go_simp <;> (first | exact hofe | simp [hofe]))
                  simp only [Act.put, List.setIfInBounds_toArray, List.set_cons_zero, List.set_cons_succ]
                  refine wpAnyH_ready (rs := [11]) (by kernel_rfl) (by simp) ?_
                  refine AllReadyH.cons rfl (fun K hK => ?_) AllReadyH.nil
                  refine step_cut (d := 149) rfl rfl (.tmp 143) (.tmp 148) rfl (B := w1.heap.size) (g := g) (k := mk) (i := iq) (off := off') (c := mk - (iq + 1)) (A := A) (unhide HMR) (unhide HBz) (by omega) (by have := unhide HnA; omega) rfl (by rw [← unhide HnA]; rfl) (unhide Hof) (fun v' w6 hm6 hg6 hv6 => ?_)
                  have h8 := (unhide HX).row hm6 hg6 (.inl rfl) (fun q hq => (hv6 q hq).imp (fun e => by rw [e]; rfl) id)
                  obtain ⟨a8, k8, rfl, hk8⟩ := hm6.slice
                  have H8 := hide h8
                  have hl8 : (A.eraseIdx iq).length = n - 1 := by rw [List.length_eraseIdx, ← unhide HnA, if_pos (by omega)]
                  rw [hl8] at H8 ⊢
                  refine hK.out _ _ h8.sv.at.2.1 (fun hHeld2 => ?_)
                  clear hK K hHeld h8 hm6 hg6 hv6 hk8
                  have hHeld := hHeld2
                  clear hHeld2
                  simp only [Act.put, List.setIfInBounds_toArray, List.set_cons_zero, List.set_cons_succ]
                  refine hand_to (i := 12) (d := 4) (v := (.slice a8 (n - 1) k8)) rfl rfl (by kernel_rfl) (by kernel_rfl) (by kernel_rfl) (fun _ _ _ h => h) (Or.inl ⟨by rfl, ?_⟩) hHeld ?_
                  · (intro w' hSw; obtain z1 := hSw; go_simp)
                  simp only [Act.put, List.setIfInBounds_toArray, List.set_cons_zero, List.set_cons_succ]
                  refine wpAnyH_done (by kernel_rfl) ?_ _
                  go_wp2_with fail
                  go_meet
                  exact ⟨trivial, trivial, trivial, trivial, n - 1, k8, a8, A.eraseIdx iq, rfl, by omega, hl8.symm, unhide H8⟩
            by_cases q5 : what = 5
            · subst q5
              clear q0 q3 q4
              cases inb
              · obtain rfl := hw1 rfl
                have hbad : i < 0 ∨ (A.length : Int) ≤ i := by have := unhide HnA; simp at hinb; omega
                clear hinb hw0 hw1
                as_aux_lemma =>
                  have HB := hide (ns_bad i hbad hS0).2.2
                  have HC := hide (fun W b (h : PS w1 W p sb (.slice ma n mk) A A ⟨5, i, to', sq, bad⟩) (he : ErrAt W b i 40) => ps_class i 40 (unhide HE) h he)
                  clear hS0 HS hbad
                  go_wp2_with (first
                    | (go_at_call 11; refine (unhide HB).mono ?_; rintro e w3 ⟨b3, rfl, he3, h3⟩; clear HB; have HC3 := hide (unhide HC w3 b3 h3 he3); clear HC h3 he3)
                    | (go_at_call 8; refine (unhide HC3).mono ?_; rintro e w4 ⟨rfl, h4⟩; clear HC3; have H4 := hide h4; clear h4))
                  go_meet
                  exact ⟨trivial, trivial, trivial, trivial, n, mk, ma, A, rfl, by omega, unhide HnA, unhide H4⟩
              · obtain rfl := hw0 rfl
                obtain ⟨hi0, hi1⟩ : 0 ≤ i ∧ i < (n : Int) := hinb.1 rfl
                clear hinb hw0 hw1
                as_aux_lemma =>
                  obtain ⟨iq, rfl⟩ := Int.eq_ofNat_of_zero_le hi0
                  have hiq : iq < n := by omega
                  have ha : A[iq]? = some A[iq] := List.getElem?_eq_getElem (by have := unhide HnA; omega)
                  generalize A[iq] = a at ha
                  have Ha := hide ha
                  clear ha
                  have HD := hide (ps_copy a hS0 (unhide Ha) (by omega))
                  clear hS0 HS
                  go_upto_region 40 with (first
                    | (go_at_call 11; refine (unhide HD).mono ?_; rintro e w3 ⟨rfl, h3⟩; clear HD; have HW := hide h3; clear h3)
                    | (go_at_call 8; refine (class_nil _).mono ?_; rintro e w4 ⟨rfl, rfl⟩))
                  obtain ⟨M, hMl, hM1, hM2, hM14, g, k, hv, hk, _, hrg⟩ := (unhide HW).mr.whole (unhide Ha)
                  injection hv with hv1 hv2 hv3
                  subst hv1 hv3
                  clear hv2 hk
                  have x1 : w4.cell? ⟨sb, 1, none⟩ = some (.int .i64 (iq : Int)) := (unhide HW).sv.at.2.1
                  have hMC : MC M [a] := mc_of hMl hM1 hM2 hM14
                  have hsz : (Tryz.prog.info? 43).map (·.size) = some M.length := by rw [hMl]; exact Tryz.sizeM
                  refine wp_region_list ?_
                  refine list_to (d := 160) (v := (.slice (some ⟨g, 0, none⟩) n mk)) rfl rfl (by go_simp) ?_
                  simp only [Act.put, List.setIfInBounds_toArray, List.set_cons_zero, List.set_cons_succ]
                  refine list_to (d := 161) (v := (.slice (some ⟨g, 0, none⟩) n mk)) rfl rfl (by go_simp) ?_
                  simp only [Act.put, List.setIfInBounds_toArray, List.set_cons_zero, List.set_cons_succ]
                  refine list_to (d := 162) (v := (.pointer (some ⟨sb, 1, none⟩))) rfl rfl (by go_simp) ?_
                  simp only [Act.put, List.setIfInBounds_toArray, List.set_cons_zero, List.set_cons_succ]
                  refine list_to (d := 163) (v := (.int .i64 (iq : Int))) rfl rfl (by go_simp) ?_
                  simp only [Act.put, List.setIfInBounds_toArray, List.set_cons_zero, List.set_cons_succ]
                  refine list_to (d := 164) (v := (.pointer (some ⟨g, iq * 23, none⟩))) rfl rfl (by go_simp) ?_
                  simp only [Act.put, List.setIfInBounds_toArray, List.set_cons_zero, List.set_cons_succ]
                  refine wpList_load_mid rfl 43 (.tmp 164) rfl g (iq * 23) rfl M _ hrg Tryz.underlying43 rfl hsz ?_
                  simp only [Act.put, List.setIfInBounds_toArray, List.set_cons_zero, List.set_cons_succ]
                  obtain ⟨i0, hi, hz0, hz1, hz2⟩ := Tryz.infoMs
                  refine wpList_buildSlice rfl 26 43 1 _ rfl M.toArray i0 (.agg zM) Tryz.underlying26 hi hz0 (by rw [hz1]; decide) (by rw [hz1]; decide) (by simp only [List.map_toArray, List.map_cons, List.map_nil, hz1]; exact fill_one (hMC).len) ?_
                  simp only [Act.put, List.setIfInBounds_toArray, List.set_cons_zero, List.set_cons_succ]
                  have hb7 := (unhide HW).alloc (.cells M.toArray 43)
                  refine mr_append rfl (.tmp 160) (.tmp 166) rfl (B := w1.heap.size) (v := .slice (some ⟨g, 0, none⟩) n mk) (A := A) (e := a) hb7.mr rfl hb7.bel.size (by omega) (M := M) hMC rfl (range_new w4 43 M) (fun v' w6 hm6 hg6 hv6 => ?_)
                  have h8 := hb7.row hm6 hg6 (.inr rfl) hv6
                  obtain ⟨a8, k8, rfl, hk8⟩ := hm6.slice
                  have H8 := hide h8
                  clear h8 hm6 hg6 hv6 hb7 hz0 hz1 hz2 hi hk8
                  have hl8 : (A ++ [a]).length = n + 1 := by rw [List.length_append, ← unhide HnA]; rfl
                  rw [hl8] at H8 ⊢
                  simp only [Act.put, List.setIfInBounds_toArray, List.set_cons_zero, List.set_cons_succ]
                  refine list_to (d := 4) (v := .slice a8 (n + 1) k8) rfl rfl (by go_simp) ?_
                  simp only [Act.put, List.setIfInBounds_toArray, List.set_cons_zero, List.set_cons_succ]
                  go_wp2_with fail
                  go_meet
                  exact ⟨trivial, trivial, trivial, trivial, n + 1, k8, a8, A ++ [a], rfl, by omega, hl8.symm, unhide H8⟩
            clear hinb hw1 hw0
            as_aux_lemma =>
              have n0 : ¬ what = 0 := fun h => q0 (.inl h)
              have n1 : ¬ what = 1 := fun h => q0 (.inr (.inl h))
              have n2 : ¬ what = 2 := fun h => q0 (.inr (.inr h))
              have HS1 := hide hS0
              clear hS0 HS q0
              go_wp2_with fail
              go_meet
              exact ⟨trivial, trivial, trivial, trivial, n, mk, ma, A, rfl, by omega, unhide HnA, unhide HS1⟩
          case rest =>
            obtain ⟨-, -, -, -, hs4⟩ := hcut
            clear hinb hw0 hw1
            as_aux_lemma =>
              obtain ⟨n', mk', ma', A', rfl, hn', HS'⟩ := hs4
              clear d0 d1 d3 d4 HS
              obtain ⟨hnA, _⟩ := unhide HS'
              have HnA := hide hnA
              clear hnA
              have hn0 : (0 : Int) ≤ (n' : Int) := by omega
              have hwn : IntKind.i64.wrap ((n' : Int) - 1) = (n' : Int) - 1 := by rw [IntKind.wrap_i64] <;> omega
              clear d2
              go_wp2_with fail
              go_loopg [13, 14] n' (fun g s13 s14 wy => ∃ (q : Nat) (z f : Int), q ≤ n' ∧ q = g ∧ s13 = .int .i64 f ∧ s14 = .int .i64 z ∧ Hid (z = (q : Int) - 1 ∧ f = fnd to' (A'.drop q) q ∧ PS w1 wy p sb (.slice ma' n' mk') A' A' ⟨what, i, to', sq, bad⟩))
              case atStart => exact ⟨n', (n' : Int) - 1, -1, by omega, rfl, rfl, rfl, rfl, (fnd_end (by have := unhide HnA; omega)).symm, (unhide HS').2⟩
              case round =>
                obtain ⟨q, z, f, hq, rfl, rfl, rfl, hy⟩ := hrel
                cases q with
                | succ r =>
                  obtain rfl : z = (r : Int) := by have := (unhide hy).1; omega
                  have ha : A'[r]? = some A'[r] := List.getElem?_eq_getElem (by have := unhide HnA; omega)
                  generalize A'[r] = a at ha
                  obtain ⟨g, k, hv, hk, _, y2, _⟩ := (unhide hy).2.2.mr.cell ha
                  injection hv with hv1 hv2 hv3
                  subst hv1 hv3
                  obtain ⟨_, _, d2, _, _⟩ := (unhide hy).2.2.sv.at
                  dsimp only at d2
                  have hst := fnd_at (t := to') ha
                  have hr0 : (0 : Int) ≤ (r : Int) := by omega
                  have hrn : (r : Int) < (n' : Int) := by omega
                  have hwr : IntKind.i64.wrap ((r : Int) - 1) = (r : Int) - 1 := by rw [IntKind.wrap_i64] <;> omega
                  have HD := hide (unhide hy).2.2.drew
                  have Hf := hide (unhide hy).2.1
                  have Hst := hide hst
                  clear hy hst hv2 hk
                  by_cases hto : a.1 = to'
                  · have heq : (a.1 == to') = true := by simpa using hto
                    have Hto := hide hto
                    clear hto
                    generalize a.1 = at' at *
                    go_wp2_with fail
                    refine wp_region_held_drew (S := fun w' => w'.cell? ⟨g, r * 23 + 2, none⟩ = some (.int .i64 at') ∧ w'.cell? ⟨sb, 2, none⟩ = some (.int .i64 to')) (by kernel_rfl) ⟨y2, d2⟩ (fun hHeld => ?_)
                    refine hand_to (i := 0) (d := 175) (v := (.slice (some ⟨g, 0, none⟩) n' mk')) rfl rfl (by kernel_rfl) (by kernel_rfl) (by kernel_rfl) (fun _ _ _ h => h) (Or.inl ⟨by rfl, ?_⟩) hHeld ?_
                    · (intro w' hSw; obtain ⟨z1, z2⟩ := hSw; go_simp)
                    simp only [Act.put, List.setIfInBounds_toArray, List.set_cons_zero, List.set_cons_succ]
                    refine hand_to (i := 1) (d := 176) (v := (.int .i64 (r : Int))) rfl rfl (by kernel_rfl) (by kernel_rfl) (by kernel_rfl) (fun _ _ _ h => h) (Or.inl ⟨by rfl, ?_⟩) hHeld ?_
                    · (intro w' hSw; obtain ⟨z1, z2⟩ := hSw; go_simp)
                    simp only [Act.put, List.setIfInBounds_toArray, List.set_cons_zero, List.set_cons_succ]
                    refine hand_to (i := 2) (d := 177) (v := (.pointer (some ⟨g, r * 23, none⟩))) rfl rfl (by kernel_rfl) (by kernel_rfl) (by kernel_rfl) (fun _ _ _ h => h) (Or.inl ⟨by rfl, ?_⟩) hHeld ?_
                    · (intro w' hSw; obtain ⟨z1, z2⟩ := hSw; go_simp)
                    simp only [Act.put, List.setIfInBounds_toArray, List.set_cons_zero, List.set_cons_succ]
                    refine hand_to (i := 3) (d := 178) (v := (.pointer (some ⟨g, r * 23 + 2, none⟩))) rfl rfl (by kernel_rfl) (by kernel_rfl) (by kernel_rfl) (fun _ _ _ h => h) (Or.inl ⟨by rfl, ?_⟩) hHeld ?_
                    · (intro w' hSw; obtain ⟨z1, z2⟩ := hSw; go_simp)
                    simp only [Act.put, List.setIfInBounds_toArray, List.set_cons_zero, List.set_cons_succ]
                    refine hand_to (i := 4) (d := 179) (v := (.int .i64 at')) rfl rfl (by kernel_rfl) (by kernel_rfl) (by kernel_rfl) (fun _ _ _ h => h) (Or.inl ⟨by rfl, ?_⟩) hHeld ?_
                    · (intro w' hSw; obtain ⟨z1, z2⟩ := hSw; go_simp)
                    simp only [Act.put, List.setIfInBounds_toArray, List.set_cons_zero, List.set_cons_succ]
                    refine hand_to (i := 5) (d := 180) (v := (.pointer (some ⟨sb, 2, none⟩))) rfl rfl (by kernel_rfl) (by kernel_rfl) (by kernel_rfl) (fun _ _ _ h => h) (Or.inl ⟨by rfl, ?_⟩) hHeld ?_
                    · (intro w' hSw; obtain ⟨z1, z2⟩ := hSw; go_simp)
                    simp only [Act.put, List.setIfInBounds_toArray, List.set_cons_zero, List.set_cons_succ]
                    refine hand_to (i := 6) (d := 181) (v := (.int .i64 to')) rfl rfl (by kernel_rfl) (by kernel_rfl) (by kernel_rfl) (fun _ _ _ h => h) (Or.inl ⟨by rfl, ?_⟩) hHeld ?_
                    · (intro w' hSw; obtain ⟨z1, z2⟩ := hSw; go_simp)
                    simp only [Act.put, List.setIfInBounds_toArray, List.set_cons_zero, List.set_cons_succ]
                    refine hand_to (i := 7) (d := 182) (v := (.bool true)) rfl rfl (by kernel_rfl) (by kernel_rfl) (by kernel_rfl) (fun _ _ _ h => h) (Or.inl ⟨by rfl, ?_⟩) hHeld ?_
                    · (intro w' hSw; obtain ⟨z1, z2⟩ := hSw; go_simp)
                    simp only [Act.put, List.setIfInBounds_toArray, List.set_cons_zero, List.set_cons_succ]
                    refine wpAnyH_done (by kernel_rfl) ?_ _
                    go_wp2_with fail
                    go_roundg r
                    case measure => omega
                    case rel => exact ⟨r, _, _, by omega, rfl, rfl, rfl, rfl, by rw [unhide Hst, if_pos (unhide Hto)], unhide HD⟩
                  · have heq : (a.1 == to') = false := by simpa using hto
                    have Hto := hide hto
                    clear hto
                    generalize a.1 = at' at *
                    go_wp2_with fail
                    refine wp_region_held_drew (S := fun w' => w'.cell? ⟨g, r * 23 + 2, none⟩ = some (.int .i64 at') ∧ w'.cell? ⟨sb, 2, none⟩ = some (.int .i64 to')) (by kernel_rfl) ⟨y2, d2⟩ (fun hHeld => ?_)
                    refine hand_to (i := 0) (d := 175) (v := (.slice (some ⟨g, 0, none⟩) n' mk')) rfl rfl (by kernel_rfl) (by kernel_rfl) (by kernel_rfl) (fun _ _ _ h => h) (Or.inl ⟨by rfl, ?_⟩) hHeld ?_
                    · (intro w' hSw; obtain ⟨z1, z2⟩ := hSw; go_simp)
                    simp only [Act.put, List.setIfInBounds_toArray, List.set_cons_zero, List.set_cons_succ]
                    refine hand_to (i := 1) (d := 176) (v := (.int .i64 (r : Int))) rfl rfl (by kernel_rfl) (by kernel_rfl) (by kernel_rfl) (fun _ _ _ h => h) (Or.inl ⟨by rfl, ?_⟩) hHeld ?_
                    · (intro w' hSw; obtain ⟨z1, z2⟩ := hSw; go_simp)
                    simp only [Act.put, List.setIfInBounds_toArray, List.set_cons_zero, List.set_cons_succ]
                    refine hand_to (i := 2) (d := 177) (v := (.pointer (some ⟨g, r * 23, none⟩))) rfl rfl (by kernel_rfl) (by kernel_rfl) (by kernel_rfl) (fun _ _ _ h => h) (Or.inl ⟨by rfl, ?_⟩) hHeld ?_
                    · (intro w' hSw; obtain ⟨z1, z2⟩ := hSw; go_simp)
                    simp only [Act.put, List.setIfInBounds_toArray, List.set_cons_zero, List.set_cons_succ]
                    refine hand_to (i := 3) (d := 178) (v := (.pointer (some ⟨g, r * 23 + 2, none⟩))) rfl rfl (by kernel_rfl) (by kernel_rfl) (by kernel_rfl) (fun _ _ _ h => h) (Or.inl ⟨by rfl, ?_⟩) hHeld ?_
                    · (intro w' hSw; obtain ⟨z1, z2⟩ := hSw; go_simp)
                    simp only [Act.put, List.setIfInBounds_toArray, List.set_cons_zero, List.set_cons_succ]
                    refine hand_to (i := 4) (d := 179) (v := (.int .i64 at')) rfl rfl (by kernel_rfl) (by kernel_rfl) (by kernel_rfl) (fun _ _ _ h => h) (Or.inl ⟨by rfl, ?_⟩) hHeld ?_
                    · (intro w' hSw; obtain ⟨z1, z2⟩ := hSw; go_simp)
                    simp only [Act.put, List.setIfInBounds_toArray, List.set_cons_zero, List.set_cons_succ]
                    refine hand_to (i := 5) (d := 180) (v := (.pointer (some ⟨sb, 2, none⟩))) rfl rfl (by kernel_rfl) (by kernel_rfl) (by kernel_rfl) (fun _ _ _ h => h) (Or.inl ⟨by rfl, ?_⟩) hHeld ?_
                    · (intro w' hSw; obtain ⟨z1, z2⟩ := hSw; go_simp)
                    simp only [Act.put, List.setIfInBounds_toArray, List.set_cons_zero, List.set_cons_succ]
                    refine hand_to (i := 6) (d := 181) (v := (.int .i64 to')) rfl rfl (by kernel_rfl) (by kernel_rfl) (by kernel_rfl) (fun _ _ _ h => h) (Or.inl ⟨by rfl, ?_⟩) hHeld ?_
                    · (intro w' hSw; obtain ⟨z1, z2⟩ := hSw; go_simp)
                    simp only [Act.put, List.setIfInBounds_toArray, List.set_cons_zero, List.set_cons_succ]
                    refine hand_to (i := 7) (d := 182) (v := (.bool false)) rfl rfl (by kernel_rfl) (by kernel_rfl) (by kernel_rfl) (fun _ _ _ h => h) (Or.inl ⟨by rfl, ?_⟩) hHeld ?_
                    · (intro w' hSw; obtain ⟨z1, z2⟩ := hSw; go_simp)
                    simp only [Act.put, List.setIfInBounds_toArray, List.set_cons_zero, List.set_cons_succ]
                    refine wpAnyH_done (by kernel_rfl) ?_ _
                    go_wp2_with fail
                    go_roundg r
                    case measure => omega
                    case rel => exact ⟨r, _, _, by omega, rfl, rfl, rfl, rfl, by rw [unhide Hst, if_neg (unhide Hto)]; exact unhide Hf, unhide HD⟩
                | zero =>
                  have hz : z = -1 := by have := (unhide hy).1; omega
                  subst hz
                  have hff : f = fnd to' A' 0 := (unhide hy).2.1
                  obtain ⟨_, _, d2, _, _⟩ := (unhide hy).2.2.sv.at
                  dsimp only at d2
                  have HL := hide (ps_len (unhide hy).2.2)
                  rw [← unhide HnA] at HL
                  have HFd := hide (fun W (h : PS w1 W p sb (.slice ma' n' mk') A' A' ⟨what, i, to', sq, bad⟩) => ps_find to' h)
                  rw [← hff] at HFd
                  have HY := hide (unhide hy).2.2
                  clear hff hy HS'
                  go_wp2_with (first
                    | (go_at_call 12; refine (unhide HL).mono ?_; rintro e w3 ⟨rfl, rfl⟩; clear HL)
                    | (go_at_call 13; refine (unhide HFd _ (unhide HY)).mono ?_; rintro e w4 ⟨rfl, h4⟩; clear HFd; have H4 := hide h4; clear h4))
                  clear HY d2
                  go_loopg [15] n' (fun g s15 wy => ∃ q : Nat, q ≤ n' ∧ g = n' - q ∧ s15 = .int .i64 q ∧ Hid (PS w1 wy p sb (.slice ma' n' mk') A' A' ⟨what, i, to', sq, bad⟩))
                  case atStart => exact ⟨0, by omega, rfl, rfl, unhide H4⟩
                  case round =>
                    obtain ⟨q, hq, rfl, rfl, hy⟩ := hrel
                    by_cases hqn : q < n'
                    · have ha : A'[q]? = some A'[q] := List.getElem?_eq_getElem (by have := unhide HnA; omega)
                      generalize A'[q] = a at ha
                      have HPk := hide (ps_peek a (unhide HE) (unhide hy) ha)
                      have hq0 : (0 : Int) ≤ (q : Int) := by omega
                      have hqi : (q : Int) < (n' : Int) := by omega
                      have Ha := hide ha
                      clear hy H4 ha
                      go_wp2_with fail
                      refine (unhide HPk).mono ?_
                      rintro e w4 ⟨M, rfl, hM, h4⟩
                      clear HPk
                      have H5 := hide (h4.alloc (.cells M.toArray 43))
                      clear h4
                      rename_i K0 hK0
                      refine hK0 _ _ ?_
                      clear hK0 K0
                      refine list_to (d := 203) (v := .tuple #[.agg M.toArray, .nilIface]) rfl rfl (by go_simp) ?_
                      simp only [Act.put, List.setIfInBounds_toArray, List.set_cons_zero, List.set_cons_succ]
                      refine list_to (d := 207) (v := .agg M.toArray) rfl rfl (by go_simp) ?_
                      simp only [Act.put, List.setIfInBounds_toArray, List.set_cons_zero, List.set_cons_succ]
                      refine list_to (d := 208) (v := .nilIface) rfl rfl (by go_simp) ?_
                      simp only [Act.put, List.setIfInBounds_toArray, List.set_cons_zero, List.set_cons_succ]
                      refine wpList_alloc_new rfl 43 rfl zM (zero_of_info Tryz.zeroM).1 ?_
                      refine wpList_store_mid rfl 43 (.tmp 16) (.tmp 207) rfl w4.heap.size 0 M.toArray rfl rfl (hM.there (there_new w4 43 zM 23 rfl)).1 hM.sizeA (all_oneCell_toArray hM.one) ?_
                      rw [List.toList_toArray, setCells_new w4 43 zM M (by rw [hM.len]; rfl)]
                      have Sw5 := ms_seq (w := w4) hM
                      have Tw5 := ms_to (w := w4) hM
                      have Kw5 := ms_kind (w := w4) hM
                      have zw5 : (w4.alloc (.cells M.toArray 43)).heap.size = w4.heap.size + 1 := by simp
                      generalize w4.alloc (.cells M.toArray 43) = w5 at *
                      obtain ⟨g, k, hv, hk, _, y2, y14⟩ := (unhide H5).mr.cell (unhide Ha)
                      injection hv with hv1 hv2 hv3
                      subst hv1 hv3
                      have H6 := hide (unhide H5).drew
                      generalize w4.heap.size = xb at *
                      clear H5 hv2 hk zw5 hM
                      generalize a.1 = at' at *
                      generalize a.2 = an' at *
                      go_wp2_with fail
                      refine wp_region_held_drew (S := fun w' => w'.cell? ⟨xb, 14, none⟩ = some (.int .u64 (an' : Int)) ∧ w'.cell? ⟨xb, 2, none⟩ = some (.int .i64 at') ∧ w'.cell? ⟨xb, 0, none⟩ = some (.int .i64 1) ∧ w'.cell? ⟨g, q * 23 + 14, none⟩ = some (.int .u64 (an' : Int)) ∧ w'.cell? ⟨g, q * 23 + 2, none⟩ = some (.int .i64 at')) (by kernel_rfl) ⟨Sw5, Tw5, Kw5, y14, y2⟩ (fun hHeld => ?_)
                      refine hand_to (i := 0) (d := 209) (v := .nilIface) rfl rfl (by kernel_rfl) (by kernel_rfl) (by kernel_rfl) (fun _ _ _ h => h) (Or.inl ⟨by rfl, ?_⟩) hHeld ?_
                      · (intro w' hSw; obtain ⟨z1, z2, z3, z4, z5⟩ := hSw; go_simp)
                      simp only [Act.put, List.setIfInBounds_toArray, List.set_cons_zero, List.set_cons_succ]
                      refine hand_to (i := 1) (d := 210) (v := (.bool false)) rfl rfl (by kernel_rfl) (by kernel_rfl) (by kernel_rfl) (fun _ _ _ h => h) (Or.inl ⟨by rfl, ?_⟩) hHeld ?_
                      · (intro w' hSw; obtain ⟨z1, z2, z3, z4, z5⟩ := hSw; go_simp)
                      simp only [Act.put, List.setIfInBounds_toArray, List.set_cons_zero, List.set_cons_succ]
                      refine hand_to (i := 2) (d := 211) (v := (.bool false)) rfl rfl (by kernel_rfl) (by kernel_rfl) (by kernel_rfl) (fun _ _ _ h => h) (Or.inl ⟨by rfl, ?_⟩) hHeld ?_
                      · (intro w' hSw; obtain ⟨z1, z2, z3, z4, z5⟩ := hSw; go_simp)
                      simp only [Act.put, List.setIfInBounds_toArray, List.set_cons_zero, List.set_cons_succ]
                      refine hand_to (i := 3) (d := 212) (v := (.pointer (some ⟨xb, 14, none⟩))) rfl rfl (by kernel_rfl) (by kernel_rfl) (by kernel_rfl) (fun _ _ _ h => h) (Or.inl ⟨by rfl, ?_⟩) hHeld ?_
                      · (intro w' hSw; obtain ⟨z1, z2, z3, z4, z5⟩ := hSw; go_simp)
                      simp only [Act.put, List.setIfInBounds_toArray, List.set_cons_zero, List.set_cons_succ]
                      refine hand_to (i := 4) (d := 213) (v := (.int .u64 (an' : Int))) rfl rfl (by kernel_rfl) (by kernel_rfl) (by kernel_rfl) (fun _ _ _ h => h) (Or.inl ⟨by rfl, ?_⟩) hHeld ?_
                      · (intro w' hSw; obtain ⟨z1, z2, z3, z4, z5⟩ := hSw; go_simp)
                      simp only [Act.put, List.setIfInBounds_toArray, List.set_cons_zero, List.set_cons_succ]
                      refine hand_to (i := 5) (d := 214) (v := (.slice (some ⟨g, 0, none⟩) n' mk')) rfl rfl (by kernel_rfl) (by kernel_rfl) (by kernel_rfl) (fun _ _ _ h => h) (Or.inl ⟨by rfl, ?_⟩) hHeld ?_
                      · (intro w' hSw; obtain ⟨z1, z2, z3, z4, z5⟩ := hSw; go_simp)
                      simp only [Act.put, List.setIfInBounds_toArray, List.set_cons_zero, List.set_cons_succ]
                      refine hand_to (i := 6) (d := 215) (v := (.int .i64 (q : Int))) rfl rfl (by kernel_rfl) (by kernel_rfl) (by kernel_rfl) (fun _ _ _ h => h) (Or.inl ⟨by rfl, ?_⟩) hHeld ?_
                      · (intro w' hSw; obtain ⟨z1, z2, z3, z4, z5⟩ := hSw; go_simp)
                      simp only [Act.put, List.setIfInBounds_toArray, List.set_cons_zero, List.set_cons_succ]
                      refine hand_to (i := 7) (d := 216) (v := (.pointer (some ⟨g, q * 23, none⟩))) rfl rfl (by kernel_rfl) (by kernel_rfl) (by kernel_rfl) (fun _ _ _ h => h) (Or.inl ⟨by rfl, ?_⟩) hHeld ?_
                      · (intro w' hSw; obtain ⟨z1, z2, z3, z4, z5⟩ := hSw; go_simp)
                      simp only [Act.put, List.setIfInBounds_toArray, List.set_cons_zero, List.set_cons_succ]
                      refine hand_to (i := 8) (d := 217) (v := (.pointer (some ⟨g, q * 23 + 14, none⟩))) rfl rfl (by kernel_rfl) (by kernel_rfl) (by kernel_rfl) (fun _ _ _ h => h) (Or.inl ⟨by rfl, ?_⟩) hHeld ?_
                      · (intro w' hSw; obtain ⟨z1, z2, z3, z4, z5⟩ := hSw; go_simp)
                      simp only [Act.put, List.setIfInBounds_toArray, List.set_cons_zero, List.set_cons_succ]
                      refine hand_to (i := 9) (d := 218) (v := (.int .u64 (an' : Int))) rfl rfl (by kernel_rfl) (by kernel_rfl) (by kernel_rfl) (fun _ _ _ h => h) (Or.inl ⟨by rfl, ?_⟩) hHeld ?_
                      · (intro w' hSw; obtain ⟨z1, z2, z3, z4, z5⟩ := hSw; go_simp)
                      simp only [Act.put, List.setIfInBounds_toArray, List.set_cons_zero, List.set_cons_succ]
                      refine hand_to (i := 10) (d := 219) (v := (.bool false)) rfl rfl (by kernel_rfl) (by kernel_rfl) (by kernel_rfl) (fun _ _ _ h => h) (Or.inl ⟨by rfl, ?_⟩) hHeld ?_
                      · (intro w' hSw; obtain ⟨z1, z2, z3, z4, z5⟩ := hSw; go_simp)
                      simp only [Act.put, List.setIfInBounds_toArray, List.set_cons_zero, List.set_cons_succ]
                      refine hand_to (i := 11) (d := 220) (v := (.bool false)) rfl rfl (by kernel_rfl) (by kernel_rfl) (by kernel_rfl) (fun _ _ _ h => h) (Or.inl ⟨by rfl, ?_⟩) hHeld ?_
                      · (intro w' hSw; obtain ⟨z1, z2, z3, z4, z5⟩ := hSw; go_simp)
                      simp only [Act.put, List.setIfInBounds_toArray, List.set_cons_zero, List.set_cons_succ]
                      refine hand_to (i := 12) (d := 221) (v := (.bool false)) rfl rfl (by kernel_rfl) (by kernel_rfl) (by kernel_rfl) (fun _ _ _ h => h) (Or.inl ⟨by rfl, ?_⟩) hHeld ?_
                      · (intro w' hSw; obtain ⟨z1, z2, z3, z4, z5⟩ := hSw; go_simp)
                      simp only [Act.put, List.setIfInBounds_toArray, List.set_cons_zero, List.set_cons_succ]
                      refine hand_to (i := 13) (d := 222) (v := (.pointer (some ⟨xb, 2, none⟩))) rfl rfl (by kernel_rfl) (by kernel_rfl) (by kernel_rfl) (fun _ _ _ h => h) (Or.inl ⟨by rfl, ?_⟩) hHeld ?_
                      · (intro w' hSw; obtain ⟨z1, z2, z3, z4, z5⟩ := hSw; go_simp)
                      simp only [Act.put, List.setIfInBounds_toArray, List.set_cons_zero, List.set_cons_succ]
                      refine hand_to (i := 14) (d := 223) (v := (.int .i64 at')) rfl rfl (by kernel_rfl) (by kernel_rfl) (by kernel_rfl) (fun _ _ _ h => h) (Or.inl ⟨by rfl, ?_⟩) hHeld ?_
                      · (intro w' hSw; obtain ⟨z1, z2, z3, z4, z5⟩ := hSw; go_simp)
                      simp only [Act.put, List.setIfInBounds_toArray, List.set_cons_zero, List.set_cons_succ]
                      refine hand_to (i := 15) (d := 224) (v := (.slice (some ⟨g, 0, none⟩) n' mk')) rfl rfl (by kernel_rfl) (by kernel_rfl) (by kernel_rfl) (fun _ _ _ h => h) (Or.inl ⟨by rfl, ?_⟩) hHeld ?_
                      · (intro w' hSw; obtain ⟨z1, z2, z3, z4, z5⟩ := hSw; go_simp)
                      simp only [Act.put, List.setIfInBounds_toArray, List.set_cons_zero, List.set_cons_succ]
                      refine hand_to (i := 16) (d := 225) (v := (.int .i64 (q : Int))) rfl rfl (by kernel_rfl) (by kernel_rfl) (by kernel_rfl) (fun _ _ _ h => h) (Or.inl ⟨by rfl, ?_⟩) hHeld ?_
                      · (intro w' hSw; obtain ⟨z1, z2, z3, z4, z5⟩ := hSw; go_simp)
                      simp only [Act.put, List.setIfInBounds_toArray, List.set_cons_zero, List.set_cons_succ]
                      refine hand_to (i := 17) (d := 226) (v := (.pointer (some ⟨g, q * 23, none⟩))) rfl rfl (by kernel_rfl) (by kernel_rfl) (by kernel_rfl) (fun _ _ _ h => h) (Or.inl ⟨by rfl, ?_⟩) hHeld ?_
                      · (intro w' hSw; obtain ⟨z1, z2, z3, z4, z5⟩ := hSw; go_simp)
                      simp only [Act.put, List.setIfInBounds_toArray, List.set_cons_zero, List.set_cons_succ]
                      refine hand_to (i := 18) (d := 227) (v := (.pointer (some ⟨g, q * 23 + 2, none⟩))) rfl rfl (by kernel_rfl) (by kernel_rfl) (by kernel_rfl) (fun _ _ _ h => h) (Or.inl ⟨by rfl, ?_⟩) hHeld ?_
                      · (intro w' hSw; obtain ⟨z1, z2, z3, z4, z5⟩ := hSw; go_simp)
                      simp only [Act.put, List.setIfInBounds_toArray, List.set_cons_zero, List.set_cons_succ]
                      refine hand_to (i := 19) (d := 228) (v := (.int .i64 at')) rfl rfl (by kernel_rfl) (by kernel_rfl) (by kernel_rfl) (fun _ _ _ h => h) (Or.inl ⟨by rfl, ?_⟩) hHeld ?_
                      · (intro w' hSw; obtain ⟨z1, z2, z3, z4, z5⟩ := hSw; go_simp)
                      simp only [Act.put, List.setIfInBounds_toArray, List.set_cons_zero, List.set_cons_succ]
                      refine hand_to (i := 20) (d := 229) (v := (.bool false)) rfl rfl (by kernel_rfl) (by kernel_rfl) (by kernel_rfl) (fun _ _ _ h => h) (Or.inl ⟨by rfl, ?_⟩) hHeld ?_
                      · (intro w' hSw; obtain ⟨z1, z2, z3, z4, z5⟩ := hSw; go_simp)
                      simp only [Act.put, List.setIfInBounds_toArray, List.set_cons_zero, List.set_cons_succ]
                      refine hand_to (i := 21) (d := 230) (v := (.bool false)) rfl rfl (by kernel_rfl) (by kernel_rfl) (by kernel_rfl) (fun _ _ _ h => h) (Or.inl ⟨by rfl, ?_⟩) hHeld ?_
                      · (intro w' hSw; obtain ⟨z1, z2, z3, z4, z5⟩ := hSw; go_simp)
                      simp only [Act.put, List.setIfInBounds_toArray, List.set_cons_zero, List.set_cons_succ]
                      refine hand_to (i := 22) (d := 231) (v := (.bool false)) rfl rfl (by kernel_rfl) (by kernel_rfl) (by kernel_rfl) (fun _ _ _ h => h) (Or.inl ⟨by rfl, ?_⟩) hHeld ?_
                      · (intro w' hSw; obtain ⟨z1, z2, z3, z4, z5⟩ := hSw; go_simp)
                      simp only [Act.put, List.setIfInBounds_toArray, List.set_cons_zero, List.set_cons_succ]
                      refine hand_to (i := 23) (d := 232) (v := (.pointer (some ⟨xb, 0, none⟩))) rfl rfl (by kernel_rfl) (by kernel_rfl) (by kernel_rfl) (fun _ _ _ h => h) (Or.inl ⟨by rfl, ?_⟩) hHeld ?_
                      · (intro w' hSw; obtain ⟨z1, z2, z3, z4, z5⟩ := hSw; go_simp)
                      simp only [Act.put, List.setIfInBounds_toArray, List.set_cons_zero, List.set_cons_succ]
                      refine hand_to (i := 24) (d := 233) (v := (.int .i64 1)) rfl rfl (by kernel_rfl) (by kernel_rfl) (by kernel_rfl) (fun _ _ _ h => h) (Or.inl ⟨by rfl, ?_⟩) hHeld ?_
                      · (intro w' hSw; obtain ⟨z1, z2, z3, z4, z5⟩ := hSw; go_simp)
                      simp only [Act.put, List.setIfInBounds_toArray, List.set_cons_zero, List.set_cons_succ]
                      refine hand_to (i := 25) (d := 234) (v := (.bool false)) rfl rfl (by kernel_rfl) (by kernel_rfl) (by kernel_rfl) (fun _ _ _ h => h) (Or.inl ⟨by rfl, ?_⟩) hHeld ?_
                      · (intro w' hSw; obtain ⟨z1, z2, z3, z4, z5⟩ := hSw; go_simp)
                      simp only [Act.put, List.setIfInBounds_toArray, List.set_cons_zero, List.set_cons_succ]
                      refine hand_to (i := 26) (d := 235) (v := (.bool false)) rfl rfl (by kernel_rfl) (by kernel_rfl) (by kernel_rfl) (fun _ _ _ h => h) (Or.inl ⟨by rfl, ?_⟩) hHeld ?_
                      · (intro w' hSw; obtain ⟨z1, z2, z3, z4, z5⟩ := hSw; go_simp)
                      simp only [Act.put, List.setIfInBounds_toArray, List.set_cons_zero, List.set_cons_succ]
                      refine wpAnyH_done (by kernel_rfl) ?_ _
                      go_wp2_with fail
                      go_roundg (n' - (q + 1))
                      case measure => omega
                      case rel => exact ⟨q + 1, by omega, rfl, by go_num, unhide H6⟩
                    · have hqi : ¬ ((q : Int) < (n' : Int)) := by omega
                      have HH := hide (unhide hy).head
                      clear hy H4
                      go_wp2_with fail
                      go_roundw
                      case rel => exact ⟨j + 1, n', mk', ma', A', by omega, by omega, rfl, by go_num, unhide HnA, unhide HH⟩
                      case measure => simp [RowKit.intOf]; omega
    · have hji : ¬ ((j : Int) < (m : Int)) := by omega
      have HB := hide (one_b (unhide Q1) (unhide hr).2.1.bel)
      clear hr HI
      go_wp2_with fail
      go_ret
      exact ⟨rfl, unhide HB⟩
end Go.Proofs.YtahpfhnekmilmaaGreatDoor
