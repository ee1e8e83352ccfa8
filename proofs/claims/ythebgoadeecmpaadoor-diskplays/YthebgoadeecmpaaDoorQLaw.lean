/- DiskPlays: its walk. -/
import Derived.Test.YthebgoadeecmpaaDoorQLaw0
import Derived.Deep.CutBlock
import Derived.Deep.RegionWith
import Derived.Deep.RegionHeld3
namespace Go.Proofs.YthebgoadeecmpaaDoor
open Go.RowKit Go.Lib Go.Maps Go.WideMaps

set_option maxHeartbeats 12800000 in
set_option maxRecDepth 100000 in
theorem plays_law (w : World) (hE : ET w) (room : Int) (hroom : -9223372036854775808 ≤ room ∧ room ≤ 9223372036854775807) (la : Option Addr) (gs : List GS) (lc : Nat) (hl : InS w la gs) (hlm : gs.length ≤ maxLen) :
    Calls Tryd.prog 3 #[.int .i64 room, .slice la gs.length lc] w fun e w' => e = .returned (.bool true) ∧ Below w.heap.size w w' := by
  have HK := hide (known_any w hE)
  have hlm' : (gs.length : Int) ≤ 9223372036854775807 := by unfold maxLen at hlm; omega
  clear hlm
  by_cases h60 : (60 : Int) < (gs.length : Int)
  · clear hl hE
    go_enter Tryd.func3, Tryd.ntmps3
    go_wp2_with (first
      | (go_at_call 4; refine (unhide HK).mono ?_; rintro e w1 ⟨rfl, hb1⟩))
    go_ret
    exact ⟨rfl, hb1⟩
  by_cases r5000 : (5000 : Int) < room
  · clear hl hE
    go_enter Tryd.func3, Tryd.ntmps3
    go_wp2_with (first
      | (go_at_call 4; refine (unhide HK).mono ?_; rintro e w1 ⟨rfl, hb1⟩))
    go_ret
    exact ⟨rfl, hb1⟩
  have HN : Hid (∀ w1, Below w.heap.size w w1 → Calls Tryd.prog 5 #[.int .i64 room] w1 fun e w2 => e = .returned (.pointer (some ⟨w1.heap.size, 0, none⟩)) ∧ Hid (Calls Tryd.prog 6 #[.int .i64 room] w2 fun e w3 => ∃ r, e = .returned (.pointer (some ⟨r, 0, none⟩)) ∧ Hid (TX w w3 w1.heap.size r 0 (fun _ => False)))) := by
    intro w1 hb1
    refine (dx_new2 w1 room).mono ?_
    rintro e w2 ⟨rfl, hd, hb2⟩
    refine ⟨rfl, ?_⟩
    refine (rnew_any w2 room).mono ?_
    rintro e w3 ⟨rfl, hx, hb3⟩
    exact ⟨_, rfl, tx_new hb1 hd hb2 hx hb3 rfl rfl (by omega)⟩
  have HL := hide hl
  have HE := hide hE
  have hl60 : gs.length ≤ 60 := by omega
  clear hl hE
  go_enter Tryd.func3, Tryd.ntmps3
  go_wp2_with (first
    | (go_at_call 4; refine (unhide HK).mono ?_; rintro e w1 ⟨rfl, hb1⟩; have N1 := hide (unhide HN w1 hb1); clear HN)
    | (go_at_call 5; refine (unhide N1).mono ?_; rintro e w2 ⟨rfl, N2⟩; clear N1)
    | (go_at_call 6; refine (unhide N2).mono ?_; rintro e w3 ⟨r, rfl, T3⟩; clear N2))
  generalize w1.heap.size = p at *
  clear HK
  go_loopg [7] gs.length (fun g i wr => ∃ j : Nat, j ≤ gs.length ∧ g = gs.length - j ∧ i = .int .i64 j ∧ Hid (TX w wr p r j (fun _ => False)))
  case atStart => exact ⟨0, by omega, rfl, rfl, unhide T3⟩
  case round =>
    obtain ⟨j, hj, rfl, rfl, hT⟩ := hrel
    by_cases hlt : j < gs.length
    · obtain ⟨s, hs⟩ : ∃ s, gs[j]? = some s := ⟨gs[j], List.getElem?_eq_getElem hlt⟩
      obtain ⟨hok, b, off, rfl, hbl, hcell⟩ := unhide HL j s hs
      have hji : (j : Int) < (gs.length : Int) := by omega
      have hc : ∀ k v, s.cells[k]? = some v → wr.cell? ⟨b, off + j * 6 + k, none⟩ = some v := fun k v hk => (cell_same ((unhide hT).env.blk b hbl hbl) _).trans (hcell k v hk)
      have c0 := hc 0 _ rfl
      have c1 := hc 1 _ rfl
      have c2 := hc 2 _ rfl
      have c3 := hc 3 _ rfl
      have c4 := hc 4 _ rfl
      have c5 := hc 5 _ rfl
      rw [Nat.add_zero] at c0
      obtain ⟨hT1, hS1⟩ := round_in (s := s) (unhide hT)
      have HT1 := hide hT1
      have HS1 := hide hS1
      have hnl : (s.name.length : Int) ≤ 9223372036854775807 := by have := hok.name; unfold maxLen at this; omega
      have HOK := hide hok
      clear hT1 hS1 hcell hc hok hs
      by_cases b300 : (300 : Int) < (s.bytes.length : Int)
      · have HB := hide ((unhide HT1).env.below (Nat.le_refl _))
        clear HT1 HS1 hT HL
        as_aux_lemma =>
          go_wp2_with fail
          go_ret
          exact ⟨rfl, unhide HB⟩
      by_cases n60 : (60 : Int) < (s.name.length : Int)
      · have HB := hide ((unhide HT1).env.below (Nat.le_refl _))
        clear HT1 HS1 hT HL
        as_aux_lemma =>
          go_wp2_with fail
          go_ret
          exact ⟨rfl, unhide HB⟩
      by_cases t60 : (60 : Int) < (s.to'.length : Int)
      · have HB := hide ((unhide HT1).env.below (Nat.le_refl _))
        clear HT1 HS1 hT HL
        as_aux_lemma =>
          go_wp2_with fail
          go_ret
          exact ⟨rfl, unhide HB⟩
      by_cases k80 : (80 : Int) < (s.ks.length : Int)
      · have HB := hide ((unhide HT1).env.below (Nat.le_refl _))
        clear HT1 HS1 hT HL
        as_aux_lemma =>
          go_wp2_with fail
          go_ret
          exact ⟨rfl, unhide HB⟩
      have hn1 : s.name.length ≤ 1000 := by omega
      have ht1 : s.to'.length ≤ 1000 := by omega
      have hb3 : s.bytes.length ≤ 300 := by omega
      have hk8 : s.ks.length ≤ 1000000 := by omega
      have hj1 : j ≤ 1000 := by omega
      go_upto_block 2 with fail
      go_cut [9, 10] from 31 to 205 (fun s9 s10 wx => ∃ v c, v = s9 ∧ s10 = .int .i64 c ∧ Hid (Done w p r j wr.heap.size s v c wx))
      case first =>
        clear c0 c1 c2 c3 c4 c5 HL T3
        generalize hW : wr.alloc (.cells #[.int .i64 s.what, .int .i64 s.n, .string ⟨s.name.toArray⟩, .string ⟨s.to'.toArray⟩, .slice s.ba s.bytes.length s.bk, .slice s.ka s.ks.length s.kk] 33) = W
        have hT : TX w W p r j (fun k => k = wr.heap.size) := by rw [← hW]; exact unhide HT1
        have hS : SB s W wr.heap.size := by rw [← hW]; exact unhide HS1
        generalize wr.heap.size = sb at *
        obtain ⟨d0, d1, d2, d3, d4, d5⟩ := hS.at
        have HS := hide hS
        have HT := hide hT
        clear hW HT1 HS1 hS hT
        by_cases q3 : s.what = 3
        · rw [q3] at d0
          have PS : Hid (Calls Tryd.prog 10 #[.pointer (some ⟨p, 0, none⟩), .string ⟨s.name.toArray⟩] W.drew fun e w1 => ∃ v, e = .returned v ∧ w1.cell? ⟨sb, 2, none⟩ = some (.string ⟨s.name.toArray⟩) ∧ w1.cell? ⟨sb, 2, none⟩ = some (.string ⟨s.name.toArray⟩) ∧ Hid (Calls Tryd.prog 11 #[.pointer (some ⟨r, 0, none⟩), .string ⟨s.name.toArray⟩] w1 fun e w2 => ∃ c : Int, e = .returned (.int .i64 c) ∧ w2.cell? ⟨sb, 2, none⟩ = some (.string ⟨s.name.toArray⟩) ∧ w2.cell? ⟨sb, 2, none⟩ = some (.string ⟨s.name.toArray⟩) ∧ Hid (Done w p r j sb s v c w2))) := by
            refine (tx_sync ((unhide HT).below below_drew) hj1 (unhide HE) s.name hn1).mono ?_
            rintro e w1 ⟨v, rfl, hk, hc⟩
            have hs1 := SB.kf (w := W.drew) (unhide HS) (unhide hk) rfl
            refine ⟨v, rfl, hs1.at.2.2.1, hs1.at.2.2.1, (unhide hc).mono fun e w2 h => ?_⟩
            obtain ⟨c, he, hd⟩ := done_pair (W := W.drew) (unhide HS) h
            exact ⟨c, he, (unhide hd).2.2.at.2.2.1, (unhide hd).2.2.at.2.2.1, hd⟩
          as_aux_lemma =>
            go_wp2_with fail
            refine wp_region_held_drew (S := fun w' => w'.cell? ⟨sb, 2, none⟩ = some (.string ⟨s.name.toArray⟩) ∧ w'.cell? ⟨sb, 2, none⟩ = some (.string ⟨s.name.toArray⟩)) (by kernel_rfl) ⟨d2, d2⟩ (fun hHeld => ?_)
            refine take_to (i := 0) (d := 96) (v := .pointer (some ⟨p, 0, none⟩)) rfl rfl (by kernel_rfl) (by kernel_rfl) (by kernel_rfl) (fun _ _ _ h => h) (Or.inl ⟨by rfl, ?_⟩) hHeld ?_
            · (intro w' hSw; obtain ⟨hs2, hsx⟩ := hSw; go_simp)
            simp only [Act.put, List.setIfInBounds_toArray, List.set_cons_zero, List.set_cons_succ]
            refine take_to (i := 1) (d := 97) (v := .pointer (some ⟨sb, 2, none⟩)) rfl rfl (by kernel_rfl) (by kernel_rfl) (by kernel_rfl) (fun _ _ _ h => h) (Or.inl ⟨by rfl, ?_⟩) hHeld ?_
            · (intro w' hSw; obtain ⟨hs2, hsx⟩ := hSw; go_simp)
            simp only [Act.put, List.setIfInBounds_toArray, List.set_cons_zero, List.set_cons_succ]
            refine take_to (i := 2) (d := 98) (v := .string ⟨s.name.toArray⟩) rfl rfl (by kernel_rfl) (by kernel_rfl) (by kernel_rfl) (fun _ _ _ h => h) (Or.inl ⟨by rfl, ?_⟩) hHeld ?_
            · (intro w' hSw; obtain ⟨hs2, hsx⟩ := hSw; go_simp)
            simp only [Act.put, List.setIfInBounds_toArray, List.set_cons_zero, List.set_cons_succ]
            refine take_to (i := 4) (d := 100) (v := .pointer (some ⟨r, 0, none⟩)) rfl rfl (by kernel_rfl) (by kernel_rfl) (by kernel_rfl) (fun _ _ _ h => h) (Or.inl ⟨by rfl, ?_⟩) hHeld ?_
            · (intro w' hSw; obtain ⟨hs2, hsx⟩ := hSw; go_simp)
            simp only [Act.put, List.setIfInBounds_toArray, List.set_cons_zero, List.set_cons_succ]
            refine take_to (i := 5) (d := 101) (v := .pointer (some ⟨sb, 2, none⟩)) rfl rfl (by kernel_rfl) (by kernel_rfl) (by kernel_rfl) (fun _ _ _ h => h) (Or.inl ⟨by rfl, ?_⟩) hHeld ?_
            · (intro w' hSw; obtain ⟨hs2, hsx⟩ := hSw; go_simp)
            simp only [Act.put, List.setIfInBounds_toArray, List.set_cons_zero, List.set_cons_succ]
            refine take_to (i := 6) (d := 102) (v := .string ⟨s.name.toArray⟩) rfl rfl (by kernel_rfl) (by kernel_rfl) (by kernel_rfl) (fun _ _ _ h => h) (Or.inl ⟨by rfl, ?_⟩) hHeld ?_
            · (intro w' hSw; obtain ⟨hs2, hsx⟩ := hSw; go_simp)
            simp only [Act.put, List.setIfInBounds_toArray, List.set_cons_zero, List.set_cons_succ]
            refine wpAnyH_ready (rs := [3]) (by kernel_rfl) (by simp) ?_
            refine AllReadyH.cons rfl (fun K hK => ?_) AllReadyH.nil
            go_simp
            (go_at_call 10; refine (unhide PS).mono ?_; rintro e w5 ⟨v5, rfl, y2, y3, PR⟩; clear PS)
            (go_wp2_with fail)
            refine hK.out _ _ ⟨y2, y3⟩ (fun hHeld2 => ?_)
            clear hK K hHeld
            have hHeld := hHeld2
            clear hHeld2
            refine wpAnyH_ready (rs := [7]) (by kernel_rfl) (by simp) ?_
            refine AllReadyH.cons rfl (fun K hK => ?_) AllReadyH.nil
            go_simp
            (go_at_call 11; refine (unhide PR).mono ?_; rintro e w6 ⟨c6, rfl, z2, z3, D6⟩; clear PR)
            (go_wp2_with fail)
            refine hK.out _ _ ⟨z2, z3⟩ (fun hHeld2 => ?_)
            clear hK K hHeld
            have hHeld := hHeld2
            clear hHeld2
            refine take_to (i := 8) (d := 9) (v := v5) rfl rfl (by kernel_rfl) (by kernel_rfl) (by kernel_rfl) (fun _ _ _ h => h) (Or.inl ⟨by rfl, ?_⟩) hHeld ?_
            · (intro w' hSw; obtain ⟨hs2, hsx⟩ := hSw; go_simp)
            simp only [Act.put, List.setIfInBounds_toArray, List.set_cons_zero, List.set_cons_succ]
            refine take_to (i := 9) (d := 10) (v := .int .i64 c6) rfl rfl (by kernel_rfl) (by kernel_rfl) (by kernel_rfl) (fun _ _ _ h => h) (Or.inl ⟨by rfl, ?_⟩) hHeld ?_
            · (intro w' hSw; obtain ⟨hs2, hsx⟩ := hSw; go_simp)
            simp only [Act.put, List.setIfInBounds_toArray, List.set_cons_zero, List.set_cons_succ]
            refine wpAnyH_done (by kernel_rfl) ?_ _
            (go_wp2_with fail)
            go_meet
            exact ⟨v5, c6, rfl, rfl, unhide D6⟩
        by_cases q4 : s.what = 4
        · rw [q4] at d0
          have PS : Hid (Calls Tryd.prog 12 #[.pointer (some ⟨p, 0, none⟩), .string ⟨s.name.toArray⟩, .int .i64 s.n] W.drew fun e w1 => ∃ v, e = .returned v ∧ w1.cell? ⟨sb, 2, none⟩ = some (.string ⟨s.name.toArray⟩) ∧ w1.cell? ⟨sb, 1, none⟩ = some (.int .i64 s.n) ∧ Hid (Calls Tryd.prog 13 #[.pointer (some ⟨r, 0, none⟩), .string ⟨s.name.toArray⟩, .int .i64 s.n] w1 fun e w2 => ∃ c : Int, e = .returned (.int .i64 c) ∧ w2.cell? ⟨sb, 2, none⟩ = some (.string ⟨s.name.toArray⟩) ∧ w2.cell? ⟨sb, 1, none⟩ = some (.int .i64 s.n) ∧ Hid (Done w p r j sb s v c w2))) := by
            refine (tx_trunc ((unhide HT).below below_drew) hj1 (unhide HE) s.name hn1 s.n (unhide HOK).n).mono ?_
            rintro e w1 ⟨v, rfl, hk, hc⟩
            have hs1 := SB.kf (w := W.drew) (unhide HS) (unhide hk) rfl
            refine ⟨v, rfl, hs1.at.2.2.1, hs1.at.2.1, (unhide hc).mono fun e w2 h => ?_⟩
            obtain ⟨c, he, hd⟩ := done_pair (W := W.drew) (unhide HS) h
            exact ⟨c, he, (unhide hd).2.2.at.2.2.1, (unhide hd).2.2.at.2.1, hd⟩
          as_aux_lemma =>
            go_wp2_with fail
            refine wp_region_held_drew (S := fun w' => w'.cell? ⟨sb, 2, none⟩ = some (.string ⟨s.name.toArray⟩) ∧ w'.cell? ⟨sb, 1, none⟩ = some (.int .i64 s.n)) (by kernel_rfl) ⟨d2, d1⟩ (fun hHeld => ?_)
            refine take_to (i := 0) (d := 106) (v := .pointer (some ⟨p, 0, none⟩)) rfl rfl (by kernel_rfl) (by kernel_rfl) (by kernel_rfl) (fun _ _ _ h => h) (Or.inl ⟨by rfl, ?_⟩) hHeld ?_
            · (intro w' hSw; obtain ⟨hs2, hsx⟩ := hSw; go_simp)
            simp only [Act.put, List.setIfInBounds_toArray, List.set_cons_zero, List.set_cons_succ]
            refine take_to (i := 1) (d := 107) (v := .pointer (some ⟨sb, 2, none⟩)) rfl rfl (by kernel_rfl) (by kernel_rfl) (by kernel_rfl) (fun _ _ _ h => h) (Or.inl ⟨by rfl, ?_⟩) hHeld ?_
            · (intro w' hSw; obtain ⟨hs2, hsx⟩ := hSw; go_simp)
            simp only [Act.put, List.setIfInBounds_toArray, List.set_cons_zero, List.set_cons_succ]
            refine take_to (i := 2) (d := 108) (v := .string ⟨s.name.toArray⟩) rfl rfl (by kernel_rfl) (by kernel_rfl) (by kernel_rfl) (fun _ _ _ h => h) (Or.inl ⟨by rfl, ?_⟩) hHeld ?_
            · (intro w' hSw; obtain ⟨hs2, hsx⟩ := hSw; go_simp)
            simp only [Act.put, List.setIfInBounds_toArray, List.set_cons_zero, List.set_cons_succ]
            refine take_to (i := 3) (d := 109) (v := .pointer (some ⟨sb, 1, none⟩)) rfl rfl (by kernel_rfl) (by kernel_rfl) (by kernel_rfl) (fun _ _ _ h => h) (Or.inl ⟨by rfl, ?_⟩) hHeld ?_
            · (intro w' hSw; obtain ⟨hs2, hsx⟩ := hSw; go_simp)
            simp only [Act.put, List.setIfInBounds_toArray, List.set_cons_zero, List.set_cons_succ]
            refine take_to (i := 4) (d := 110) (v := .int .i64 s.n) rfl rfl (by kernel_rfl) (by kernel_rfl) (by kernel_rfl) (fun _ _ _ h => h) (Or.inl ⟨by rfl, ?_⟩) hHeld ?_
            · (intro w' hSw; obtain ⟨hs2, hsx⟩ := hSw; go_simp)
            simp only [Act.put, List.setIfInBounds_toArray, List.set_cons_zero, List.set_cons_succ]
            refine take_to (i := 6) (d := 112) (v := .pointer (some ⟨r, 0, none⟩)) rfl rfl (by kernel_rfl) (by kernel_rfl) (by kernel_rfl) (fun _ _ _ h => h) (Or.inl ⟨by rfl, ?_⟩) hHeld ?_
            · (intro w' hSw; obtain ⟨hs2, hsx⟩ := hSw; go_simp)
            simp only [Act.put, List.setIfInBounds_toArray, List.set_cons_zero, List.set_cons_succ]
            refine take_to (i := 7) (d := 113) (v := .pointer (some ⟨sb, 2, none⟩)) rfl rfl (by kernel_rfl) (by kernel_rfl) (by kernel_rfl) (fun _ _ _ h => h) (Or.inl ⟨by rfl, ?_⟩) hHeld ?_
            · (intro w' hSw; obtain ⟨hs2, hsx⟩ := hSw; go_simp)
            simp only [Act.put, List.setIfInBounds_toArray, List.set_cons_zero, List.set_cons_succ]
            refine take_to (i := 8) (d := 114) (v := .string ⟨s.name.toArray⟩) rfl rfl (by kernel_rfl) (by kernel_rfl) (by kernel_rfl) (fun _ _ _ h => h) (Or.inl ⟨by rfl, ?_⟩) hHeld ?_
            · (intro w' hSw; obtain ⟨hs2, hsx⟩ := hSw; go_simp)
            simp only [Act.put, List.setIfInBounds_toArray, List.set_cons_zero, List.set_cons_succ]
            refine take_to (i := 9) (d := 115) (v := .pointer (some ⟨sb, 1, none⟩)) rfl rfl (by kernel_rfl) (by kernel_rfl) (by kernel_rfl) (fun _ _ _ h => h) (Or.inl ⟨by rfl, ?_⟩) hHeld ?_
            · (intro w' hSw; obtain ⟨hs2, hsx⟩ := hSw; go_simp)
            simp only [Act.put, List.setIfInBounds_toArray, List.set_cons_zero, List.set_cons_succ]
            refine take_to (i := 10) (d := 116) (v := .int .i64 s.n) rfl rfl (by kernel_rfl) (by kernel_rfl) (by kernel_rfl) (fun _ _ _ h => h) (Or.inl ⟨by rfl, ?_⟩) hHeld ?_
            · (intro w' hSw; obtain ⟨hs2, hsx⟩ := hSw; go_simp)
            simp only [Act.put, List.setIfInBounds_toArray, List.set_cons_zero, List.set_cons_succ]
            refine wpAnyH_ready (rs := [5]) (by kernel_rfl) (by simp) ?_
            refine AllReadyH.cons rfl (fun K hK => ?_) AllReadyH.nil
            go_simp
            (go_at_call 12; refine (unhide PS).mono ?_; rintro e w5 ⟨v5, rfl, y2, y3, PR⟩; clear PS)
            (go_wp2_with fail)
            refine hK.out _ _ ⟨y2, y3⟩ (fun hHeld2 => ?_)
            clear hK K hHeld
            have hHeld := hHeld2
            clear hHeld2
            refine wpAnyH_ready (rs := [11]) (by kernel_rfl) (by simp) ?_
            refine AllReadyH.cons rfl (fun K hK => ?_) AllReadyH.nil
            go_simp
            (go_at_call 13; refine (unhide PR).mono ?_; rintro e w6 ⟨c6, rfl, z2, z3, D6⟩; clear PR)
            (go_wp2_with fail)
            refine hK.out _ _ ⟨z2, z3⟩ (fun hHeld2 => ?_)
            clear hK K hHeld
            have hHeld := hHeld2
            clear hHeld2
            refine take_to (i := 12) (d := 9) (v := v5) rfl rfl (by kernel_rfl) (by kernel_rfl) (by kernel_rfl) (fun _ _ _ h => h) (Or.inl ⟨by rfl, ?_⟩) hHeld ?_
            · (intro w' hSw; obtain ⟨hs2, hsx⟩ := hSw; go_simp)
            simp only [Act.put, List.setIfInBounds_toArray, List.set_cons_zero, List.set_cons_succ]
            refine take_to (i := 13) (d := 10) (v := .int .i64 c6) rfl rfl (by kernel_rfl) (by kernel_rfl) (by kernel_rfl) (fun _ _ _ h => h) (Or.inl ⟨by rfl, ?_⟩) hHeld ?_
            · (intro w' hSw; obtain ⟨hs2, hsx⟩ := hSw; go_simp)
            simp only [Act.put, List.setIfInBounds_toArray, List.set_cons_zero, List.set_cons_succ]
            refine wpAnyH_done (by kernel_rfl) ?_ _
            (go_wp2_with fail)
            go_meet
            exact ⟨v5, c6, rfl, rfl, unhide D6⟩
        by_cases q5 : s.what = 5
        · rw [q5] at d0
          have PS : Hid (Calls Tryd.prog 14 #[.pointer (some ⟨p, 0, none⟩), .string ⟨s.name.toArray⟩, .string ⟨s.to'.toArray⟩] W.drew fun e w1 => ∃ v, e = .returned v ∧ w1.cell? ⟨sb, 2, none⟩ = some (.string ⟨s.name.toArray⟩) ∧ w1.cell? ⟨sb, 3, none⟩ = some (.string ⟨s.to'.toArray⟩) ∧ Hid (Calls Tryd.prog 15 #[.pointer (some ⟨r, 0, none⟩), .string ⟨s.name.toArray⟩, .string ⟨s.to'.toArray⟩] w1 fun e w2 => ∃ c : Int, e = .returned (.int .i64 c) ∧ w2.cell? ⟨sb, 2, none⟩ = some (.string ⟨s.name.toArray⟩) ∧ w2.cell? ⟨sb, 3, none⟩ = some (.string ⟨s.to'.toArray⟩) ∧ Hid (Done w p r j sb s v c w2))) := by
            refine (tx_rename ((unhide HT).below below_drew) hj1 (unhide HE) s.name s.to' hn1 ht1).mono ?_
            rintro e w1 ⟨v, rfl, hk, hc⟩
            have hs1 := SB.kf (w := W.drew) (unhide HS) (unhide hk) rfl
            refine ⟨v, rfl, hs1.at.2.2.1, hs1.at.2.2.2.1, (unhide hc).mono fun e w2 h => ?_⟩
            obtain ⟨c, he, hd⟩ := done_pair (W := W.drew) (unhide HS) h
            exact ⟨c, he, (unhide hd).2.2.at.2.2.1, (unhide hd).2.2.at.2.2.2.1, hd⟩
          as_aux_lemma =>
            go_wp2_with fail
            refine wp_region_held_drew (S := fun w' => w'.cell? ⟨sb, 2, none⟩ = some (.string ⟨s.name.toArray⟩) ∧ w'.cell? ⟨sb, 3, none⟩ = some (.string ⟨s.to'.toArray⟩)) (by kernel_rfl) ⟨d2, d3⟩ (fun hHeld => ?_)
            refine take_to (i := 0) (d := 120) (v := .pointer (some ⟨p, 0, none⟩)) rfl rfl (by kernel_rfl) (by kernel_rfl) (by kernel_rfl) (fun _ _ _ h => h) (Or.inl ⟨by rfl, ?_⟩) hHeld ?_
            · (intro w' hSw; obtain ⟨hs2, hsx⟩ := hSw; go_simp)
            simp only [Act.put, List.setIfInBounds_toArray, List.set_cons_zero, List.set_cons_succ]
            refine take_to (i := 1) (d := 121) (v := .pointer (some ⟨sb, 2, none⟩)) rfl rfl (by kernel_rfl) (by kernel_rfl) (by kernel_rfl) (fun _ _ _ h => h) (Or.inl ⟨by rfl, ?_⟩) hHeld ?_
            · (intro w' hSw; obtain ⟨hs2, hsx⟩ := hSw; go_simp)
            simp only [Act.put, List.setIfInBounds_toArray, List.set_cons_zero, List.set_cons_succ]
            refine take_to (i := 2) (d := 122) (v := .string ⟨s.name.toArray⟩) rfl rfl (by kernel_rfl) (by kernel_rfl) (by kernel_rfl) (fun _ _ _ h => h) (Or.inl ⟨by rfl, ?_⟩) hHeld ?_
            · (intro w' hSw; obtain ⟨hs2, hsx⟩ := hSw; go_simp)
            simp only [Act.put, List.setIfInBounds_toArray, List.set_cons_zero, List.set_cons_succ]
            refine take_to (i := 3) (d := 123) (v := .pointer (some ⟨sb, 3, none⟩)) rfl rfl (by kernel_rfl) (by kernel_rfl) (by kernel_rfl) (fun _ _ _ h => h) (Or.inl ⟨by rfl, ?_⟩) hHeld ?_
            · (intro w' hSw; obtain ⟨hs2, hsx⟩ := hSw; go_simp)
            simp only [Act.put, List.setIfInBounds_toArray, List.set_cons_zero, List.set_cons_succ]
            refine take_to (i := 4) (d := 124) (v := .string ⟨s.to'.toArray⟩) rfl rfl (by kernel_rfl) (by kernel_rfl) (by kernel_rfl) (fun _ _ _ h => h) (Or.inl ⟨by rfl, ?_⟩) hHeld ?_
            · (intro w' hSw; obtain ⟨hs2, hsx⟩ := hSw; go_simp)
            simp only [Act.put, List.setIfInBounds_toArray, List.set_cons_zero, List.set_cons_succ]
            refine take_to (i := 6) (d := 126) (v := .pointer (some ⟨r, 0, none⟩)) rfl rfl (by kernel_rfl) (by kernel_rfl) (by kernel_rfl) (fun _ _ _ h => h) (Or.inl ⟨by rfl, ?_⟩) hHeld ?_
            · (intro w' hSw; obtain ⟨hs2, hsx⟩ := hSw; go_simp)
            simp only [Act.put, List.setIfInBounds_toArray, List.set_cons_zero, List.set_cons_succ]
            refine take_to (i := 7) (d := 127) (v := .pointer (some ⟨sb, 2, none⟩)) rfl rfl (by kernel_rfl) (by kernel_rfl) (by kernel_rfl) (fun _ _ _ h => h) (Or.inl ⟨by rfl, ?_⟩) hHeld ?_
            · (intro w' hSw; obtain ⟨hs2, hsx⟩ := hSw; go_simp)
            simp only [Act.put, List.setIfInBounds_toArray, List.set_cons_zero, List.set_cons_succ]
            refine take_to (i := 8) (d := 128) (v := .string ⟨s.name.toArray⟩) rfl rfl (by kernel_rfl) (by kernel_rfl) (by kernel_rfl) (fun _ _ _ h => h) (Or.inl ⟨by rfl, ?_⟩) hHeld ?_
            · (intro w' hSw; obtain ⟨hs2, hsx⟩ := hSw; go_simp)
            simp only [Act.put, List.setIfInBounds_toArray, List.set_cons_zero, List.set_cons_succ]
            refine take_to (i := 9) (d := 129) (v := .pointer (some ⟨sb, 3, none⟩)) rfl rfl (by kernel_rfl) (by kernel_rfl) (by kernel_rfl) (fun _ _ _ h => h) (Or.inl ⟨by rfl, ?_⟩) hHeld ?_
            · (intro w' hSw; obtain ⟨hs2, hsx⟩ := hSw; go_simp)
            simp only [Act.put, List.setIfInBounds_toArray, List.set_cons_zero, List.set_cons_succ]
            refine take_to (i := 10) (d := 130) (v := .string ⟨s.to'.toArray⟩) rfl rfl (by kernel_rfl) (by kernel_rfl) (by kernel_rfl) (fun _ _ _ h => h) (Or.inl ⟨by rfl, ?_⟩) hHeld ?_
            · (intro w' hSw; obtain ⟨hs2, hsx⟩ := hSw; go_simp)
            simp only [Act.put, List.setIfInBounds_toArray, List.set_cons_zero, List.set_cons_succ]
            refine wpAnyH_ready (rs := [5]) (by kernel_rfl) (by simp) ?_
            refine AllReadyH.cons rfl (fun K hK => ?_) AllReadyH.nil
            go_simp
            (go_at_call 14; refine (unhide PS).mono ?_; rintro e w5 ⟨v5, rfl, y2, y3, PR⟩; clear PS)
            (go_wp2_with fail)
            refine hK.out _ _ ⟨y2, y3⟩ (fun hHeld2 => ?_)
            clear hK K hHeld
            have hHeld := hHeld2
            clear hHeld2
            refine wpAnyH_ready (rs := [11]) (by kernel_rfl) (by simp) ?_
            refine AllReadyH.cons rfl (fun K hK => ?_) AllReadyH.nil
            go_simp
            (go_at_call 15; refine (unhide PR).mono ?_; rintro e w6 ⟨c6, rfl, z2, z3, D6⟩; clear PR)
            (go_wp2_with fail)
            refine hK.out _ _ ⟨z2, z3⟩ (fun hHeld2 => ?_)
            clear hK K hHeld
            have hHeld := hHeld2
            clear hHeld2
            refine take_to (i := 12) (d := 9) (v := v5) rfl rfl (by kernel_rfl) (by kernel_rfl) (by kernel_rfl) (fun _ _ _ h => h) (Or.inl ⟨by rfl, ?_⟩) hHeld ?_
            · (intro w' hSw; obtain ⟨hs2, hsx⟩ := hSw; go_simp)
            simp only [Act.put, List.setIfInBounds_toArray, List.set_cons_zero, List.set_cons_succ]
            refine take_to (i := 13) (d := 10) (v := .int .i64 c6) rfl rfl (by kernel_rfl) (by kernel_rfl) (by kernel_rfl) (fun _ _ _ h => h) (Or.inl ⟨by rfl, ?_⟩) hHeld ?_
            · (intro w' hSw; obtain ⟨hs2, hsx⟩ := hSw; go_simp)
            simp only [Act.put, List.setIfInBounds_toArray, List.set_cons_zero, List.set_cons_succ]
            refine wpAnyH_done (by kernel_rfl) ?_ _
            (go_wp2_with fail)
            go_meet
            exact ⟨v5, c6, rfl, rfl, unhide D6⟩
        by_cases q6 : s.what = 6
        · rw [q6] at d0
          have PS : Hid (Calls Tryd.prog 16 #[.pointer (some ⟨p, 0, none⟩), .string ⟨s.name.toArray⟩] W.drew fun e w1 => ∃ v, e = .returned v ∧ w1.cell? ⟨sb, 2, none⟩ = some (.string ⟨s.name.toArray⟩) ∧ w1.cell? ⟨sb, 2, none⟩ = some (.string ⟨s.name.toArray⟩) ∧ Hid (Calls Tryd.prog 17 #[.pointer (some ⟨r, 0, none⟩), .string ⟨s.name.toArray⟩] w1 fun e w2 => ∃ c : Int, e = .returned (.int .i64 c) ∧ w2.cell? ⟨sb, 2, none⟩ = some (.string ⟨s.name.toArray⟩) ∧ w2.cell? ⟨sb, 2, none⟩ = some (.string ⟨s.name.toArray⟩) ∧ Hid (Done w p r j sb s v c w2))) := by
            refine (tx_remove ((unhide HT).below below_drew) hj1 (unhide HE) s.name hn1).mono ?_
            rintro e w1 ⟨v, rfl, hk, hc⟩
            have hs1 := SB.kf (w := W.drew) (unhide HS) (unhide hk) rfl
            refine ⟨v, rfl, hs1.at.2.2.1, hs1.at.2.2.1, (unhide hc).mono fun e w2 h => ?_⟩
            obtain ⟨c, he, hd⟩ := done_pair (W := W.drew) (unhide HS) h
            exact ⟨c, he, (unhide hd).2.2.at.2.2.1, (unhide hd).2.2.at.2.2.1, hd⟩
          as_aux_lemma =>
            go_wp2_with fail
            refine wp_region_held_drew (S := fun w' => w'.cell? ⟨sb, 2, none⟩ = some (.string ⟨s.name.toArray⟩) ∧ w'.cell? ⟨sb, 2, none⟩ = some (.string ⟨s.name.toArray⟩)) (by kernel_rfl) ⟨d2, d2⟩ (fun hHeld => ?_)
            refine take_to (i := 0) (d := 134) (v := .pointer (some ⟨p, 0, none⟩)) rfl rfl (by kernel_rfl) (by kernel_rfl) (by kernel_rfl) (fun _ _ _ h => h) (Or.inl ⟨by rfl, ?_⟩) hHeld ?_
            · (intro w' hSw; obtain ⟨hs2, hsx⟩ := hSw; go_simp)
            simp only [Act.put, List.setIfInBounds_toArray, List.set_cons_zero, List.set_cons_succ]
            refine take_to (i := 1) (d := 135) (v := .pointer (some ⟨sb, 2, none⟩)) rfl rfl (by kernel_rfl) (by kernel_rfl) (by kernel_rfl) (fun _ _ _ h => h) (Or.inl ⟨by rfl, ?_⟩) hHeld ?_
            · (intro w' hSw; obtain ⟨hs2, hsx⟩ := hSw; go_simp)
            simp only [Act.put, List.setIfInBounds_toArray, List.set_cons_zero, List.set_cons_succ]
            refine take_to (i := 2) (d := 136) (v := .string ⟨s.name.toArray⟩) rfl rfl (by kernel_rfl) (by kernel_rfl) (by kernel_rfl) (fun _ _ _ h => h) (Or.inl ⟨by rfl, ?_⟩) hHeld ?_
            · (intro w' hSw; obtain ⟨hs2, hsx⟩ := hSw; go_simp)
            simp only [Act.put, List.setIfInBounds_toArray, List.set_cons_zero, List.set_cons_succ]
            refine take_to (i := 4) (d := 138) (v := .pointer (some ⟨r, 0, none⟩)) rfl rfl (by kernel_rfl) (by kernel_rfl) (by kernel_rfl) (fun _ _ _ h => h) (Or.inl ⟨by rfl, ?_⟩) hHeld ?_
            · (intro w' hSw; obtain ⟨hs2, hsx⟩ := hSw; go_simp)
            simp only [Act.put, List.setIfInBounds_toArray, List.set_cons_zero, List.set_cons_succ]
            refine take_to (i := 5) (d := 139) (v := .pointer (some ⟨sb, 2, none⟩)) rfl rfl (by kernel_rfl) (by kernel_rfl) (by kernel_rfl) (fun _ _ _ h => h) (Or.inl ⟨by rfl, ?_⟩) hHeld ?_
            · (intro w' hSw; obtain ⟨hs2, hsx⟩ := hSw; go_simp)
            simp only [Act.put, List.setIfInBounds_toArray, List.set_cons_zero, List.set_cons_succ]
            refine take_to (i := 6) (d := 140) (v := .string ⟨s.name.toArray⟩) rfl rfl (by kernel_rfl) (by kernel_rfl) (by kernel_rfl) (fun _ _ _ h => h) (Or.inl ⟨by rfl, ?_⟩) hHeld ?_
            · (intro w' hSw; obtain ⟨hs2, hsx⟩ := hSw; go_simp)
            simp only [Act.put, List.setIfInBounds_toArray, List.set_cons_zero, List.set_cons_succ]
            refine wpAnyH_ready (rs := [3]) (by kernel_rfl) (by simp) ?_
            refine AllReadyH.cons rfl (fun K hK => ?_) AllReadyH.nil
            go_simp
            (go_at_call 16; refine (unhide PS).mono ?_; rintro e w5 ⟨v5, rfl, y2, y3, PR⟩; clear PS)
            (go_wp2_with fail)
            refine hK.out _ _ ⟨y2, y3⟩ (fun hHeld2 => ?_)
            clear hK K hHeld
            have hHeld := hHeld2
            clear hHeld2
            refine wpAnyH_ready (rs := [7]) (by kernel_rfl) (by simp) ?_
            refine AllReadyH.cons rfl (fun K hK => ?_) AllReadyH.nil
            go_simp
            (go_at_call 17; refine (unhide PR).mono ?_; rintro e w6 ⟨c6, rfl, z2, z3, D6⟩; clear PR)
            (go_wp2_with fail)
            refine hK.out _ _ ⟨z2, z3⟩ (fun hHeld2 => ?_)
            clear hK K hHeld
            have hHeld := hHeld2
            clear hHeld2
            refine take_to (i := 8) (d := 9) (v := v5) rfl rfl (by kernel_rfl) (by kernel_rfl) (by kernel_rfl) (fun _ _ _ h => h) (Or.inl ⟨by rfl, ?_⟩) hHeld ?_
            · (intro w' hSw; obtain ⟨hs2, hsx⟩ := hSw; go_simp)
            simp only [Act.put, List.setIfInBounds_toArray, List.set_cons_zero, List.set_cons_succ]
            refine take_to (i := 9) (d := 10) (v := .int .i64 c6) rfl rfl (by kernel_rfl) (by kernel_rfl) (by kernel_rfl) (fun _ _ _ h => h) (Or.inl ⟨by rfl, ?_⟩) hHeld ?_
            · (intro w' hSw; obtain ⟨hs2, hsx⟩ := hSw; go_simp)
            simp only [Act.put, List.setIfInBounds_toArray, List.set_cons_zero, List.set_cons_succ]
            refine wpAnyH_done (by kernel_rfl) ?_ _
            (go_wp2_with fail)
            go_meet
            exact ⟨v5, c6, rfl, rfl, unhide D6⟩
        by_cases q7 : s.what = 7
        · rw [q7] at d0
          have PS : Hid (Calls Tryd.prog 18 #[.pointer (some ⟨p, 0, none⟩), .int .i64 s.n] W fun e w1 => e = .returned (.tuple #[]) ∧ w1.cell? ⟨sb, 1, none⟩ = some (.int .i64 s.n) ∧ Hid (Calls Tryd.prog 19 #[.pointer (some ⟨r, 0, none⟩), .int .i64 s.n] w1 fun e w2 => e = .returned (.tuple #[]) ∧ Hid (Done w p r j sb s .nilIface 0 w2))) := by
            refine (done_halt (unhide HOK) (unhide HT) (unhide HS)).mono ?_
            rintro e w1 ⟨he, hs1, hc⟩
            exact ⟨he, hs1.at.2.1, hc⟩
          as_aux_lemma =>
            go_wp2_with (first
              | (go_at_call 18; refine (unhide PS).mono ?_; rintro e w5 ⟨rfl, y1, PR⟩; clear PS)
              | (go_at_call 19; refine (unhide PR).mono ?_; rintro e w6 ⟨rfl, D6⟩; clear PR))
            go_meet
            exact ⟨.nilIface, 0, rfl, rfl, unhide D6⟩
        have qa : (s.what = 0 ∨ s.what = 1 ∨ s.what = 2) ∨ (¬ s.what = 0 ∧ ¬ s.what = 1 ∧ ¬ s.what = 2) := by omega
        rcases qa with qa | ⟨q0, q1, q2⟩
        · have HAP : Hid (∀ w4 v4, w4.ownsRow 0 5 1 v4 (0 + s.bytes.length) ([] ++ byteCells s.bytes) → W.grownBy w4 (Value.slice none 0 0).ownBlock → (v4.ownBlock = (Value.slice none 0 0).ownBlock ∨ v4.ownBlock = some W.heap.size) → _) := fun w4 v4 hrow hg hloc => append_in (unhide HE) hj1 hn1 hb3 (unhide HOK) (unhide HT) (unhide HS) hrow hg hloc
          have HRZ : Hid (RBz W (fun k => w.heap.size ≤ k) (.slice s.ba s.bytes.length s.bk) s.bytes) := (unhide HOK).bytes W (unhide HT).env hb3
          rcases qa with qa | qa | qa
          all_goals
            rw [qa] at d0
            as_aux_lemma =>
              go_wp2_with (first
                | (at_builtin; refine wpList_append_z rfl _ _ rfl (.slice none 0 0) 0 [] rfl (World.ownsRow_nil _ _ _ _) _ (.slice s.ba s.bytes.length s.bk) s.bytes rfl (unhide HRZ) (by omega) ?_; intro v4 w4 hrow4 hg4 hloc4; obtain ⟨a4, k4, rfl, hs4, PA⟩ := unhide HAP w4 v4 hrow4 hg4 hloc4; have e2 := hs4.at.2.2.1; have e4 := hs4.at.2.2.2.2.1; clear hrow4 hg4 hloc4 hs4 HAP HRZ))
              refine wp_region_held_drew (S := fun w' => w'.cell? ⟨sb, 2, none⟩ = some (.string ⟨s.name.toArray⟩) ∧ w'.cell? ⟨sb, 4, none⟩ = some (.slice s.ba s.bytes.length s.bk)) (by kernel_rfl) ⟨e2, e4⟩ (fun hHeld => ?_)
              refine take_to (i := 0) (d := 81) (v := .pointer (some ⟨p, 0, none⟩)) rfl rfl (by kernel_rfl) (by kernel_rfl) (by kernel_rfl) (fun _ _ _ h => h) (Or.inl ⟨by rfl, ?_⟩) hHeld ?_
              · (intro w' hSw; obtain ⟨hs2, hsx⟩ := hSw; go_simp)
              simp only [Act.put, List.setIfInBounds_toArray, List.set_cons_zero, List.set_cons_succ]
              refine take_to (i := 1) (d := 82) (v := .pointer (some ⟨sb, 2, none⟩)) rfl rfl (by kernel_rfl) (by kernel_rfl) (by kernel_rfl) (fun _ _ _ h => h) (Or.inl ⟨by rfl, ?_⟩) hHeld ?_
              · (intro w' hSw; obtain ⟨hs2, hsx⟩ := hSw; go_simp)
              simp only [Act.put, List.setIfInBounds_toArray, List.set_cons_zero, List.set_cons_succ]
              refine take_to (i := 2) (d := 83) (v := .string ⟨s.name.toArray⟩) rfl rfl (by kernel_rfl) (by kernel_rfl) (by kernel_rfl) (fun _ _ _ h => h) (Or.inl ⟨by rfl, ?_⟩) hHeld ?_
              · (intro w' hSw; obtain ⟨hs2, hsx⟩ := hSw; go_simp)
              simp only [Act.put, List.setIfInBounds_toArray, List.set_cons_zero, List.set_cons_succ]
              refine take_to (i := 3) (d := 84) (v := .slice a4 s.bytes.length k4) rfl rfl (by kernel_rfl) (by kernel_rfl) (by kernel_rfl) (fun _ _ _ h => h) (Or.inl ⟨by rfl, ?_⟩) hHeld ?_
              · (intro w' hSw; obtain ⟨hs2, hsx⟩ := hSw; go_simp)
              simp only [Act.put, List.setIfInBounds_toArray, List.set_cons_zero, List.set_cons_succ]
              refine take_to (i := 5) (d := 86) (v := .pointer (some ⟨r, 0, none⟩)) rfl rfl (by kernel_rfl) (by kernel_rfl) (by kernel_rfl) (fun _ _ _ h => h) (Or.inl ⟨by rfl, ?_⟩) hHeld ?_
              · (intro w' hSw; obtain ⟨hs2, hsx⟩ := hSw; go_simp)
              simp only [Act.put, List.setIfInBounds_toArray, List.set_cons_zero, List.set_cons_succ]
              refine take_to (i := 6) (d := 87) (v := .pointer (some ⟨sb, 2, none⟩)) rfl rfl (by kernel_rfl) (by kernel_rfl) (by kernel_rfl) (fun _ _ _ h => h) (Or.inl ⟨by rfl, ?_⟩) hHeld ?_
              · (intro w' hSw; obtain ⟨hs2, hsx⟩ := hSw; go_simp)
              simp only [Act.put, List.setIfInBounds_toArray, List.set_cons_zero, List.set_cons_succ]
              refine take_to (i := 7) (d := 88) (v := .string ⟨s.name.toArray⟩) rfl rfl (by kernel_rfl) (by kernel_rfl) (by kernel_rfl) (fun _ _ _ h => h) (Or.inl ⟨by rfl, ?_⟩) hHeld ?_
              · (intro w' hSw; obtain ⟨hs2, hsx⟩ := hSw; go_simp)
              simp only [Act.put, List.setIfInBounds_toArray, List.set_cons_zero, List.set_cons_succ]
              refine take_to (i := 8) (d := 89) (v := .pointer (some ⟨sb, 4, none⟩)) rfl rfl (by kernel_rfl) (by kernel_rfl) (by kernel_rfl) (fun _ _ _ h => h) (Or.inl ⟨by rfl, ?_⟩) hHeld ?_
              · (intro w' hSw; obtain ⟨hs2, hsx⟩ := hSw; go_simp)
              simp only [Act.put, List.setIfInBounds_toArray, List.set_cons_zero, List.set_cons_succ]
              refine take_to (i := 9) (d := 90) (v := .slice s.ba s.bytes.length s.bk) rfl rfl (by kernel_rfl) (by kernel_rfl) (by kernel_rfl) (fun _ _ _ h => h) (Or.inl ⟨by rfl, ?_⟩) hHeld ?_
              · (intro w' hSw; obtain ⟨hs2, hsx⟩ := hSw; go_simp)
              simp only [Act.put, List.setIfInBounds_toArray, List.set_cons_zero, List.set_cons_succ]
              refine wpAnyH_ready (rs := [4]) (by kernel_rfl) (by simp) ?_
              refine AllReadyH.cons rfl (fun K hK => ?_) AllReadyH.nil
              go_simp
              (go_at_call 7; refine (unhide PA).mono ?_; rintro e w5 ⟨v5, rfl, hs5, PR⟩; have y2 := hs5.at.2.2.1; have y4 := hs5.at.2.2.2.2.1; clear PA hs5)
              (go_wp2_with fail)
              refine hK.out _ _ ⟨y2, y4⟩ (fun hHeld2 => ?_)
              clear hK K hHeld
              have hHeld := hHeld2
              clear hHeld2
              refine wpAnyH_ready (rs := [10]) (by kernel_rfl) (by simp) ?_
              refine AllReadyH.cons rfl (fun K hK => ?_) AllReadyH.nil
              go_simp
              (go_at_call 8; refine (unhide PR).mono ?_; rintro e w6 ⟨c6, rfl, hs6, PZ⟩; have z2 := hs6.at.2.2.1; have z4 := hs6.at.2.2.2.2.1; clear PR hs6)
              (go_wp2_with fail)
              refine hK.out _ _ ⟨z2, z4⟩ (fun hHeld2 => ?_)
              clear hK K hHeld
              have hHeld := hHeld2
              clear hHeld2
              refine take_to (i := 11) (d := 9) (v := v5) rfl rfl (by kernel_rfl) (by kernel_rfl) (by kernel_rfl) (fun _ _ _ h => h) (Or.inl ⟨by rfl, ?_⟩) hHeld ?_
              · (intro w' hSw; obtain ⟨hs2, hsx⟩ := hSw; go_simp)
              simp only [Act.put, List.setIfInBounds_toArray, List.set_cons_zero, List.set_cons_succ]
              refine take_to (i := 12) (d := 10) (v := .int .i64 c6) rfl rfl (by kernel_rfl) (by kernel_rfl) (by kernel_rfl) (fun _ _ _ h => h) (Or.inl ⟨by rfl, ?_⟩) hHeld ?_
              · (intro w' hSw; obtain ⟨hs2, hsx⟩ := hSw; go_simp)
              simp only [Act.put, List.setIfInBounds_toArray, List.set_cons_zero, List.set_cons_succ]
              refine wpAnyH_done (by kernel_rfl) ?_ _
              go_wp2_with (first | (go_at_call 9; refine (unhide PZ).mono ?_; rintro e w7 ⟨rfl, D6⟩; clear PZ))
              go_meet
              exact ⟨v5, c6, rfl, rfl, unhide D6⟩
        · have PS : Hid (Calls Tryd.prog 20 #[.pointer (some ⟨p, 0, none⟩), .agg #[.slice s.ka s.ks.length s.kk]] W fun e w1 => e = .returned (.tuple #[]) ∧ w1.cell? ⟨sb, 5, none⟩ = some (.slice s.ka s.ks.length s.kk) ∧ Hid (Calls Tryd.prog 21 #[.pointer (some ⟨r, 0, none⟩), .agg #[.slice s.ka s.ks.length s.kk]] w1 fun e w2 => e = .returned (.tuple #[]) ∧ Hid (Done w p r j sb s .nilIface 0 w2))) := by
            refine (done_crash (unhide HOK) hk8 (unhide HT) (unhide HS)).mono ?_
            rintro e w1 ⟨he, hs1, hc⟩
            exact ⟨he, hs1.at.2.2.2.2.2, hc⟩
          as_aux_lemma =>
            go_wp2_with (first
              | (go_at_call 20; refine (unhide PS).mono ?_; rintro e w5 ⟨rfl, y1, PR⟩; clear PS)
              | (go_at_call 21; refine (unhide PR).mono ?_; rintro e w6 ⟨rfl, D6⟩; clear PR))
            go_meet
            exact ⟨.nilIface, 0, rfl, rfl, unhide D6⟩
      case rest =>
        obtain ⟨v, c, rfl, rfl, hD⟩ := hcut
        clear c0 c1 c2 c3 c4 c5 HL T3 HT1 HS1 hT
        obtain ⟨n0, hn0, P0⟩ := look_chain (unhide HE) (unhide hD).2.1 (unhide hD).1
        have d2 := (unhide hD).2.2.at.2.2.1
        as_aux_lemma =>
          go_wp2_with fail
          refine wp_region_held_drew (S := fun w' => w'.cell? ⟨r, 4, none⟩ = some (.int .i64 n0)) (by kernel_rfl) hn0 (fun hHeld => ?_)
          refine take_to (i := 0) (d := 152) (v := v) rfl rfl (by kernel_rfl) (by kernel_rfl) (by kernel_rfl) (fun _ _ _ h => h) (Or.inl ⟨by rfl, ?_⟩) hHeld ?_
          · (intro w' hSw; (try dsimp only at hSw); go_simp)
          simp only [Act.put, List.setIfInBounds_toArray, List.set_cons_zero, List.set_cons_succ]
          refine take_to (i := 2) (d := 154) (v := .int .i64 c) rfl rfl (by kernel_rfl) (by kernel_rfl) (by kernel_rfl) (fun _ _ _ h => h) (Or.inl ⟨by rfl, ?_⟩) hHeld ?_
          · (intro w' hSw; (try dsimp only at hSw); go_simp)
          simp only [Act.put, List.setIfInBounds_toArray, List.set_cons_zero, List.set_cons_succ]
          refine wpAnyH_ready (rs := [1]) (by kernel_rfl) (by simp) ?_
          refine AllReadyH.cons rfl (fun K hK => ?_) AllReadyH.nil
          go_simp
          (go_at_call 22; refine (unhide P0).mono ?_; rintro e w1 ⟨rfl, q1, P1⟩; clear P0)
          (go_wp2_with fail)
          refine hK.out _ _ q1 (fun hHeld2 => ?_)
          clear hK K hHeld
          have hHeld := hHeld2
          clear hHeld2

          refine take_to (i := 3) (d := 155) (v := .bool false) rfl rfl (by kernel_rfl) (by kernel_rfl) (by kernel_rfl) (fun _ _ _ h => h) (Or.inl ⟨by rfl, ?_⟩) hHeld ?_
          · (intro w' hSw; (try dsimp only at hSw); go_simp)
          simp only [Act.put, List.setIfInBounds_toArray, List.set_cons_zero, List.set_cons_succ]
          refine take_to (i := 4) (d := 156) (v := .bool false) rfl rfl (by kernel_rfl) (by kernel_rfl) (by kernel_rfl) (fun _ _ _ h => h) (Or.inl ⟨by rfl, ?_⟩) hHeld ?_
          · (intro w' hSw; (try dsimp only at hSw); go_simp)
          simp only [Act.put, List.setIfInBounds_toArray, List.set_cons_zero, List.set_cons_succ]
          refine take_to (i := 5) (d := 157) (v := .pointer (some ⟨p, 0, none⟩)) rfl rfl (by kernel_rfl) (by kernel_rfl) (by kernel_rfl) (fun _ _ _ h => h) (Or.inl ⟨by rfl, ?_⟩) hHeld ?_
          · (intro w' hSw; (try dsimp only at hSw); go_simp)
          simp only [Act.put, List.setIfInBounds_toArray, List.set_cons_zero, List.set_cons_succ]
          refine take_to (i := 7) (d := 159) (v := .pointer (some ⟨r, 0, none⟩)) rfl rfl (by kernel_rfl) (by kernel_rfl) (by kernel_rfl) (fun _ _ _ h => h) (Or.inl ⟨by rfl, ?_⟩) hHeld ?_
          · (intro w' hSw; (try dsimp only at hSw); go_simp)
          simp only [Act.put, List.setIfInBounds_toArray, List.set_cons_zero, List.set_cons_succ]
          refine wpAnyH_ready (rs := [6]) (by kernel_rfl) (by simp) ?_
          refine AllReadyH.cons rfl (fun K hK => ?_) AllReadyH.nil
          go_simp
          (go_at_call 24; refine (unhide P1).mono ?_; rintro e w2 ⟨a2, m2, k2, rfl, q2, P2⟩; clear P1)
          (go_wp2_with fail)
          refine hK.out _ _ q2 (fun hHeld2 => ?_)
          clear hK K hHeld
          have hHeld := hHeld2
          clear hHeld2

          refine wpAnyH_ready (rs := [8]) (by kernel_rfl) (by simp) ?_
          refine AllReadyH.cons rfl (fun K hK => ?_) AllReadyH.nil
          go_simp
          (go_at_call 25; refine (unhide P2).mono ?_; rintro e w3 ⟨a3, k3, rfl, q3, P3⟩; clear P2)
          (go_wp2_with fail)
          refine hK.out _ _ q3 (fun hHeld2 => ?_)
          clear hK K hHeld
          have hHeld := hHeld2
          clear hHeld2

          refine wpAnyH_ready (rs := [9]) (by kernel_rfl) (by simp) ?_
          refine AllReadyH.cons rfl (fun K hK => ?_) AllReadyH.nil
          go_simp
          (go_at_call 23; refine (unhide P3).mono ?_; rintro e w4 ⟨rfl, q4, P4⟩; clear P3)
          (go_wp2_with fail)
          refine hK.out _ _ q4 (fun hHeld2 => ?_)
          clear hK K hHeld
          have hHeld := hHeld2
          clear hHeld2

          refine take_to (i := 10) (d := 162) (v := .bool false) rfl rfl (by kernel_rfl) (by kernel_rfl) (by kernel_rfl) (fun _ _ _ h => h) (Or.inl ⟨by rfl, ?_⟩) hHeld ?_
          · (intro w' hSw; (try dsimp only at hSw); go_simp)
          simp only [Act.put, List.setIfInBounds_toArray, List.set_cons_zero, List.set_cons_succ]
          refine take_to (i := 11) (d := 163) (v := .bool false) rfl rfl (by kernel_rfl) (by kernel_rfl) (by kernel_rfl) (fun _ _ _ h => h) (Or.inl ⟨by rfl, ?_⟩) hHeld ?_
          · (intro w' hSw; (try dsimp only at hSw); go_simp)
          simp only [Act.put, List.setIfInBounds_toArray, List.set_cons_zero, List.set_cons_succ]
          refine take_to (i := 12) (d := 164) (v := .bool false) rfl rfl (by kernel_rfl) (by kernel_rfl) (by kernel_rfl) (fun _ _ _ h => h) (Or.inl ⟨by rfl, ?_⟩) hHeld ?_
          · (intro w' hSw; (try dsimp only at hSw); go_simp)
          simp only [Act.put, List.setIfInBounds_toArray, List.set_cons_zero, List.set_cons_succ]
          refine take_to (i := 13) (d := 165) (v := .pointer (some ⟨p, 0, none⟩)) rfl rfl (by kernel_rfl) (by kernel_rfl) (by kernel_rfl) (fun _ _ _ h => h) (Or.inl ⟨by rfl, ?_⟩) hHeld ?_
          · (intro w' hSw; (try dsimp only at hSw); go_simp)
          simp only [Act.put, List.setIfInBounds_toArray, List.set_cons_zero, List.set_cons_succ]
          refine take_to (i := 15) (d := 167) (v := .pointer (some ⟨r, 0, none⟩)) rfl rfl (by kernel_rfl) (by kernel_rfl) (by kernel_rfl) (fun _ _ _ h => h) (Or.inl ⟨by rfl, ?_⟩) hHeld ?_
          · (intro w' hSw; (try dsimp only at hSw); go_simp)
          simp only [Act.put, List.setIfInBounds_toArray, List.set_cons_zero, List.set_cons_succ]
          refine wpAnyH_ready (rs := [14]) (by kernel_rfl) (by simp) ?_
          refine AllReadyH.cons rfl (fun K hK => ?_) AllReadyH.nil
          go_simp
          (go_at_call 26; refine (unhide P4).mono ?_; rintro e w5 ⟨u5, rfl, q5, B5, P5, P6⟩; clear P4)
          (go_wp2_with fail)
          refine hK.out _ _ q5 (fun hHeld2 => ?_)
          clear hK K hHeld
          have hHeld := hHeld2
          clear hHeld2

          refine wpAnyH_ready (rs := [16]) (by kernel_rfl) (by simp) ?_
          refine AllReadyH.cons rfl (fun K hK => ?_) AllReadyH.nil
          go_simp
          (go_at_call 27; refine (unhide P5).mono ?_; rintro e w6 ⟨rfl, rfl⟩; clear P5)
          (go_wp2_with fail)
          refine hK.out _ _ q5 (fun hHeld2 => ?_)
          clear hK K hHeld
          have hHeld := hHeld2
          clear hHeld2

          refine take_to (i := 17) (d := 169) (v := .bool false) rfl rfl (by kernel_rfl) (by kernel_rfl) (by kernel_rfl) (fun _ _ _ h => h) (Or.inl ⟨by rfl, ?_⟩) hHeld ?_
          · (intro w' hSw; (try dsimp only at hSw); go_simp)
          simp only [Act.put, List.setIfInBounds_toArray, List.set_cons_zero, List.set_cons_succ]
          refine take_to (i := 18) (d := 170) (v := .bool false) rfl rfl (by kernel_rfl) (by kernel_rfl) (by kernel_rfl) (fun _ _ _ h => h) (Or.inl ⟨by rfl, ?_⟩) hHeld ?_
          · (intro w' hSw; (try dsimp only at hSw); go_simp)
          simp only [Act.put, List.setIfInBounds_toArray, List.set_cons_zero, List.set_cons_succ]
          refine take_to (i := 19) (d := 171) (v := .bool false) rfl rfl (by kernel_rfl) (by kernel_rfl) (by kernel_rfl) (fun _ _ _ h => h) (Or.inl ⟨by rfl, ?_⟩) hHeld ?_
          · (intro w' hSw; (try dsimp only at hSw); go_simp)
          simp only [Act.put, List.setIfInBounds_toArray, List.set_cons_zero, List.set_cons_succ]
          refine take_to (i := 20) (d := 172) (v := .pointer (some ⟨p, 0, none⟩)) rfl rfl (by kernel_rfl) (by kernel_rfl) (by kernel_rfl) (fun _ _ _ h => h) (Or.inl ⟨by rfl, ?_⟩) hHeld ?_
          · (intro w' hSw; (try dsimp only at hSw); go_simp)
          simp only [Act.put, List.setIfInBounds_toArray, List.set_cons_zero, List.set_cons_succ]
          refine take_to (i := 22) (d := 174) (v := .pointer (some ⟨r, 0, none⟩)) rfl rfl (by kernel_rfl) (by kernel_rfl) (by kernel_rfl) (fun _ _ _ h => h) (Or.inl ⟨by rfl, ?_⟩) hHeld ?_
          · (intro w' hSw; (try dsimp only at hSw); go_simp)
          simp only [Act.put, List.setIfInBounds_toArray, List.set_cons_zero, List.set_cons_succ]
          refine take_to (i := 23) (d := 175) (v := .pointer (some ⟨r, 0, none⟩)) rfl rfl (by kernel_rfl) (by kernel_rfl) (by kernel_rfl) (fun _ _ _ h => h) (Or.inl ⟨by rfl, ?_⟩) hHeld ?_
          · (intro w' hSw; (try dsimp only at hSw); go_simp)
          simp only [Act.put, List.setIfInBounds_toArray, List.set_cons_zero, List.set_cons_succ]
          refine take_to (i := 24) (d := 176) (v := .pointer (some ⟨r, 4, none⟩)) rfl rfl (by kernel_rfl) (by kernel_rfl) (by kernel_rfl) (fun _ _ _ h => h) (Or.inl ⟨by rfl, ?_⟩) hHeld ?_
          · (intro w' hSw; (try dsimp only at hSw); go_simp)
          simp only [Act.put, List.setIfInBounds_toArray, List.set_cons_zero, List.set_cons_succ]
          refine take_to (i := 25) (d := 177) (v := .int .i64 n0) rfl rfl (by kernel_rfl) (by kernel_rfl) (by kernel_rfl) (fun _ _ _ h => h) (Or.inl ⟨by rfl, ?_⟩) hHeld ?_
          · (intro w' hSw; (try dsimp only at hSw); go_simp)
          simp only [Act.put, List.setIfInBounds_toArray, List.set_cons_zero, List.set_cons_succ]
          refine wpAnyH_ready (rs := [21]) (by kernel_rfl) (by simp) ?_
          refine AllReadyH.cons rfl (fun K hK => ?_) AllReadyH.nil
          go_simp
          (go_at_call 28; refine (unhide P6).mono ?_; rintro e w7 ⟨rfl, rfl⟩; clear P6)
          (go_wp2_with fail)
          refine hK.out _ _ q5 (fun hHeld2 => ?_)
          clear hK K hHeld
          have hHeld := hHeld2
          clear hHeld2

          refine take_to (i := 26) (d := 178) (v := .bool false) rfl rfl (by kernel_rfl) (by kernel_rfl) (by kernel_rfl) (fun _ _ _ h => h) (Or.inl ⟨by rfl, ?_⟩) hHeld ?_
          · (intro w' hSw; (try dsimp only at hSw); go_simp)
          simp only [Act.put, List.setIfInBounds_toArray, List.set_cons_zero, List.set_cons_succ]
          refine take_to (i := 27) (d := 179) (v := .bool false) rfl rfl (by kernel_rfl) (by kernel_rfl) (by kernel_rfl) (fun _ _ _ h => h) (Or.inl ⟨by rfl, ?_⟩) hHeld ?_
          · (intro w' hSw; (try dsimp only at hSw); go_simp)
          simp only [Act.put, List.setIfInBounds_toArray, List.set_cons_zero, List.set_cons_succ]
          refine wpAnyH_done (by kernel_rfl) ?_ _
          have P7 := hide (read_chain (unhide HE) ((unhide hD).2.1.below (unhide B5)) ((unhide hD).2.2.below (unhide B5)) hn1)
          have e2 := ((unhide hD).2.2.below (unhide B5)).at.2.2.1
          clear d2 hD
          go_wp2_with (first
            | (go_at_call 29; refine (unhide P7).mono ?_; rintro e w8 ⟨a8, m8, k8, ev8, rfl, e82, P8⟩; clear P7)
            | (go_at_call 30; refine (unhide P8).mono ?_; rintro e w9 ⟨a9, k9, c9, rfl, P9⟩; clear P8)
            | (go_at_call 22; refine (unhide P9).mono ?_; rintro e w10 ⟨rfl, P10, P11⟩; clear P9)
            | (go_at_call 31; refine (unhide P10).mono ?_; rintro e w11 ⟨rfl, rfl⟩; clear P10)
            | (go_at_call 9; refine (unhide P11).mono ?_; rintro e w12 ⟨rfl, T12⟩; clear P11))
          go_roundg (gs.length - (j + 1))
          case measure => omega
          case rel => exact ⟨j + 1, by omega, rfl, by go_num, unhide T12⟩
    · have hji : ¬ ((j : Int) < (gs.length : Int)) := by omega
      obtain ⟨b0, c2, f2, HC⟩ := tx_end (unhide hT)
      obtain ⟨Z, hmk, hZ⟩ := make100 (wr.setCell ⟨r, 2, none⟩ (.bool false))
      have hz : (wr.setCell ⟨r, 2, none⟩ (.bool false)).heap.size = wr.heap.size := by simp
      have PC := HC _ _ ((Below.refl _ _).alloc (Nat.le_of_eq hz.symm) _) (keep_zero (Nat.le_of_eq hz.symm) hZ)
      rw [hz] at hmk PC
      have PD := hide PC
      clear HC PC HL hT T3 hZ hz
      as_aux_lemma =>
        go_wp2_with (first
          | (go_at_call 20; refine (unhide PD).mono ?_; rintro e w1 ⟨rfl, PR⟩; clear PD)
          | (go_at_call 21; refine (unhide PR).mono ?_; rintro e w2 ⟨rfl, fa, fm, fc, X2, x0, hfm⟩; clear PR))
        clear hmk c2 f2
        go_loopg [15] fm (fun g i wx => ∃ q : Nat, q ≤ fm ∧ g = fm - q ∧ i = .int .i64 q ∧ Hid (EX w wx p r j fa fm fc))
        case atStart => exact ⟨0, by omega, rfl, rfl, unhide X2⟩
        case round =>
          obtain ⟨q, hq, rfl, rfl, hX⟩ := hrel
          have x1 := (unhide hX).cell
          by_cases hqm : q < fm
          · obtain ⟨g, nm, ea, el, ek, rfl, _, y1, PR⟩ := ex_read (unhide hX) (unhide HE) q hqm
            have hqi : (q : Int) < (fm : Int) := by omega
            have hq0 : (0 : Int) ≤ (q : Int) := by omega
            clear hX X2 x0
            go_wp2_with (first
              | (go_at_call 29; refine (unhide PR).mono ?_; rintro e w3 ⟨a3, k3, rfl, y2, y3, X3, PB⟩; clear PR)
              | (go_at_call 31; refine (unhide PB).mono ?_; rintro e w4 ⟨rfl, rfl⟩; clear PB))
            go_roundg (fm - (q + 1))
            case measure => omega
            case rel => exact ⟨q + 1, by omega, rfl, by go_num, unhide X3⟩
          · have hqi : ¬ ((q : Int) < (fm : Int)) := by omega
            have HB := hide ((unhide hX).env.below (Nat.le_refl _))
            clear hX X2 x0
            go_wp2_with fail
            go_ret
            exact ⟨rfl, unhide HB⟩
end Go.Proofs.YthebgoadeecmpaaDoor
