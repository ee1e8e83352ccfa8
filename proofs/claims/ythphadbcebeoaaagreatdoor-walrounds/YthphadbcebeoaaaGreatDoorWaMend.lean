/- A wal: mend. -/
import Derived.Test.YthphadbcebeoaaaGreatDoorJWaAppWaApp2
import Derived.Test.YthphadbcebeoaaaGreatDoorJNumsFaultsWriterUint
namespace Go.Proofs.YthphadbcebeoaaaGreatDoor
open Go.RowKit Go.Lib Go.Maps

theorem names_at {w : World} {B : Nat} {a : Option Addr} {cap n : Nat} {ns : List (List UInt8)} (h : w.ownsRow B 9 1 (.slice a n cap) n (ns.map encStr)) (k : Nat) (hk : k < ns.length) : ∃ g, a = some ⟨g, 0, none⟩ ∧ w.cell? ⟨g, k, none⟩ = some (encStr (ns.getD k [])) := by
  rcases h.2 with ⟨h1, h2⟩ | ⟨g, c, cur, h1, hB, hc, h3, h4, h5, h6⟩
  · have h7 := h.1
    simp at h7; omega
  · injection h1 with h8 h9 h10
    refine ⟨g, h8, ?_⟩
    rw [(Dk.cellB hc _).1, ← Array.getElem?_toList]
    have h7 : ns.length = n := by have := h.1; simpa using this
    have e1 : (cur.toList.take (n * 1))[k]? = cur.toList[k]? := List.getElem?_take_of_lt (by omega)
    rw [← e1, h6]
    simp [hk]
set_option maxHeartbeats 1600000 in
set_option maxRecDepth 100000 in
theorem pre_ot (w : World) : Calls Tryz.prog 72 #[.string ⟨#[111, 116, 104, 101, 114]⟩, .string ⟨#[119, 97, 108]⟩] w fun e w' => e = .returned (.bool false) ∧ w' = w := by
  have hpe : (((⟨#[111, 116, 104, 101, 114]⟩ : ByteArray).extract 0 3).toList == [119, 97, 108]) = false := by kernel_rfl
  go_enter Tryz.func72, Tryz.ntmps72
  go_wp2
  go_ret
  exact ⟨rfl, rfl⟩
theorem prefix_ot (w : World) : Calls Tryz.prog 53 #[.string ⟨#[111, 116, 104, 101, 114]⟩, .string ⟨#[119, 97, 108]⟩] w fun e w' => e = .returned (.bool false) ∧ w' = w := by
  go_enter Tryz.func53, Tryz.ntmps53
  go_wp2_with (first | (go_at_call 72; refine (pre_ot _).mono ?_; rintro e w1 ⟨rfl, rfl⟩))
  go_ret
  exact ⟨rfl, rfl⟩
theorem fx_names (a x : Fx) : ∀ k, k < ((FX a x).map (·.name)).length → ((FX a x).map (·.name)).getD k [] = [119, 97, 108] ∨ ((FX a x).map (·.name)).getD k [] = [111, 116, 104, 101, 114] := by
  intro k hk
  have h1 : ∀ y, (waE y).name = [119, 97, 108] := fun _ => rfl
  have h2 : ∀ y, (otE y).name = [111, 116, 104, 101, 114] := fun _ => rfl
  cases a <;> cases x <;> simp [FX] at hk
  · subst hk; exact .inl (h1 _)
  · subst hk; exact .inr (h2 _)
  · rcases Nat.lt_or_ge k 1 with h' | h'
    · obtain rfl : k = 0 := by omega
      exact .inr (h2 _)
    · obtain rfl : k = 1 := by omega
      exact .inl (h1 _)
section
variable {w : World} {B p q sz n : Nat} {S : Dk.St} {R : Int} {a x : Fx} {s : Sta} {v : Value} {D : Nat → Prop}
set_option maxHeartbeats 6400000 in
set_option maxRecDepth 100000 in
theorem mend_nil (h : WX w B p q S (FX a x) s v sz D) : Calls Tryz.prog 30 #[.pointer (some ⟨p, 0, none⟩), .nilIface] w fun e w' => e = .returned .nilIface ∧ Below w.heap.size w w' := by
  have hf := h.dx.few
  obtain ⟨c0, _⟩ := h.cells
  obtain ⟨ns, hns⟩ : ∃ ns, ns = (FX a x).map (·.name) := ⟨_, rfl⟩
  have hl : ns.length = (FX a x).length := by rw [hns]; simp
  have HK : Hid (∀ k, k < ns.length → ns.getD k [] = [119, 97, 108] ∨ ns.getD k [] = [111, 116, 104, 101, 114]) := by rw [hns]; exact fx_names a x
  have HL := hide (Dk.dx_list h.dx)
  rw [← hns, ← hl] at HL
  rw [← hl] at hf
  clear h hns hl
  go_enter Tryz.func30, Tryz.ntmps30
  go_wp2_with (first
    | (go_at_call 35; refine (unhide HL).mono ?_; rintro e w1 ⟨vl, rfl, hv, b1⟩; clear HL; obtain ⟨la, cap, rfl⟩ := Dk.own_sl hv; have HV := hide hv; have HB1 := hide b1; clear hv b1))
  go_loopw [6, 7, 15] (fun s6 s7 i wr => s6 = s6 ∧ s7 = s7 ∧ ∃ k : Nat, k ≤ ns.length ∧ i = .int .i64 k ∧ wr = w1) (fun _ _ i _ => ns.length - (RowKit.intOf i).toNat)
  case atStart => exact ⟨rfl, rfl, 0, by omega, rfl, rfl⟩
  case round =>
    obtain ⟨-, -, k, hk, rfl, rfl⟩ := hrel
    by_cases hlt : k < ns.length
    · obtain ⟨g, rfl, hc⟩ := names_at (unhide HV) k hlt
      have hlt' : (k : Int) < (ns.length : Int) := by omega
      rcases unhide HK k hlt with hn | hn
      · rw [hn] at hc
        have hc2 : wr.cell? ⟨g, k, none⟩ = some (.string ⟨#[119, 97, 108]⟩) := hc
        clear HK HV hc hn
        go_wp2_with fail
        go_roundw
        case rel => exact ⟨trivial, trivial, k + 1, by omega, by go_num, trivial⟩
        case measure => simp [RowKit.intOf]; omega
      · rw [hn] at hc
        have hc2 : wr.cell? ⟨g, k, none⟩ = some (.string ⟨#[111, 116, 104, 101, 114]⟩) := hc
        clear HK HV hc hn
        go_wp2_with (first | (go_at_call 53; refine (prefix_ot _).mono ?_; rintro e w2 ⟨rfl, rfl⟩))
        go_roundw
        case rel => exact ⟨trivial, trivial, k + 1, by omega, by go_num, trivial⟩
        case measure => simp [RowKit.intOf]; omega
    · have hlt' : ¬ (k : Int) < (ns.length : Int) := by omega
      clear HK HV
      go_wp2_with (first | (go_at_call 55; refine (torn_nil _).mono ?_; rintro e w2 ⟨rfl, rfl⟩))
      go_ret
      exact ⟨rfl, below_trans0 (unhide HB1) (box_below _ _)⟩
set_option maxHeartbeats 6400000 in
set_option maxRecDepth 100000 in
theorem mend_torn {b b2 m : Nat} {pl : Int} (y : List UInt8 × Nat) (h : WX w B p q S (FX a (some y)) s v sz D) (hB : B ≤ w.heap.size) (hE : EV w B) (hS : OkS S R n) (hf2 : ¬ Fails S) (hm : m ≤ y.1.length) (hm2 : m ≤ 1000000000) (e0 : w.cell? ⟨b, 0, none⟩ = some (.int .i64 (m : Int))) (e1 : w.cell? ⟨b, 1, none⟩ = some (ev b2)) (e2 : ErrAt w b2 pl 22) (_hbp : b ≠ p) :
    Calls Tryz.prog 30 #[.pointer (some ⟨p, 0, none⟩), ev b] w fun e w' => WDone w B p q (nx S) (FX a (some (y.1.take m, min y.2 m))) s m v D (PD p D) e w' := by
  have hf := h.dx.few
  obtain ⟨c0, _⟩ := h.cells
  obtain ⟨ns, hns⟩ : ∃ ns, ns = (FX a (some y)).map (·.name) := ⟨_, rfl⟩
  have hl : ns.length = (FX a (some y)).length := by rw [hns]; simp
  have HK : Hid (∀ k, k < ns.length → ns.getD k [] = [119, 97, 108] ∨ ns.getD k [] = [111, 116, 104, 101, 114]) := by rw [hns]; exact fx_names a (some y)
  have HL := hide (Dk.dx_list h.dx)
  rw [← hns, ← hl] at HL
  rw [← hl] at hf
  have HW : Hid (∀ w3 : World, Below w.heap.size w w3 → w3.cell? ⟨p, 0, none⟩ = some (.pointer (some ⟨q, 0, none⟩)) ∧ w3.cell? ⟨p, 6, none⟩ = some (.int .i64 (sz : Int)) ∧ w3.frozen? ⟨p, 6, none⟩ = false ∧ w3.cell? ⟨b, 0, none⟩ = some (.int .i64 (m : Int)) ∧ Hid (Calls Tryz.prog 55 #[ev b] w3 fun e w' => e = .returned (.bool true) ∧ w' = w3) ∧
      Hid (∀ w5 : World, w5.heap = (w3.setCell ⟨p, 6, none⟩ (.int .i64 (m : Int))).heap → Dk.Env w3 w5 → Calls Tryz.prog 56 #[.pointer (some ⟨q, 0, none⟩), .string waN, .int .i64 (m : Int)] w5 fun e w' => e = .returned .nilIface ∧ Hid (WDone w B p q (nx S) (FX a (some (y.1.take m, min y.2 m))) s m v D (PD p D) (.returned .nilIface) w'))) := by
    intro w3 hb
    have h3 := h.below hb
    have hb3 : b < w.heap.size := lt_of_cell e0
    refine ⟨h3.cells.1, h3.cells.2.2.2.2.2.2.1, h3.frz 6, (hb.cell (p := ⟨b, 0, none⟩) hb3).trans e0, torn_yes b b2 pl w3 ((hb.cell (p := ⟨b, 1, none⟩) hb3).trans e1) (e2.below hb (lt_of_cell e2.1)), fun w5 hh henv => ?_⟩
    have h5 : WX w5 B p q S (FX a (some y)) s v m D := (h3.setSize m).keep (by rw [hh]; exact Nat.le_refl _) (fun k _ => by rw [hh])
    have hfr : Dk.FrO (PD p D) w w5 := ⟨by rw [hh]; have := hb.size; simp; omega, fun k hk hn => by rw [hh]; exact (Dk.heap_setCell_ne _ _ (fun e => hn (.inl e))).trans (hb.block k hk), Dk.Env.trans ⟨hb.os, hb.tape, hb.output⟩ henv⟩
    have hz5 : w.heap.size ≤ w5.heap.size := hfr.size
    have hE5 : EV w5 B := hE.below (fro_below hfr (fun k hk => h.wo k (hk.elim .inl (fun hh => .inr (.inr hh)))) hB)
    refine (trunc_go y m h5.dx hE5.et hS hm hm2 hf2).mono ?_
    rintro e w6 ⟨D', rfl, hd, hf6, ho⟩
    refine ⟨rfl, v, D', rfl, h5.disk (Nat.le_trans hB hz5) hd hf6 ho, ?_, fun g hg => .inl hg, fun k hk => (ho k hk).imp id (fun hh => Nat.le_trans hz5 hh)⟩
    exact hfr.trans (fro_wide hf6 (O' := PD p D) (fun k hk => .inr hk)) (fun k _ hk => hk)
  have HE := hide (And.intro hE.et hB)
  have hpl := h.lt p (.inl rfl)
  unfold waN at HW
  clear h hns hl hB hE hS hf2 hm e0 e1 e2
  go_enter Tryz.func30, Tryz.ntmps30
  go_wp2_with (first
    | (go_at_call 35; refine (unhide HL).mono ?_; rintro e w1 ⟨vl, rfl, hv, b1⟩; clear HL; obtain ⟨la, cap, rfl⟩ := Dk.own_sl hv; have HV := hide hv; have HB1 := hide b1; clear hv b1))
  go_loopw [6, 7, 15] (fun s6 s7 i wr => s6 = s6 ∧ s7 = s7 ∧ ∃ k : Nat, k ≤ ns.length ∧ i = .int .i64 k ∧ wr = w1) (fun _ _ i _ => ns.length - (RowKit.intOf i).toNat)
  case atStart => exact ⟨rfl, rfl, 0, by omega, rfl, rfl⟩
  case round =>
    obtain ⟨-, -, k, hk, rfl, rfl⟩ := hrel
    by_cases hlt : k < ns.length
    · obtain ⟨g, rfl, hc⟩ := names_at (unhide HV) k hlt
      have hlt' : (k : Int) < (ns.length : Int) := by omega
      rcases unhide HK k hlt with hn | hn
      · rw [hn] at hc
        have hc2 : wr.cell? ⟨g, k, none⟩ = some (.string ⟨#[119, 97, 108]⟩) := hc
        clear HK HV hc hn
        go_wp2_with fail
        go_roundw
        case rel => exact ⟨trivial, trivial, k + 1, by omega, by go_num, trivial⟩
        case measure => simp [RowKit.intOf]; omega
      · rw [hn] at hc
        have hc2 : wr.cell? ⟨g, k, none⟩ = some (.string ⟨#[111, 116, 104, 101, 114]⟩) := hc
        clear HK HV hc hn
        go_wp2_with (first | (go_at_call 53; refine (prefix_ot _).mono ?_; rintro e w2 ⟨rfl, rfl⟩))
        go_roundw
        case rel => exact ⟨trivial, trivial, k + 1, by omega, by go_num, trivial⟩
        case measure => simp [RowKit.intOf]; omega
    · have hlt' : ¬ (k : Int) < (ns.length : Int) := by omega
      clear HK HV
      have b1 := unhide HB1
      have b2' := below_trans0 b1 (box_below wr (.cells #[.pointer none] 112))
      obtain ⟨_, _, _, _, HT, _⟩ := unhide HW _ b2'
      have HA : Hid (Calls Tryz.prog 43 #[ev b, .iface 114 (.pointer (some ⟨wr.heap.size, 0, none⟩))] (wr.alloc (.cells #[.pointer none] 112)) fun e w' => e = .returned (.bool true) ∧ w'.cell? ⟨wr.heap.size, 0, none⟩ = some (.pointer (some ⟨b, 0, none⟩)) ∧ Hid (Below w.heap.size w w')) := by
        refine (as_place b ⟨wr.heap.size, 0, none⟩ (.pointer none) _ ((unhide HE).1.below b2' (unhide HE).1.lt) (by simp) (by simp)).mono ?_
        rintro e w' ⟨rfl, h1, h2, h3⟩
        exact ⟨rfl, h1, b2'.trans (h2.mono b1.size)⟩
      have HC6 : Hid (∀ w6 : World, Hid (WDone w B p q (nx S) (FX a (some (y.1.take m, min y.2 m))) s m v D (PD p D) (.returned .nilIface) w6) → w6.cell? ⟨p, 0, none⟩ = some (.pointer (some ⟨q, 0, none⟩)) ∧ w6.cell? ⟨p, 6, none⟩ = some (.int .i64 (m : Int))) := fun w6 h6 => by
        obtain ⟨v', D', _, q1, _⟩ := unhide h6
        exact ⟨q1.cells.1, q1.cells.2.2.2.2.2.2.1⟩
      clear b1 b2'
      go_wp2_with (first
        | (go_at_call 55; refine (unhide HT).mono ?_; rintro e w2 ⟨rfl, rfl⟩)
        | (go_at_call 43; refine (unhide HA).mono ?_; rintro e w4 ⟨rfl, x0, HB4⟩; clear HA; obtain ⟨z0, z6, zf, zb, _, HG⟩ := unhide HW w4 (unhide HB4)))
      have k0 : (w4.setCell ⟨p, 6, none⟩ (.int .i64 (m : Int))).cell? ⟨p, 0, none⟩ = some (.pointer (some ⟨q, 0, none⟩)) := (World.cell?_setCell_other _ _ _ _ (by intro h; cases h)).trans z0
      have k6 : (w4.setCell ⟨p, 6, none⟩ (.int .i64 (m : Int))).cell? ⟨p, 6, none⟩ = some (.int .i64 (m : Int)) := World.cell?_setCell_same _ _ _ z6
      have HG5 : Hid (∀ w5 : World, w5.heap = (w4.setCell ⟨p, 6, none⟩ (.int .i64 (m : Int))).heap → Dk.Env w4 w5 → Calls Tryz.prog 56 #[.pointer (some ⟨q, 0, none⟩), .string ⟨#[119, 97, 108]⟩, .int .i64 (m : Int)] w5 fun e w' => e = .returned .nilIface ∧ Hid (WDone w B p q (nx S) (FX a (some (y.1.take m, min y.2 m))) s m v D (PD p D) (.returned .nilIface) w')) := unhide HG
      clear HG
      refine wp_region_held_drew (S := fun w' => w'.cell? ⟨p, 0, none⟩ = some (.pointer (some ⟨q, 0, none⟩)) ∧ w'.cell? ⟨p, 6, none⟩ = some (.int .i64 (m : Int))) (by kernel_rfl) ⟨k0, k6⟩ (fun hHeld => ?_)
      refine hand_to (i := 0) (d := 52) (v := (.pointer (some ⟨p, 0, none⟩))) rfl rfl (by kernel_rfl) (by kernel_rfl) (by kernel_rfl) (fun _ _ _ h => h) (Or.inl ⟨by rfl, ?_⟩) hHeld ?_
      · (intro w' hSw; obtain ⟨y0, y6⟩ := hSw; go_simp)
      simp only [Act.put, List.setIfInBounds_toArray, List.set_cons_zero, List.set_cons_succ]
      refine hand_to (i := 1) (d := 53) (v := (.pointer (some ⟨p, 0, none⟩))) rfl rfl (by kernel_rfl) (by kernel_rfl) (by kernel_rfl) (fun _ _ _ h => h) (Or.inl ⟨by rfl, ?_⟩) hHeld ?_
      · (intro w' hSw; obtain ⟨y0, y6⟩ := hSw; go_simp)
      simp only [Act.put, List.setIfInBounds_toArray, List.set_cons_zero, List.set_cons_succ]
      refine hand_to (i := 2) (d := 54) (v := (.pointer (some ⟨p, 0, none⟩))) rfl rfl (by kernel_rfl) (by kernel_rfl) (by kernel_rfl) (fun _ _ _ h => h) (Or.inl ⟨by rfl, ?_⟩) hHeld ?_
      · (intro w' hSw; obtain ⟨y0, y6⟩ := hSw; go_simp)
      simp only [Act.put, List.setIfInBounds_toArray, List.set_cons_zero, List.set_cons_succ]
      refine hand_to (i := 3) (d := 55) (v := (.pointer (some ⟨q, 0, none⟩))) rfl rfl (by kernel_rfl) (by kernel_rfl) (by kernel_rfl) (fun _ _ _ h => h) (Or.inl ⟨by rfl, ?_⟩) hHeld ?_
      · (intro w' hSw; obtain ⟨y0, y6⟩ := hSw; go_simp)
      simp only [Act.put, List.setIfInBounds_toArray, List.set_cons_zero, List.set_cons_succ]
      refine hand_to (i := 4) (d := 56) (v := (.pointer (some ⟨p, 0, none⟩))) rfl rfl (by kernel_rfl) (by kernel_rfl) (by kernel_rfl) (fun _ _ _ h => h) (Or.inl ⟨by rfl, ?_⟩) hHeld ?_
      · (intro w' hSw; obtain ⟨y0, y6⟩ := hSw; go_simp)
      simp only [Act.put, List.setIfInBounds_toArray, List.set_cons_zero, List.set_cons_succ]
      refine hand_to (i := 5) (d := 57) (v := (.pointer (some ⟨p, 0, none⟩))) rfl rfl (by kernel_rfl) (by kernel_rfl) (by kernel_rfl) (fun _ _ _ h => h) (Or.inl ⟨by rfl, ?_⟩) hHeld ?_
      · (intro w' hSw; obtain ⟨y0, y6⟩ := hSw; go_simp)
      simp only [Act.put, List.setIfInBounds_toArray, List.set_cons_zero, List.set_cons_succ]
      refine hand_to (i := 6) (d := 58) (v := (.pointer (some ⟨p, 6, none⟩))) rfl rfl (by kernel_rfl) (by kernel_rfl) (by kernel_rfl) (fun _ _ _ h => h) (Or.inl ⟨by rfl, ?_⟩) hHeld ?_
      · (intro w' hSw; obtain ⟨y0, y6⟩ := hSw; go_simp)
      simp only [Act.put, List.setIfInBounds_toArray, List.set_cons_zero, List.set_cons_succ]
      refine hand_to (i := 7) (d := 59) (v := (.int .i64 (m : Int))) rfl rfl (by kernel_rfl) (by kernel_rfl) (by kernel_rfl) (fun _ _ _ h => h) (Or.inl ⟨by rfl, ?_⟩) hHeld ?_
      · (intro w' hSw; obtain ⟨y0, y6⟩ := hSw; go_simp)
      simp only [Act.put, List.setIfInBounds_toArray, List.set_cons_zero, List.set_cons_succ]
      refine wpAnyH_ready (rs := [8]) (by kernel_rfl) (by simp) ?_
      refine AllReadyH.cons rfl (fun K hK => ?_) AllReadyH.nil
      go_simp
      (go_at_call 56; refine (unhide HG5 (w4.setCell ⟨p, 6, none⟩ (.int .i64 (m : Int))).drew rfl ⟨rfl, rfl, rfl⟩).mono ?_; rintro e w6 ⟨rfl, H6⟩; clear HG5)
      (go_wp2_with fail)
      refine hK.out _ _ (unhide HC6 w6 H6) (fun hHeld2 => ?_)
      clear hK K hHeld
      have hHeld := hHeld2
      clear hHeld2
      refine hand_to (i := 9) (d := 4) (v := .nilIface) rfl rfl (by kernel_rfl) (by kernel_rfl) (by kernel_rfl) (fun _ _ _ h => h) (Or.inl ⟨by rfl, ?_⟩) hHeld ?_
      · (intro w' hSw; obtain ⟨y0, y6⟩ := hSw; go_simp)
      simp only [Act.put, List.setIfInBounds_toArray, List.set_cons_zero, List.set_cons_succ]
      refine wpAnyH_done (by kernel_rfl) ?_ _
      go_wp2_with fail
      go_ret
      exact unhide H6
end
end Go.Proofs.YthphadbcebeoaaaGreatDoor
