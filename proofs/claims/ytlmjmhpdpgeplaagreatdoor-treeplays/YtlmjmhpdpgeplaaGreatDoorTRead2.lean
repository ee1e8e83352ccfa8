/- The reader of a tree's bytes: number, text, item. -/
import Derived.Test.YtlmjmhpdpgeplaaGreatDoorTRead
import Derived.Test.YtlmjmhpdpgeplaaGreatDoorJReaderUptoUpto2
namespace Go.Proofs.YtlmjmhpdpgeplaaGreatDoor
open Go.RowKit Go.Lib

theorem BL.rb {w : World} {r : Nat} {v : Value} {l : List UInt8} (h : BL w r v l) (hl : l.length ≤ 1000000) : RBp w w.heap.size v l := by
  obtain h | ⟨b, off, cap, rfl, h2, h3, h4, h5, h6⟩ := h
  · exact ⟨by omega, .inl h⟩
  · exact ⟨by omega, .inr ⟨b, off, cap, h5, h2, h3, rfl, h6⟩⟩
theorem slice_run1 (a : Option Addr) (n c i : Nat) (h : i ≤ n) (W : World) : (Instr.slice 30 (.slice a n c) (some (.int .i64 (i : Int))) none none).run Tryz.prog W = .ok (sliced a i n c 1) W := by
  have h0 : (0 : Int) ≤ (i : Int) := by omega
  have h1 : (i : Int) ≤ (n : Int) := by omega
  go_simp
theorem slice_run2 (a : Option Addr) (n c i j : Nat) (h : i ≤ j) (hn : j ≤ c) (W : World) : (Instr.slice 30 (.slice a n c) (some (.int .i64 (i : Int))) (some (.int .i64 (j : Int))) none).run Tryz.prog W = .ok (sliced a i j c 1) W := by
  have h0 : (0 : Int) ≤ (i : Int) := by omega
  have h1 : (i : Int) ≤ (j : Int) := by omega
  have h2 : (j : Int) ≤ (c : Int) := by omega
  go_simp
/-- A part of bytes. -/
theorem rb_part {W : World} {B : Nat} {a : Option Addr} {n c i j : Nat} {l : List UInt8} (h : RBp W B (.slice a n c) l) (hij : i ≤ j) (hj : j ≤ l.length) : RBp W B (sliced a i j c 1) ((l.drop i).take (j - i)) := by
  have hlen : ((l.drop i).take (j - i)).length = j - i := by rw [List.length_take, List.length_drop]; omega
  obtain ⟨h1, ⟨e, rfl⟩ | ⟨b, off, cap, hbB, hcap, hm, e, hcell⟩⟩ := h
  · cases e
    have : j = 0 := by simpa using hj
    subst this
    have : i = 0 := by omega
    subst this
    exact ⟨by simp, .inl ⟨by simp [sliced], by simp⟩⟩
  · cases e
    have hget : ∀ t, t < j - i → ((l.drop i).take (j - i)).getD t 0 = l.getD (i + t) 0 := fun t ht => by simp [List.getD_eq_getElem?_getD, ht]
    by_cases hz : c = i
    · refine ⟨by rw [hlen]; omega, .inr ⟨b, off, c - i, hbB, by rw [hlen]; omega, by omega, by rw [hlen]; simp [sliced, hz], fun t ht => ?_⟩⟩
      rw [hlen] at ht; omega
    · refine ⟨by rw [hlen]; omega, .inr ⟨b, off + i, c - i, hbB, by rw [hlen]; omega, by omega, by rw [hlen]; simp [sliced, hz, Addr.add], fun t ht => ?_⟩⟩
      rw [hlen] at ht
      rw [hget t ht, Nat.add_assoc]
      exact hcell (i + t) (by omega)
theorem conv_rbp {w : World} {B : Nat} {v : Value} {l : List UInt8} (h : RBp w B v l) : (convert 30 9 v).run Tryz.prog w = .ok (.string ⟨l.toArray⟩) w := by
  have hsz : (⟨l.toArray⟩ : ByteArray).size = l.length := List.size_toArray
  obtain ⟨h1, ⟨rfl, rfl⟩ | ⟨b, off, cap, hbB, hcap, hm, rfl, hcell⟩⟩ := h
  · exact conv_zero none 0 w
  · rcases Nat.eq_zero_or_pos l.length with h0 | h0
    · have : l = [] := List.length_eq_zero_iff.1 h0
      subst this
      exact conv_zero _ cap w
    · have hbl : b < w.heap.size := lt_of_cell (hcell 0 h0)
      exact BR.conv (.inr ⟨b, off, cap, by rw [hsz], hbl, fun i hi => hcell i (by rw [← hsz]; exact hi)⟩)
section
variable {w : World} {r : Nat} {v : Value} {l : List UInt8} {a : Nat} {fr : ByteArray}
theorem number_t (h : RS2 w r v l a fr) : Calls Tryz.prog 30 #[.pointer (some ⟨r, 0, none⟩)] w (NumP w r v l a fr) := by
  have hr := h.2.1.rb h.2.2.2.1
  obtain ⟨va, vc, rfl, _⟩ : ∃ va vc, v = .slice va l.length vc ∧ l.length ≤ vc := by
    obtain ⟨rfl, rfl⟩ | ⟨b, off, cap, rfl, h2, _⟩ := h.2.1
    · exact ⟨none, 0, rfl, Nat.le_refl _⟩
    · exact ⟨_, cap, rfl, h2⟩
  refine number_core h (fun W => slice_run1 va _ vc a h.2.2.1 W) (fun W hb => ?_)
  have h1 := rb_part (hr.below hb (Nat.le_refl _)) h.2.2.1 (Nat.le_refl _)
  have e : (l.drop a).take (l.length - a) = l.drop a := List.take_of_length_le (by rw [List.length_drop]; exact Nat.le_refl _)
  rw [e] at h1
  exact uint_any _ _ _ W h1
end
/-- What text tells. -/
def TxP (w : World) (r : Nat) (v : Value) (l : List UInt8) (a : Nat) (fr : ByteArray) (e : Ending) (w' : World) : Prop :=
  FrP r w w' ∧ ((∃ k a', rdTx l a = some (k, a') ∧ e = .returned (.tuple #[.string k, .nilIface]) ∧ RS2 w' r v l a' fr) ∨ (rdTx l a = none ∧ RS2 w' r v l a fr ∧ ∃ T x, e = .returned (.tuple #[.string ⟨#[]⟩, .iface T x]) ∧ Chn w' 20 1 (.iface T x)))
section
variable {w : World} {r : Nat} {v : Value} {l : List UInt8} {a : Nat} {fr : ByteArray}
set_option maxHeartbeats 12800000 in
set_option maxRecDepth 100000 in
theorem text_t (h : RS2 w r v l a fr) : Calls Tryz.prog 58 #[.pointer (some ⟨r, 0, none⟩)] w (TxP w r v l a fr) := by
  have HN := hide (number_t h)
  have HR := hide h
  obtain ⟨va, vc, rfl, hvc⟩ : ∃ va vc, v = .slice va l.length vc ∧ l.length ≤ vc := by
    obtain ⟨rfl, rfl⟩ | ⟨b, off, cap, rfl, h2, _⟩ := h.2.1
    · exact ⟨none, 0, rfl, Nat.le_refl _⟩
    · exact ⟨_, cap, rfl, h2⟩
  obtain ⟨len, hlen⟩ : ∃ len, len = l.length := ⟨_, rfl⟩
  have HL := hide (And.intro hlen hvc)
  clear h hvc hlen
  cases hx : rdNum l a with
  | none =>
    have HN2 : Hid (Calls Tryz.prog 30 #[.pointer (some ⟨r, 0, none⟩)] w fun e w' => ∃ T x, e = .returned (.tuple #[.int .i64 0, .iface T x]) ∧ Hid (TxP w r (.slice va l.length vc) l a fr (.returned (.tuple #[.string ⟨#[]⟩, .iface T x])) w')) := by
      refine (unhide HN).mono ?_
      rintro e w' ⟨z1, ⟨n, a', zx, _⟩ | ⟨_, z2, T, x, rfl, z3⟩⟩
      · rw [hx] at zx; cases zx
      · exact ⟨T, x, rfl, z1, .inr ⟨by unfold rdTx; rw [hx], z2, T, x, rfl, z3⟩⟩
    clear HN HR HL hx
    go_enter Tryz.func58, Tryz.ntmps58
    go_wp2_with (go_at_call 30; refine (unhide HN2).mono ?_; rintro e w1 ⟨T, x, rfl, HE⟩; clear HN2)
    go_ret2
    exact unhide HE
  | some p =>
    obtain ⟨n, a1⟩ := p
    have HX : Hid (rdNum l a = some (n, a1) ∧ a1 + n ≤ l.length ∧ l.length ≤ 1000000) := ⟨hx, (rdNum_some hx (unhide HR).2.2.1).2.2.1, (unhide HR).2.2.2.1⟩
    have HN2 : Hid (Calls Tryz.prog 30 #[.pointer (some ⟨r, 0, none⟩)] w fun e w' => e = .returned (.tuple #[.int .i64 (n : Int), .nilIface]) ∧ (w'.cell? ⟨r, 1, none⟩ = some (.int .i64 (a1 : Int)) ∧ w'.frozen? ⟨r, 1, none⟩ = false) ∧ Hid (FrP r w w' ∧ RS2 w' r (.slice va l.length vc) l a1 fr)) := by
      refine (unhide HN).mono ?_
      rintro e w' ⟨z1, ⟨n', a', zx, rfl, z2⟩ | ⟨zx, _⟩⟩
      · rw [hx] at zx
        cases zx
        exact ⟨rfl, ⟨z2.1.cells.2.1, z2.1.cells.2.2.2.1⟩, z1, z2⟩
      · rw [hx] at zx; cases zx
    have hxx := unhide HX
    obtain ⟨a2, ha2⟩ : ∃ a2, a2 = a1 + n := ⟨_, rfl⟩
    have e1 : (a1 : Int) + (n : Int) = (a2 : Int) := by omega
    have e2 : IntKind.i64.wrap (a2 : Int) = (a2 : Int) := by rw [IntKind.wrap_i64] <;> omega
    have e3 : (a2 : Int) - (n : Int) = (a1 : Int) := by omega
    have e4 : IntKind.i64.wrap (a1 : Int) = (a1 : Int) := by rw [IntKind.wrap_i64] <;> omega
    have HA2 := hide ha2
    clear HN hx hxx ha2
    go_enter Tryz.func58, Tryz.ntmps58
    go_upto_region 5 with (go_at_call 30; refine (unhide HN2).mono ?_; rintro e w1 ⟨rfl, ⟨c1, f1⟩, H1⟩; clear HN2)
    obtain ⟨w2, hw2⟩ : ∃ w2, w2 = w1.setCell ⟨r, 1, none⟩ (.int .i64 (a2 : Int)) := ⟨_, rfl⟩
    rw [← hw2]
    have H2 : Hid (FrP r w w2 ∧ RS2 w2 r (.slice va l.length vc) l a2 fr) := by
      have hl := (unhide HX).2.1
      have ha := unhide HA2
      rw [hw2]
      exact ⟨(unhide H1).1.trans (FrP.set _ _ _ _), (unhide H1).2.move ((unhide H1).2.1.set1 a2) (FrP.set _ _ _ _) (by omega)⟩
    clear hw2 c1 f1 H1
    obtain ⟨k, hk⟩ : ∃ k : ByteArray, k = ⟨((l.drop a1).take n).toArray⟩ := ⟨_, rfl⟩
    obtain ⟨vs, hvs⟩ : ∃ vs, vs = sliced va a1 a2 vc 1 := ⟨_, rfl⟩
    have hsl : ∀ W : World, (Instr.slice 30 (.slice va len vc) (some (.int .i64 (a1 : Int))) (some (.int .i64 (a2 : Int))) none).run Tryz.prog W = .ok vs W := fun W => by
      have hl := (unhide HX).2.1
      have ha := unhide HA2
      have hc := (unhide HL).2
      rw [hvs]
      exact slice_run2 va len vc a1 a2 (by omega) (by omega) W
    have HS5 : Hid (∀ W : World, Below w2.heap.size w2 W → W.cell? ⟨r, 0, none⟩ = some (.slice va len vc) ∧ W.cell? ⟨r, 1, none⟩ = some (.int .i64 (a2 : Int)) ∧ (convert 30 9 vs).run Tryz.prog W = .ok (.string k) W) := fun W hb => by
      have hl := (unhide HX).2.1
      have ha := unhide HA2
      have hR := (unhide H2).2.below hb
      have h1 := rb_part (i := a1) (j := a2) (hR.2.1.rb hR.2.2.2.1) (by omega) (by omega)
      rw [show a2 - a1 = n by omega] at h1
      refine ⟨by rw [(unhide HL).1]; exact hR.1.cells.1, hR.1.cells.2.1, ?_⟩
      rw [hvs, hk]
      exact conv_rbp h1
    have HE : Hid (∀ W : World, Below w2.heap.size w2 W → TxP w r (.slice va l.length vc) l a fr (.returned (.tuple #[.string k, .nilIface])) W) := fun W hb => by
      refine ⟨(unhide H2).1.trans (FrP.of_below hb), .inl ⟨k, a2, ?_, rfl, (unhide H2).2.below hb⟩⟩
      unfold rdTx
      rw [(unhide HX).1, hk, unhide HA2]
    clear hk hvs HX HA2 HL HR
    refine wp_region_held_drew (S := fun w' => w'.cell? ⟨r, 0, none⟩ = some (.slice va len vc) ∧ w'.cell? ⟨r, 1, none⟩ = some (.int .i64 (a2 : Int)) ∧ (convert 30 9 vs).run Tryz.prog w' = .ok (.string k) w') (by kernel_rfl) (unhide HS5 _ (Below.refl _ _).drew) (fun hHeld => ?_)
    obtain ⟨WS, hWS⟩ : ∃ WS, WS = w2.drew := ⟨_, rfl⟩
    rw [← hWS] at hHeld ⊢
    have HB : Hid (Below w2.heap.size w2 WS) := by rw [hWS]; exact (Below.refl _ _).drew
    clear hWS
    refine hand_to (i := 0) (d := 22) (v := (.pointer (some ⟨r, 0, none⟩))) rfl rfl (by kernel_rfl) (by kernel_rfl) (by kernel_rfl) (fun _ _ _ h => h) (Or.inl ⟨by rfl, ?_⟩) hHeld ?_
    · (intro w' hSw; obtain ⟨y0, y1, y2⟩ := hSw; go_simp)
    simp only [Act.put, List.setIfInBounds_toArray, List.set_cons_zero, List.set_cons_succ]
    refine hand_to (i := 1) (d := 23) (v := (.pointer (some ⟨r, 0, none⟩))) rfl rfl (by kernel_rfl) (by kernel_rfl) (by kernel_rfl) (fun _ _ _ h => h) (Or.inl ⟨by rfl, ?_⟩) hHeld ?_
    · (intro w' hSw; obtain ⟨y0, y1, y2⟩ := hSw; go_simp)
    simp only [Act.put, List.setIfInBounds_toArray, List.set_cons_zero, List.set_cons_succ]
    refine hand_to (i := 2) (d := 24) (v := (.pointer (some ⟨r, 0, none⟩))) rfl rfl (by kernel_rfl) (by kernel_rfl) (by kernel_rfl) (fun _ _ _ h => h) (Or.inl ⟨by rfl, ?_⟩) hHeld ?_
    · (intro w' hSw; obtain ⟨y0, y1, y2⟩ := hSw; go_simp)
    simp only [Act.put, List.setIfInBounds_toArray, List.set_cons_zero, List.set_cons_succ]
    refine hand_to (i := 3) (d := 25) (v := (.slice va len vc)) rfl rfl (by kernel_rfl) (by kernel_rfl) (by kernel_rfl) (fun _ _ _ h => h) (Or.inl ⟨by rfl, ?_⟩) hHeld ?_
    · (intro w' hSw; obtain ⟨y0, y1, y2⟩ := hSw; go_simp)
    simp only [Act.put, List.setIfInBounds_toArray, List.set_cons_zero, List.set_cons_succ]
    refine hand_to (i := 4) (d := 26) (v := (.pointer (some ⟨r, 0, none⟩))) rfl rfl (by kernel_rfl) (by kernel_rfl) (by kernel_rfl) (fun _ _ _ h => h) (Or.inl ⟨by rfl, ?_⟩) hHeld ?_
    · (intro w' hSw; obtain ⟨y0, y1, y2⟩ := hSw; go_simp)
    simp only [Act.put, List.setIfInBounds_toArray, List.set_cons_zero, List.set_cons_succ]
    refine hand_to (i := 5) (d := 27) (v := (.pointer (some ⟨r, 0, none⟩))) rfl rfl (by kernel_rfl) (by kernel_rfl) (by kernel_rfl) (fun _ _ _ h => h) (Or.inl ⟨by rfl, ?_⟩) hHeld ?_
    · (intro w' hSw; obtain ⟨y0, y1, y2⟩ := hSw; go_simp)
    simp only [Act.put, List.setIfInBounds_toArray, List.set_cons_zero, List.set_cons_succ]
    refine hand_to (i := 6) (d := 28) (v := (.pointer (some ⟨r, 1, none⟩))) rfl rfl (by kernel_rfl) (by kernel_rfl) (by kernel_rfl) (fun _ _ _ h => h) (Or.inl ⟨by rfl, ?_⟩) hHeld ?_
    · (intro w' hSw; obtain ⟨y0, y1, y2⟩ := hSw; go_simp)
    simp only [Act.put, List.setIfInBounds_toArray, List.set_cons_zero, List.set_cons_succ]
    refine hand_to (i := 7) (d := 29) (v := (.int .i64 (a2 : Int))) rfl rfl (by kernel_rfl) (by kernel_rfl) (by kernel_rfl) (fun _ _ _ h => h) (Or.inl ⟨by rfl, ?_⟩) hHeld ?_
    · (intro w' hSw; obtain ⟨y0, y1, y2⟩ := hSw; go_simp)
    simp only [Act.put, List.setIfInBounds_toArray, List.set_cons_zero, List.set_cons_succ]
    refine hand_to (i := 8) (d := 30) (v := (.int .i64 (n : Int))) rfl rfl (by kernel_rfl) (by kernel_rfl) (by kernel_rfl) (fun _ _ _ h => h) (Or.inl ⟨by rfl, ?_⟩) hHeld ?_
    · (intro w' hSw; obtain ⟨y0, y1, y2⟩ := hSw; go_simp)
    simp only [Act.put, List.setIfInBounds_toArray, List.set_cons_zero, List.set_cons_succ]
    refine hand_to (i := 9) (d := 31) (v := (.int .i64 (a1 : Int))) rfl rfl (by kernel_rfl) (by kernel_rfl) (by kernel_rfl) (fun _ _ _ h => h) (Or.inl ⟨by rfl, ?_⟩) hHeld ?_
    · (intro w' hSw; obtain ⟨y0, y1, y2⟩ := hSw; go_simp)
    simp only [Act.put, List.setIfInBounds_toArray, List.set_cons_zero, List.set_cons_succ]
    refine hand_to (i := 10) (d := 32) (v := (.pointer (some ⟨r, 0, none⟩))) rfl rfl (by kernel_rfl) (by kernel_rfl) (by kernel_rfl) (fun _ _ _ h => h) (Or.inl ⟨by rfl, ?_⟩) hHeld ?_
    · (intro w' hSw; obtain ⟨y0, y1, y2⟩ := hSw; go_simp)
    simp only [Act.put, List.setIfInBounds_toArray, List.set_cons_zero, List.set_cons_succ]
    refine hand_to (i := 11) (d := 33) (v := (.pointer (some ⟨r, 0, none⟩))) rfl rfl (by kernel_rfl) (by kernel_rfl) (by kernel_rfl) (fun _ _ _ h => h) (Or.inl ⟨by rfl, ?_⟩) hHeld ?_
    · (intro w' hSw; obtain ⟨y0, y1, y2⟩ := hSw; go_simp)
    simp only [Act.put, List.setIfInBounds_toArray, List.set_cons_zero, List.set_cons_succ]
    refine hand_to (i := 12) (d := 34) (v := (.pointer (some ⟨r, 1, none⟩))) rfl rfl (by kernel_rfl) (by kernel_rfl) (by kernel_rfl) (fun _ _ _ h => h) (Or.inl ⟨by rfl, ?_⟩) hHeld ?_
    · (intro w' hSw; obtain ⟨y0, y1, y2⟩ := hSw; go_simp)
    simp only [Act.put, List.setIfInBounds_toArray, List.set_cons_zero, List.set_cons_succ]
    refine hand_to (i := 13) (d := 35) (v := (.int .i64 (a2 : Int))) rfl rfl (by kernel_rfl) (by kernel_rfl) (by kernel_rfl) (fun _ _ _ h => h) (Or.inl ⟨by rfl, ?_⟩) hHeld ?_
    · (intro w' hSw; obtain ⟨y0, y1, y2⟩ := hSw; go_simp)
    simp only [Act.put, List.setIfInBounds_toArray, List.set_cons_zero, List.set_cons_succ]
    refine hand_to (i := 14) (d := 36) (v := vs) rfl rfl (by kernel_rfl) (by kernel_rfl) (by kernel_rfl) (fun _ _ _ h => h) (Or.inl ⟨by rfl, ?_⟩) hHeld ?_
    · (intro w' hSw; obtain ⟨y0, y1, y2⟩ := hSw; go_simp)
    simp only [Act.put, List.setIfInBounds_toArray, List.set_cons_zero, List.set_cons_succ]
    refine hand_to (i := 15) (d := 37) (v := (.string k)) rfl rfl (by kernel_rfl) (by kernel_rfl) (by kernel_rfl) (fun _ _ _ h => h) (Or.inl ⟨by rfl, ?_⟩) hHeld ?_
    · (intro w' hSw; obtain ⟨y0, y1, y2⟩ := hSw; go_simp)
    simp only [Act.put, List.setIfInBounds_toArray, List.set_cons_zero, List.set_cons_succ]
    refine hand_to (i := 16) (d := 2) (v := (.string k)) rfl rfl (by kernel_rfl) (by kernel_rfl) (by kernel_rfl) (fun _ _ _ h => h) (Or.inl ⟨by rfl, ?_⟩) hHeld ?_
    · (intro w' hSw; obtain ⟨y0, y1, y2⟩ := hSw; go_simp)
    simp only [Act.put, List.setIfInBounds_toArray, List.set_cons_zero, List.set_cons_succ]
    refine hand_to (i := 17) (d := 3) (v := .nilIface) rfl rfl (by kernel_rfl) (by kernel_rfl) (by kernel_rfl) (fun _ _ _ h => h) (Or.inl ⟨by rfl, ?_⟩) hHeld ?_
    · (intro w' hSw; obtain ⟨y0, y1, y2⟩ := hSw; go_simp)
    simp only [Act.put, List.setIfInBounds_toArray, List.set_cons_zero, List.set_cons_succ]
    refine wpAnyH_done (by kernel_rfl) ?_ _
    clear hHeld
    go_wp2_with fail
    go_ret2
    exact unhide HE WS (unhide HB)
end
end Go.Proofs.YtlmjmhpdpgeplaaGreatDoor
