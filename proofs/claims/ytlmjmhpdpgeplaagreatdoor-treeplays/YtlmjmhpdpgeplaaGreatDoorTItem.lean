/- The reader of a tree's bytes: item. -/
import Derived.Test.YtlmjmhpdpgeplaaGreatDoorTRead2
namespace Go.Proofs.YtlmjmhpdpgeplaaGreatDoor
open Go.RowKit Go.Lib

theorem bless : ∀ x y : List UInt8, Op.bytesLess x y = decide (compareBytes x y < 0)
  | [], [] => by simp [Op.bytesLess, compareBytes]
  | _ :: _, [] => by simp [Op.bytesLess, compareBytes]
  | [], _ :: _ => by simp [Op.bytesLess, compareBytes]
  | a :: x, b :: y => by
    have ih := bless x y
    show (decide (a < b) || (a == b && Op.bytesLess x y)) = _
    rw [ih, cb_cons]
    unfold first0 compareInt
    have h1 := u8_lt a b
    by_cases hab : a < b
    · have := h1.1 hab
      simp [hab, this]
    · have hn : ¬ a.toNat < b.toNat := fun h => hab (h1.2 h)
      by_cases he : a = b
      · subst he
        simp
      · have hne : a.toNat ≠ b.toNat := fun h => he (u8_eq h)
        have h3 : (b.toNat : Int) < (a.toNat : Int) := by omega
        have h4 : ¬ ((a.toNat : Int) < (b.toNat : Int)) := by omega
        simp [hab, he, h3, h4]
theorem kc_less (k f : ByteArray) : Op.bytesLess k.toList f.toList = decide (kc k f < 0) := by
  rw [ByteArray.toList_eq, ByteArray.toList_eq, bless]; rfl
/-- What item tells. -/
def ItP (w : World) (r : Nat) (v : Value) (l : List UInt8) (a : Nat) (fr : ByteArray) (e : Ending) (w' : World) : Prop :=
  FrP r w w' ∧ ((∃ x a', rdIt l a fr = some (x, a') ∧ e = .returned (.tuple #[.agg #[.string x.1, .string x.2], .nilIface]) ∧ RS2 w' r v l a' (behindK x.1)) ∨ (rdIt l a fr = none ∧ ∃ T x, e = .returned (.tuple #[.agg #[.string ⟨#[]⟩, .string ⟨#[]⟩], .iface T x]) ∧ Chn w' 20 1 (.iface T x)))
/-- A reader, and a variable of an item's. -/
def RI (w W : World) (r : Nat) (v : Value) (l : List UInt8) (a : Nat) (fr : ByteArray) : Prop := FrP r w W ∧ RS2 W r v l a fr ∧ IV W w.heap.size (⟨#[]⟩, ⟨#[]⟩) ∧ r < w.heap.size
theorem RI.go {w W W' : World} {r : Nat} {v : Value} {l : List UInt8} {a a' : Nat} {fr fr' : ByteArray} (h : RI w W r v l a fr) (hf : FrP r W W') (hr : RS2 W' r v l a' fr') : RI w W' r v l a' fr' := ⟨h.1.trans hf, hr, (hf.2.2.2.2 _ (blk_lt h.2.2.1) (by have := h.2.2.2; omega)).trans h.2.2.1, h.2.2.2⟩
theorem RI.cells {w W : World} {r : Nat} {v : Value} {l : List UInt8} {a : Nat} {fr : ByteArray} (h : RI w W r v l a fr) : W.cell? ⟨w.heap.size, 0, none⟩ = some (.string ⟨#[]⟩) ∧ W.cell? ⟨w.heap.size, 1, none⟩ = some (.string ⟨#[]⟩) ∧ W.frozen? ⟨w.heap.size, 0, none⟩ = false ∧ W.frozen? ⟨w.heap.size, 1, none⟩ = false := ⟨h.2.2.1.cells.1, h.2.2.1.cells.2, frzB2 h.2.2.1 0, frzB2 h.2.2.1 1⟩
/-- The variable written. -/
theorem frp_new {w W : World} {r : Nat} {x y : Value} (h : FrP r w W) : FrP r w ((W.setCell ⟨w.heap.size, 0, none⟩ x).setCell ⟨w.heap.size, 1, none⟩ y) :=
  ⟨h.1, h.2.1, h.2.2.1, by simpa using h.2.2.2.1, fun g hg hp => (set2_ne (by omega)).trans (h.2.2.2.2 g hg hp)⟩
section
variable {w : World} {r : Nat} {v : Value} {l : List UInt8} {a : Nat} {fr : ByteArray}
set_option maxHeartbeats 12800000 in
set_option maxRecDepth 100000 in
theorem item_t (h : RS2 w r v l a fr) : Calls Tryz.prog 46 #[.pointer (some ⟨r, 0, none⟩)] w (ItP w r v l a fr) := by
  have hrl := blk_lt h.1
  have hEl : 0 < w.heap.size := h.2.2.2.2.1.lt
  obtain ⟨W0, hW0⟩ : ∃ W0, W0 = w.alloc (.cells #[.string ⟨#[]⟩, .string ⟨#[]⟩] 62) := ⟨_, rfl⟩
  have hb0 : Below w.heap.size w W0 := by rw [hW0]; exact (Below.refl _ _).alloc (Nat.le_refl _) _
  have H0 : Hid (RI w W0 r v l a fr) := ⟨FrP.of_below hb0, h.below hb0, by rw [hW0]; exact heap_alloc_new _ _, hrl⟩
  have HBAD : Hid (rdIt l a fr = none → ∀ (W : World) (T : TypeId) (x : Value), FrP r w W → IV W w.heap.size (⟨#[]⟩, ⟨#[]⟩) → Chn W 20 1 (.iface T x) → ItP w r v l a fr (.returned (.tuple #[.agg #[.string ⟨#[]⟩, .string ⟨#[]⟩], .iface T x])) ((W.setCell ⟨w.heap.size, 0, none⟩ (.string ⟨#[]⟩)).setCell ⟨w.heap.size, 1, none⟩ (.string ⟨#[]⟩))) := fun hn W T x hf hi hc => ⟨frp_new hf, .inr ⟨hn, T, x, rfl, hc.var2 hi⟩⟩
  obtain ⟨c0, c1, c2, _, _⟩ := (unhide H0).2.1.1.cells
  have HT1 := hide (text_t (unhide H0).2.1)
  clear h hb0
  cases hx : rdTx l a with
  | none =>
    have HT2 : Hid (Calls Tryz.prog 58 #[.pointer (some ⟨r, 0, none⟩)] W0 fun e w1 => ∃ T x, e = .returned (.tuple #[.string ⟨#[]⟩, .iface T x]) ∧ (w1.cell? ⟨w.heap.size, 0, none⟩ = some (.string ⟨#[]⟩) ∧ w1.cell? ⟨w.heap.size, 1, none⟩ = some (.string ⟨#[]⟩) ∧ w1.frozen? ⟨w.heap.size, 0, none⟩ = false ∧ w1.frozen? ⟨w.heap.size, 1, none⟩ = false) ∧ Hid (ItP w r v l a fr (.returned (.tuple #[.agg #[.string ⟨#[]⟩, .string ⟨#[]⟩], .iface T x])) ((w1.setCell ⟨w.heap.size, 0, none⟩ (.string ⟨#[]⟩)).setCell ⟨w.heap.size, 1, none⟩ (.string ⟨#[]⟩)))) := by
      refine (unhide HT1).mono ?_
      rintro e w1 ⟨z1, ⟨k, a', zx, _⟩ | ⟨_, z2, T, x, rfl, z3⟩⟩
      · rw [hx] at zx; cases zx
      · have hri := (unhide H0).go z1 z2
        exact ⟨T, x, rfl, hri.cells, unhide HBAD (by unfold rdIt; rw [hx]) w1 T x hri.1 hri.2.2.1 z3⟩
    clear HT1 HBAD H0 hx
    go_enter Tryz.func46, Tryz.ntmps46
    go_upto_region 1 with fail
    rw [← hW0]
    clear hW0
    go_wp2_with (go_at_call 58; refine (unhide HT2).mono ?_; rintro e w1 ⟨T, x, rfl, ⟨r0, r1, g0, g1⟩, HE⟩; clear HT2)
    refine bodyPost_ret (v := .tuple #[.agg #[.string ⟨#[]⟩, .string ⟨#[]⟩], .iface T x]) ?_ rfl ?_
    · rw [results_cell_tmp rfl]
      go_simp
    exact unhide HE
  | some p =>
    obtain ⟨k, a1⟩ := p
    have HX := hide (And.intro hx (rdTx_some hx (unhide H0).2.1.2.2.1).2.2.2)
    have HT2 : Hid (Calls Tryz.prog 58 #[.pointer (some ⟨r, 0, none⟩)] W0 fun e w1 => e = .returned (.tuple #[.string k, .nilIface]) ∧ (w1.cell? ⟨r, 1, none⟩ = some (.int .i64 (a1 : Int)) ∧ w1.cell? ⟨r, 2, none⟩ = some (.string fr) ∧ w1.frozen? ⟨r, 1, none⟩ = false ∧ w1.frozen? ⟨r, 2, none⟩ = false) ∧ Hid (RI w w1 r v l a1 fr)) := by
      refine (unhide HT1).mono ?_
      rintro e w1 ⟨z1, ⟨k', a', zx, rfl, z2⟩ | ⟨zx, _⟩⟩
      · rw [hx] at zx
        cases zx
        exact ⟨rfl, ⟨z2.1.cells.2.1, z2.1.cells.2.2.1, z2.1.cells.2.2.2.1, z2.1.cells.2.2.2.2⟩, (unhide H0).go z1 z2⟩
      · rw [hx] at zx; cases zx
    clear HT1 hx
    have hless := kc_less k fr
    by_cases hk : kc k fr < 0
    · have hl : Op.bytesLess k.toList fr.toList = true := by rw [hless]; simp [hk]
      have HFc : Hid (∀ W : World, RI w W r v l a fr → Calls Tryz.prog 33 #[.pointer (some ⟨r, 0, none⟩), .iface 67 (.int .i64 20)] W fun e w1 => ∃ T x, e = .returned (.iface T x) ∧ (w1.cell? ⟨w.heap.size, 0, none⟩ = some (.string ⟨#[]⟩) ∧ w1.cell? ⟨w.heap.size, 1, none⟩ = some (.string ⟨#[]⟩) ∧ w1.frozen? ⟨w.heap.size, 0, none⟩ = false ∧ w1.frozen? ⟨w.heap.size, 1, none⟩ = false) ∧ Hid (ItP w r v l a fr (.returned (.tuple #[.agg #[.string ⟨#[]⟩, .string ⟨#[]⟩], .iface T x])) ((w1.setCell ⟨w.heap.size, 0, none⟩ (.string ⟨#[]⟩)).setCell ⟨w.heap.size, 1, none⟩ (.string ⟨#[]⟩)))) := fun W hW => by
        refine (fault_c hW.2.1).mono ?_
        rintro e w1 ⟨T, x, rfl, z1, z2⟩
        have hri := hW.go (FrP.of_below z2) (hW.2.1.below z2)
        exact ⟨T, x, rfl, hri.cells, unhide HBAD (by unfold rdIt; rw [(unhide HX).1]; exact if_pos hk) w1 T x hri.1 hri.2.2.1 z1⟩
      have HSet : Hid (∀ W : World, RI w W r v l a1 fr → RI w (W.setCell ⟨r, 1, none⟩ (.int .i64 (a : Int))) r v l a fr) := fun W hW => hW.go (FrP.set _ _ _ _) (hW.2.1.move (hW.2.1.1.set1 a) (FrP.set _ _ _ _) (unhide H0).2.1.2.2.1)
      clear HBAD H0 hk HX hless
      go_enter Tryz.func46, Tryz.ntmps46
      go_upto_region 1 with fail
      rw [← hW0]
      clear hW0
      go_wp2_with (first
        | (go_at_call 58; refine (unhide HT2).mono ?_; rintro e w1 ⟨rfl, ⟨d1, d2, f1, f2⟩, H1⟩; clear HT2; have HFd := hide (unhide HFc _ (unhide HSet w1 (unhide H1))); clear HFc HSet)
        | (go_at_call 33; refine (unhide HFd).mono ?_; rintro e w2 ⟨T, x, rfl, ⟨r0, r1, g0, g1⟩, HE⟩; clear HFd))
      refine bodyPost_ret (v := .tuple #[.agg #[.string ⟨#[]⟩, .string ⟨#[]⟩], .iface T x]) ?_ rfl ?_
      · rw [results_cell_tmp rfl]
        go_simp
      exact unhide HE
    · have hl : Op.bytesLess k.toList fr.toList = false := by rw [hless]; simp [hk]
      have HBh := hide (fun W => behind_any k W (by have := (unhide HX).2; have := (unhide H0).2.1.2.2.2.1; omega))
      have HSet : Hid (∀ W : World, RI w W r v l a1 fr → RI w (W.setCell ⟨r, 2, none⟩ (.string (behindK k))) r v l a1 (behindK k)) := fun W hW => hW.go (FrP.set _ _ _ _) (hW.2.1.move (hW.2.1.1.set2 _) (FrP.set _ _ _ _) hW.2.1.2.2.1)
      cases hy : rdTx l a1 with
      | none =>
        have HT3 : Hid (∀ W : World, RI w W r v l a1 (behindK k) → Calls Tryz.prog 58 #[.pointer (some ⟨r, 0, none⟩)] W fun e w1 => ∃ T x, e = .returned (.tuple #[.string ⟨#[]⟩, .iface T x]) ∧ (w1.cell? ⟨w.heap.size, 0, none⟩ = some (.string ⟨#[]⟩) ∧ w1.cell? ⟨w.heap.size, 1, none⟩ = some (.string ⟨#[]⟩) ∧ w1.frozen? ⟨w.heap.size, 0, none⟩ = false ∧ w1.frozen? ⟨w.heap.size, 1, none⟩ = false) ∧ Hid (ItP w r v l a fr (.returned (.tuple #[.agg #[.string ⟨#[]⟩, .string ⟨#[]⟩], .iface T x])) ((w1.setCell ⟨w.heap.size, 0, none⟩ (.string ⟨#[]⟩)).setCell ⟨w.heap.size, 1, none⟩ (.string ⟨#[]⟩)))) := fun W hW => by
          refine (text_t hW.2.1).mono ?_
          rintro e w1 ⟨z1, ⟨k', a', zx, _⟩ | ⟨_, z2, T, x, rfl, z3⟩⟩
          · rw [hy] at zx; cases zx
          · have hri := hW.go z1 z2
            exact ⟨T, x, rfl, hri.cells, unhide HBAD (by unfold rdIt; rw [(unhide HX).1]; simp only; rw [if_neg hk, hy]) w1 T x hri.1 hri.2.2.1 z3⟩
        clear HBAD H0 hk HX hless hy
        go_enter Tryz.func46, Tryz.ntmps46
        go_upto_region 1 with fail
        rw [← hW0]
        clear hW0
        go_wp2_with (first
          | (go_at_call 58; refine (unhide HT2).mono ?_; rintro e w1 ⟨rfl, ⟨d1, d2, f1, f2⟩, H1⟩; clear HT2; have HTd := hide (unhide HT3 _ (unhide HSet w1 (unhide H1))); clear HT3 HSet)
          | (go_at_call 25; refine (unhide HBh _).mono ?_; rintro e w2 ⟨rfl, hw2⟩; rw [hw2]; clear hw2 HBh)
          | (go_at_call 58; refine (unhide HTd).mono ?_; rintro e w3 ⟨T, x, rfl, ⟨r0, r1, g0, g1⟩, HE⟩; clear HTd))
        refine bodyPost_ret (v := .tuple #[.agg #[.string ⟨#[]⟩, .string ⟨#[]⟩], .iface T x]) ?_ rfl ?_
        · rw [results_cell_tmp rfl]
          go_simp
        exact unhide HE
      | some p =>
        obtain ⟨vl, a2⟩ := p
        have HT3 : Hid (∀ W : World, RI w W r v l a1 (behindK k) → Calls Tryz.prog 58 #[.pointer (some ⟨r, 0, none⟩)] W fun e w1 => e = .returned (.tuple #[.string vl, .nilIface]) ∧ (w1.cell? ⟨w.heap.size, 0, none⟩ = some (.string ⟨#[]⟩) ∧ w1.cell? ⟨w.heap.size, 1, none⟩ = some (.string ⟨#[]⟩) ∧ w1.frozen? ⟨w.heap.size, 0, none⟩ = false ∧ w1.frozen? ⟨w.heap.size, 1, none⟩ = false) ∧ Hid (ItP w r v l a fr (.returned (.tuple #[.agg #[.string k, .string vl], .nilIface])) ((w1.setCell ⟨w.heap.size, 0, none⟩ (.string k)).setCell ⟨w.heap.size, 1, none⟩ (.string vl)))) := fun W hW => by
          refine (text_t hW.2.1).mono ?_
          rintro e w1 ⟨z1, ⟨k', a', zx, rfl, z2⟩ | ⟨zx, _⟩⟩
          · rw [hy] at zx
            cases zx
            have hri := hW.go z1 z2
            have hb2 : Below w.heap.size w1 ((w1.setCell ⟨w.heap.size, 0, none⟩ (.string k)).setCell ⟨w.heap.size, 1, none⟩ (.string vl)) := set2_below (Below.refl _ _) (Nat.le_refl _)
            refine ⟨rfl, hri.cells, frp_new hri.1, .inl ⟨(k, vl), a2, by unfold rdIt; rw [(unhide HX).1]; simp only; rw [if_neg hk, hy], rfl, ?_⟩⟩
            obtain ⟨y1, y2, y3, y4, y5, y6⟩ := z2
            refine ⟨(set2_ne (by omega)).trans y1, ?_, y3, y4, ?_, y6⟩
            · obtain h | ⟨b, off, cap, rfl, h2, h3, h4, h5, h6⟩ := y2
              · exact .inl h
              · refine .inr ⟨b, off, cap, rfl, h2, h3, h4, by simpa using h5, fun i hi => ?_⟩
                have hbw : b ≠ w.heap.size := by
                  intro e
                  have := h6 i hi
                  rw [e, cellB2 hri.2.2.1] at this
                  match off + i, this with
                  | 0, this => cases this
                  | 1, this => cases this
                  | n + 2, this => simp at this
                exact (World.cell?_of_block (set2_ne hbw)).trans (h6 i hi)
            · exact y5.below hb2 hEl
          · rw [hy] at zx; cases zx
        clear HBAD H0 hk HX hless hy
        go_enter Tryz.func46, Tryz.ntmps46
        go_upto_region 1 with fail
        rw [← hW0]
        clear hW0
        go_wp2_with (first
          | (go_at_call 58; refine (unhide HT2).mono ?_; rintro e w1 ⟨rfl, ⟨d1, d2, f1, f2⟩, H1⟩; clear HT2; have HTd := hide (unhide HT3 _ (unhide HSet w1 (unhide H1))); clear HT3 HSet)
          | (go_at_call 25; refine (unhide HBh _).mono ?_; rintro e w2 ⟨rfl, hw2⟩; rw [hw2]; clear hw2 HBh)
          | (go_at_call 58; refine (unhide HTd).mono ?_; rintro e w3 ⟨rfl, ⟨r0, r1, g0, g1⟩, HE⟩; clear HTd))
        refine bodyPost_ret (v := .tuple #[.agg #[.string k, .string vl], .nilIface]) ?_ rfl ?_
        · rw [results_cell_tmp rfl]
          go_simp
        exact unhide HE
end
end Go.Proofs.YtlmjmhpdpgeplaaGreatDoor
