/- The reader of a tree's bytes: a leaf. -/
import Derived.Test.YtmahkhpmaenkhaaDoorTNodeR
namespace Go.Proofs.YtmahkhpmaenkhaaDoor
open Go.RowKit Go.Lib

section
variable {w : World} {r : Nat} {v : Value} {l : List UInt8} {gaps a : Nat} {fr : ByteArray}
set_option maxHeartbeats 12800000 in
set_option maxRecDepth 100000 in
theorem node_0 (h : RS2 w r v l a fr) (ho : Old2 w v) (h1 : 1 ≤ gaps) (h2 : gaps ≤ 16) :
    Calls Tryd.prog 25 #[.pointer (some ⟨r, 0, none⟩), .int .i64 (gaps : Int), .int .i64 1] w (NodP w r v l 0 gaps gaps a fr) := by
  obtain ⟨i0, hi, hz0, hz1, hz2⟩ := info_parts Tryd.info_item
  obtain ⟨W0, hW0⟩ : ∃ W0, W0 = (w.alloc (.cells #[.slice none 0 0, .slice none 0 0] 48)).alloc (.cells #[.slice none 0 0, .slice none 0 0] 48) := ⟨_, rfl⟩
  have H0 : Hid (NR w W0 r v l 0 [] [] a fr (.slice none 0 0) (.slice none 0 0) []) := NR.start h hW0
  have HO := hide ho
  have hgi : (gaps : Int) ≤ 16 := by omega
  have hg0 : (0 : Int) ≤ (gaps : Int) := by omega
  have HG := hide h1
  clear h ho h1 h2
  go_enter Tryd.func25, Tryd.ntmps25
  go_upto_region 2 with fail
  rw [← hW0]
  clear hW0
  go_wp2_with fail
  go_loopw [22] (fun s22 wr => ∃ (i : Nat) (xs : List It) (a' : Nat) (fr' : ByteArray) (va : Option Addr) (vn k : Nat), s22 = .int .i64 (i : Int) ∧ i ≤ gaps ∧ Hid (NR w wr r v l 0 xs [] a' fr' (.slice va vn k) (.slice none 0 0) [] ∧ rdIts l (i - 1) a fr = some (xs, a', fr') ∧ xs.length = i - 1 ∧ vn = xs.length)) (fun s22 _ => gaps - (RowKit.intOf s22).toNat)
  case atStart => exact ⟨0, [], a, fr, none, 0, 0, rfl, Nat.zero_le _, unhide H0, rfl, rfl, rfl⟩
  case round =>
    clear H0
    obtain ⟨i, xs, a', fr', va, vn, k, rfl, hig, HD⟩ := hrel
    by_cases hlt : i < gaps
    · have hlti : (i : Int) < (gaps : Int) := by omega
      have hwi : IntKind.i64.wrap ((i : Int) + 1) = (i : Int) + 1 := by rw [IntKind.wrap_i64] <;> omega
      by_cases hz : i = 0
      · subst hz
        go_wp2_with fail
        go_roundw
        case rel =>
          obtain ⟨u1, u2, u3, u4⟩ := unhide HD
          exact ⟨1, xs, a', fr', va, vn, k, by simp, by omega, u1, u2, u3, u4⟩
        case measure => simp [RowKit.intOf]; omega
      · have hip : (0 : Int) < (i : Int) := by omega
        have hip2 : ¬ ((i : Int) ≤ 0) := by omega
        obtain ⟨j, hj⟩ : ∃ j, j = i - 1 := ⟨_, rfl⟩
        have hji : (i : Int) - 1 = (j : Int) := by omega
        have hwj : IntKind.i64.wrap (j : Int) = (j : Int) := by rw [IntKind.wrap_i64] <;> omega
        have HIt := hide (item_t (unhide HD).1.rs)
        cases hx : rdIt l a' fr' with
        | none =>
          have HIt2 : Hid (Calls Tryd.prog 43 #[.pointer (some ⟨r, 0, none⟩)] wr fun e w1 => ∃ T x, e = .returned (.tuple #[.agg #[.string ⟨#[]⟩, .string ⟨#[]⟩], .iface T x]) ∧ Hid (∀ W : World, Below w1.heap.size w1 W → Calls Tryd.prog 37 #[.iface T x, .int .i64 (j : Int)] W fun e w2 => ∃ T' x', e = .returned (.iface T' x') ∧ (w2.cell? ⟨w.heap.size, 0, none⟩ = some (.slice none 0 0) ∧ w2.cell? ⟨w.heap.size, 1, none⟩ = some (.slice none 0 0) ∧ w2.frozen? ⟨w.heap.size, 0, none⟩ = false ∧ w2.frozen? ⟨w.heap.size, 1, none⟩ = false) ∧ Hid (NodP w r v l 0 gaps gaps a fr (.returned (.tuple #[.agg #[.slice none 0 0, .slice none 0 0], .iface T' x'])) ((w2.setCell ⟨w.heap.size, 0, none⟩ (.slice none 0 0)).setCell ⟨w.heap.size, 1, none⟩ (.slice none 0 0))))) := by
            refine (unhide HIt).mono ?_
            rintro e w1 ⟨z1, ⟨x, a1, zx, _⟩ | ⟨_, T, x, rfl, z2⟩⟩
            · rw [hx] at zx; cases zx
            · refine ⟨T, x, rfl, fun W hb => ?_⟩
              refine (wrapped_t j (by omega) (z2.below hb)).mono ?_
              rintro e w2 ⟨T', x', rfl, y1, y2⟩
              have hfr : FrP r wr w2 := (z1.trans (FrP.of_below hb)).trans (FrP.of_below y2)
              have hk : ∀ g, g < wr.heap.size → w.heap.size ≤ g → w2.heap[g]? = wr.heap[g]? := fun g hg hw => hfr.2.2.2.2 g hg (by have := (unhide HD).1.rl; omega)
              have hres : NV w2 w.heap.size (.slice none 0 0) (.slice none 0 0) := (hk _ (blk_lt (unhide HD).1.res) (Nat.le_refl _)).trans (unhide HD).1.res
              refine ⟨T', x', rfl, hres.cells, frp_new ((unhide HD).1.frp.trans hfr), .inr ⟨?_, T', x', 1, rfl, y1.varN hres (fun _ _ h => by cases h)⟩⟩
              exact rd_fail (unhide HD).2.1 (n := 1) (by rw [rdIts_one, hx]) (by omega)
          clear HIt HD hx hj
          go_wp2_with (first
            | (go_at_call 43; refine (unhide HIt2).mono ?_; rintro e w1 ⟨T, x, rfl, HWr⟩; clear HIt2)
            | (go_at_call 37; refine (unhide HWr _ ((Below.refl _ _).alloc (Nat.le_refl _) _)).mono ?_; rintro e w2 ⟨T', x', rfl, ⟨r0, r1, g0, g1⟩, HE⟩; clear HWr))
          refine bodyPost_ret (v := .tuple #[.agg #[.slice none 0 0, .slice none 0 0], .iface T' x']) ?_ rfl ?_
          · rw [results_cell_tmp rfl]
            go_simp
          exact unhide HE
        | some p =>
          obtain ⟨x, a1⟩ := p
          have HIt2 : Hid (Calls Tryd.prog 43 #[.pointer (some ⟨r, 0, none⟩)] wr fun e w1 => e = .returned (.tuple #[.agg #[.string x.1, .string x.2], .nilIface]) ∧ Hid (NR w w1 r v l 0 xs [] a1 (behindK x.1) (.slice va vn k) (.slice none 0 0) [])) := by
            refine (unhide HIt).mono ?_
            rintro e w1 ⟨z1, ⟨x', a1', zx, rfl, z2⟩ | ⟨zx, _⟩⟩
            · rw [hx] at zx
              cases zx
              exact ⟨rfl, (unhide HD).1.move z1 z2⟩
            · rw [hx] at zx; cases zx
          have HX : Hid (rdIts l i a fr = some (xs ++ [x], a1, behindK x.1) ∧ xs.length = i - 1 ∧ vn = xs.length) := by
            obtain ⟨u1, u2, u3, u4⟩ := unhide HD
            have := rd_more u2 (n := 1) (by rw [rdIts_one, hx]) rfl
            rw [show i - 1 + 1 = i by omega] at this
            exact ⟨this, u3, u4⟩
          clear HIt HD hx
          go_upto_region 10 with (go_at_call 43; refine (unhide HIt2).mono ?_; rintro e w1 ⟨rfl, H1⟩; clear HIt2)
          obtain ⟨b11, hb11⟩ : ∃ b11, b11 = w1.heap.size := ⟨_, rfl⟩
          obtain ⟨w2, hw2⟩ : ∃ w2, w2 = w1.alloc (.cells #[.string x.1, .string x.2] 54) := ⟨_, rfl⟩
          rw [← hw2, ← hb11]
          have H2 : Hid (NR w w2 r v l 0 xs [] a1 (behindK x.1) (.slice va vn k) (.slice none 0 0) [] ∧ IV w2 b11 x ∧ w.heap.size + 2 ≤ w2.heap.size) := by
            have hb : Below w1.heap.size w1 w2 := by rw [hw2]; exact (Below.refl _ _).alloc (Nat.le_refl _) _
            have hn := (unhide H1).below hb
            exact ⟨hn, by rw [hw2, hb11]; exact heap_alloc_new _ _, hn.size⟩
          clear hw2 hb11 H1
          obtain ⟨c0, c1, f0, f1⟩ := (unhide H2).1.var.cells
          have d0 : w2.cell? ⟨b11, 0, none⟩ = some (.string x.1) := (unhide H2).2.1.cells.1
          have d1 : w2.cell? ⟨b11, 1, none⟩ = some (.string x.2) := (unhide H2).2.1.cells.2
          have hbl : b11 < w2.heap.size := blk_lt (unhide H2).2.1
          have hvl : w.heap.size + 1 < w2.heap.size := by have := (unhide H2).2.2; omega
          have HA : Hid (NR w (w2.alloc (.cells #[.string x.1, .string x.2] 54)) r v l 0 xs [] a1 (behindK x.1) (.slice va vn k) (.slice none 0 0) []) := (unhide H2).1.below ((Below.refl _ _).alloc (Nat.le_refl _) _)
          have hown : (w2.alloc (.cells #[.string x.1, .string x.2] 54)).ownsRow (w.heap.size + 2) 54 2 (.slice va vn k) vn (c2 (xs.map itV)) := by rw [(unhide HX).2.2]; have := (unhide HA).iown; rw [(unhide HX).2.2] at this; exact this
          have hvn : vn ≤ 1000 := by have := (unhide HX).2.1; have := (unhide HX).2.2; omega
          go_wp2_with (at_builtin; refine wpList_append_own_at _ rfl (.tmp 40) (.tmp 42) 45 rfl (w.heap.size + 2) 54 i0 _ 2 32 Tryd.underlying45 hi hz0 hz1 hz2 rfl (by decide) _ _ _ rfl hown ⟨w2.heap.size, 0, none⟩ 1 1 [.string x.1, .string x.2] rfl rfl (two_new _ _ _ _) (fun u hu => by simp at hu; rcases hu with rfl | rfl <;> rfl) (by unfold maxLen; omega) (by omega) (by simp; omega) ?_)
          intro v3 w3 hown3 hg3 _ hat3
          obtain ⟨va3, k3, rfl⟩ := own_sl hown3
          have HE : Hid (NR w (w3.setCell ⟨w.heap.size + 1, 0, none⟩ (.slice va3 (vn + 1) k3)) r v l 0 (xs ++ [x]) [] a1 (behindK x.1) (.slice va3 (vn + 1) k3) (.slice none 0 0) []) := by
            refine (unhide HA).item (unhide HO) ?_ hg3 (by rw [World.size_alloc]; exact hat3)
            rw [← (unhide HX).2.2]
            exact hown3
          have c5 : w3.cell? ⟨w.heap.size + 1, 0, none⟩ = some (.slice va vn k) ∧ w3.frozen? ⟨w.heap.size + 1, 0, none⟩ = false := by
            have hv : NV w3 (w.heap.size + 1) (.slice va vn k) (.slice none 0 0) := (hg3.block _ (blk_lt (unhide HA).var) (fun e => by have := (own_lt hown _ e.symm).1; omega)).trans (unhide HA).var
            exact ⟨hv.cells.1, hv.cells.2.2.1⟩
          obtain ⟨c5, f5⟩ := c5
          clear hown hown3 hg3 hat3 HA H2 c0 c1 f0 f1 d0 d1
          go_wp2_with fail
          go_roundw
          case rel =>
            refine ⟨i + 1, xs ++ [x], a1, behindK x.1, va3, vn + 1, k3, by simp, by omega, unhide HE, ?_, ?_, ?_⟩
            · exact (unhide HX).1
            · have := (unhide HX).2.1; simp; omega
            · have := (unhide HX).2.2; simp; omega
          case measure => simp [RowKit.intOf]; omega
    · have hlti : ¬ ((i : Int) < (gaps : Int)) := by omega
      obtain ⟨u1, u2, u3, u4⟩ := unhide HD
      have hie : i = gaps := by omega
      have HE : Hid (NodP w r v l 0 gaps gaps a fr (.returned (.tuple #[.agg #[.slice va vn k, .slice none 0 0], .nilIface])) ((wr.setCell ⟨w.heap.size, 0, none⟩ (.slice va vn k)).setCell ⟨w.heap.size, 1, none⟩ (.slice none 0 0))) := by
        rw [hie] at u2 u3
        exact u1.good (unhide HO) rfl (by have := unhide HG; omega) rfl u2
      obtain ⟨c0, c1, _, _⟩ := u1.var.cells
      obtain ⟨r0, r1, g0, g1⟩ := u1.res.cells
      clear u1 u2 u3 u4 HD hie
      go_wp2_with fail
      refine bodyPost_ret (v := .tuple #[.agg #[.slice va vn k, .slice none 0 0], .nilIface]) ?_ rfl ?_
      · rw [results_cell_tmp rfl]
        go_simp
      exact unhide HE
end
end Go.Proofs.YtmahkhpmaenkhaaDoor
