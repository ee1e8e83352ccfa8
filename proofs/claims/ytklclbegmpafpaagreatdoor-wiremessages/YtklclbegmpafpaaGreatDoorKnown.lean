/- Contract of the statements' own look, known: it answers true. -/
import Derived.Test.YtklclbegmpafpaaGreatDoorListOf
import Derived.Test.YtklclbegmpafpaaGreatDoorJReaderSum
import Derived.Lib.SlBytesConst
namespace Go.Proofs.YtklclbegmpafpaaGreatDoor
open Go.RowKit Go.Lib

theorem ST.lt {w : World} (h : ST w) : 0 < w.heap.size := lt_of_cell (h 0 (by decide))
theorem ST.below {w w' : World} {B : Nat} (h : ST w) (hb : Below B w w') (hB : 0 < B) : ST w' := fun i hi =>
  (hb.cell (p := ⟨0, i, none⟩) hB).trans (h i hi)

theorem row_known : (putVals [⟨2, 5, ⟨#[]⟩⟩, ⟨0, 0, ⟨#[]⟩⟩] (putLen 2 64 (some []))) = some [2, 2, 10, 0] := by
  have u0 : uvarint 0 = [0] := uvarint_small (by decide)
  have u2 : uvarint 2 = [2] := uvarint_small (by decide)
  have u10 : uvarint 10 = [10] := uvarint_small (by decide)
  have hz : zigzag 5 = 10 := by decide
  have m1 : GV.may ⟨2, 5, ⟨#[]⟩⟩ = true := by decide +kernel
  have m2 : GV.may ⟨0, 0, ⟨#[]⟩⟩ = true := by decide +kernel
  simp [putVals, putLen, putVal, m1, m2, GV.bytes, u0, u2, u10, hz]
theorem short_known : (rdRow [2] (.ok 0)).2 = .error 22 := by kernel_rfl
theorem crc_known : crc [49, 50, 51, 52, 53, 54, 55, 56, 57] = 3421780262 := by decide +kernel

theorem rb_own {w : World} {B : Nat} {v : Value} {l : List UInt8} (h : w.ownsRow B 5 1 v l.length (byteCells l)) (hl : l.length ≤ 1000000000000) : RBp w w.heap.size v l := by
  have hh := h
  obtain ⟨h1, ⟨h2, h2'⟩ | ⟨g, cap, cur, h3, h4, h5, h6, h7, h8, h9⟩⟩ := h
  · exact ⟨hl, .inl ⟨h2, List.eq_nil_of_length_eq_zero h2'⟩⟩
  · have hg : g < w.heap.size := by
      rcases Nat.lt_or_ge g w.heap.size with h' | h'
      · exact h'
      · rw [Array.getElem?_eq_none h'] at h5; cases h5
    refine ⟨hl, .inr ⟨g, 0, cap, hg, h6, h7, h3, fun i hi => ?_⟩⟩
    have e2 : (byteCells l)[i]? = some (.int .u8 ((l.getD i 0).toNat : Int)) := by
      simp [byteCells, hi]
    have := hh.cells (g := g) (by rw [h3]; rfl) i _ e2
    have e3 : (⟨g, 0, none⟩ : Addr).add i = ⟨g, 0 + i, none⟩ := by unfold Addr.add; split <;> simp_all
    rw [e3] at this; exact this
theorem rb_later {w w' : World} {B B' : Nat} {v : Value} {l : List UInt8} (h : RBp w B v l) (hb : Below B w w') (hB : B ≤ B') : RBp w' B' v l := by
  obtain ⟨h1, h2 | ⟨b, off, cap, hbB, hc, hm, rfl, hcell⟩⟩ := h
  · exact ⟨h1, .inl h2⟩
  · exact ⟨h1, .inr ⟨b, off, cap, by omega, hc, hm, rfl, fun i hi => (hb.cell (p := ⟨b, off + i, none⟩) hbB).trans (hcell i hi)⟩⟩

theorem k_put (w : World) : Calls Tryz.prog 12 #[.slice (some ⟨w.heap.size, 0, none⟩) 2 2] (w.alloc (.cells #[.int .i64 2, .int .i64 5, .string ⟨#[]⟩, .int .i64 0, .int .i64 0, .string ⟨#[]⟩] 48)) fun e w' =>
    ∃ a k, e = .returned (.tuple #[.slice a 4 k, .nilIface]) ∧ RBp w' w'.heap.size (.slice a 4 k) [2, 2, 10, 0] ∧ Below w.heap.size w w' := by
  have hv : RV (w.alloc (.cells #[.int .i64 2, .int .i64 5, .string ⟨#[]⟩, .int .i64 0, .int .i64 0, .string ⟨#[]⟩] 48)) (w.alloc (.cells #[.int .i64 2, .int .i64 5, .string ⟨#[]⟩, .int .i64 0, .int .i64 0, .string ⟨#[]⟩] 48)).heap.size (.slice (some ⟨w.heap.size, 0, none⟩) 2 2) [⟨2, 5, ⟨#[]⟩⟩, ⟨0, 0, ⟨#[]⟩⟩] := by
    refine ⟨by decide, ?_, .inr ⟨w.heap.size, 0, 2, by simp, rfl, ?_⟩⟩
    · intro g hg
      simp at hg
      rcases hg with rfl | rfl <;> exact ⟨by decide, by decide, by decide⟩
    · intro i g hg
      match i, hg with
      | 0, hg => simp at hg; subst hg; simp
      | 1, hg => simp at hg; subst hg; simp
  refine (putRow_any _ _ _ hv).mono ?_
  intro e w' h
  rw [show ([⟨2, 5, ⟨#[]⟩⟩, ⟨0, 0, ⟨#[]⟩⟩] : List GV).length = 2 from rfl, row_known] at h
  obtain ⟨a, k, rfl, ho, hb⟩ := h
  exact ⟨a, k, rfl, rb_own ho (by decide), ((Below.refl _ _).alloc (Nat.le_refl _) _).trans (hb.mono (by simp))⟩

theorem k_row (w : World) (hE : ET w) : Calls Tryz.prog 13 #[.slice (some ⟨w.heap.size, 0, none⟩) 1 1] (w.alloc (.cells #[.int .u8 2] 5)) fun e w' =>
    ∃ b pl, e = .returned (.tuple #[.slice none 0 0, .int .i64 0, ev b]) ∧ ErrAt w' b pl 22 ∧ Below w.heap.size w w' := by
  have hv : RBp (w.alloc (.cells #[.int .u8 2] 5)) (w.alloc (.cells #[.int .u8 2] 5)).heap.size (.slice (some ⟨w.heap.size, 0, none⟩) 1 1) [2] := by
    refine ⟨by decide, .inr ⟨w.heap.size, 0, 1, by simp, by decide, by decide, rfl, ?_⟩⟩
    intro i hi
    have : i = 0 := by simpa using hi
    subst this; simp
  refine (row_any _ _ _ (hE.alloc _) hv).mono ?_
  intro e w' h
  unfold RowPost at h
  rw [short_known] at h
  obtain ⟨b, pl, rfl, he, _, hb⟩ := h
  exact ⟨b, pl, rfl, he, ((Below.refl _ _).alloc (Nat.le_refl _) _).trans (hb.mono (by simp))⟩

theorem k_sum (w : World) (hT : ST w) : Calls Tryz.prog 14 #[.slice (some ⟨w.heap.size, 0, none⟩) 9 9] (w.alloc (.cells #[.int .u8 49, .int .u8 50, .int .u8 51, .int .u8 52, .int .u8 53, .int .u8 54, .int .u8 55, .int .u8 56, .int .u8 57] 5 (9, 10))) fun e w' =>
    e = .returned (.int .u32 3421780262) ∧ Below w.heap.size w w' := by
  have hv : RBp (w.alloc (.cells #[.int .u8 49, .int .u8 50, .int .u8 51, .int .u8 52, .int .u8 53, .int .u8 54, .int .u8 55, .int .u8 56, .int .u8 57] 5 (9, 10))) (w.heap.size + 1) (.slice (some ⟨w.heap.size, 0, none⟩) 9 9) [49, 50, 51, 52, 53, 54, 55, 56, 57] := by
    refine ⟨by decide, .inr ⟨w.heap.size, 0, 9, by simp, by decide, by decide, rfl, ?_⟩⟩
    intro i hi
    have hi' : i < 9 := by simpa using hi
    rw [World.cell?_alloc_mark]
    match i, hi' with
    | 0, _ => rfl
    | 1, _ => rfl
    | 2, _ => rfl
    | 3, _ => rfl
    | 4, _ => rfl
    | 5, _ => rfl
    | 6, _ => rfl
    | 7, _ => rfl
    | 8, _ => rfl
  have hb := (Below.refl w.heap.size w).alloc (Nat.le_refl _) (.cells #[.int .u8 49, .int .u8 50, .int .u8 51, .int .u8 52, .int .u8 53, .int .u8 54, .int .u8 55, .int .u8 56, .int .u8 57] 5 (9, 10))
  refine (sum_any _ _ _ _ hv (hT.below hb hT.lt)).mono ?_
  rintro e w' ⟨rfl, rfl⟩
  rw [crc_known]
  exact ⟨rfl, hb⟩

set_option maxHeartbeats 3200000 in
theorem known_any (w : World) (hE : ET w) (hT : ST w) : Calls Tryz.prog 4 #[] w fun e w' => e = .returned (.bool true) ∧ Below w.heap.size w w' := by
  have kc := fun (w : World) (C : Array Value) (n c : Nat) => run_convert_bytes_const (P := Tryz.prog) w 24 5 C n c Tryz.underlying24 Tryz.underlying5
  go_enter Tryz.func4, Tryz.ntmps4
  go_wp2_with (first
    | (go_at_call 12; refine (k_put w).mono ?_; rintro e w1 ⟨a1, k1, rfl, hv1, hb1⟩; have hE1 := hE.below hb1 hE.lt; have z1 := hb1.size; have hT1 := hide (hT.below hb1 hT.lt); clear hE hT)
    | (go_at_call 13; refine (k_row w1 hE1).mono ?_; rintro e w2 ⟨b2, pl2, rfl, he2, hb2⟩; have hE2 := hE1.below hb2 hE1.lt; have hT2 := hide ((unhide hT1).below hb2 (unhide hT1).lt); have hcv := conv_any _ _ _ _ (rb_later hv1 hb2 (Nat.le_refl _)); have z2 := hb2.size; clear hE1 hT1 hv1)
    | (go_at_call 8; refine (class_at b2 pl2 22 w2 hE2 he2).mono ?_; rintro e w3 ⟨rfl, hb3⟩; have hT3 := hide ((unhide hT2).below hb3 (unhide hT2).lt); have z3 := hb3.size)
    | (go_at_call 14; refine (k_sum w3 (unhide hT3)).mono ?_; rintro e w4 ⟨rfl, hb4⟩))
  go_ret
  exact ⟨rfl, ((hb1.trans (hb2.mono z1)).trans (hb3.mono (by omega))).trans (hb4.mono (by omega))⟩
end Go.Proofs.YtklclbegmpafpaaGreatDoor
