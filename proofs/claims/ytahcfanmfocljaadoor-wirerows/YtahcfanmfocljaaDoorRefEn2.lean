/- Contract of the document's own writer of entries, what it writes. -/
import Derived.Test.YtahcfanmfocljaaDoorRefEnt
namespace Go.Proofs.YtahcfanmfocljaaDoor
open Go.RowKit Go.Lib
attribute [local go_sem ↓] Go.wp_at_zero Go.wp_at_succ

/-- An entry's cells in block b. -/
def C5 (w : World) (b te : Nat) (k : Int) (c q : Nat) (t : ByteArray) : Prop :=
  w.cell? ⟨b, 0, none⟩ = some (.int .u64 te) ∧ w.cell? ⟨b, 1, none⟩ = some (.int .i64 k) ∧ w.cell? ⟨b, 2, none⟩ = some (.int .u64 c) ∧ w.cell? ⟨b, 3, none⟩ = some (.int .u64 q) ∧ w.cell? ⟨b, 4, none⟩ = some (.string t)
abbrev oneE (w : World) (te : Nat) (k : Int) (c q : Nat) (t : ByteArray) : World := w.alloc (.cells #[.int .u64 te, .int .i64 k, .int .u64 c, .int .u64 q, .string t] 52)
theorem C5.new (w : World) (te : Nat) (k : Int) (c q : Nat) (t : ByteArray) : C5 (oneE w te k c q t) w.heap.size te k c q t := by
  unfold C5 oneE; simp
theorem C5.below {w w' : World} {b B te : Nat} {k : Int} {c q : Nat} {t : ByteArray} (h : C5 w b te k c q t) (hb : Below B w w') (hB : b < B) : C5 w' b te k c q t :=
  ⟨(hb.cell (p := ⟨b, 0, none⟩) hB).trans h.1, (hb.cell (p := ⟨b, 1, none⟩) hB).trans h.2.1, (hb.cell (p := ⟨b, 2, none⟩) hB).trans h.2.2.1, (hb.cell (p := ⟨b, 3, none⟩) hB).trans h.2.2.2.1, (hb.cell (p := ⟨b, 4, none⟩) hB).trans h.2.2.2.2⟩
theorem alloc_le {B : Nat} {w : World} (o : Obj) (h : B ≤ w.heap.size) : B ≤ (w.alloc o).heap.size := by simp; omega
theorem below_alloc {B : Nat} {w : World} (o : Obj) (h : B ≤ w.heap.size) : Below B w (w.alloc o) := (Below.refl _ _).alloc h _

/-- What stands behind the term's bytes. -/
def EP (w W : World) (te : Nat) (k : Int) (c q : Nat) (t : ByteArray) (kn : Nat) (v' : Value) (w' : World) : Prop :=
  w'.ownsRow (w.heap.size + 1) 5 1 v' (uvarint te).length (byteCells (uvarint te)) ∧ C5 w' w.heap.size te k c q t ∧ Below w.heap.size w w' ∧ w.heap.size + 1 ≤ w'.heap.size ∧
    (W = ((oneE w te k c q t).alloc (.cells #[.int .u8 (kn : Int)] 5)).drew → RBp w' (w.heap.size + 2) (.slice (some ⟨w.heap.size + 1, 0, none⟩) 1 1) (uvarint kn))
theorem ref_term (w : World) (te : Nat) (k : Int) (c q : Nat) (t : ByteArray) (kn : Nat) (hte : te < 18446744073709551616) (hkn : kn < 128) (W : World)
    (hW : W = (oneE w te k c q t).drew ∨ W = ((oneE w te k c q t).alloc (.cells #[.int .u8 (kn : Int)] 5)).drew) :
    Calls Tryd.prog 14 #[.int .u64 te] W fun e w' => ∃ v', e = .returned v' ∧ EP w W te k c q t kn v' w' := by
  have hb0 : Below w.heap.size w (oneE w te k c q t).drew := (below_alloc _ (Nat.le_refl _)).drew
  have hs0 : (oneE w te k c q t).heap.size = w.heap.size + 1 := by simp
  refine (refPutUint_any te W hte).mono ?_
  rintro e w' ⟨v', rfl, ho, hb⟩
  refine ⟨v', rfl, ?_⟩
  have hz := hb.size
  rcases hW with rfl | rfl
  · rw [World.size_drew] at hz ho hb
    have hC : C5 (oneE w te k c q t).drew w.heap.size te k c q t := C5.new w te k c q t
    refine ⟨own_weaker (by omega) ho, hC.below hb (by omega), hb0.trans (hb.mono (by omega)), by omega, ?_⟩
    intro h
    have h2 := congrArg (fun x : World => x.heap.size) h
    simp at h2
  · have hs1 : ((oneE w te k c q t).alloc (.cells #[.int .u8 (kn : Int)] 5)).heap.size = w.heap.size + 2 := by simp
    rw [World.size_drew] at hz ho hb
    have hb1 : Below (w.heap.size + 1) (oneE w te k c q t).drew ((oneE w te k c q t).alloc (.cells #[.int .u8 (kn : Int)] 5)).drew := below_alloc _ (by simp)
    have hC : C5 (oneE w te k c q t).drew w.heap.size te k c q t := C5.new w te k c q t
    refine ⟨own_weaker (by omega) ho, (hC.below hb1 (by omega)).below hb (by omega), (hb0.trans (hb1.mono (by omega))).trans (hb.mono (by omega)), by omega, fun _ => ?_⟩
    have r0 : RBp ((oneE w te k c q t).alloc (.cells #[.int .u8 (kn : Int)] 5)).drew ((oneE w te k c q t).heap.size + 1) (.slice (some ⟨(oneE w te k c q t).heap.size, 0, none⟩) 1 1) (uvarint kn) := rb_one (oneE w te k c q t) kn hkn
    have r := rb_later r0 (hb.mono (by omega)) (Nat.le_refl _)
    rw [hs0] at r
    exact r
theorem uvarint_gt (x : Nat) : 0 < (uvarint x).length := uvarint_pos x

set_option maxHeartbeats 3200000 in
set_option maxRecDepth 100000 in
theorem refPutEntry_none (te : Nat) (w : World) (t : ByteArray) (hte : te < 18446744073709551616) (hE : t.toList.isEmpty = true) (hz : t.size = 0) :
    Calls Tryd.prog 35 #[.agg #[.int .u64 te, .int .i64 0, .int .u64 0, .int .u64 0, .string t]] w fun e w' => RefPost (some (uvarint te ++ uvarint 0)) w e w' := by
  have HP := hide (ref_term w te 0 0 0 t 0 hte (by decide))
  have lU : (uvarint te).length ≤ 1000000000 := Nat.le_trans (uvarint_length64 hte) (by decide)
  have l0 : (uvarint 0).length ≤ 1000000000 := Nat.le_trans (uvarint_length64 (by decide)) (by decide)
  have h128 : 0 < 128 := by decide
  go_enter Tryd.func35, Tryd.ntmps35
  go_wp2
  go_region_held3 (fun w' => w'.cell? ⟨w.heap.size, 0, none⟩ = some (.int .u64 te) ∧ w'.cell? ⟨w.heap.size, 1, none⟩ = some (.int .i64 0)) (go_keep)
    (first
      | (go_at_call 14; refine (unhide HP _ ?_).mono ?_; (first | exact Or.inl rfl | exact Or.inr rfl); rintro e wp ⟨vp, rfl, ho, hC, hb, hzp, hr⟩; obtain ⟨s0, s1, _, _, _⟩ := (show C5 wp _ _ _ _ _ _ from hC))
      | (refine step_append_rb (by rfl) _ _ (by rfl) (w.heap.size + 1) vp (uvarint te) (by rfl) (ho.alloc _) _ _ (uvarint 0) (by rfl) (rb_one wp 0 h128) (uvarint_gt _) lU l0 (alloc_le _ hzp) ?_; intro va wa hoa hba; obtain ⟨t0, t1, _, _, _⟩ := (show C5 wa _ _ _ _ _ _ from (C5.below (C5.below hC (below_alloc _ hzp) (Nat.lt_succ_self _)) hba (Nat.lt_succ_self _))); have ca := (hb.trans ((below_alloc _ hzp).mono (Nat.le_succ _))).trans (hba.mono (Nat.le_succ _)))
      | (refine step_append_rb (by rfl) _ _ (by rfl) (w.heap.size + 1) vp (uvarint te) (by rfl) ho _ _ (uvarint 0) (by rfl) (hr rfl) (uvarint_gt _) lU l0 hzp ?_; intro va wa hoa hba; obtain ⟨t0, t1, _, _, _⟩ := (show C5 wa _ _ _ _ _ _ from (C5.below hC hba (Nat.lt_succ_self _))); have ca := hb.trans (hba.mono (Nat.le_succ _))))
  all_goals (have HO := hide hoa; have HC := hide ca; clear hoa ho ca hr hb; go_wp2; obtain ⟨a, kk, hv⟩ := own_slice (unhide HO); subst hv; go_ret2; exact ⟨a, kk, rfl, rb_own (unhide HO) (by rw [List.length_append]; omega), unhide HC⟩)
end Go.Proofs.YtahcfanmfocljaaDoor
