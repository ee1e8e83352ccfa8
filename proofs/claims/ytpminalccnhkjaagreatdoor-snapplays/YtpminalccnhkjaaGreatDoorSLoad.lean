/- What package snap reads of a disk: read, Load: the file is a whole snapshot, or there is none. -/
import Derived.Test.YtpminalccnhkjaaGreatDoorSUn
import Derived.Test.YtpminalccnhkjaaGreatDoorJDAs2DBeginSAs
import Derived.Test.YtpminalccnhkjaaGreatDoorJDAbs2SPreSOkSRepSSweep
namespace Go.Proofs.YtpminalccnhkjaaGreatDoor
open Go.RowKit Go.Lib

theorem RBn.same {w w' : World} {lo : Nat} {v : Value} {l : List UInt8} (h : RBn w lo v l) (hz : w.heap.size ≤ w'.heap.size) (hs : ∀ k, lo ≤ k → k < w.heap.size → w'.heap[k]? = w.heap[k]?) : RBn w' lo v l := by
  obtain ⟨h1, h2 | ⟨b, off, cap, hbl, h0, h3, h4, h5, h6⟩⟩ := h
  · exact ⟨h1, .inl h2⟩
  · exact ⟨h1, .inr ⟨b, off, cap, Nat.lt_of_lt_of_le hbl hz, h0, h3, h4, h5, fun i hi => (World.cell?_of_block (w := w) (hs b h0 hbl)).trans (h6 i hi)⟩⟩
theorem RBn.slice {w : World} {lo : Nat} {v : Value} {l : List UInt8} (h : RBn w lo v l) : ∃ a k, v = .slice a l.length k := by
  obtain ⟨_, ⟨rfl, rfl⟩ | ⟨b, off, cap, _, _, _, _, rfl, _⟩⟩ := h
  · exact ⟨none, 0, rfl⟩
  · exact ⟨_, _, rfl⟩
theorem RBn.mono {w : World} {lo lo' : Nat} {v : Value} {l : List UInt8} (h : RBn w lo v l) (hl : lo' ≤ lo) : RBn w lo' v l := by
  obtain ⟨h1, h2 | ⟨b, off, cap, hbl, h0, h3⟩⟩ := h
  · exact ⟨h1, .inl h2⟩
  · exact ⟨h1, .inr ⟨b, off, cap, hbl, by omega, h3⟩⟩
/-- Three cells written at p. -/
theorem RBn.set3 {w : World} {lo p : Nat} {v : Value} {l : List UInt8} (h : RBn w lo v l) (hp : p < lo ∨ w.heap.size ≤ p) (a b c : Value) : RBn (((w.setCell ⟨p, 0, none⟩ a).setCell ⟨p, 1, none⟩ b).setCell ⟨p, 2, none⟩ c) lo v l :=
  h.same (Nat.le_of_eq (set3_size _ _ _ _ _).symm) (fun k h1 h2 => set3_block _ _ _ _ _ _ (by omega))
theorem RBn.alloc {w : World} {lo : Nat} {v : Value} {l : List UInt8} (h : RBn w lo v l) (o : Obj) : RBn (w.alloc o) lo v l := h.same (by simp) (fun k _ h2 => Below.heap_alloc _ _ _ h2)
theorem Sv.later {w w' : World} {p : Nat} {a b c : Value} (h : Sv w p a b c) (hb : Below w.heap.size w w') : Sv w' p a b c := h.below hb h.lt

/-- The disk has a whole snapshot. -/
def Has (S : Dk.St) (F : List Dk.Ent) (i t : Nat) (l : List UInt8) : Prop := S.off = false ∧ ∃ e, Dk.look F snN.data.toList = some e ∧ e.data = frameBytes (snB i t l)
theorem has_read {w : World} {p : Nat} {S : Dk.St} {F : List Dk.Ent} {O : Nat → Prop} {i t : Nat} {l : List UInt8} (h : Dk.DX w p S F O) (hE : ET w) (hH : Has S F i t l) (hl : l.length ≤ 262080) (hi : i < 18446744073709551616) (ht : t < 18446744073709551616) :
    Calls Tryz.prog 14 #[.pointer (some ⟨p, 0, none⟩), .string snN] w fun e w' => ∃ v, e = .returned (.tuple #[v, .nilIface]) ∧ RBp w' w'.heap.size v (frameBytes (snB i t l)) ∧ Below w.heap.size w w' := by
  obtain ⟨ho, x, hx, hd⟩ := hH
  have hr : Dk.readC S F snN.data.toList = 0 := by unfold Dk.readC; rw [ho, hx]; rfl
  have ho' : Dk.oldData F snN.data.toList = frameBytes (snB i t l) := by unfold Dk.oldData; rw [hx]; exact hd
  refine (Dk.dx_read snN h hE (by decide)).mono ?_
  rintro e w' ⟨hb, ⟨h1, _⟩ | ⟨_, _, v, rfl, hv⟩⟩
  · exact absurd hr h1
  · rw [ho'] at hv
    have q1 := uvarint_length64 hi
    have q2 := uvarint_length64 ht
    exact ⟨v, rfl, rb_own hv (by simp [frameBytes, word4_length, snB]; omega), hb⟩
theorem none_read {w : World} {p : Nat} {S : Dk.St} {F : List Dk.Ent} {O : Nat → Prop} (h : Dk.DX w p S F O) (hE : ET w) (ho : S.off = false) (hx : Dk.look F snN.data.toList = none) :
    Calls Tryz.prog 14 #[.pointer (some ⟨p, 0, none⟩), .string snN] w fun e w' => ∃ b, e = .returned (.tuple #[.slice none 0 0, Dk.evW b]) ∧ Dk.ErrW w' b 30 ∧ Below w.heap.size w w' := by
  have hr : Dk.readC S F snN.data.toList = 30 := by unfold Dk.readC; rw [ho, hx]; rfl
  refine (Dk.dx_read snN h hE (by decide)).mono ?_
  rintro e w' ⟨hb, ⟨_, b, rfl, h2⟩ | ⟨h1, _⟩⟩
  · rw [hr] at h2; exact ⟨b, rfl, h2, hb⟩
  · rw [hr] at h1; exact absurd h1 (by decide)

set_option maxHeartbeats 6400000 in
set_option maxRecDepth 100000 in
theorem read_some {w : World} {p : Nat} {S : Dk.St} {F : List Dk.Ent} {O : Nat → Prop} {i t : Nat} {l : List UInt8} (h : Dk.DX w p S F O) (hE : ET w) (hT : ST w) (hH : Has S F i t l) (hl : l.length ≤ 262080) (hi : i < 18446744073709551616) (ht : t < 18446744073709551616) :
    Calls Tryz.prog 35 #[.pointer (some ⟨p, 0, none⟩)] w fun e w' => ∃ d, e = .returned (.tuple #[.agg #[.int .u64 (i : Int), .int .u64 (t : Int), d], .nilIface]) ∧ RBn w' w.heap.size d l ∧ Below w.heap.size w w' := by
  have hb0 := below_alloc (B := w.heap.size) (.cells #[.int .u64 0, .int .u64 0, .slice none 0 0] 34) (Nat.le_refl w.heap.size)
  have hz0 : (w.alloc (.cells #[.int .u64 0, .int .u64 0, .slice none 0 0] 34)).heap.size = w.heap.size + 1 := by simp
  have HR := hide (has_read (h.below hb0) (hE.below hb0 hE.lt) hH hl hi ht)
  have HU : Hid (∀ W v, Below w.heap.size w W → RBp W W.heap.size v (frameBytes (snB i t l)) → Calls Tryz.prog 52 #[v] W fun e w' => ∃ d, e = .returned (.tuple #[.agg #[.int .u64 (i : Int), .int .u64 (t : Int), d], .nilIface]) ∧ RBn w' W.heap.size d l ∧ Below W.heap.size W w') := fun W v hb hv => unpack_any i t v l W hi ht hl (hT.below hb hT.lt) hv
  have HS0 := hide (Sv.new w (.int .u64 0) (.int .u64 0) (.slice none 0 0))
  have HB0 := hide hb0
  have HZ := hide hz0
  clear hb0 hz0 h hE hT hH
  unfold snN at HR
  go_enter Tryz.func35, Tryz.ntmps35
  go_upto_region 4 with (first
    | (go_at_call 14; refine (unhide HR).mono ?_; rintro e w1 ⟨v, rfl, hv, b1⟩; clear HR; have HV := hide hv; have HB1 := hide b1; have HC1 := hide (bt (unhide HB0) b1); clear hv b1))
  have hz1 : w.heap.size + 1 ≤ w1.heap.size := by have := (unhide HB1).size; rw [unhide HZ] at this; exact this
  have hS1 := (unhide HS0).later (unhide HB1)
  go_upto_region 7 with (first
    | (go_at_call 52; refine (unhide HU _ _ (unhide HC1) (unhide HV)).mono ?_; rintro e w2 ⟨d, rfl, hd, b2⟩; obtain ⟨da, dk, rfl⟩ := hd.slice; have HD := hide hd; have HB2 := hide b2; have hz2 := b2.size; have HS2 := hide (hS1.later b2); clear hd b2))
  have hb3 := below_alloc (B := w2.heap.size) (.cells #[.int .u64 (i : Int), .int .u64 (t : Int), .slice da l.length dk] 34) (Nat.le_refl w2.heap.size)
  obtain ⟨f0, f1, f2, f3, f4, f5⟩ := ((unhide HS2).later hb3).cells
  have HB3 := hide hb3
  clear hb3 hS1
  go_wp2
  refine bodyPost_ret (v := .tuple #[.agg #[.int .u64 (i : Int), .int .u64 (t : Int), .slice da l.length dk], .nilIface]) ?_ rfl ?_
  · rw [results_cell_tmp rfl]
    go_simp
    try rfl
  · refine ⟨_, rfl, (((unhide HD).alloc _).set3 (.inl hz1) _ _ _).mono (by omega), ?_⟩
    exact set3_below (bt (bt (unhide HC1) (unhide HB2)) (unhide HB3)) (Nat.le_refl _) _ _ _

set_option maxHeartbeats 6400000 in
set_option maxRecDepth 100000 in
theorem read_none {w : World} {p : Nat} {S : Dk.St} {F : List Dk.Ent} {O : Nat → Prop} (h : Dk.DX w p S F O) (hE : ET w) (ho : S.off = false) (hx : Dk.look F snN.data.toList = none) :
    Calls Tryz.prog 35 #[.pointer (some ⟨p, 0, none⟩)] w fun e w' => ∃ b, e = .returned (.tuple #[.agg #[.int .u64 0, .int .u64 0, .slice none 0 0], Dk.evW b]) ∧ Dk.ErrW w' b 30 ∧ Below w.heap.size w w' := by
  have hb0 := below_alloc (B := w.heap.size) (.cells #[.int .u64 0, .int .u64 0, .slice none 0 0] 34) (Nat.le_refl w.heap.size)
  have HR := hide (none_read (h.below hb0) (hE.below hb0 hE.lt) ho hx)
  have HS0 := hide (Sv.new w (.int .u64 0) (.int .u64 0) (.slice none 0 0))
  have HB0 := hide hb0
  clear hb0 h hE ho hx
  unfold snN at HR
  go_enter Tryz.func35, Tryz.ntmps35
  go_upto_region 3 with (first
    | (go_at_call 14; refine (unhide HR).mono ?_; rintro e w1 ⟨b, rfl, hv, b1⟩; clear HR; have HV := hide hv; obtain ⟨f0, f1, f2, f3, f4, f5⟩ := ((unhide HS0).later b1).cells; have HC1 := hide (bt (unhide HB0) b1); have HN : Hid (b ≠ w.heap.size) := (by intro hh; subst hh; have h5 := hv; unfold Dk.ErrW at h5; rw [f1] at h5; cases h5); clear hv b1))
  go_wp2
  refine bodyPost_ret (v := .tuple #[.agg #[.int .u64 0, .int .u64 0, .slice none 0 0], Dk.evW b]) ?_ rfl ?_
  · rw [results_cell_tmp rfl]
    go_simp
    try rfl
  · refine ⟨_, rfl, ?_, ?_⟩
    · exact (World.cell?_of_block (w := w1) (set3_block _ _ _ _ _ _ (unhide HN))).trans (unhide HV)
    · exact set3_below (unhide HC1) (Nat.le_refl _) _ _ _

set_option maxHeartbeats 6400000 in
set_option maxRecDepth 100000 in
/-- Load where there is a whole snapshot. -/
theorem load_some {w : World} {p : Nat} {S : Dk.St} {F : List Dk.Ent} {O : Nat → Prop} {i t : Nat} {l : List UInt8} (h : Dk.DX w p S F O) (hE : ET w) (hT : ST w) (hH : Has S F i t l) (hl : l.length ≤ 262080) (hi : i < 18446744073709551616) (ht : t < 18446744073709551616) :
    Calls Tryz.prog 12 #[.pointer (some ⟨p, 0, none⟩)] w fun e w' => ∃ d, e = .returned (.tuple #[.agg #[.int .u64 (i : Int), .int .u64 (t : Int), d], .bool true, .nilIface]) ∧ RBn w' w.heap.size d l ∧ Below w.heap.size w w' := by
  have hb0 := below_alloc (B := w.heap.size) (.cells #[.int .u64 0, .int .u64 0, .slice none 0 0] 34) (Nat.le_refl w.heap.size)
  have hz0 : (w.alloc (.cells #[.int .u64 0, .int .u64 0, .slice none 0 0] 34)).heap.size = w.heap.size + 1 := by simp
  have HR := hide (read_some (h.below hb0) (hE.below hb0 hE.lt) (hT.below hb0 hT.lt) hH hl hi ht)
  have HS0 := hide (Sv.new w (.int .u64 0) (.int .u64 0) (.slice none 0 0))
  have HB0 := hide hb0
  have HZ := hide hz0
  clear hb0 hz0 h hE hT hH
  go_enter Tryz.func12, Tryz.ntmps12
  go_upto_region 3 with (first
    | (go_at_call 35; refine (unhide HR).mono ?_; rintro e w1 ⟨d, rfl, hd, b1⟩; clear HR; obtain ⟨da, dk, rfl⟩ := hd.slice; have HD := hide hd; have HB1 := hide b1; have HC1 := hide (bt (unhide HB0) b1); clear hd b1))
  have hz1 : w.heap.size + 1 ≤ w1.heap.size := by have := (unhide HB1).size; rw [unhide HZ] at this; exact this
  have hb2 := bt (below_alloc (B := w1.heap.size) (.cells #[.int .u64 (i : Int), .int .u64 (t : Int), .slice da l.length dk] 34) (Nat.le_refl w1.heap.size)) (below_alloc (.cells #[.pointer none] 84) (Nat.le_refl _))
  obtain ⟨f0, f1, f2, f3, f4, f5⟩ := (((unhide HS0).later (unhide HB1)).later hb2).cells
  have HB2 := hide hb2
  clear hb2
  go_wp2_with (first
    | (go_at_call 36; refine (Dk.as_nil _ _).mono ?_; rintro e w2 ⟨rfl, rfl⟩)
    | (go_at_call 25; refine (Dk.is_nil _ _).mono ?_; rintro e w2 ⟨rfl, rfl⟩))
  refine bodyPost_ret (v := .tuple #[.agg #[.int .u64 (i : Int), .int .u64 (t : Int), .slice da l.length dk], .bool true, .nilIface]) ?_ rfl ?_
  · rw [results_cell3 rfl]
    go_simp
    try rfl
  · have hz9 := unhide HZ
    refine ⟨_, rfl, ((((unhide HD).alloc _).alloc _).set3 (.inl (by omega)) _ _ _).mono (by omega), ?_⟩
    exact set3_below (bt (unhide HC1) (unhide HB2)) (Nat.le_refl _) _ _ _

set_option maxHeartbeats 6400000 in
set_option maxRecDepth 100000 in
/-- Load where there is no such file. -/
theorem load_none {w : World} {p : Nat} {S : Dk.St} {F : List Dk.Ent} {O : Nat → Prop} (h : Dk.DX w p S F O) (hE : ET w) (ho : S.off = false) (hx : Dk.look F snN.data.toList = none) :
    Calls Tryz.prog 12 #[.pointer (some ⟨p, 0, none⟩)] w fun e w' => e = .returned (.tuple #[.agg #[.int .u64 0, .int .u64 0, .slice none 0 0], .bool false, .nilIface]) ∧ Below w.heap.size w w' := by
  have hb0 := below_alloc (B := w.heap.size) (.cells #[.int .u64 0, .int .u64 0, .slice none 0 0] 34) (Nat.le_refl w.heap.size)
  have hz0 : (w.alloc (.cells #[.int .u64 0, .int .u64 0, .slice none 0 0] 34)).heap.size = w.heap.size + 1 := by simp
  have HR := hide (read_none (h.below hb0) (hE.below hb0 hE.lt) ho hx)
  have HS0 := hide (Sv.new w (.int .u64 0) (.int .u64 0) (.slice none 0 0))
  have HB0 := hide hb0
  have HZ := hide hz0
  have HE := hide hE
  clear hb0 hz0 h hE ho hx
  go_enter Tryz.func12, Tryz.ntmps12
  go_upto_region 3 with (first
    | (go_at_call 35; refine (unhide HR).mono ?_; rintro e w1 ⟨b, rfl, he, b1⟩; clear HR; have HV := hide he; have HB1 := hide b1; have HC1 := hide (bt (unhide HB0) b1); clear he b1))
  have hz1 : w.heap.size + 1 ≤ w1.heap.size := by have := (unhide HB1).size; rw [unhide HZ] at this; exact this
  have hb2 := bt (below_alloc (B := w1.heap.size) (.cells #[.int .u64 0, .int .u64 0, .slice none 0 0] 34) (Nat.le_refl w1.heap.size)) (below_alloc (.cells #[.pointer none] 84) (Nat.le_refl _))
  have HS2 := hide (((unhide HS0).later (unhide HB1)).later hb2)
  have HC2 := hide (bt (unhide HC1) hb2)
  have HV2 := hide (Dk.ErrW.below (unhide HV) hb2 (unhide HV).lt)
  have HT0 : Hid (((w1.alloc (.cells #[.int .u64 0, .int .u64 0, .slice none 0 0] 34)).alloc (.cells #[.pointer none] 84)).cell? ⟨w1.heap.size + 1, 0, none⟩ = some (.pointer none)) := by
    show _ = _
    simp
  clear hb2
  go_wp2_with (first
    | (go_at_call 36; refine (Dk.as_NW b 30 ⟨w1.heap.size + 1, 0, none⟩ _ _ ((unhide HE).below (unhide HC2) (unhide HE).lt) (unhide HT0) (unhide HV2)).mono ?_; rintro e w2 ⟨rfl, b3⟩; obtain ⟨f0, f1, f2, f3, f4, f5⟩ := ((unhide HS2).later b3).cells; have HV3 := hide (Dk.ErrW.below (unhide HV2) b3 (unhide HV2).lt); have HC3 := hide (bt (unhide HC2) b3); clear b3)
    | (go_at_call 25; refine (Dk.is_placed b 30 30 _ (unhide HV3)).mono ?_; rintro e w4 ⟨rfl, hw4⟩; subst hw4))
  refine bodyPost_ret (v := .tuple #[.agg #[.int .u64 0, .int .u64 0, .slice none 0 0], .bool false, .nilIface]) ?_ rfl ?_
  · rw [results_cell3 rfl]
    go_simp
    try rfl
  · exact ⟨rfl, set3_below (unhide HC3) (Nat.le_refl _) _ _ _⟩
end Go.Proofs.YtpminalccnhkjaaGreatDoor
