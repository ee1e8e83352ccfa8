/- Snapshots as bytes: what package snap packs; what is read of it. -/
import Derived.Test.YtpminalccnhkjaaGreatDoorLawFrames
import Derived.Test.YtpminalccnhkjaaGreatDoorJKnownLenMathLawLengths
import Derived.Test.YtpminalccnhkjaaGreatDoorJPlainDecHand
import Derived.Test.YtpminalccnhkjaaGreatDoorJRef2Ref3DrawRefEntRefEn2RefEn3
namespace Go.Proofs.YtpminalccnhkjaaGreatDoor
open Go.RowKit Go.Lib

/-- A snapshot's bytes, ahead of their frame. -/
def snB (i t : Nat) (l : List UInt8) : List UInt8 := uvarint i ++ uvarint t ++ l
/-- A variable of three cells. -/
def Sn3 (w : World) (p : Nat) (a b c : Value) : Prop := w.cell? ⟨p, 0, none⟩ = some a ∧ w.cell? ⟨p, 1, none⟩ = some b ∧ w.cell? ⟨p, 2, none⟩ = some c
theorem Sn3.lt {w : World} {p : Nat} {a b c : Value} (h : Sn3 w p a b c) : p < w.heap.size := lt_of_cell h.1
theorem Sn3.below {w w' : World} {p B : Nat} {a b c : Value} (h : Sn3 w p a b c) (hb : Below B w w') (hB : p < B) : Sn3 w' p a b c :=
  ⟨(hb.cell (p := ⟨p, 0, none⟩) hB).trans h.1, (hb.cell (p := ⟨p, 1, none⟩) hB).trans h.2.1, (hb.cell (p := ⟨p, 2, none⟩) hB).trans h.2.2⟩
theorem Sn3.later {w w' : World} {p : Nat} {a b c : Value} (h : Sn3 w p a b c) (hb : Below w.heap.size w w') : Sn3 w' p a b c := h.below hb h.lt
theorem Sn3.new (w : World) (a b c : Value) (T : TypeId) : Sn3 (w.alloc (.cells #[a, b, c] T)) w.heap.size a b c := by
  refine ⟨?_, ?_, ?_⟩ <;> simp
theorem below_trans0 {w a b : World} (h : Below w.heap.size w a) (hb : Below a.heap.size a b) : Below w.heap.size w b := h.trans (hb.mono h.size)
theorem own_cast2 {w : World} {B : Nat} {e : TypeId} {sz : Nat} {v : Value} {n n' : Nat} {xs ys : List Value} (h : w.ownsRow B e sz v n xs) (hn : n = n') (hx : xs = ys) : w.ownsRow B e sz v n' ys := by
  subst hn; subst hx; exact h

set_option maxHeartbeats 3200000 in
/-- Frame: a row of its own. -/
theorem frame_own (v : Value) (l : List UInt8) (w : World) (hv : RBp w w.heap.size v l) (hl : l.length ≤ 262144) (hT : ST w) :
    Calls Tryz.prog 46 #[v] w fun e w' => ∃ v', e = .returned (.tuple #[v', .nilIface]) ∧ w'.ownsRow w.heap.size 5 1 v' (frameBytes l).length (byteCells (frameBytes l)) ∧ Below w.heap.size w w' := by
  obtain ⟨i0, hi, hz0, hz1, hz2⟩ := info_parts Tryz.infoB
  have hl' : ¬ ((262144 : Int) < (l.length : Int)) := by omega
  have hfl : (frameBytes l).length = 0 + 4 + l.length + 4 := by simp [frameBytes, word4_length]; omega
  obtain ⟨ad, kk, rfl⟩ := rb_len hv
  have HV := hide hv
  have HT := hide hT
  have hcl := crc_lt (word4 l.length ++ l)
  have HF := hide hfl
  clear hv hT hfl
  go_enter Tryz.func46, Tryz.ntmps46
  go_wp2_with (first
    | (at_make; refine wpList_make_own _ rfl _ _ 29 rfl w.heap.size 5 i0 (.int .u8 0) 1 Tryz.underlying29 hi hz0 hz1 _ _ _ (l.length + 8) rfl rfl (by omega) (by rw [hz2]; omega) (by unfold maxLen; omega) (Nat.le_refl _) ?_; intro w1 ho1 hg1; have hb1 := (Below.refl w.heap.size w).grown hg1 (Nat.le_refl _) (by intro k h; cases h); have z1 := hb1.size; clear hg1)
    | (go_at_call 61; refine (appendWord_any w.heap.size 0 l.length _ [] _ (by omega) (by omega) z1 ho1).mono ?_; rintro e w2 ⟨v2, rfl, ho2, hb2⟩; have c2 := hb1.trans hb2; have z2 := c2.size; clear ho1)
    | (at_builtin; refine wpList_append_rb rfl (.tmp 18) (.tmp 19) rfl w.heap.size _ _ _ rfl ho2 _ _ l rfl (rb_later (unhide HV) c2 (Nat.le_refl _)) (by omega) (by omega) z2 ?_; intro v3 w3 ho3 _ hb3; have c3 := c2.trans hb3; have z3 := c3.size; clear ho2)
    | (go_at_call 62; refine (sum_any _ _ (word4 l.length ++ l) _ (own_rb3 ho3 (by simp [word4_length]) (by simp [byteCells_append]) (by simp [word4_length]; omega)) ((unhide HT).below c3 (unhide HT).lt)).mono ?_; rintro e w3 ⟨rfl, rfl⟩)
    | (go_at_call 61; refine (appendWord_any w.heap.size _ (crc (word4 l.length ++ l)) _ _ _ hcl (by omega) z3 ho3).mono ?_; rintro e w4 ⟨v4, rfl, ho4, hb4⟩; have c4 := c3.trans hb4; clear ho3))
  go_ret2
  have e1 := unhide HF
  exact ⟨_, rfl, own_cast2 ho4 e1.symm (by simp [frameBytes, byteCells_append]), c4⟩

set_option maxHeartbeats 3200000 in
set_option maxRecDepth 100000 in
theorem pack_any (i t : Nat) (v : Value) (l : List UInt8) (w : World) (hi : i < 18446744073709551616) (ht : t < 18446744073709551616) (hv : RBp w w.heap.size v l) (hl : l.length ≤ 262080) (hT : ST w) :
    Calls Tryz.prog 30 #[.agg #[.int .u64 (i : Int), .int .u64 (t : Int), v]] w fun e w' => ∃ v', e = .returned (.tuple #[v', .nilIface]) ∧ w'.ownsRow w.heap.size 5 1 v' (frameBytes (snB i t l)).length (byteCells (frameBytes (snB i t l))) ∧ Below w.heap.size w w' := by
  obtain ⟨ad, kk, rfl⟩ := rb_len hv
  have hl' : ¬ ((262080 : Int) < (l.length : Int)) := by omega
  have li := uvarint_length64 hi
  have lt := uvarint_length64 ht
  have HS0 := hide (Sn3.new w (.int .u64 (i : Int)) (.int .u64 (t : Int)) (.slice ad l.length kk) 34)
  have hB1 := below_alloc (B := w.heap.size) (.cells #[.int .u64 (i : Int), .int .u64 (t : Int), .slice ad l.length kk] 34) (Nat.le_refl w.heap.size)
  have HB0 : Hid (Below w.heap.size w (w.alloc (.cells #[.int .u64 (i : Int), .int .u64 (t : Int), .slice ad l.length kk] 34)).drew) := hide (bt hB1 (drew_below _ 1))
  clear hB1
  have HV := hide hv
  have HT := hide hT
  clear hv hT
  go_enter Tryz.func30, Tryz.ntmps30
  go_wp2
  refine wp_region_held_drew (S := fun w' => Sn3 w' w.heap.size (.int .u64 (i : Int)) (.int .u64 (t : Int)) (.slice ad l.length kk)) (by kernel_rfl) (unhide HS0) (fun hHeld => ?_)
  refine hand_to (i := 0) (d := 10) (v := .pointer (some ⟨w.heap.size, 0, none⟩)) rfl rfl (by kernel_rfl) (by kernel_rfl) (by kernel_rfl) (fun _ _ _ h => h) (Or.inl ⟨by rfl, ?_⟩) hHeld ?_
  · (intro w' hSw; obtain ⟨hx0, hx1, hx2⟩ := hSw; go_simp)
  simp only [Act.put, List.setIfInBounds_toArray, List.set_cons_zero, List.set_cons_succ]
  refine hand_to (i := 1) (d := 11) (v := .int .u64 (i : Int)) rfl rfl (by kernel_rfl) (by kernel_rfl) (by kernel_rfl) (fun _ _ _ h => h) (Or.inl ⟨by rfl, ?_⟩) hHeld ?_
  · (intro w' hSw; obtain ⟨hx0, hx1, hx2⟩ := hSw; go_simp)
  simp only [Act.put, List.setIfInBounds_toArray, List.set_cons_zero, List.set_cons_succ]
  refine hand_to (i := 3) (d := 13) (v := .pointer (some ⟨w.heap.size, 1, none⟩)) rfl rfl (by kernel_rfl) (by kernel_rfl) (by kernel_rfl) (fun _ _ _ h => h) (Or.inl ⟨by rfl, ?_⟩) hHeld ?_
  · (intro w' hSw; obtain ⟨hx0, hx1, hx2⟩ := hSw; go_simp)
  simp only [Act.put, List.setIfInBounds_toArray, List.set_cons_zero, List.set_cons_succ]
  refine hand_to (i := 4) (d := 14) (v := .int .u64 (t : Int)) rfl rfl (by kernel_rfl) (by kernel_rfl) (by kernel_rfl) (fun _ _ _ h => h) (Or.inl ⟨by rfl, ?_⟩) hHeld ?_
  · (intro w' hSw; obtain ⟨hx0, hx1, hx2⟩ := hSw; go_simp)
  simp only [Act.put, List.setIfInBounds_toArray, List.set_cons_zero, List.set_cons_succ]
  refine wpAnyH_ready (rs := [2]) (by kernel_rfl) (by simp) ?_
  refine AllReadyH.cons rfl (fun K hK => ?_) AllReadyH.nil
  go_simp
  go_at_call 45
  refine (putUint_any i _ hi).mono ?_
  rintro e w1 ⟨v1, rfl, o1, b1⟩
  have c1 := below_trans0 (unhide HB0) b1
  have s1 := Sn3.later hHeld b1
  (go_wp2_with fail)
  refine hK.out _ _ s1 (fun hHeld2 => ?_)
  clear hK K hHeld
  have hHeld := hHeld2
  clear hHeld2
  refine wpAnyH_ready (rs := [5]) (by kernel_rfl) (by simp) ?_
  refine AllReadyH.cons rfl (fun K hK => ?_) AllReadyH.nil
  go_simp
  go_at_call 45
  refine (putUint_any t _ ht).mono ?_
  rintro e w2 ⟨v2, rfl, o2, b2⟩
  have c2 := below_trans0 c1 b2
  have z2 : w.heap.size + 1 ≤ w2.heap.size := (by have h1 := b1.size; have h2 := b2.size; simp at h1; omega)
  have s2 := Sn3.later s1 b2
  have o12 := own_later o1 b2
  (go_wp2_with fail)
  refine hK.out _ _ s2 (fun hHeld2 => ?_)
  clear hK K hHeld
  have hHeld := hHeld2
  clear hHeld2
  refine wpAnyH_ready (rs := [6]) (by kernel_rfl) (by simp) ?_
  refine AllReadyH.cons rfl (fun K hK => ?_) AllReadyH.nil
  refine step_append_rb rfl (.tmp 12) (.tmp 15) rfl (w.heap.size + 1) v1 (uvarint i) rfl (by simpa using o12) _ v2 (uvarint t) rfl (rb_own o2 (by omega)) (uvarint_pos t) (by omega) (by omega) z2 ?_
  intro v3 w3 o3 b3
  have c3 := c2.trans (b3.mono (Nat.le_succ _))
  have s3 : Sn3 w3 w.heap.size (.int .u64 (i : Int)) (.int .u64 (t : Int)) (.slice ad l.length kk) := s2.below b3 (Nat.lt_succ_self _)
  refine hK.out _ _ s3 (fun hHeld2 => ?_)
  clear hK K hHeld
  have hHeld := hHeld2
  clear hHeld2
  simp only [Act.put, List.setIfInBounds_toArray]
  refine hand_to (i := 7) (d := 4) (v := v3) rfl rfl (by kernel_rfl) (by kernel_rfl) (by kernel_rfl) (fun _ _ _ h => h) (Or.inl ⟨by rfl, ?_⟩) hHeld ?_
  · (intro w' hSw; go_simp)
  simp only [Act.put]
  refine wpAnyH_done (by kernel_rfl) ?_ _
  have HO3 := hide o3
  have HC3 := hide c3
  clear o3 c3 o1 o2 o12 b1 b2 b3 c1 c2
  obtain ⟨hx0, hx1, hx2⟩ := s3
  go_wp2_with (first
    | (at_builtin; refine wpList_append_rb rfl (.tmp 17) (.tmp 19) rfl w.heap.size _ _ _ rfl (own_weaker (Nat.le_succ _) (unhide HO3)) _ _ l rfl (rb_later (unhide HV) (unhide HC3) (Nat.le_refl _)) (by simp; omega) (by omega) (unhide HC3).size ?_; intro v4 w4 o4 _ b4; have c4 := (unhide HC3).trans b4; have HO4 := hide o4; clear o4)
    | (go_at_call 46; refine (frame_own _ (snB i t l) _ (own_rb3 (unhide HO4) (by rw [snB, List.length_append (bs := l)]) (by rw [snB, byteCells_append (uvarint i ++ uvarint t) l]) (by simp [snB]; omega)) (by simp [snB]; omega) ((unhide HT).below c4 (unhide HT).lt)).mono ?_; rintro e w5 ⟨v5, rfl, o5, b5⟩; have c5 := below_trans0 c4 b5))
  go_ret2
  exact ⟨_, rfl, own_weaker c4.size o5, c5⟩
end Go.Proofs.YtpminalccnhkjaaGreatDoor
