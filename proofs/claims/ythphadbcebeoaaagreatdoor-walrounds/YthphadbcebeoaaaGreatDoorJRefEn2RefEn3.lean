/- Contract of the document's own writer of entries, what it writes. -/
import Derived.Test.YthphadbcebeoaaaGreatDoorJCrcMathFrameRef2Ref3DrawRefEnt
namespace Go.Proofs.YthphadbcebeoaaaGreatDoor
open Go.RowKit Go.Lib
attribute [local go_sem ↓] Go.wp_at_zero Go.wp_at_succ

/-- An entry's cells in block b. -/
def C5 (w : World) (b te : Nat) (k : Int) (c q : Nat) (t : ByteArray) : Prop :=
  w.cell? ⟨b, 0, none⟩ = some (.int .u64 te) ∧ w.cell? ⟨b, 1, none⟩ = some (.int .i64 k) ∧ w.cell? ⟨b, 2, none⟩ = some (.int .u64 c) ∧ w.cell? ⟨b, 3, none⟩ = some (.int .u64 q) ∧ w.cell? ⟨b, 4, none⟩ = some (.string t)
abbrev oneE (w : World) (te : Nat) (k : Int) (c q : Nat) (t : ByteArray) : World := w.alloc (.cells #[.int .u64 te, .int .i64 k, .int .u64 c, .int .u64 q, .string t] 37)
theorem C5.new (w : World) (te : Nat) (k : Int) (c q : Nat) (t : ByteArray) : C5 (oneE w te k c q t) w.heap.size te k c q t := by
  unfold C5 oneE; simp
theorem C5.below {w w' : World} {b B te : Nat} {k : Int} {c q : Nat} {t : ByteArray} (h : C5 w b te k c q t) (hb : Below B w w') (hB : b < B) : C5 w' b te k c q t :=
  ⟨(hb.cell (p := ⟨b, 0, none⟩) hB).trans h.1, (hb.cell (p := ⟨b, 1, none⟩) hB).trans h.2.1, (hb.cell (p := ⟨b, 2, none⟩) hB).trans h.2.2.1, (hb.cell (p := ⟨b, 3, none⟩) hB).trans h.2.2.2.1, (hb.cell (p := ⟨b, 4, none⟩) hB).trans h.2.2.2.2⟩
theorem alloc_le {B : Nat} {w : World} (o : Obj) (h : B ≤ w.heap.size) : B ≤ (w.alloc o).heap.size := by simp; omega
theorem below_alloc {B : Nat} {w : World} (o : Obj) (h : B ≤ w.heap.size) : Below B w (w.alloc o) := (Below.refl _ _).alloc h _

/-- What stands behind the term's bytes. -/
def EP (w W : World) (te : Nat) (k : Int) (c q : Nat) (t : ByteArray) (kn : Nat) (v' : Value) (w' : World) : Prop :=
  w'.ownsRow (w.heap.size + 1) 5 1 v' (uvarint te).length (byteCells (uvarint te)) ∧ C5 w' w.heap.size te k c q t ∧ Below w.heap.size w w' ∧ w.heap.size + 1 ≤ w'.heap.size ∧
    (W = ((oneE w te k c q t).alloc (.cells #[.int .u8 (kn : Int)] 5)).drew → RBp w' (w.heap.size + 2) (.slice (some ⟨w.heap.size + 1, 0, none⟩) 1 1) (uvarint kn))
theorem ref_term (w : World) (te : Nat) (k : Int) (c q : Nat) (t : ByteArray) (kn : Nat) (hte : te < 18446744073709551616) (hkn : kn < 128) (W : World)
    (hW : W = (oneE w te k c q t).drew ∨ W = ((oneE w te k c q t).alloc (.cells #[.int .u8 (kn : Int)] 5)).drew) :
    Calls Tryz.prog 64 #[.int .u64 te] W fun e w' => ∃ v', e = .returned v' ∧ EP w W te k c q t kn v' w' := by
  have hb0 : Below w.heap.size w (oneE w te k c q t).drew := (below_alloc _ (Nat.le_refl _)).drew
  have hs0 : (oneE w te k c q t).heap.size = w.heap.size + 1 := by simp
  refine (refPutUint_any te W hte).mono ?_
  rintro e w' ⟨v', rfl, ho, hb⟩
  refine ⟨v', rfl, ?_⟩
  have hz := hb.size
  rcases hW with rfl | rfl
  · rw [World.size_drew] at hz ho hb
    have hC : C5 (oneE w te k c q t).drew w.heap.size te k c q t := C5.new w te k c q t
    refine ⟨own_weaker (by omega) ho, hC.below hb (by omega), hb0.trans (hb.mono (by omega)), by omega, ?_⟩
    intro h
    have h2 := congrArg (fun x : World => x.heap.size) h
    simp at h2
  · have hs1 : ((oneE w te k c q t).alloc (.cells #[.int .u8 (kn : Int)] 5)).heap.size = w.heap.size + 2 := by simp
    rw [World.size_drew] at hz ho hb
    have hb1 : Below (w.heap.size + 1) (oneE w te k c q t).drew ((oneE w te k c q t).alloc (.cells #[.int .u8 (kn : Int)] 5)).drew := below_alloc _ (by simp)
    have hC : C5 (oneE w te k c q t).drew w.heap.size te k c q t := C5.new w te k c q t
    refine ⟨own_weaker (by omega) ho, (hC.below hb1 (by omega)).below hb (by omega), (hb0.trans (hb1.mono (by omega))).trans (hb.mono (by omega)), by omega, fun _ => ?_⟩
    have r0 : RBp ((oneE w te k c q t).alloc (.cells #[.int .u8 (kn : Int)] 5)).drew ((oneE w te k c q t).heap.size + 1) (.slice (some ⟨(oneE w te k c q t).heap.size, 0, none⟩) 1 1) (uvarint kn) := rb_one (oneE w te k c q t) kn hkn
    have r := rb_later r0 (hb.mono (by omega)) (Nat.le_refl _)
    rw [hs0] at r
    exact r
theorem uvarint_gt (x : Nat) : 0 < (uvarint x).length := uvarint_pos x

set_option maxHeartbeats 3200000 in
set_option maxRecDepth 100000 in
theorem refPutEntry_none (te : Nat) (w : World) (t : ByteArray) (hte : te < 18446744073709551616) (hE : t.toList.isEmpty = true) (hz : t.size = 0) :
    Calls Tryz.prog 41 #[.agg #[.int .u64 te, .int .i64 0, .int .u64 0, .int .u64 0, .string t]] w fun e w' => RefPost (some (uvarint te ++ uvarint 0)) w e w' := by
  have HP := hide (ref_term w te 0 0 0 t 0 hte (by decide))
  have lU : (uvarint te).length ≤ 1000000000 := Nat.le_trans (uvarint_length64 hte) (by decide)
  have l0 : (uvarint 0).length ≤ 1000000000 := Nat.le_trans (uvarint_length64 (by decide)) (by decide)
  have h128 : 0 < 128 := by decide
  go_enter Tryz.func41, Tryz.ntmps41
  go_wp2
  go_region_held3 (fun w' => w'.cell? ⟨w.heap.size, 0, none⟩ = some (.int .u64 te) ∧ w'.cell? ⟨w.heap.size, 1, none⟩ = some (.int .i64 0)) (go_keep)
    (first
      | (go_at_call 64; refine (unhide HP _ ?_).mono ?_; (first | exact Or.inl rfl | exact Or.inr rfl); rintro e wp ⟨vp, rfl, ho, hC, hb, hzp, hr⟩; obtain ⟨s0, s1, _, _, _⟩ := (show C5 wp _ _ _ _ _ _ from hC))
      | (refine step_append_rb (by rfl) _ _ (by rfl) (w.heap.size + 1) vp (uvarint te) (by rfl) (ho.alloc _) _ _ (uvarint 0) (by rfl) (rb_one wp 0 h128) (uvarint_gt _) lU l0 (alloc_le _ hzp) ?_; intro va wa hoa hba; obtain ⟨t0, t1, _, _, _⟩ := (show C5 wa _ _ _ _ _ _ from (C5.below (C5.below hC (below_alloc _ hzp) (Nat.lt_succ_self _)) hba (Nat.lt_succ_self _))); have ca := (hb.trans ((below_alloc _ hzp).mono (Nat.le_succ _))).trans (hba.mono (Nat.le_succ _)))
      | (refine step_append_rb (by rfl) _ _ (by rfl) (w.heap.size + 1) vp (uvarint te) (by rfl) ho _ _ (uvarint 0) (by rfl) (hr rfl) (uvarint_gt _) lU l0 hzp ?_; intro va wa hoa hba; obtain ⟨t0, t1, _, _, _⟩ := (show C5 wa _ _ _ _ _ _ from (C5.below hC hba (Nat.lt_succ_self _))); have ca := hb.trans (hba.mono (Nat.le_succ _))))
  all_goals (have HO := hide hoa; have HC := hide ca; clear hoa ho ca hr hb; go_wp2; obtain ⟨a, kk, hv⟩ := own_slice (unhide HO); subst hv; go_ret2; exact ⟨a, kk, rfl, rb_own (unhide HO) (by rw [List.length_append]; omega), unhide HC⟩)
end Go.Proofs.YthphadbcebeoaaaGreatDoor
/- Contract of the document's own writer of entries, a command; the whole. -/
namespace Go.Proofs.YthphadbcebeoaaaGreatDoor
open Go.RowKit Go.Lib
attribute [local go_sem ↓] Go.wp_at_zero Go.wp_at_succ

/-- What stands while a command is written: its bytes so far. -/
def EQ (w : World) (te : Nat) (k : Int) (c q : Nat) (t : ByteArray) (l : List UInt8) (v : Value) (W : World) : Prop :=
  W.ownsRow (w.heap.size + 1) 5 1 v l.length (byteCells l) ∧ C5 W w.heap.size te k c q t ∧ Below w.heap.size w W ∧ w.heap.size + 1 ≤ W.heap.size
theorem EQ.later {w W w' : World} {te : Nat} {k : Int} {c q : Nat} {t : ByteArray} {l : List UInt8} {v : Value} (h : EQ w te k c q t l v W) (hb : Below W.heap.size W w') : EQ w te k c q t l v w' :=
  ⟨own_later h.1 hb, h.2.1.below hb h.2.2.2, h.2.2.1.trans (hb.mono (by have := h.2.2.2; omega)), Nat.le_trans h.2.2.2 hb.size⟩
theorem EQ.drew {w W : World} {te : Nat} {k : Int} {c q : Nat} {t : ByteArray} {l : List UInt8} {v : Value} (h : EQ w te k c q t l v W) : EQ w te k c q t l v W.drew := h.later (Below.refl _ _).drew
theorem ref_num {w W : World} {te : Nat} {k : Int} {c q : Nat} {t : ByteArray} {l : List UInt8} {v : Value} (x : Nat) (hx : x < 18446744073709551616) (h : EQ w te k c q t l v W) :
    Calls Tryz.prog 64 #[.int .u64 x] W fun e w' => ∃ v', e = .returned v' ∧ EQ w te k c q t l v w' ∧ RBp w' w'.heap.size v' (uvarint x) := by
  refine (refPutUint_any x W hx).mono ?_
  rintro e w' ⟨v', rfl, ho, hb⟩
  exact ⟨v', rfl, h.later hb, rb_own ho (Nat.le_trans (uvarint_length64 hx) (by decide))⟩
theorem ref_txt {w W : World} {te : Nat} {k : Int} {c q : Nat} {t : ByteArray} {l : List UInt8} {v : Value} (x : ByteArray) (hx : x.size ≤ 2000) (h : EQ w te k c q t l v W) :
    Calls Tryz.prog 65 #[.string x] W fun e w' => ∃ v', e = .returned v' ∧ EQ w te k c q t l v w' ∧ RBp w' w'.heap.size v' (textBytes x) := by
  refine (refPutText_any x W (by omega)).mono ?_
  rintro e w' ⟨v', rfl, ho, hb⟩
  exact ⟨v', rfl, h.later hb, rb_own ho (by rw [textBytes_length]; have := uvarint_length64 (x := x.size) (by omega); omega)⟩
theorem step_append_eq {w W : World} {te : Nat} {k : Int} {c q : Nat} {t : ByteArray} {l : List UInt8} {v : Value} {ops : Array Oper} {o : Oper} {a : Act} {K : Act → World → Prop} {Q : Exit → Act → World → Prop} {E : Prop} (hgd : o.guard = none) (s x : Operand)
    (ho : o.op = .call { callee := .builtin .append, args := #[s, x], argTypes := #[22, 22] })
    (hs : a.eval s = v) (h0 : EQ w te k c q t l v W)
    (B : Nat) (xv : Value) (lx : List UInt8) (hx : a.eval x = xv) (hrb : RBp W B xv lx) (hne : 0 < lx.length) (hn : l.length ≤ 1000000000) (hl : lx.length ≤ 1000000000)
    (h : ∀ v' w', EQ w te k c q t (l ++ lx) v' w' → K (a.put o.dst v') w') :
    if Region.wanted o (yielded ops a.tmps) = true then Oper.wp Tryz.prog o a W K Q else E :=
  step_append_rb hgd s x ho (w.heap.size + 1) v l hs h0.1 B xv lx hx hrb hne hn hl h0.2.2.2 fun v' w' h1 h2 =>
    h v' w' ⟨h1, h0.2.1.below h2 (Nat.lt_succ_self _), h0.2.2.1.trans (h2.mono (Nat.le_succ _)), Nat.le_trans h0.2.2.2 h2.size⟩
theorem textBytes_gt (t : ByteArray) : 0 < (textBytes t).length := by rw [textBytes_length]; have := uvarint_pos t.size; omega

set_option maxHeartbeats 6400000 in
set_option maxRecDepth 100000 in
theorem refPutEntry_cmd (te c q : Nat) (t : ByteArray) (w : World) (hte : te < 18446744073709551616) (hc : c < 18446744073709551616) (hq : q < 18446744073709551616) (ht : t.size ≤ 2000) :
    Calls Tryz.prog 41 #[.agg #[.int .u64 te, .int .i64 1, .int .u64 c, .int .u64 q, .string t]] w fun e w' => RefPost (some (uvarint te ++ uvarint 1 ++ uvarint c ++ uvarint q ++ textBytes t)) w e w' := by
  have HP := hide (ref_term w te 1 c q t 1 hte (by decide))
  have lU : (uvarint te).length ≤ 10 := uvarint_length64 hte
  have l1 : (uvarint 1).length ≤ 10 := uvarint_length64 (by decide)
  have lc : (uvarint c).length ≤ 10 := uvarint_length64 hc
  have lq : (uvarint q).length ≤ 10 := uvarint_length64 hq
  have lt : (textBytes t).length ≤ 10 + 2000 := by rw [textBytes_length]; have := uvarint_length64 (x := t.size) (by omega); omega
  have m0 : (uvarint te).length ≤ 1000000000 := by omega
  have m1 : (uvarint 1).length ≤ 1000000000 := by omega
  have m2 : (uvarint te ++ uvarint 1).length ≤ 1000000000 := by rw [List.length_append]; omega
  have m3 : (uvarint te ++ uvarint 1 ++ uvarint c).length ≤ 1000000000 := by rw [List.length_append, List.length_append]; omega
  have m4 : (uvarint te ++ uvarint 1 ++ uvarint c ++ uvarint q).length ≤ 1000000000 := by rw [List.length_append, List.length_append, List.length_append]; omega
  have m5 : (uvarint c).length ≤ 1000000000 := by omega
  have m6 : (uvarint q).length ≤ 1000000000 := by omega
  have m7 : (textBytes t).length ≤ 1000000000 := by omega
  have m8 : (uvarint te ++ uvarint 1 ++ uvarint c ++ uvarint q ++ textBytes t).length ≤ 1000000000000 := by rw [List.length_append, List.length_append, List.length_append, List.length_append]; omega
  clear lU l1 lc lq lt
  have h128 : 1 < 128 := by decide
  have ht' : ¬ ((2000 : Int) < (t.size : Int)) := by omega
  have HC := hide (fun (v : Value) (W : World) (h : EQ w te 1 c q t (uvarint te ++ uvarint 1) v W) => ref_num c hc h)
  have HQ := hide (fun (v : Value) (W : World) (h : EQ w te 1 c q t (uvarint te ++ uvarint 1 ++ uvarint c) v W) => ref_num q hq h)
  have HT := hide (fun (v : Value) (W : World) (h : EQ w te 1 c q t (uvarint te ++ uvarint 1 ++ uvarint c ++ uvarint q) v W) => ref_txt t ht h)
  clear hte hc hq ht
  go_enter Tryz.func41, Tryz.ntmps41
  go_wp2
  go_region_held3 (fun w' => w'.cell? ⟨w.heap.size, 0, none⟩ = some (.int .u64 te) ∧ w'.cell? ⟨w.heap.size, 1, none⟩ = some (.int .i64 1)) (go_keep)
    (first
      | (go_at_call 64; refine (unhide HP _ ?_).mono ?_; (first | exact Or.inl rfl | exact Or.inr rfl); rintro e wp ⟨vp, rfl, ho, hC, hb, hzp, hr⟩; obtain ⟨s0, s1, _, _, _⟩ := (show C5 wp _ _ _ _ _ _ from hC))
      | (refine step_append_rb (by rfl) _ _ (by rfl) (w.heap.size + 1) vp (uvarint te) (by rfl) (ho.alloc _) _ _ (uvarint 1) (by rfl) (rb_one wp 1 h128) (uvarint_gt _) m0 m1 (alloc_le _ hzp) ?_; intro va wa hoa hba; have hq0 : EQ w te 1 c q t (uvarint te ++ uvarint 1) va wa := ⟨hoa, C5.below (C5.below hC (below_alloc _ hzp) (Nat.lt_succ_self _)) hba (Nat.lt_succ_self _), (hb.trans ((below_alloc _ hzp).mono (Nat.le_succ _))).trans (hba.mono (Nat.le_succ _)), Nat.le_trans (alloc_le _ hzp) hba.size⟩; obtain ⟨t0, t1, t2, t3, t4⟩ := (show C5 wa _ _ _ _ _ _ from hq0.2.1))
      | (refine step_append_rb (by rfl) _ _ (by rfl) (w.heap.size + 1) vp (uvarint te) (by rfl) ho _ _ (uvarint 1) (by rfl) (hr rfl) (uvarint_gt _) m0 m1 hzp ?_; intro va wa hoa hba; have hq0 : EQ w te 1 c q t (uvarint te ++ uvarint 1) va wa := ⟨hoa, C5.below hC hba (Nat.lt_succ_self _), hb.trans (hba.mono (Nat.le_succ _)), Nat.le_trans hzp hba.size⟩; obtain ⟨t0, t1, t2, t3, t4⟩ := (show C5 wa _ _ _ _ _ _ from hq0.2.1)))
  all_goals (clear hoa ho hr hb hba hC hzp HP; go_wp2)
  all_goals (go_region_held3 (fun w' => w'.cell? ⟨w.heap.size, 2, none⟩ = some (.int .u64 c) ∧ w'.cell? ⟨w.heap.size, 3, none⟩ = some (.int .u64 q) ∧ w'.cell? ⟨w.heap.size, 4, none⟩ = some (.string t)) (go_keep)
    (first
      | (go_at_call 64; refine (unhide HC _ _ hq0.drew).mono ?_; clear hq0; rintro e w5 ⟨v5, rfl, hq1, r1⟩; obtain ⟨_, _, x2, x3, x4⟩ := (show C5 w5 _ _ _ _ _ _ from hq1.2.1))
      | (go_at_call 64; refine (unhide HQ _ _ hq2).mono ?_; clear hq2; rintro e w7 ⟨v7, rfl, hq3, r3⟩; obtain ⟨_, _, z2, z3, z4⟩ := (show C5 w7 _ _ _ _ _ _ from hq3.2.1))
      | (go_at_call 65; refine (unhide HT _ _ hq4).mono ?_; clear hq4; rintro e w9 ⟨v9, rfl, hq5, r5⟩; obtain ⟨_, _, a2, a3, a4⟩ := (show C5 w9 _ _ _ _ _ _ from hq5.2.1))
      | (refine step_append_eq (by rfl) _ _ (by rfl) (by rfl) hq1 _ _ (uvarint c) (by rfl) r1 (uvarint_gt _) m2 m5 ?_; intro v6 w6 hq2; clear hq1; obtain ⟨_, _, y2, y3, y4⟩ := (show C5 w6 _ _ _ _ _ _ from hq2.2.1))
      | (refine step_append_eq (by rfl) _ _ (by rfl) (by rfl) hq3 _ _ (uvarint q) (by rfl) r3 (uvarint_gt _) m3 m6 ?_; intro v8 w8 hq4; clear hq3; obtain ⟨_, _, b2, b3, b4⟩ := (show C5 w8 _ _ _ _ _ _ from hq4.2.1))
      | (refine step_append_eq (by rfl) _ _ (by rfl) (by rfl) hq5 _ _ (textBytes t) (by rfl) r5 (textBytes_gt _) m4 m7 ?_; intro v10 w10 hq6; clear hq5; obtain ⟨_, _, c2, c3, c4⟩ := (show C5 w10 _ _ _ _ _ _ from hq6.2.1))))
  all_goals (have HO := hide hq6; clear hq6; go_wp2; obtain ⟨a, kk, hv⟩ := own_slice (unhide HO).1; subst hv; go_ret2; exact ⟨a, kk, rfl, rb_own (unhide HO).1 m8, (unhide HO).2.2.1⟩)
end Go.Proofs.YthphadbcebeoaaaGreatDoor
