/- Contract of the document's own writer of entries, what it writes. -/
import Derived.Test.YthphadbcebeoaaaGreatDoorJCrcMathFrameRef2Ref3DrawRefEnt
import Derived.Test.YthphadbcebeoaaaGreatDoorJEntryRdMathRdMath2
import Derived.Laws.ResultCell
import Derived.Test.YthphadbcebeoaaaGreatDoorJRef1IntTextLawNumbersLaidBytesIn
import Derived.Deep.Strs
namespace Go.Proofs.YthphadbcebeoaaaGreatDoor
open Go.RowKit Go.Lib
attribute [local go_sem ↓] Go.wp_at_zero Go.wp_at_succ

/-- An entry's cells in block b. -/
def C5 (w : World) (b te : Nat) (k : Int) (c q : Nat) (t : ByteArray) : Prop :=
  w.cell? ⟨b, 0, none⟩ = some (.int .u64 te) ∧ w.cell? ⟨b, 1, none⟩ = some (.int .i64 k) ∧ w.cell? ⟨b, 2, none⟩ = some (.int .u64 c) ∧ w.cell? ⟨b, 3, none⟩ = some (.int .u64 q) ∧ w.cell? ⟨b, 4, none⟩ = some (.string t)
abbrev oneE (w : World) (te : Nat) (k : Int) (c q : Nat) (t : ByteArray) : World := w.alloc (.cells #[.int .u64 te, .int .i64 k, .int .u64 c, .int .u64 q, .string t] 37)
theorem C5.new (w : World) (te : Nat) (k : Int) (c q : Nat) (t : ByteArray) : C5 (oneE w te k c q t) w.heap.size te k c q t := by
  unfold C5 oneE; simp
theorem C5.below {w w' : World} {b B te : Nat} {k : Int} {c q : Nat} {t : ByteArray} (h : C5 w b te k c q t) (hb : Below B w w') (hB : b < B) : C5 w' b te k c q t :=
  ⟨(hb.cell (p := ⟨b, 0, none⟩) hB).trans h.1, (hb.cell (p := ⟨b, 1, none⟩) hB).trans h.2.1, (hb.cell (p := ⟨b, 2, none⟩) hB).trans h.2.2.1, (hb.cell (p := ⟨b, 3, none⟩) hB).trans h.2.2.2.1, (hb.cell (p := ⟨b, 4, none⟩) hB).trans h.2.2.2.2⟩
theorem alloc_le {B : Nat} {w : World} (o : Obj) (h : B ≤ w.heap.size) : B ≤ (w.alloc o).heap.size := by simp; omega
theorem below_alloc {B : Nat} {w : World} (o : Obj) (h : B ≤ w.heap.size) : Below B w (w.alloc o) := (Below.refl _ _).alloc h _

/-- What stands behind the term's bytes. -/
def EP (w W : World) (te : Nat) (k : Int) (c q : Nat) (t : ByteArray) (kn : Nat) (v' : Value) (w' : World) : Prop :=
  w'.ownsRow (w.heap.size + 1) 5 1 v' (uvarint te).length (byteCells (uvarint te)) ∧ C5 w' w.heap.size te k c q t ∧ Below w.heap.size w w' ∧ w.heap.size + 1 ≤ w'.heap.size ∧
    (W = ((oneE w te k c q t).alloc (.cells #[.int .u8 (kn : Int)] 5)).drew → RBp w' (w.heap.size + 2) (.slice (some ⟨w.heap.size + 1, 0, none⟩) 1 1) (uvarint kn))
theorem ref_term (w : World) (te : Nat) (k : Int) (c q : Nat) (t : ByteArray) (kn : Nat) (hte : te < 18446744073709551616) (hkn : kn < 128) (W : World)
    (hW : W = (oneE w te k c q t).drew ∨ W = ((oneE w te k c q t).alloc (.cells #[.int .u8 (kn : Int)] 5)).drew) :
    Calls Tryz.prog 64 #[.int .u64 te] W fun e w' => ∃ v', e = .returned v' ∧ EP w W te k c q t kn v' w' := by
  have hb0 : Below w.heap.size w (oneE w te k c q t).drew := (below_alloc _ (Nat.le_refl _)).drew
  have hs0 : (oneE w te k c q t).heap.size = w.heap.size + 1 := by simp
  refine (refPutUint_any te W hte).mono ?_
  rintro e w' ⟨v', rfl, ho, hb⟩
  refine ⟨v', rfl, ?_⟩
  have hz := hb.size
  rcases hW with rfl | rfl
  · rw [World.size_drew] at hz ho hb
    have hC : C5 (oneE w te k c q t).drew w.heap.size te k c q t := C5.new w te k c q t
    refine ⟨own_weaker (by omega) ho, hC.below hb (by omega), hb0.trans (hb.mono (by omega)), by omega, ?_⟩
    intro h
    have h2 := congrArg (fun x : World => x.heap.size) h
    simp at h2
  · have hs1 : ((oneE w te k c q t).alloc (.cells #[.int .u8 (kn : Int)] 5)).heap.size = w.heap.size + 2 := by simp
    rw [World.size_drew] at hz ho hb
    have hb1 : Below (w.heap.size + 1) (oneE w te k c q t).drew ((oneE w te k c q t).alloc (.cells #[.int .u8 (kn : Int)] 5)).drew := below_alloc _ (by simp)
    have hC : C5 (oneE w te k c q t).drew w.heap.size te k c q t := C5.new w te k c q t
    refine ⟨own_weaker (by omega) ho, (hC.below hb1 (by omega)).below hb (by omega), (hb0.trans (hb1.mono (by omega))).trans (hb.mono (by omega)), by omega, fun _ => ?_⟩
    have r0 : RBp ((oneE w te k c q t).alloc (.cells #[.int .u8 (kn : Int)] 5)).drew ((oneE w te k c q t).heap.size + 1) (.slice (some ⟨(oneE w te k c q t).heap.size, 0, none⟩) 1 1) (uvarint kn) := rb_one (oneE w te k c q t) kn hkn
    have r := rb_later r0 (hb.mono (by omega)) (Nat.le_refl _)
    rw [hs0] at r
    exact r
theorem uvarint_gt (x : Nat) : 0 < (uvarint x).length := uvarint_pos x

set_option maxHeartbeats 3200000 in
set_option maxRecDepth 100000 in
theorem refPutEntry_none (te : Nat) (w : World) (t : ByteArray) (hte : te < 18446744073709551616) (hE : t.toList.isEmpty = true) (hz : t.size = 0) :
    Calls Tryz.prog 41 #[.agg #[.int .u64 te, .int .i64 0, .int .u64 0, .int .u64 0, .string t]] w fun e w' => RefPost (some (uvarint te ++ uvarint 0)) w e w' := by
  have HP := hide (ref_term w te 0 0 0 t 0 hte (by decide))
  have lU : (uvarint te).length ≤ 1000000000 := Nat.le_trans (uvarint_length64 hte) (by decide)
  have l0 : (uvarint 0).length ≤ 1000000000 := Nat.le_trans (uvarint_length64 (by decide)) (by decide)
  have h128 : 0 < 128 := by decide
  go_enter Tryz.func41, Tryz.ntmps41
  go_wp2
  go_region_held3 (fun w' => w'.cell? ⟨w.heap.size, 0, none⟩ = some (.int .u64 te) ∧ w'.cell? ⟨w.heap.size, 1, none⟩ = some (.int .i64 0)) (go_keep)
    (first
      | (go_at_call 64; refine (unhide HP _ ?_).mono ?_; (first | exact Or.inl rfl | exact Or.inr rfl); rintro e wp ⟨vp, rfl, ho, hC, hb, hzp, hr⟩; obtain ⟨s0, s1, _, _, _⟩ := (show C5 wp _ _ _ _ _ _ from hC))
      | (refine step_append_rb (by rfl) _ _ (by rfl) (w.heap.size + 1) vp (uvarint te) (by rfl) (ho.alloc _) _ _ (uvarint 0) (by rfl) (rb_one wp 0 h128) (uvarint_gt _) lU l0 (alloc_le _ hzp) ?_; intro va wa hoa hba; obtain ⟨t0, t1, _, _, _⟩ := (show C5 wa _ _ _ _ _ _ from (C5.below (C5.below hC (below_alloc _ hzp) (Nat.lt_succ_self _)) hba (Nat.lt_succ_self _))); have ca := (hb.trans ((below_alloc _ hzp).mono (Nat.le_succ _))).trans (hba.mono (Nat.le_succ _)))
      | (refine step_append_rb (by rfl) _ _ (by rfl) (w.heap.size + 1) vp (uvarint te) (by rfl) ho _ _ (uvarint 0) (by rfl) (hr rfl) (uvarint_gt _) lU l0 hzp ?_; intro va wa hoa hba; obtain ⟨t0, t1, _, _, _⟩ := (show C5 wa _ _ _ _ _ _ from (C5.below hC hba (Nat.lt_succ_self _))); have ca := hb.trans (hba.mono (Nat.le_succ _))))
  all_goals (have HO := hide hoa; have HC := hide ca; clear hoa ho ca hr hb; go_wp2; obtain ⟨a, kk, hv⟩ := own_slice (unhide HO); subst hv; go_ret2; exact ⟨a, kk, rfl, rb_own (unhide HO) (by rw [List.length_append]; omega), unhide HC⟩)
end Go.Proofs.YthphadbcebeoaaaGreatDoor
/- Contract of the document's own writer of entries, a command; the whole. -/
namespace Go.Proofs.YthphadbcebeoaaaGreatDoor
open Go.RowKit Go.Lib
attribute [local go_sem ↓] Go.wp_at_zero Go.wp_at_succ

/-- What stands while a command is written: its bytes so far. -/
def EQ (w : World) (te : Nat) (k : Int) (c q : Nat) (t : ByteArray) (l : List UInt8) (v : Value) (W : World) : Prop :=
  W.ownsRow (w.heap.size + 1) 5 1 v l.length (byteCells l) ∧ C5 W w.heap.size te k c q t ∧ Below w.heap.size w W ∧ w.heap.size + 1 ≤ W.heap.size
theorem EQ.later {w W w' : World} {te : Nat} {k : Int} {c q : Nat} {t : ByteArray} {l : List UInt8} {v : Value} (h : EQ w te k c q t l v W) (hb : Below W.heap.size W w') : EQ w te k c q t l v w' :=
  ⟨own_later h.1 hb, h.2.1.below hb h.2.2.2, h.2.2.1.trans (hb.mono (by have := h.2.2.2; omega)), Nat.le_trans h.2.2.2 hb.size⟩
theorem EQ.drew {w W : World} {te : Nat} {k : Int} {c q : Nat} {t : ByteArray} {l : List UInt8} {v : Value} (h : EQ w te k c q t l v W) : EQ w te k c q t l v W.drew := h.later (Below.refl _ _).drew
theorem ref_num {w W : World} {te : Nat} {k : Int} {c q : Nat} {t : ByteArray} {l : List UInt8} {v : Value} (x : Nat) (hx : x < 18446744073709551616) (h : EQ w te k c q t l v W) :
    Calls Tryz.prog 64 #[.int .u64 x] W fun e w' => ∃ v', e = .returned v' ∧ EQ w te k c q t l v w' ∧ RBp w' w'.heap.size v' (uvarint x) := by
  refine (refPutUint_any x W hx).mono ?_
  rintro e w' ⟨v', rfl, ho, hb⟩
  exact ⟨v', rfl, h.later hb, rb_own ho (Nat.le_trans (uvarint_length64 hx) (by decide))⟩
theorem ref_txt {w W : World} {te : Nat} {k : Int} {c q : Nat} {t : ByteArray} {l : List UInt8} {v : Value} (x : ByteArray) (hx : x.size ≤ 2000) (h : EQ w te k c q t l v W) :
    Calls Tryz.prog 65 #[.string x] W fun e w' => ∃ v', e = .returned v' ∧ EQ w te k c q t l v w' ∧ RBp w' w'.heap.size v' (textBytes x) := by
  refine (refPutText_any x W (by omega)).mono ?_
  rintro e w' ⟨v', rfl, ho, hb⟩
  exact ⟨v', rfl, h.later hb, rb_own ho (by rw [textBytes_length]; have := uvarint_length64 (x := x.size) (by omega); omega)⟩
theorem step_append_eq {w W : World} {te : Nat} {k : Int} {c q : Nat} {t : ByteArray} {l : List UInt8} {v : Value} {ops : Array Oper} {o : Oper} {a : Act} {K : Act → World → Prop} {Q : Exit → Act → World → Prop} {E : Prop} (hgd : o.guard = none) (s x : Operand)
    (ho : o.op = .call { callee := .builtin .append, args := #[s, x], argTypes := #[22, 22] })
    (hs : a.eval s = v) (h0 : EQ w te k c q t l v W)
    (B : Nat) (xv : Value) (lx : List UInt8) (hx : a.eval x = xv) (hrb : RBp W B xv lx) (hne : 0 < lx.length) (hn : l.length ≤ 1000000000) (hl : lx.length ≤ 1000000000)
    (h : ∀ v' w', EQ w te k c q t (l ++ lx) v' w' → K (a.put o.dst v') w') :
    if Region.wanted o (yielded ops a.tmps) = true then Oper.wp Tryz.prog o a W K Q else E :=
  step_append_rb hgd s x ho (w.heap.size + 1) v l hs h0.1 B xv lx hx hrb hne hn hl h0.2.2.2 fun v' w' h1 h2 =>
    h v' w' ⟨h1, h0.2.1.below h2 (Nat.lt_succ_self _), h0.2.2.1.trans (h2.mono (Nat.le_succ _)), Nat.le_trans h0.2.2.2 h2.size⟩
theorem textBytes_gt (t : ByteArray) : 0 < (textBytes t).length := by rw [textBytes_length]; have := uvarint_pos t.size; omega

set_option maxHeartbeats 6400000 in
set_option maxRecDepth 100000 in
theorem refPutEntry_cmd (te c q : Nat) (t : ByteArray) (w : World) (hte : te < 18446744073709551616) (hc : c < 18446744073709551616) (hq : q < 18446744073709551616) (ht : t.size ≤ 2000) :
    Calls Tryz.prog 41 #[.agg #[.int .u64 te, .int .i64 1, .int .u64 c, .int .u64 q, .string t]] w fun e w' => RefPost (some (uvarint te ++ uvarint 1 ++ uvarint c ++ uvarint q ++ textBytes t)) w e w' := by
  have HP := hide (ref_term w te 1 c q t 1 hte (by decide))
  have lU : (uvarint te).length ≤ 10 := uvarint_length64 hte
  have l1 : (uvarint 1).length ≤ 10 := uvarint_length64 (by decide)
  have lc : (uvarint c).length ≤ 10 := uvarint_length64 hc
  have lq : (uvarint q).length ≤ 10 := uvarint_length64 hq
  have lt : (textBytes t).length ≤ 10 + 2000 := by rw [textBytes_length]; have := uvarint_length64 (x := t.size) (by omega); omega
  have m0 : (uvarint te).length ≤ 1000000000 := by omega
  have m1 : (uvarint 1).length ≤ 1000000000 := by omega
  have m2 : (uvarint te ++ uvarint 1).length ≤ 1000000000 := by rw [List.length_append]; omega
  have m3 : (uvarint te ++ uvarint 1 ++ uvarint c).length ≤ 1000000000 := by rw [List.length_append, List.length_append]; omega
  have m4 : (uvarint te ++ uvarint 1 ++ uvarint c ++ uvarint q).length ≤ 1000000000 := by rw [List.length_append, List.length_append, List.length_append]; omega
  have m5 : (uvarint c).length ≤ 1000000000 := by omega
  have m6 : (uvarint q).length ≤ 1000000000 := by omega
  have m7 : (textBytes t).length ≤ 1000000000 := by omega
  have m8 : (uvarint te ++ uvarint 1 ++ uvarint c ++ uvarint q ++ textBytes t).length ≤ 1000000000000 := by rw [List.length_append, List.length_append, List.length_append, List.length_append]; omega
  clear lU l1 lc lq lt
  have h128 : 1 < 128 := by decide
  have ht' : ¬ ((2000 : Int) < (t.size : Int)) := by omega
  have HC := hide (fun (v : Value) (W : World) (h : EQ w te 1 c q t (uvarint te ++ uvarint 1) v W) => ref_num c hc h)
  have HQ := hide (fun (v : Value) (W : World) (h : EQ w te 1 c q t (uvarint te ++ uvarint 1 ++ uvarint c) v W) => ref_num q hq h)
  have HT := hide (fun (v : Value) (W : World) (h : EQ w te 1 c q t (uvarint te ++ uvarint 1 ++ uvarint c ++ uvarint q) v W) => ref_txt t ht h)
  clear hte hc hq ht
  go_enter Tryz.func41, Tryz.ntmps41
  go_wp2
  go_region_held3 (fun w' => w'.cell? ⟨w.heap.size, 0, none⟩ = some (.int .u64 te) ∧ w'.cell? ⟨w.heap.size, 1, none⟩ = some (.int .i64 1)) (go_keep)
    (first
      | (go_at_call 64; refine (unhide HP _ ?_).mono ?_; (first | exact Or.inl rfl | exact Or.inr rfl); rintro e wp ⟨vp, rfl, ho, hC, hb, hzp, hr⟩; obtain ⟨s0, s1, _, _, _⟩ := (show C5 wp _ _ _ _ _ _ from hC))
      | (refine step_append_rb (by rfl) _ _ (by rfl) (w.heap.size + 1) vp (uvarint te) (by rfl) (ho.alloc _) _ _ (uvarint 1) (by rfl) (rb_one wp 1 h128) (uvarint_gt _) m0 m1 (alloc_le _ hzp) ?_; intro va wa hoa hba; have hq0 : EQ w te 1 c q t (uvarint te ++ uvarint 1) va wa := ⟨hoa, C5.below (C5.below hC (below_alloc _ hzp) (Nat.lt_succ_self _)) hba (Nat.lt_succ_self _), (hb.trans ((below_alloc _ hzp).mono (Nat.le_succ _))).trans (hba.mono (Nat.le_succ _)), Nat.le_trans (alloc_le _ hzp) hba.size⟩; obtain ⟨t0, t1, t2, t3, t4⟩ := (show C5 wa _ _ _ _ _ _ from hq0.2.1))
      | (refine step_append_rb (by rfl) _ _ (by rfl) (w.heap.size + 1) vp (uvarint te) (by rfl) ho _ _ (uvarint 1) (by rfl) (hr rfl) (uvarint_gt _) m0 m1 hzp ?_; intro va wa hoa hba; have hq0 : EQ w te 1 c q t (uvarint te ++ uvarint 1) va wa := ⟨hoa, C5.below hC hba (Nat.lt_succ_self _), hb.trans (hba.mono (Nat.le_succ _)), Nat.le_trans hzp hba.size⟩; obtain ⟨t0, t1, t2, t3, t4⟩ := (show C5 wa _ _ _ _ _ _ from hq0.2.1)))
  all_goals (clear hoa ho hr hb hba hC hzp HP; go_wp2)
  all_goals (go_region_held3 (fun w' => w'.cell? ⟨w.heap.size, 2, none⟩ = some (.int .u64 c) ∧ w'.cell? ⟨w.heap.size, 3, none⟩ = some (.int .u64 q) ∧ w'.cell? ⟨w.heap.size, 4, none⟩ = some (.string t)) (go_keep)
    (first
      | (go_at_call 64; refine (unhide HC _ _ hq0.drew).mono ?_; clear hq0; rintro e w5 ⟨v5, rfl, hq1, r1⟩; obtain ⟨_, _, x2, x3, x4⟩ := (show C5 w5 _ _ _ _ _ _ from hq1.2.1))
      | (go_at_call 64; refine (unhide HQ _ _ hq2).mono ?_; clear hq2; rintro e w7 ⟨v7, rfl, hq3, r3⟩; obtain ⟨_, _, z2, z3, z4⟩ := (show C5 w7 _ _ _ _ _ _ from hq3.2.1))
      | (go_at_call 65; refine (unhide HT _ _ hq4).mono ?_; clear hq4; rintro e w9 ⟨v9, rfl, hq5, r5⟩; obtain ⟨_, _, a2, a3, a4⟩ := (show C5 w9 _ _ _ _ _ _ from hq5.2.1))
      | (refine step_append_eq (by rfl) _ _ (by rfl) (by rfl) hq1 _ _ (uvarint c) (by rfl) r1 (uvarint_gt _) m2 m5 ?_; intro v6 w6 hq2; clear hq1; obtain ⟨_, _, y2, y3, y4⟩ := (show C5 w6 _ _ _ _ _ _ from hq2.2.1))
      | (refine step_append_eq (by rfl) _ _ (by rfl) (by rfl) hq3 _ _ (uvarint q) (by rfl) r3 (uvarint_gt _) m3 m6 ?_; intro v8 w8 hq4; clear hq3; obtain ⟨_, _, b2, b3, b4⟩ := (show C5 w8 _ _ _ _ _ _ from hq4.2.1))
      | (refine step_append_eq (by rfl) _ _ (by rfl) (by rfl) hq5 _ _ (textBytes t) (by rfl) r5 (textBytes_gt _) m4 m7 ?_; intro v10 w10 hq6; clear hq5; obtain ⟨_, _, c2, c3, c4⟩ := (show C5 w10 _ _ _ _ _ _ from hq6.2.1))))
  all_goals (have HO := hide hq6; clear hq6; go_wp2; obtain ⟨a, kk, hv⟩ := own_slice (unhide HO).1; subst hv; go_ret2; exact ⟨a, kk, rfl, rb_own (unhide HO).1 m8, (unhide HO).2.2.1⟩)
end Go.Proofs.YthphadbcebeoaaaGreatDoor
/- Both writers' posts in one form: bytes, and a class. -/
namespace Go.Proofs.YthphadbcebeoaaaGreatDoor
open Go.RowKit Go.Lib

/-- An error of this class; none: 0. -/
def EO (w : World) (er : Value) (c : Int) : Prop := (er = .nilIface ∧ c = 0) ∨ ∃ b pl, er = ev b ∧ ErrAt w b pl c
def clsOf (s : Option (List UInt8)) : Int := match s with | some _ => 0 | none => 20
theorem EO.later {w w' : World} {er : Value} {c : Int} (h : EO w er c) (hb : Below w.heap.size w w') : EO w' er c := by
  rcases h with h | ⟨b, pl, h1, h2⟩
  · exact .inl h
  · exact .inr ⟨b, pl, h1, h2.below hb h2.lt⟩
theorem class_eo (er : Value) (c : Int) (w : World) (hE : ET w) (h : EO w er c) :
    Calls Tryz.prog 22 #[er] w fun e w' => e = .returned (.int .i64 c) ∧ Below w.heap.size w w' := by
  rcases h with ⟨rfl, rfl⟩ | ⟨b, pl, rfl, h2⟩
  · exact (class_nil w).mono fun e w' ⟨h1, h2⟩ => ⟨h1, by rw [h2]; exact Below.refl _ _⟩
  · exact class_at b pl c w hE h2
/-- What a writer tells. -/
def WP (s : Option (List UInt8)) (w : World) (e : Ending) (w' : World) : Prop :=
  ∃ p er, e = .returned (.tuple #[p, er]) ∧ RBp w' w'.heap.size p (s.getD []) ∧ EO w' er (clsOf s) ∧ Below w.heap.size w w'
def WR (s : Option (List UInt8)) (w : World) (e : Ending) (w' : World) : Prop :=
  ∃ p, e = .returned (.tuple #[p, .int .i64 (clsOf s)]) ∧ RBp w' w'.heap.size p (s.getD []) ∧ Below w.heap.size w w'
theorem done_wp {s : Option (List UInt8)} {w w' : World} {e : Ending} (hs : ∀ l, s = some l → l.length ≤ 1000000000000) (h : DonePost s w.heap.size w e w') : WP s w e w' := by
  cases s with
  | some l =>
    obtain ⟨a, k, rfl, ho, hb⟩ := h
    exact ⟨_, _, rfl, rb_own ho (hs l rfl), .inl ⟨rfl, rfl⟩, hb⟩
  | none =>
    obtain ⟨b, pl, rfl, hB, he, hb⟩ := h
    exact ⟨_, _, rfl, ⟨Nat.zero_le _, .inl ⟨rfl, rfl⟩⟩, .inr ⟨b, pl, rfl, he⟩, hb⟩
theorem ref_wr {s : Option (List UInt8)} {w w' : World} {e : Ending} (h : RefPost s w e w') : WR s w e w' := by
  cases s with
  | some l =>
    obtain ⟨a, k, rfl, hr, hb⟩ := h
    exact ⟨_, rfl, hr, hb⟩
  | none =>
    obtain ⟨rfl, hb⟩ := h
    exact ⟨_, rfl, ⟨Nat.zero_le _, .inl ⟨rfl, rfl⟩⟩, hb⟩

/-- The bytes of a row, if it may be. -/
def rowBytes (gs : List GV) : Option (List UInt8) := putVals gs (putLen gs.length 64 (some []))
theorem rowBytes_len {gs : List GV} (hg : ∀ g ∈ gs, g.ok) : ∀ l, rowBytes gs = some l → l.length ≤ 1000000000000 := by
  intro l h
  unfold rowBytes at h
  by_cases h64 : gs.length ≤ 64
  · rw [putLen, if_pos (by omega)] at h
    have h1 := putVals_len hg l h
    have h2 := uvarint_length64 (x := gs.length) (by omega)
    simp at h1
    omega
  · rw [putVals_long (by omega)] at h; cases h
theorem RV.later {w w' : World} {B B' : Nat} {v : Value} {gs : List GV} (h : RV w B v gs) (hb : Below B w w') (hB : B ≤ B') : RV w' B' v gs := by
  obtain ⟨h1, h2, h3 | ⟨b, off, cap, hbB, rfl, hc⟩⟩ := h
  · exact ⟨h1, h2, .inl h3⟩
  · refine ⟨h1, h2, .inr ⟨b, off, cap, by omega, rfl, fun i g hg => ?_⟩⟩
    obtain ⟨c0, c1, c2⟩ := hc i g hg
    exact ⟨(hb.cell (p := ⟨b, off + i * 3, none⟩) hbB).trans c0, (hb.cell (p := ⟨b, off + i * 3 + 1, none⟩) hbB).trans c1, (hb.cell (p := ⟨b, off + i * 3 + 2, none⟩) hbB).trans c2⟩
/-- The bytes of an entry, if it may be. -/
def entBytes (g : GE) : Option (List UInt8) := putEnt g (some [])
theorem ge_bytes_len {g : GE} (hg : g.ok) (hm : g.may = true) : g.bytes.length ≤ 100000 := by
  obtain ⟨h1, h2, h3, h4⟩ := hg
  have h5 : g.sql.size ≤ 2000 := by simp [GE.may] at hm; exact hm.2
  have hk : g.kind = 0 ∨ g.kind = 1 := by
    simp [GE.may] at hm
    rcases hm.1 with h | h
    · exact .inl h.1.1.1
    · exact .inr h
  have e1 := uvarint_length64 h1
  have e2 := uvarint_length64 h2
  have e3 := uvarint_length64 h3
  have e4 := uvarint_length64 (x := g.sql.size) (by omega)
  have e5 := uvarint_length64 (x := g.kind.toNat) (by rcases hk with h | h <;> rw [h] <;> decide)
  unfold GE.bytes
  split
  · simp only [List.length_append, bytes_length]; omega
  · simp only [List.length_append, List.length_nil]; omega
theorem entBytes_len {g : GE} (hg : g.ok) : ∀ l, entBytes g = some l → l.length ≤ 1000000000000 := by
  intro l h
  unfold entBytes at h
  cases hm : g.may with
  | false => rw [putEnt_no hm] at h; cases h
  | true =>
    rw [putEnt_yes hm] at h
    injection h with h
    rw [← h]
    have := ge_bytes_len hg hm
    omega
theorem putEntry_wp (g : GE) (w : World) (hg : g.ok) : Calls Tryz.prog 79 #[.agg #[.int .u64 g.term, .int .i64 g.kind, .int .u64 g.client, .int .u64 g.seq, .string g.sql]] w fun e w' => WP (entBytes g) w e w' :=
  (putEntry_any g w hg).mono fun _ _ h => done_wp (entBytes_len hg) h
theorem refPutEntry_wr (g : GE) (w : World) (hg : g.ok) : Calls Tryz.prog 41 #[.agg #[.int .u64 g.term, .int .i64 g.kind, .int .u64 g.client, .int .u64 g.seq, .string g.sql]] w fun e w' => WR (entBytes g) w e w' := by
  cases hm : g.may with
  | false =>
    have e : entBytes g = none := putEnt_no hm
    rw [e]
    exact (refPutEntry_no g w hg hm).mono fun _ _ h => ref_wr h
  | true =>
    have e : entBytes g = some g.bytes := putEnt_yes hm
    rw [e]
    obtain ⟨te, k, c, q, t⟩ := g
    obtain ⟨h1, h2, h3, h4⟩ := hg
    dsimp only at *
    by_cases hk0 : k = 0
    · subst hk0
      simp [GE.may] at hm
      obtain ⟨⟨⟨rfl, rfl⟩, hE⟩, hs⟩ := hm
      have hz : t.size = 0 := by
        have : t.toList.isEmpty = true := by simp [hE]
        exact isEmpty_size t this
      have e2 : GE.bytes ⟨te, 0, 0, 0, t⟩ = uvarint te ++ uvarint 0 := by simp [GE.bytes]
      rw [e2]
      exact (refPutEntry_none te w t h1 (by simp [hE]) hz).mono fun _ _ h => ref_wr h
    · have hk1 : k = 1 := by
        have b0 : (k == 0) = false := by simp [hk0]
        simp [GE.may, b0] at hm; exact hm.1
      subst hk1
      have hs : t.size ≤ 2000 := by simp [GE.may] at hm; exact hm
      have e2 : GE.bytes ⟨te, 1, c, q, t⟩ = uvarint te ++ uvarint 1 ++ uvarint c ++ uvarint q ++ textBytes t := by simp [GE.bytes, textBytes]
      rw [e2]
      exact (refPutEntry_cmd te c q t w h1 h2 h3 hs).mono fun _ _ h => ref_wr h
end Go.Proofs.YthphadbcebeoaaaGreatDoor
/- The document's own readers of a number, a text, a value. -/
namespace Go.Proofs.YthphadbcebeoaaaGreatDoor
open Go.RowKit Go.Lib

/-- What it tells. -/
def UR (r : Nat × Nat × Nat × Nat) : Ending := .returned (.tuple #[.int .u64 r.1, .int .i64 r.2.1, .int .i64 r.2.2.1])
theorem ur_form {r : Nat × Nat × Nat × Nat} {c k : Nat} (h : r = (0, 0, c, k)) : (.returned (.tuple #[.int .u64 0, .int .i64 0, .int .i64 (c : Int)]) : Ending) = UR r := by
  subst h; rfl
theorem ur_done {r : Nat × Nat × Nat × Nat} {n : Int} {k a p : Nat} (h : r = (a, k + 1, 0, p)) (hn : n = (a : Int)) : (.returned (.tuple #[.int .u64 n, .int .i64 ((k : Int) + 1), .int .i64 0]) : Ending) = UR r := by
  subst h; subst hn; rfl

theorem unzig_two (n : Nat) (h : n % 2 = 1) : -((n / 2 : Nat) : Int) - 1 = unzig n := by
  unfold unzig; rw [if_neg (by omega)]
theorem unzig_even (n : Nat) (h : n % 2 = 0) : ((n / 2 : Nat) : Int) = unzig n := by
  unfold unzig; rw [if_pos h]

end Go.Proofs.YthphadbcebeoaaaGreatDoor
namespace Go.Proofs.YthphadbcebeoaaaGreatDoor
open Go.RowKit Go.Lib

end Go.Proofs.YthphadbcebeoaaaGreatDoor
namespace Go.Proofs.YthphadbcebeoaaaGreatDoor
open Go.RowKit Go.Lib

theorem results_cell3 {fn : Func} {p u x : Tmp} {ty : TypeId} (h : fn.results = #[.cell p ty, .tmp u, .tmp x]) (tmps : Array Value) (P : Program) (w : World) :
    (results fn tmps).run P w =
      ((asAddr (tmps.getD p undef)).run P w).andThen fun a w₁ => ((loadVar ty a).run P w₁).andThen fun v w₂ => .ok (.tuple #[v, tmps.getD u undef, tmps.getD x undef]) w₂ := by
  simp only [results, h]
  simp [Sem.run_bind, Result.andThen]

/-- What it tells. -/
def VR (r : GV × Nat × Nat) : Ending := .returned (.tuple #[r.1.agg, .int .i64 (r.2.1 : Int), .int .i64 (r.2.2 : Int)])
end Go.Proofs.YthphadbcebeoaaaGreatDoor
namespace Go.Proofs.YthphadbcebeoaaaGreatDoor
open Go.RowKit Go.Lib

end Go.Proofs.YthphadbcebeoaaaGreatDoor
namespace Go.Proofs.YthphadbcebeoaaaGreatDoor
open Go.RowKit Go.Lib

theorem cell_zero {w : World} {b off : Nat} {c : UInt8} {r : List UInt8} (h : ∀ i, i < (c :: r).length → w.cell? ⟨b, off + i, none⟩ = some (.int .u8 (((c :: r).getD i 0).toNat : Int))) : w.cell? ⟨b, off, none⟩ = some (.int .u8 (c.toNat : Int)) := by
  simpa using h 0 (by simp)
theorem cell_one {w : World} {b off : Nat} {c t : UInt8} {r : List UInt8} (h : ∀ i, i < (c :: t :: r).length → w.cell? ⟨b, off + i, none⟩ = some (.int .u8 (((c :: t :: r).getD i 0).toNat : Int))) : w.cell? ⟨b, off + 1, none⟩ = some (.int .u8 (t.toNat : Int)) := by
  simpa using h 1 (by simp)

theorem ind_toList (l : List UInt8) : (⟨l.toArray⟩ : ByteArray).data.toList = l := by simp
theorem ba_size (l : List UInt8) : (⟨l.toArray⟩ : ByteArray).size = l.length := by simp [ByteArray.size]
end Go.Proofs.YthphadbcebeoaaaGreatDoor
/- The document's own reader of a row. -/
namespace Go.Proofs.YthphadbcebeoaaaGreatDoor
open Go.RowKit Go.Lib

end Go.Proofs.YthphadbcebeoaaaGreatDoor
/- Rows of values and entries that come in as arguments, as the walks ask for them. -/
namespace Go.Proofs.YthphadbcebeoaaaGreatDoor
open Go.ChangeShapes Go.WideShapes Go.ChangeAt Go.RowKit Go.Lib

theorem list_of {α : Type} (Q : Nat → α → Prop) : ∀ n, (∀ i, i < n → ∃ g, Q i g) → ∃ gs : List α, gs.length = n ∧ ∀ i g, gs[i]? = some g → Q i g := by
  intro n
  induction n with
  | zero => intro _; exact ⟨[], rfl, fun i g h => by simp at h⟩
  | succ n ih =>
    intro h
    obtain ⟨gs, hl, hg⟩ := ih fun i hi => h i (by omega)
    obtain ⟨g, hq⟩ := h n (by omega)
    refine ⟨gs ++ [g], by simp [hl], fun i x hx => ?_⟩
    rcases Nat.lt_trichotomy i n with hi | hi | hi
    · rw [List.getElem?_append_left (by omega)] at hx; exact hg i x hx
    · subst hi
      rw [List.getElem?_append_right (by omega), hl] at hx
      simp at hx; subst hx; exact hq
    · rw [List.getElem?_eq_none (by simp; omega)] at hx; cases hx
theorem list3 {α : Type} {cs : List α} (h : cs.length = 3) : ∃ a b c, cs = [a, b, c] := by
  match cs, h with
  | [a, b, c], _ => exact ⟨a, b, c, rfl⟩
theorem array5 {α : Type} {cs : Array α} (h : cs.size = 5) : ∃ a b c d e, cs = #[a, b, c, d, e] := by
  obtain ⟨l⟩ := cs
  match l, h with
  | [a, b, c, d, e], _ => exact ⟨a, b, c, d, e, rfl⟩

/-- A row of values, whatever its length. -/
def RVu (w : World) (B : Nat) (v : Value) (gs : List GV) : Prop :=
  gs.length ≤ maxLen ∧ (∀ g ∈ gs, g.ok) ∧ ((v = .slice none 0 0 ∧ gs = []) ∨
    ∃ b off cap, b < B ∧ v = .slice (some ⟨b, off, none⟩) gs.length cap ∧ ∀ i g, gs[i]? = some g → w.cell? ⟨b, off + i * 3, none⟩ = some (.int .i64 g.kind) ∧ w.cell? ⟨b, off + i * 3 + 1, none⟩ = some (.int .i64 g.int) ∧ w.cell? ⟨b, off + i * 3 + 2, none⟩ = some (.string g.text))
theorem RVu.rv {w : World} {B : Nat} {v : Value} {gs : List GV} (h : RVu w B v gs) (hl : gs.length ≤ 1000) : RV w B v gs := ⟨by omega, h.2.1, h.2.2⟩

theorem RVu.later {w w' : World} {B B' : Nat} {v : Value} {gs : List GV} (h : RVu w B v gs) (hb : Below B w w') (hB : B ≤ B') : RVu w' B' v gs := by
  obtain ⟨h1, h2, h3 | ⟨b, off, cap, hbB, rfl, hc⟩⟩ := h
  · exact ⟨h1, h2, .inl h3⟩
  · refine ⟨h1, h2, .inr ⟨b, off, cap, by omega, rfl, fun i g hg => ?_⟩⟩
    obtain ⟨c0, c1, c2⟩ := hc i g hg
    exact ⟨(hb.cell (p := ⟨b, off + i * 3, none⟩) hbB).trans c0, (hb.cell (p := ⟨b, off + i * 3 + 1, none⟩) hbB).trans c1, (hb.cell (p := ⟨b, off + i * 3 + 2, none⟩) hbB).trans c2⟩

theorem Tryz.cells37 : Tryz.prog.cellsOf 37 = 5 := by kernel_rfl
theorem Tryz.cells9 : Tryz.prog.cellsOf 9 = 1 := by kernel_rfl
theorem Tryz.cells2 : Tryz.prog.cellsOf 2 = 1 := by kernel_rfl
theorem Tryz.cells35 : Tryz.prog.cellsOf 35 = 1 := by kernel_rfl
theorem Tryz.cells3 : Tryz.prog.cellsOf 3 = 1 := by kernel_rfl

section
variable {H : Type} {enc : TypeId × Value → H} {W : World} {base : Nat} {sp : Nat → Bool} {hd : Bool}

theorem trod_struct5 {P : Program} {t : TypeId} {f0 f1 f2 f3 f4 : Field} {fuel : Nat} {cs : List Value} {x : DataW H × List MemPlace} (ht : P.underlying t = some (.struct #[f0, f1, f2, f3, f4])) (h : DataW.trod enc P W base sp hd fuel t cs = some x) :
    ∃ y0 y1 y2 y3 y4 n, cs.length = P.cellsOf t ∧ DataW.trod enc P W base sp hd n f0.type ((cs.drop f0.offset).take (P.cellsOf f0.type)) = some y0 ∧ DataW.trod enc P W base sp hd n f1.type ((cs.drop f1.offset).take (P.cellsOf f1.type)) = some y1 ∧
      DataW.trod enc P W base sp hd n f2.type ((cs.drop f2.offset).take (P.cellsOf f2.type)) = some y2 ∧ DataW.trod enc P W base sp hd n f3.type ((cs.drop f3.offset).take (P.cellsOf f3.type)) = some y3 ∧
      DataW.trod enc P W base sp hd n f4.type ((cs.drop f4.offset).take (P.cellsOf f4.type)) = some y4 := by
  obtain ⟨xs, n, _, rfl, hl, hlen, hf⟩ := DataW.trod_struct ht h
  match xs, hlen with
  | [y0, y1, y2, y3, y4], _ => exact ⟨y0, y1, y2, y3, y4, n, hl, by simpa using hf 0 f0 rfl, by simpa using hf 1 f1 rfl, by simpa using hf 2 f2 rfl, by simpa using hf 3 f3 rfl, by simpa using hf 4 f4 rfl⟩

set_option maxRecDepth 100000 in
theorem entry_in {b0 : Nat} {v : Value} {d : DataW H} {ps : List MemPlace}
    (hv : Value.okWide Tryz.prog W .any b0 37 v) (hT : DataW.Trod enc Tryz.prog W base sp hd 37 v d ps) :
    ∃ g : GE, g.ok ∧ v = .agg #[.int .u64 g.term, .int .i64 g.kind, .int .u64 g.client, .int .u64 g.seq, .string g.sql] := by
  obtain ⟨cs, rfl, hsz⟩ := okWide_struct Tryz.underlying37 hv
  rw [Tryz.cells37] at hsz
  obtain ⟨a, b, c, e, s, rfl⟩ := array5 hsz
  obtain ⟨fuel, hf⟩ := hT
  obtain ⟨y0, y1, y2, y3, y4, n, _, h0, h1, h2, h3, h4⟩ := trod_struct5 Tryz.underlying37 hf
  simp [Value.cells, Tryz.cells9, Tryz.cells35, Tryz.cells3] at h0 h1 h2 h3 h4
  obtain ⟨te, e0, _, w0⟩ := DataW.trod_int Tryz.underlying35 h0
  obtain ⟨k, e1, _, _⟩ := DataW.trod_int Tryz.underlying3 h1
  obtain ⟨cl, e2, _, w2⟩ := DataW.trod_int Tryz.underlying35 h2
  obtain ⟨q, e3, _, w3⟩ := DataW.trod_int Tryz.underlying35 h3
  obtain ⟨t, e4, _, w4⟩ := DataW.trod_string Tryz.underlying9 h4
  simp at e0 e1 e2 e3 e4
  subst e0 e1 e2 e3 e4
  have b0 := bounds_u64 w0
  have b2 := bounds_u64 w2
  have b3 := bounds_u64 w3
  obtain ⟨te, rfl⟩ := Int.eq_ofNat_of_zero_le b0.1
  obtain ⟨cl, rfl⟩ := Int.eq_ofNat_of_zero_le b2.1
  obtain ⟨q, rfl⟩ := Int.eq_ofNat_of_zero_le b3.1
  exact ⟨⟨te, k, cl, q, t⟩, ⟨by dsimp only; omega, by dsimp only; omega, by dsimp only; omega, w4⟩, rfl⟩
end
end Go.Proofs.YthphadbcebeoaaaGreatDoor
/- The walk of the statement WireWrites: it answers true; nothing old turns. -/
namespace Go.Proofs.YthphadbcebeoaaaGreatDoor
open Go.RowKit Go.Lib

theorem ET.later {w w' : World} (h : ET w) (hb : Below w.heap.size w w') : ET w' := h.below hb h.lt
theorem ST.later {w w' : World} (h : ST w) (hb : Below w.heap.size w w') : ST w' := h.below hb h.lt

end Go.Proofs.YthphadbcebeoaaaGreatDoor
