/- Contract of the document's own writer of entries, a command; the whole. -/
import Derived.Test.YtahcfanmfocljaaDoorRefEn2
namespace Go.Proofs.YtahcfanmfocljaaDoor
open Go.RowKit Go.Lib
attribute [local go_sem ↓] Go.wp_at_zero Go.wp_at_succ

/-- What stands while a command is written: its bytes so far. -/
def EQ (w : World) (te : Nat) (k : Int) (c q : Nat) (t : ByteArray) (l : List UInt8) (v : Value) (W : World) : Prop :=
  W.ownsRow (w.heap.size + 1) 5 1 v l.length (byteCells l) ∧ C5 W w.heap.size te k c q t ∧ Below w.heap.size w W ∧ w.heap.size + 1 ≤ W.heap.size
theorem EQ.later {w W w' : World} {te : Nat} {k : Int} {c q : Nat} {t : ByteArray} {l : List UInt8} {v : Value} (h : EQ w te k c q t l v W) (hb : Below W.heap.size W w') : EQ w te k c q t l v w' :=
  ⟨own_later h.1 hb, h.2.1.below hb h.2.2.2, h.2.2.1.trans (hb.mono (by have := h.2.2.2; omega)), Nat.le_trans h.2.2.2 hb.size⟩
theorem EQ.drew {w W : World} {te : Nat} {k : Int} {c q : Nat} {t : ByteArray} {l : List UInt8} {v : Value} (h : EQ w te k c q t l v W) : EQ w te k c q t l v W.drew := h.later (Below.refl _ _).drew
theorem ref_num {w W : World} {te : Nat} {k : Int} {c q : Nat} {t : ByteArray} {l : List UInt8} {v : Value} (x : Nat) (hx : x < 18446744073709551616) (h : EQ w te k c q t l v W) :
    Calls Tryd.prog 14 #[.int .u64 x] W fun e w' => ∃ v', e = .returned v' ∧ EQ w te k c q t l v w' ∧ RBp w' w'.heap.size v' (uvarint x) := by
  refine (refPutUint_any x W hx).mono ?_
  rintro e w' ⟨v', rfl, ho, hb⟩
  exact ⟨v', rfl, h.later hb, rb_own ho (Nat.le_trans (uvarint_length64 hx) (by decide))⟩
theorem ref_txt {w W : World} {te : Nat} {k : Int} {c q : Nat} {t : ByteArray} {l : List UInt8} {v : Value} (x : ByteArray) (hx : x.size ≤ 2000) (h : EQ w te k c q t l v W) :
    Calls Tryd.prog 16 #[.string x] W fun e w' => ∃ v', e = .returned v' ∧ EQ w te k c q t l v w' ∧ RBp w' w'.heap.size v' (textBytes x) := by
  refine (refPutText_any x W (by omega)).mono ?_
  rintro e w' ⟨v', rfl, ho, hb⟩
  exact ⟨v', rfl, h.later hb, rb_own ho (by rw [textBytes_length]; have := uvarint_length64 (x := x.size) (by omega); omega)⟩
theorem step_append_eq {w W : World} {te : Nat} {k : Int} {c q : Nat} {t : ByteArray} {l : List UInt8} {v : Value} {ops : Array Oper} {o : Oper} {a : Act} {K : Act → World → Prop} {Q : Exit → Act → World → Prop} {E : Prop} (hgd : o.guard = none) (s x : Operand)
    (ho : o.op = .call { callee := .builtin .append, args := #[s, x], argTypes := #[23, 23] })
    (hs : a.eval s = v) (h0 : EQ w te k c q t l v W)
    (B : Nat) (xv : Value) (lx : List UInt8) (hx : a.eval x = xv) (hrb : RBp W B xv lx) (hne : 0 < lx.length) (hn : l.length ≤ 1000000000) (hl : lx.length ≤ 1000000000)
    (h : ∀ v' w', EQ w te k c q t (l ++ lx) v' w' → K (a.put o.dst v') w') :
    if Region.wanted o (yielded ops a.tmps) = true then Oper.wp Tryd.prog o a W K Q else E :=
  step_append_rb hgd s x ho (w.heap.size + 1) v l hs h0.1 B xv lx hx hrb hne hn hl h0.2.2.2 fun v' w' h1 h2 =>
    h v' w' ⟨h1, h0.2.1.below h2 (Nat.lt_succ_self _), h0.2.2.1.trans (h2.mono (Nat.le_succ _)), Nat.le_trans h0.2.2.2 h2.size⟩
theorem textBytes_gt (t : ByteArray) : 0 < (textBytes t).length := by rw [textBytes_length]; have := uvarint_pos t.size; omega

set_option maxHeartbeats 6400000 in
set_option maxRecDepth 100000 in
theorem refPutEntry_cmd (te c q : Nat) (t : ByteArray) (w : World) (hte : te < 18446744073709551616) (hc : c < 18446744073709551616) (hq : q < 18446744073709551616) (ht : t.size ≤ 2000) :
    Calls Tryd.prog 35 #[.agg #[.int .u64 te, .int .i64 1, .int .u64 c, .int .u64 q, .string t]] w fun e w' => RefPost (some (uvarint te ++ uvarint 1 ++ uvarint c ++ uvarint q ++ textBytes t)) w e w' := by
  have HP := hide (ref_term w te 1 c q t 1 hte (by decide))
  have lU : (uvarint te).length ≤ 10 := uvarint_length64 hte
  have l1 : (uvarint 1).length ≤ 10 := uvarint_length64 (by decide)
  have lc : (uvarint c).length ≤ 10 := uvarint_length64 hc
  have lq : (uvarint q).length ≤ 10 := uvarint_length64 hq
  have lt : (textBytes t).length ≤ 10 + 2000 := by rw [textBytes_length]; have := uvarint_length64 (x := t.size) (by omega); omega
  have m0 : (uvarint te).length ≤ 1000000000 := by omega
  have m1 : (uvarint 1).length ≤ 1000000000 := by omega
  have m2 : (uvarint te ++ uvarint 1).length ≤ 1000000000 := by rw [List.length_append]; omega
  have m3 : (uvarint te ++ uvarint 1 ++ uvarint c).length ≤ 1000000000 := by rw [List.length_append, List.length_append]; omega
  have m4 : (uvarint te ++ uvarint 1 ++ uvarint c ++ uvarint q).length ≤ 1000000000 := by rw [List.length_append, List.length_append, List.length_append]; omega
  have m5 : (uvarint c).length ≤ 1000000000 := by omega
  have m6 : (uvarint q).length ≤ 1000000000 := by omega
  have m7 : (textBytes t).length ≤ 1000000000 := by omega
  have m8 : (uvarint te ++ uvarint 1 ++ uvarint c ++ uvarint q ++ textBytes t).length ≤ 1000000000000 := by rw [List.length_append, List.length_append, List.length_append, List.length_append]; omega
  clear lU l1 lc lq lt
  have h128 : 1 < 128 := by decide
  have ht' : ¬ ((2000 : Int) < (t.size : Int)) := by omega
  have HC := hide (fun (v : Value) (W : World) (h : EQ w te 1 c q t (uvarint te ++ uvarint 1) v W) => ref_num c hc h)
  have HQ := hide (fun (v : Value) (W : World) (h : EQ w te 1 c q t (uvarint te ++ uvarint 1 ++ uvarint c) v W) => ref_num q hq h)
  have HT := hide (fun (v : Value) (W : World) (h : EQ w te 1 c q t (uvarint te ++ uvarint 1 ++ uvarint c ++ uvarint q) v W) => ref_txt t ht h)
  clear hte hc hq ht
  go_enter Tryd.func35, Tryd.ntmps35
  go_wp2
  go_region_held3 (fun w' => w'.cell? ⟨w.heap.size, 0, none⟩ = some (.int .u64 te) ∧ w'.cell? ⟨w.heap.size, 1, none⟩ = some (.int .i64 1)) (go_keep)
    (first
      | (go_at_call 14; refine (unhide HP _ ?_).mono ?_; (first | exact Or.inl rfl | exact Or.inr rfl); rintro e wp ⟨vp, rfl, ho, hC, hb, hzp, hr⟩; obtain ⟨s0, s1, _, _, _⟩ := (show C5 wp _ _ _ _ _ _ from hC))
      | (refine step_append_rb (by rfl) _ _ (by rfl) (w.heap.size + 1) vp (uvarint te) (by rfl) (ho.alloc _) _ _ (uvarint 1) (by rfl) (rb_one wp 1 h128) (uvarint_gt _) m0 m1 (alloc_le _ hzp) ?_; intro va wa hoa hba; have hq0 : EQ w te 1 c q t (uvarint te ++ uvarint 1) va wa := ⟨hoa, C5.below (C5.below hC (below_alloc _ hzp) (Nat.lt_succ_self _)) hba (Nat.lt_succ_self _), (hb.trans ((below_alloc _ hzp).mono (Nat.le_succ _))).trans (hba.mono (Nat.le_succ _)), Nat.le_trans (alloc_le _ hzp) hba.size⟩; obtain ⟨t0, t1, t2, t3, t4⟩ := (show C5 wa _ _ _ _ _ _ from hq0.2.1))
      | (refine step_append_rb (by rfl) _ _ (by rfl) (w.heap.size + 1) vp (uvarint te) (by rfl) ho _ _ (uvarint 1) (by rfl) (hr rfl) (uvarint_gt _) m0 m1 hzp ?_; intro va wa hoa hba; have hq0 : EQ w te 1 c q t (uvarint te ++ uvarint 1) va wa := ⟨hoa, C5.below hC hba (Nat.lt_succ_self _), hb.trans (hba.mono (Nat.le_succ _)), Nat.le_trans hzp hba.size⟩; obtain ⟨t0, t1, t2, t3, t4⟩ := (show C5 wa _ _ _ _ _ _ from hq0.2.1)))
  all_goals (clear hoa ho hr hb hba hC hzp HP; go_wp2)
  all_goals (go_region_held3 (fun w' => w'.cell? ⟨w.heap.size, 2, none⟩ = some (.int .u64 c) ∧ w'.cell? ⟨w.heap.size, 3, none⟩ = some (.int .u64 q) ∧ w'.cell? ⟨w.heap.size, 4, none⟩ = some (.string t)) (go_keep)
    (first
      | (go_at_call 14; refine (unhide HC _ _ hq0.drew).mono ?_; clear hq0; rintro e w5 ⟨v5, rfl, hq1, r1⟩; obtain ⟨_, _, x2, x3, x4⟩ := (show C5 w5 _ _ _ _ _ _ from hq1.2.1))
      | (go_at_call 14; refine (unhide HQ _ _ hq2).mono ?_; clear hq2; rintro e w7 ⟨v7, rfl, hq3, r3⟩; obtain ⟨_, _, z2, z3, z4⟩ := (show C5 w7 _ _ _ _ _ _ from hq3.2.1))
      | (go_at_call 16; refine (unhide HT _ _ hq4).mono ?_; clear hq4; rintro e w9 ⟨v9, rfl, hq5, r5⟩; obtain ⟨_, _, a2, a3, a4⟩ := (show C5 w9 _ _ _ _ _ _ from hq5.2.1))
      | (refine step_append_eq (by rfl) _ _ (by rfl) (by rfl) hq1 _ _ (uvarint c) (by rfl) r1 (uvarint_gt _) m2 m5 ?_; intro v6 w6 hq2; clear hq1; obtain ⟨_, _, y2, y3, y4⟩ := (show C5 w6 _ _ _ _ _ _ from hq2.2.1))
      | (refine step_append_eq (by rfl) _ _ (by rfl) (by rfl) hq3 _ _ (uvarint q) (by rfl) r3 (uvarint_gt _) m3 m6 ?_; intro v8 w8 hq4; clear hq3; obtain ⟨_, _, b2, b3, b4⟩ := (show C5 w8 _ _ _ _ _ _ from hq4.2.1))
      | (refine step_append_eq (by rfl) _ _ (by rfl) (by rfl) hq5 _ _ (textBytes t) (by rfl) r5 (textBytes_gt _) m4 m7 ?_; intro v10 w10 hq6; clear hq5; obtain ⟨_, _, c2, c3, c4⟩ := (show C5 w10 _ _ _ _ _ _ from hq6.2.1))))
  all_goals (have HO := hide hq6; clear hq6; go_wp2; obtain ⟨a, kk, hv⟩ := own_slice (unhide HO).1; subst hv; go_ret2; exact ⟨a, kk, rfl, rb_own (unhide HO).1 m8, (unhide HO).2.2.1⟩)
end Go.Proofs.YtahcfanmfocljaaDoor
