/- wire.Entry, at all bytes. -/
import Derived.Test.YtebiekkkmimomaaGreatDoorREntry
import Derived.RegionTactic
import Derived.ChangeAlike
namespace Go.Proofs.YtebiekkkmimomaaGreatDoor
open Go.RowKit Go.Lib

theorem B5.fq' {w w' : World} {p E : Nat} {a b c d e : Value} (h : B5 w E a b c d e) (hf : Fq p w w') (hne : E ≠ p) : B5 w' E a b c d e := by
  exact ⟨Nat.lt_of_lt_of_le h.lt hf.1.size, (hf.cell (a := ⟨E, 0, none⟩) h.lt hne).trans h.c0, (hf.cell (a := ⟨E, 1, none⟩) h.lt hne).trans h.c1, (hf.cell (a := ⟨E, 2, none⟩) h.lt hne).trans h.c2, (hf.cell (a := ⟨E, 3, none⟩) h.lt hne).trans h.c3, (hf.cell (a := ⟨E, 4, none⟩) h.lt hne).trans h.c4,
    (hf.frozen (a := ⟨E, 0, none⟩) h.lt hne).trans h.f0, (hf.frozen (a := ⟨E, 1, none⟩) h.lt hne).trans h.f1, (hf.frozen (a := ⟨E, 2, none⟩) h.lt hne).trans h.f2, (hf.frozen (a := ⟨E, 3, none⟩) h.lt hne).trans h.f3, (hf.frozen (a := ⟨E, 4, none⟩) h.lt hne).trans h.f4⟩

theorem ErrAt.set {w : World} {b k : Nat} {p c : Int} (h : ErrAt w b p c) (hk : k ≠ b) (j : Nat) (u : Value) : ErrAt (w.setCell ⟨k, j, none⟩ u) b p c :=
  ⟨(World.cell?_setCell_other _ _ _ _ (ne_blk hk)).trans h.1, (World.cell?_setCell_other _ _ _ _ (ne_blk hk)).trans h.2⟩
/-- What wire.Entry tells. -/
def EntPost (r : GE × Except Nat Nat) (w : World) (e : Ending) (w' : World) : Prop :=
  match r.2 with
  | .ok b => e = .returned (.tuple #[r.1.agg, .int .i64 (b : Int), .nilIface]) ∧ Below w.heap.size w w'
  | .error c => ∃ b pl, e = .returned (.tuple #[zE.agg, .int .i64 0, ev b]) ∧ ErrAt w' b pl (c : Int) ∧ Below w.heap.size w w'

set_option maxHeartbeats 3200000 in
set_option maxRecDepth 100000 in
theorem entry_any (v : Value) (l : List UInt8) (w : World) (hE : ET w) (hv : RBp w w.heap.size v l) :
    Calls Tryz.prog 94 #[v] w fun e w' => EntPost (rdEnt l (.ok 0)) w e w' := by
  have hb0 := below_alloc (B := w.heap.size) (.cells #[.int .u64 0, .int .i64 0, .int .u64 0, .int .u64 0, .string ⟨#[]⟩] 37) (Nat.le_refl w.heap.size)
  have hE0 := hE.below hb0 hE.lt
  have hv0 : RBp (w.alloc (.cells #[.int .u64 0, .int .i64 0, .int .u64 0, .int .u64 0, .string ⟨#[]⟩] 37)) (w.alloc (.cells #[.int .u64 0, .int .i64 0, .int .u64 0, .int .u64 0, .string ⟨#[]⟩] 37)).heap.size v l := rb_later hv hb0 hb0.size
  have hrs := RS.new _ v l hE0 hv0
  have hsz : (w.alloc (.cells #[.int .u64 0, .int .i64 0, .int .u64 0, .int .u64 0, .string ⟨#[]⟩] 37)).heap.size = w.heap.size + 1 := by simp
  rw [hsz] at hrs
  have HR := hide (rentry_any (w.heap.size + 1) l (.ok 0) _ hrs)
  have HB5 := hide ((B5.new w 37 (.int .u64 0) (.int .i64 0) (.int .u64 0) (.int .u64 0) (.string ⟨#[]⟩)).alloc (.cells #[v, .int .i64 0, .nilIface] 193))
  have HB := hide (hb0.alloc hb0.size (.cells #[v, .int .i64 0, .nilIface] 193))
  obtain ⟨av, kv, rfl⟩ := rb_len hv
  generalize rdEnt l (.ok 0) = r at *
  obtain ⟨g, s⟩ := r
  clear hE hv hE0 hv0 hrs hsz hb0
  unfold GE.agg GE.cells at HR
  cases s with
  | ok b =>
    go_enter Tryz.func94, Tryz.ntmps94
    go_wp2_with (first | (go_at_call 107; refine (unhide HR).mono ?_; rintro e w1 ⟨rfl, hr1, hf1⟩; obtain ⟨k1, k2, _⟩ := hr1.cells_ok; have hp1 := hr1.lt; have bR := ((unhide HB5).fq' hf1 (by omega)); obtain ⟨hz2, u0, u1, u2, u3, u4, v0, v1, v2, v3, v4⟩ := bR; have hb1 := hide ((unhide HB).trans (hf1.1.mono (by omega))); clear HR hf1 hr1))
    go_region
    all_goals (try go_wp2)
    (try simp only [Exit.inBlock, Exit.then])
    refine bodyPost_ret (v := .tuple #[g.agg, .int .i64 (b : Int), .nilIface]) ?_ rfl ⟨rfl, ?_⟩
    · rw [results_cell3 rfl]
      go_simp
      rfl
    · exact ((((((unhide hb1).setCell (p := ⟨w.heap.size, 0, none⟩) (Nat.le_refl _) _).setCell (p := ⟨w.heap.size, 1, none⟩) (Nat.le_refl _) _).setCell (p := ⟨w.heap.size, 2, none⟩) (Nat.le_refl _) _).setCell (p := ⟨w.heap.size, 3, none⟩) (Nat.le_refl _) _).setCell (p := ⟨w.heap.size, 4, none⟩) (Nat.le_refl _) _).alloc (by simp; omega) _ |>.drew
  | error c =>
    go_enter Tryz.func94, Tryz.ntmps94
    go_wp2_with (first | (go_at_call 107; refine (unhide HR).mono ?_; rintro e w1 ⟨rfl, hr1, hf1⟩; have hp1 := hr1.lt; obtain ⟨_, _, _, _, _, a', b', pl, _, _, k2, k3, k4⟩ := hr1; have HE := hide k4; clear k4; have bR := ((unhide HB5).fq' hf1 (by omega)); obtain ⟨hz2, u0, u1, u2, u3, u4, v0, v1, v2, v3, v4⟩ := bR; have hb1 := hide ((unhide HB).trans (hf1.1.mono (by omega))); clear HR hf1))
    go_region
    (try go_wp2)
    (try simp only [Exit.inBlock, Exit.then])
    refine bodyPost_ret (v := .tuple #[zE.agg, .int .i64 0, ev b']) ?_ rfl ⟨b', pl, rfl, ?_, ?_⟩
    · unfold zE GE.agg GE.cells
      rw [results_cell3 rfl]
      go_simp
    · have hne : w.heap.size ≠ b' := by omega
      exact (((((((unhide HE).set hne 0 _).set hne 1 _).set hne 2 _).set hne 3 _).set hne 4 _).alloc _).drew
    · exact ((((((unhide hb1).setCell (p := ⟨w.heap.size, 0, none⟩) (Nat.le_refl _) _).setCell (p := ⟨w.heap.size, 1, none⟩) (Nat.le_refl _) _).setCell (p := ⟨w.heap.size, 2, none⟩) (Nat.le_refl _) _).setCell (p := ⟨w.heap.size, 3, none⟩) (Nat.le_refl _) _).setCell (p := ⟨w.heap.size, 4, none⟩) (Nat.le_refl _) _).alloc (by simp; omega) _ |>.drew
end Go.Proofs.YtebiekkkmimomaaGreatDoor
/- The document's own reader of an entry; it and the program's tell the same. -/
namespace Go.Proofs.YtebiekkkmimomaaGreatDoor
open Go.RowKit Go.Lib

/-- What it tells. -/
def ER (r : GE × Nat × Nat) : Ending := .returned (.tuple #[r.1.agg, .int .i64 (r.2.1 : Int), .int .i64 (r.2.2 : Int)])
/-- The world in which it has laid its two variables. -/
abbrev twoE (w : World) (t : Nat) (k : Int) (c q : Nat) : World := (w.alloc (.cells #[.int .u64 0, .int .i64 0, .int .u64 0, .int .u64 0, .string ⟨#[]⟩] 37)).alloc (.cells #[.int .u64 t, .int .i64 k, .int .u64 c, .int .u64 q, .string ⟨#[]⟩] 37)
theorem twoE_below (w : World) (t : Nat) (k : Int) (c q : Nat) : Below w.heap.size w (twoE w t k c q) := by
  repeat' (first | exact Below.refl _ _ | refine Below.alloc ?_ (by simp) _)

end Go.Proofs.YtebiekkkmimomaaGreatDoor
namespace Go.Proofs.YtebiekkkmimomaaGreatDoor
open Go.RowKit Go.Lib

end Go.Proofs.YtebiekkkmimomaaGreatDoor
namespace Go.Proofs.YtebiekkkmimomaaGreatDoor
open Go.RowKit Go.Lib

end Go.Proofs.YtebiekkkmimomaaGreatDoor
namespace Go.Proofs.YtebiekkkmimomaaGreatDoor
open Go.RowKit Go.Lib

theorem getD_drop {l r : List UInt8} {a : Nat} {c : UInt8} (h : l.drop a = c :: r) : l.getD a 0 = c := by
  have h2 : (l.drop a)[0]? = some c := by rw [h]; rfl
  rw [List.getElem?_drop, Nat.add_zero] at h2
  simp [List.getD_eq_getElem?_getD, h2]
theorem refTxt_ok {m S : List UInt8} {k : Nat} (h : refTxt m 2000 = (S, k, 0)) : k ≤ m.length := by
  unfold refTxt at h
  rcases decU_cases m with ⟨n', k', hd, _, h8, h9⟩ | ⟨q', hd⟩ | ⟨q', hd, _⟩
  · rw [hd] at h
    simp only [if_true] at h
    split at h
    · simp at h
    · split at h
      · simp at h
      · simp at h; omega
  · rw [hd] at h; simp at h
  · rw [hd] at h; simp at h

end Go.Proofs.YtebiekkkmimomaaGreatDoor
namespace Go.Proofs.YtebiekkkmimomaaGreatDoor
open Go.RowKit Go.Lib

theorem ent_same (l : List UInt8) : (∀ g k, refEnt l = (g, k, 0) → rdEnt l (.ok 0) = (g, .ok k)) ∧ (∀ g k c, refEnt l = (g, k, c) → c ≠ 0 → (rdEnt l (.ok 0)).2 = .error c ∧ g = zE ∧ k = 0) := by
  have fin : ∀ (x : GE × Except Nat Nat) (g : GE) (k : Nat), refEnt l = (g, k, 0) → x = (g, .ok k) → (∀ g k, refEnt l = (g, k, 0) → x = (g, .ok k)) ∧ (∀ g k c, refEnt l = (g, k, c) → c ≠ 0 → x.2 = .error c ∧ g = zE ∧ k = 0) := by
    intro x g k e h
    refine ⟨fun g' k' e' => ?_, fun g' k' c' e' hc => ?_⟩
    · rw [e] at e'; simp only [Prod.mk.injEq] at e'; obtain ⟨rfl, rfl, _⟩ := e'; exact h
    · rw [e] at e'; simp only [Prod.mk.injEq] at e'; exact absurd e'.2.2.symm hc
  have fer : ∀ (x : GE × Except Nat Nat) (c : Nat), c ≠ 0 → refEnt l = (zE, 0, c) → x.2 = .error c → (∀ g k, refEnt l = (g, k, 0) → x = (g, .ok k)) ∧ (∀ g k c, refEnt l = (g, k, c) → c ≠ 0 → x.2 = .error c ∧ g = zE ∧ k = 0) := by
    intro x c hc e h
    refine ⟨fun g' k' e' => ?_, fun g' k' c' e' _ => ?_⟩
    · rw [e] at e'; simp only [Prod.mk.injEq] at e'; exact absurd e'.2.2 hc
    · rw [e] at e'; simp only [Prod.mk.injEq] at e'; obtain ⟨rfl, rfl, rfl⟩ := e'; exact ⟨h, rfl, rfl⟩
  have bad : ∀ c q, c ≠ 0 → decU l = (0, 0, c, q) → (∀ g k, refEnt l = (g, k, 0) → rdEnt l (.ok 0) = (g, .ok k)) ∧ (∀ g k c, refEnt l = (g, k, c) → c ≠ 0 → (rdEnt l (.ok 0)).2 = .error c ∧ g = zE ∧ k = 0) := by
    intro c q hc hd
    have m0 : rdMax l (.ok 0) = (0, .error c) := by have := rdMax_ok (l := l) (a := 0) hd; simpa [hc] using this
    refine fer _ c hc (by simp [refEnt, hd, hc]) ?_
    simp [rdEnt, m0, rdB_err]
  rcases decU_cases l with ⟨t, a, hd, _, hal, ha0⟩ | ⟨q, hd⟩ | ⟨q, hd, _⟩
  rotate_left
  · exact bad 20 q (by decide) hd
  · exact bad 22 q (by decide) hd
  have m0 : rdMax l (.ok 0) = (t, .ok a) := by have := rdMax_ok (l := l) (a := 0) hd; simpa using this
  cases hdr : l.drop a with
  | nil =>
    have b1 : rdBetween l 0 1 (.ok a) = (0, .error 22) := rdB_nil (hi := 1) hdr
    refine fer _ 22 (by decide) (by simp [refEnt, hd, hdr]) ?_
    simp [rdEnt, m0, b1]
  | cons kb r =>
    obtain ⟨h1, hlt, hr⟩ := drop_cons hdr
    have b1 : rdBetween l 0 1 (.ok a) = if kb.toNat ≤ 1 then ((kb.toNat : Int), .ok (a + 1)) else (0, .error 20) := rdB_small (hi := 1) (by decide) hdr
    by_cases k0 : kb.toNat = 0
    · refine fin _ _ _ (by simp [refEnt, hd, hdr, k0]; exact ⟨rfl, rfl⟩) ?_
      rw [k0] at b1
      simp at b1
      simp [rdEnt, m0, b1]
    by_cases k1 : kb.toNat ≠ 1
    · rw [if_neg (by omega)] at b1
      refine fer _ 20 (by decide) (by simp [refEnt, hd, hdr, k0, k1]) ?_
      simp [rdEnt, m0, b1]
    have k1 : kb.toNat = 1 := by omega
    rw [k1] at b1
    simp at b1
    have bad1 : ∀ c q, c ≠ 0 → decU r = (0, 0, c, q) → (∀ g k, refEnt l = (g, k, 0) → rdEnt l (.ok 0) = (g, .ok k)) ∧ (∀ g k c, refEnt l = (g, k, c) → c ≠ 0 → (rdEnt l (.ok 0)).2 = .error c ∧ g = zE ∧ k = 0) := by
      intro c q hc hd1
      have m1 : rdMax l (.ok (a + 1)) = (0, .error c) := by have := rdMax_ok (l := l) (a := a + 1) (n := 0) (k := 0) (c := c) (q := q) (by rw [h1, hd1]); simpa [hc] using this
      refine fer _ c hc (by simp [refEnt, hd, hdr, k1, hd1, hc]) ?_
      simp [rdEnt, m0, b1, m1, rdMax_err, rdSql_err]
    rcases decU_cases r with ⟨c, n1, hd1, _, hn1, hn10⟩ | ⟨q, hd1⟩ | ⟨q, hd1, _⟩
    rotate_left
    · exact bad1 20 q (by decide) hd1
    · exact bad1 22 q (by decide) hd1
    have m1 : rdMax l (.ok (a + 1)) = (c, .ok (a + 1 + n1)) := by have := rdMax_ok (l := l) (a := a + 1) (n := c) (k := n1) (c := 0) (q := 0) (by rw [h1, hd1]); simpa using this
    have e2 : r.drop n1 = l.drop (a + 1 + n1) := by rw [← h1, List.drop_drop]
    have bad2 : ∀ x q, x ≠ 0 → decU (r.drop n1) = (0, 0, x, q) → (∀ g k, refEnt l = (g, k, 0) → rdEnt l (.ok 0) = (g, .ok k)) ∧ (∀ g k c, refEnt l = (g, k, c) → c ≠ 0 → (rdEnt l (.ok 0)).2 = .error c ∧ g = zE ∧ k = 0) := by
      intro x q hx hd2
      have m2 : rdMax l (.ok (a + 1 + n1)) = (0, .error x) := by have := rdMax_ok (l := l) (a := a + 1 + n1) (n := 0) (k := 0) (c := x) (q := q) (by rw [← e2, hd2]); simpa [hx] using this
      refine fer _ x hx (by simp [refEnt, hd, hdr, k1, hd1, hd2, hx]) ?_
      simp [rdEnt, m0, b1, m1, m2, rdSql_err]
    rcases decU_cases (r.drop n1) with ⟨q, n2, hd2, _, hn2, hn20⟩ | ⟨q, hd2⟩ | ⟨q, hd2, _⟩
    rotate_left
    · exact bad2 20 q (by decide) hd2
    · exact bad2 22 q (by decide) hd2
    have m2 : rdMax l (.ok (a + 1 + n1)) = (q, .ok (a + 1 + n1 + n2)) := by have := rdMax_ok (l := l) (a := a + 1 + n1) (n := q) (k := n2) (c := 0) (q := 0) (by rw [← e2, hd2]); simpa using this
    have e3 : (r.drop n1).drop n2 = l.drop (a + 1 + n1 + n2) := by rw [e2, List.drop_drop]
    have hle3 : a + 1 + n1 + n2 ≤ l.length := by simp at hn2; omega
    have hs := rdSql_ok l (a + 1 + n1 + n2) hle3
    rw [← e3] at hs
    generalize hmm : (r.drop n1).drop n2 = m at hs
    cases htw : twoMore m with
    | true =>
      rw [htw, if_pos rfl] at hs
      have := hs.2 (by decide)
      refine fer _ 20 (by decide) (by simp [refEnt, hd, hdr, k1, hd1, hd2, -List.drop_drop, hmm, htw]) ?_
      simp [rdEnt, m0, b1, m1, m2, this]
    | false =>
      rw [htw, if_neg (by decide)] at hs
      obtain ⟨S, n3, x3, ht⟩ : ∃ S n3 x3, refTxt m 2000 = (S, n3, x3) := ⟨_, _, _, rfl⟩
      rw [ht] at hs
      by_cases hx3 : x3 = 0
      · subst hx3
        have := (hs.1 rfl).1
        dsimp only at this
        refine fin _ ⟨t, 1, c, q, ⟨S.toArray⟩⟩ (a + 1 + n1 + n2 + n3) (by simp [refEnt, hd, hdr, k1, hd1, hd2, -List.drop_drop, hmm, htw, ht]) ?_
        simp [rdEnt, m0, b1, m1, m2, this]
      · have := hs.2 hx3
        dsimp only at this
        refine fer _ x3 hx3 (by simp [refEnt, hd, hdr, k1, hd1, hd2, -List.drop_drop, hmm, htw, ht, hx3]) ?_
        simp [rdEnt, m0, b1, m1, m2, this]
end Go.Proofs.YtebiekkkmimomaaGreatDoor
