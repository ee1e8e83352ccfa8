/- The program's reader of an entry. -/
import Derived.Test.YtebiekkkmimomaaGreatDoorJJointRdAllRefRowValsInLawWrites
namespace Go.Proofs.YtebiekkkmimomaaGreatDoor
open Go.RowKit Go.Lib

/-- Bytes behind their number. -/
def rdData (l : List UInt8) (most : Nat) (s : Except Nat Nat) : List UInt8 × Except Nat Nat := rdTake l (rdBetween l 0 (most : Int) s).1.toNat (rdBetween l 0 (most : Int) s).2
theorem rdBetween_nat (l : List UInt8) (most : Nat) (s : Except Nat Nat) : ((rdBetween l 0 (most : Int) s).1.toNat : Int) = (rdBetween l 0 (most : Int) s).1 := by
  cases h : (rdBetween l 0 (most : Int) s).2 with
  | ok a => obtain ⟨n, e, _⟩ := rdBetween_ok (by omega) h; rw [e]; simp
  | error c => rw [rdBetween_err h]; rfl

set_option maxHeartbeats 1600000 in
theorem rdata_any (p most : Nat) (l : List UInt8) (s : Except Nat Nat) (w : World) (h : RS w p l s) (hm : most ≤ 1000000000) :
    Calls Tryz.prog 134 #[.pointer (some ⟨p, 0, none⟩), .int .i64 most] w fun e w' => ∃ v', e = .returned v' ∧ RBp w' p v' (rdData l most s).1 ∧ RS w' p l (rdData l most s).2 ∧ Fq p w w' := by
  have HB := hide (rbetween_any p 0 (most : Int) l s w h (by omega) (by omega) (by omega))
  have HT := hide (fun (n : Nat) (s' : Except Nat Nat) (W : World) (hW : RS W p l s') => rtake_any p n l s' W hW)
  unfold rdData
  have e := rdBetween_nat l most s
  generalize rdBetween l 0 (most : Int) s = r at *
  obtain ⟨r1, r2⟩ := r
  dsimp only at e ⊢ HB
  generalize r1.toNat = m at *
  subst e
  clear h
  go_enter Tryz.func134, Tryz.ntmps134
  go_wp2_with (first
    | (go_at_call 125; refine (unhide HB).mono ?_; rintro e w1 ⟨rfl, hr1, hf1⟩)
    | (go_at_call 140; refine (unhide HT m r2 _ hr1).mono ?_; rintro e w2 ⟨v2, rfl, hv2, hr2, hf2⟩))
  go_ret
  exact ⟨_, rfl, hv2, hr2, hf1.trans hf2⟩

set_option maxHeartbeats 1600000 in
theorem rtextN_any (p most : Nat) (l : List UInt8) (s : Except Nat Nat) (w : World) (h : RS w p l s) (hm : most ≤ 1000000000) :
    Calls Tryz.prog 126 #[.pointer (some ⟨p, 0, none⟩), .int .i64 most] w fun e w' => e = .returned (.string ⟨(rdData l most s).1.toArray⟩) ∧ RS w' p l (rdData l most s).2 ∧ Fq p w w' := by
  have HD := hide (rdata_any p most l s w h hm)
  generalize rdData l most s = r at *
  obtain ⟨r1, r2⟩ := r
  clear h
  go_enter Tryz.func126, Tryz.ntmps126
  go_wp2_with (first
    | (go_at_call 134; refine (unhide HD).mono ?_; rintro e w2 ⟨v2, rfl, hv2, hr2, hf2⟩; have hcv := conv_any _ _ _ _ hv2; clear hv2))
  go_ret
  exact ⟨rfl, hr2, hf2⟩

/-- Five cells of a variable of a call's own. -/
structure B5 (w : World) (E : Nat) (a b c d e : Value) : Prop where
  lt : E < w.heap.size
  c0 : w.cell? ⟨E, 0, none⟩ = some a
  c1 : w.cell? ⟨E, 1, none⟩ = some b
  c2 : w.cell? ⟨E, 2, none⟩ = some c
  c3 : w.cell? ⟨E, 3, none⟩ = some d
  c4 : w.cell? ⟨E, 4, none⟩ = some e
  f0 : w.frozen? ⟨E, 0, none⟩ = false
  f1 : w.frozen? ⟨E, 1, none⟩ = false
  f2 : w.frozen? ⟨E, 2, none⟩ = false
  f3 : w.frozen? ⟨E, 3, none⟩ = false
  f4 : w.frozen? ⟨E, 4, none⟩ = false
theorem B5.new (w : World) (T : TypeId) (a b c d e : Value) : B5 (w.alloc (.cells #[a, b, c, d, e] T)) w.heap.size a b c d e := by
  constructor <;> simp
theorem B5.fq {w w' : World} {p E : Nat} {a b c d e : Value} (h : B5 w E a b c d e) (hf : Fq p w w') (hp : p < E) : B5 w' E a b c d e := by
  have hne : E ≠ p := by omega
  exact ⟨Nat.lt_of_lt_of_le h.lt hf.1.size, (hf.cell (a := ⟨E, 0, none⟩) h.lt hne).trans h.c0, (hf.cell (a := ⟨E, 1, none⟩) h.lt hne).trans h.c1, (hf.cell (a := ⟨E, 2, none⟩) h.lt hne).trans h.c2, (hf.cell (a := ⟨E, 3, none⟩) h.lt hne).trans h.c3, (hf.cell (a := ⟨E, 4, none⟩) h.lt hne).trans h.c4,
    (hf.frozen (a := ⟨E, 0, none⟩) h.lt hne).trans h.f0, (hf.frozen (a := ⟨E, 1, none⟩) h.lt hne).trans h.f1, (hf.frozen (a := ⟨E, 2, none⟩) h.lt hne).trans h.f2, (hf.frozen (a := ⟨E, 3, none⟩) h.lt hne).trans h.f3, (hf.frozen (a := ⟨E, 4, none⟩) h.lt hne).trans h.f4⟩
theorem B5.alloc {w : World} {E : Nat} {a b c d e : Value} (h : B5 w E a b c d e) (o : Obj) : B5 (w.alloc o) E a b c d e := by
  have hl := h.lt
  have hne := Nat.ne_of_lt hl
  exact ⟨by simp; omega, (World.cell?_alloc_lt _ _ ⟨E, 0, none⟩ hl).trans h.c0, (World.cell?_alloc_lt _ _ ⟨E, 1, none⟩ hl).trans h.c1, (World.cell?_alloc_lt _ _ ⟨E, 2, none⟩ hl).trans h.c2, (World.cell?_alloc_lt _ _ ⟨E, 3, none⟩ hl).trans h.c3, (World.cell?_alloc_lt _ _ ⟨E, 4, none⟩ hl).trans h.c4,
    (World.frozen?_alloc_old _ _ ⟨E, 0, none⟩ hne).trans h.f0, (World.frozen?_alloc_old _ _ ⟨E, 1, none⟩ hne).trans h.f1, (World.frozen?_alloc_old _ _ ⟨E, 2, none⟩ hne).trans h.f2, (World.frozen?_alloc_old _ _ ⟨E, 3, none⟩ hne).trans h.f3, (World.frozen?_alloc_old _ _ ⟨E, 4, none⟩ hne).trans h.f4⟩
theorem ne_off {b i j : Nat} (h : i ≠ j) : (⟨b, i, none⟩ : Addr) ≠ ⟨b, j, none⟩ := by intro e; injection e; contradiction
theorem ne_blk {b c i j : Nat} (h : b ≠ c) : (⟨b, i, none⟩ : Addr) ≠ ⟨c, j, none⟩ := by intro e; injection e; contradiction
theorem B5.other {w : World} {E k j : Nat} {a b c d e : Value} (h : B5 w E a b c d e) (hk : k ≠ E) (u : Value) : B5 (w.setCell ⟨k, j, none⟩ u) E a b c d e :=
  ⟨by simpa using h.lt, (World.cell?_setCell_other _ _ _ _ (ne_blk hk)).trans h.c0, (World.cell?_setCell_other _ _ _ _ (ne_blk hk)).trans h.c1, (World.cell?_setCell_other _ _ _ _ (ne_blk hk)).trans h.c2, (World.cell?_setCell_other _ _ _ _ (ne_blk hk)).trans h.c3, (World.cell?_setCell_other _ _ _ _ (ne_blk hk)).trans h.c4,
    by simpa using h.f0, by simpa using h.f1, by simpa using h.f2, by simpa using h.f3, by simpa using h.f4⟩
theorem B5.set1 {w : World} {E : Nat} {a b c d e : Value} (h : B5 w E a b c d e) (u : Value) : B5 (w.setCell ⟨E, 1, none⟩ u) E a u c d e :=
  ⟨by simpa using h.lt, (World.cell?_setCell_other _ _ _ _ (ne_off (by decide))).trans h.c0, World.cell?_setCell_same _ _ _ h.c1, (World.cell?_setCell_other _ _ _ _ (ne_off (by decide))).trans h.c2, (World.cell?_setCell_other _ _ _ _ (ne_off (by decide))).trans h.c3, (World.cell?_setCell_other _ _ _ _ (ne_off (by decide))).trans h.c4,
    by simpa using h.f0, by simpa using h.f1, by simpa using h.f2, by simpa using h.f3, by simpa using h.f4⟩
theorem B5.set2 {w : World} {E : Nat} {a b c d e : Value} (h : B5 w E a b c d e) (u : Value) : B5 (w.setCell ⟨E, 2, none⟩ u) E a b u d e :=
  ⟨by simpa using h.lt, (World.cell?_setCell_other _ _ _ _ (ne_off (by decide))).trans h.c0, (World.cell?_setCell_other _ _ _ _ (ne_off (by decide))).trans h.c1, World.cell?_setCell_same _ _ _ h.c2, (World.cell?_setCell_other _ _ _ _ (ne_off (by decide))).trans h.c3, (World.cell?_setCell_other _ _ _ _ (ne_off (by decide))).trans h.c4,
    by simpa using h.f0, by simpa using h.f1, by simpa using h.f2, by simpa using h.f3, by simpa using h.f4⟩
theorem B5.set3 {w : World} {E : Nat} {a b c d e : Value} (h : B5 w E a b c d e) (u : Value) : B5 (w.setCell ⟨E, 3, none⟩ u) E a b c u e :=
  ⟨by simpa using h.lt, (World.cell?_setCell_other _ _ _ _ (ne_off (by decide))).trans h.c0, (World.cell?_setCell_other _ _ _ _ (ne_off (by decide))).trans h.c1, (World.cell?_setCell_other _ _ _ _ (ne_off (by decide))).trans h.c2, World.cell?_setCell_same _ _ _ h.c3, (World.cell?_setCell_other _ _ _ _ (ne_off (by decide))).trans h.c4,
    by simpa using h.f0, by simpa using h.f1, by simpa using h.f2, by simpa using h.f3, by simpa using h.f4⟩
theorem B5.set4 {w : World} {E : Nat} {a b c d e : Value} (h : B5 w E a b c d e) (u : Value) : B5 (w.setCell ⟨E, 4, none⟩ u) E a b c d u :=
  ⟨by simpa using h.lt, (World.cell?_setCell_other _ _ _ _ (ne_off (by decide))).trans h.c0, (World.cell?_setCell_other _ _ _ _ (ne_off (by decide))).trans h.c1, (World.cell?_setCell_other _ _ _ _ (ne_off (by decide))).trans h.c2, (World.cell?_setCell_other _ _ _ _ (ne_off (by decide))).trans h.c3, World.cell?_setCell_same _ _ _ h.c4,
    by simpa using h.f0, by simpa using h.f1, by simpa using h.f2, by simpa using h.f3, by simpa using h.f4⟩
/-- Five cells written over. -/
abbrev over5 (w : World) (E : Nat) (a b c d e : Value) : World := ((((w.setCell ⟨E, 0, none⟩ a).setCell ⟨E, 1, none⟩ b).setCell ⟨E, 2, none⟩ c).setCell ⟨E, 3, none⟩ d).setCell ⟨E, 4, none⟩ e
theorem RS.over5 {w : World} {p E : Nat} {l : List UInt8} {s : Except Nat Nat} {x y : Int} {a0 c0 d0 e0 : Value} (h : RS w p l s) (hb : B5 w E a0 (.int .i64 x) c0 d0 e0) (hp : p < E) (a c d e : Value) : RS (over5 w E a (.int .i64 y) c d e) p l s := by
  have b0 : (w.setCell ⟨E, 0, none⟩ a).cell? ⟨E, 1, none⟩ = some (.int .i64 x) := (World.cell?_setCell_other _ _ _ _ (ne_off (by decide))).trans hb.c1
  have b1 : ((w.setCell ⟨E, 0, none⟩ a).setCell ⟨E, 1, none⟩ (.int .i64 y)).cell? ⟨E, 1, none⟩ = some (.int .i64 y) := World.cell?_setCell_same _ _ _ b0
  have b2 : (((w.setCell ⟨E, 0, none⟩ a).setCell ⟨E, 1, none⟩ (.int .i64 y)).setCell ⟨E, 2, none⟩ c).cell? ⟨E, 1, none⟩ = some (.int .i64 y) := (World.cell?_setCell_other _ _ _ _ (ne_off (by decide))).trans b1
  have b3 : ((((w.setCell ⟨E, 0, none⟩ a).setCell ⟨E, 1, none⟩ (.int .i64 y)).setCell ⟨E, 2, none⟩ c).setCell ⟨E, 3, none⟩ d).cell? ⟨E, 1, none⟩ = some (.int .i64 y) := (World.cell?_setCell_other _ _ _ _ (ne_off (by decide))).trans b2
  exact ((((h.setOther hp hb.c1 0 a).setOther hp b0 1 _).setOther hp b1 2 c).setOther hp b2 3 d).setOther hp b3 4 e
theorem Fq.over5 {p : Nat} {a0 w : World} (h : Fq p a0 w) {E : Nat} (hE : a0.heap.size ≤ E) (hp : p ≤ E) (a b c d e : Value) : Fq p a0 (over5 w E a b c d e) :=
  ((((h.setNew hE hp 0 a).setNew hE hp 1 b).setNew hE hp 2 c).setNew hE hp 3 d).setNew hE hp 4 e

theorem results_cell1 {fn : Func} {p : Tmp} {ty : TypeId} (h : fn.results = #[.cell p ty]) (tmps : Array Value) (P : Program) (w : World) :
    (results fn tmps).run P w = ((asAddr (tmps.getD p undef)).run P w).andThen fun a w₁ => (loadVar ty a).run P w₁ := by
  simp only [results, h]
  simp [Sem.run_bind, Result.andThen]

set_option maxHeartbeats 3200000 in
set_option maxRecDepth 100000 in
theorem rentry_none (p n0 : Nat) (kd : Int) (l : List UInt8) (s s0 s1 : Except Nat Nat) (w : World) (h : RS w p l s) (h0 : rdMax l s = (n0, s0)) (h1 : rdBetween l 0 1 s0 = (kd, s1)) (hk : kd ≠ 1) :
    Calls Tryz.prog 107 #[.pointer (some ⟨p, 0, none⟩)] w fun e w' => e = .returned (GE.agg ⟨n0, kd, 0, 0, ⟨#[]⟩⟩) ∧ RS w' p l s1 ∧ Fq p w w' := by
  have hp := h.lt
  have HR := hide (h.alloc (.cells #[.int .u64 0, .int .i64 0, .int .u64 0, .int .u64 0, .string ⟨#[]⟩] 37))
  have HN := hide (fun (W : World) (hW : RS W p l s) => rnumber_any p l s W hW)
  have HB := hide (fun (W : World) (hW : RS W p l s0) => rbetween_any p 0 1 l s0 W hW (by omega) (by omega) (by omega))
  have e0 : rdUp l 18446744073709551615 s = (n0, s0) := h0
  rw [e0] at HN
  rw [h1] at HB
  have hk' : (kd == 1) = false := by simpa using hk
  clear h h0 h1 e0 hk
  go_enter Tryz.func107, Tryz.ntmps107
  go_wp2_with (first
    | (go_at_call 124; refine (unhide HN _ (unhide HR)).mono ?_; rintro e w1 ⟨rfl, hr1, hf1⟩; have bR1 := hide ((B5.new w _ _ _ _ _ _).fq hf1 hp); have hp1 := hr1.lt)
    | (go_at_call 125; refine (unhide HB _ (hr1.alloc _)).mono ?_; rintro e w2 ⟨rfl, hr2, hf2⟩; have bE := (B5.new w1 _ _ _ _ _ _).fq hf2 hp1; have bR := ((unhide bR1).alloc _).fq hf2 hp; have BE := hide bE; have BR := hide bR; obtain ⟨hz1, x0, x1, x2, x3, x4, y0, y1, y2, y3, y4⟩ := bE; obtain ⟨hz2, u0, u1, u2, u3, u4, v0, v1, v2, v3, v4⟩ := bR; have hne : w1.heap.size ≠ w.heap.size := by have := (unhide bR1).lt; omega))
  have hz : w.heap.size ≤ w1.heap.size := Nat.le_of_lt (unhide bR1).lt
  refine bodyPost_ret (v := GE.agg ⟨n0, kd, 0, 0, ⟨#[]⟩⟩) ?_ rfl ⟨rfl, ?_, ?_⟩
  · rw [results_cell1 rfl]
    go_simp
    rfl
  · exact (hr2.setOther hp1 (unhide BE).c1 1 _).over5 ((unhide BR).other hne _) hp _ _ _ _
  · exact Fq.over5 (Fq.setNew ((((Fq.refl p w).alloc (by omega) _).trans hf1).trans (((Fq.refl p w1).alloc (by omega) _).trans hf2)) hz (by omega) 1 _) (Nat.le_refl _) (by omega) _ _ _ _ _

set_option maxHeartbeats 6400000 in
set_option maxRecDepth 100000 in
theorem rentry_cmd (p n0 n2 n3 : Nat) (S : List UInt8) (l : List UInt8) (s s0 s1 s2 s3 s4 : Except Nat Nat) (w : World) (h : RS w p l s) (h0 : rdMax l s = (n0, s0)) (h1 : rdBetween l 0 1 s0 = (1, s1)) (h2 : rdMax l s1 = (n2, s2)) (h3 : rdMax l s2 = (n3, s3)) (h4 : rdSql l s3 = (S, s4)) :
    Calls Tryz.prog 107 #[.pointer (some ⟨p, 0, none⟩)] w fun e w' => e = .returned (GE.agg ⟨n0, 1, n2, n3, ⟨S.toArray⟩⟩) ∧ RS w' p l s4 ∧ Fq p w w' := by
  have hp := h.lt
  have HR := hide (h.alloc (.cells #[.int .u64 0, .int .i64 0, .int .u64 0, .int .u64 0, .string ⟨#[]⟩] 37))
  have HN := hide (fun (W : World) (hW : RS W p l s) => rnumber_any p l s W hW)
  have HB := hide (fun (W : World) (hW : RS W p l s0) => rbetween_any p 0 1 l s0 W hW (by omega) (by omega) (by omega))
  have HN2 := hide (fun (W : World) (hW : RS W p l s1) => rnumber_any p l s1 W hW)
  have HN3 := hide (fun (W : World) (hW : RS W p l s2) => rnumber_any p l s2 W hW)
  have HT := hide (fun (W : World) (hW : RS W p l s3) => rtextN_any p 2000 l s3 W hW (by decide))
  have e0 : rdUp l 18446744073709551615 s = (n0, s0) := h0
  have e2 : rdUp l 18446744073709551615 s1 = (n2, s2) := h2
  have e3 : rdUp l 18446744073709551615 s2 = (n3, s3) := h3
  have e4 : rdData l 2000 s3 = (S, s4) := h4
  rw [e0] at HN
  rw [h1] at HB
  rw [e2] at HN2
  rw [e3] at HN3
  rw [e4] at HT
  clear h h0 h1 h2 h3 h4 e0 e2 e3 e4
  go_enter Tryz.func107, Tryz.ntmps107
  go_wp2_with (first
    | (go_at_call 124; refine (unhide HN _ (unhide HR)).mono ?_; rintro e w1 ⟨rfl, hr1, hf1⟩; have bR1 := hide ((B5.new w _ _ _ _ _ _).fq hf1 hp); have hp1 := hr1.lt; clear HN HR)
    | (go_at_call 125; refine (unhide HB _ (hr1.alloc _)).mono ?_; rintro e w2 ⟨rfl, hr2, hf2⟩; have BE2 := hide ((B5.new w1 _ _ _ _ _ _).fq hf2 hp1); have BR2 := hide (((unhide bR1).alloc _).fq hf2 hp); have hne : w1.heap.size ≠ w.heap.size := (by have := (unhide bR1).lt; omega); have x1 := (unhide BE2).c1; have y1 := (unhide BE2).f1)
    | (go_at_call 124; refine (unhide HN2 _ (hr2.setOther hp1 (unhide BE2).c1 1 (.int .i64 1))).mono ?_; rintro e w3 ⟨rfl, hr3, hf3⟩; clear HN2 x1 y1; have BE3 := hide (((unhide BE2).set1 _).fq hf3 hp1); have BR3 := hide (((unhide BR2).other hne _).fq hf3 hp); have x2 := (unhide BE3).c2; have y2 := (unhide BE3).f2)
    | (go_at_call 124; refine (unhide HN3 _ (hr3.setOther hp1 (unhide BE3).c1 2 (.int .u64 n2))).mono ?_; rintro e w4 ⟨rfl, hr4, hf4⟩; clear HN3 x2 y2; have BE4 := hide (((unhide BE3).set2 _).fq hf4 hp1); have BR4 := hide (((unhide BR3).other hne _).fq hf4 hp); have x3 := (unhide BE4).c3; have y3 := (unhide BE4).f3)
    | (go_at_call 126; refine (unhide HT _ (hr4.setOther hp1 (unhide BE4).c1 3 (.int .u64 n3))).mono ?_; rintro e w5 ⟨rfl, hr5, hf5⟩; clear HT x3 y3; have BE5 := hide (((unhide BE4).set3 _).fq hf5 hp1); have BR5 := hide (((unhide BR4).other hne _).fq hf5 hp); obtain ⟨hz1, x0, x1, x2, x3, x4, y0, y1, y2, y3, y4⟩ := unhide BE5; obtain ⟨hz2, u0, u1, u2, u3, u4, v0, v1, v2, v3, v4⟩ := unhide BR5))
  have hz : w.heap.size ≤ w1.heap.size := Nat.le_of_lt (unhide bR1).lt
  refine bodyPost_ret (v := GE.agg ⟨n0, 1, n2, n3, ⟨S.toArray⟩⟩) ?_ rfl ⟨rfl, ?_, ?_⟩
  · rw [results_cell1 rfl]
    go_simp
    rfl
  · exact (hr5.setOther hp1 (unhide BE5).c1 4 _).over5 ((unhide BR5).other hne _) hp _ _ _ _
  · have q2 := (((Fq.refl p w).alloc (by omega) _).trans hf1).trans (((Fq.refl p w1).alloc (by omega) _).trans hf2)
    have q3 := (q2.setNew hz (by omega) 1 _).trans hf3
    have q4 := (q3.setNew hz (by omega) 2 _).trans hf4
    have q5 := (q4.setNew hz (by omega) 3 _).trans hf5
    exact Fq.over5 (q5.setNew hz (by omega) 4 _) (Nat.le_refl _) (by omega) _ _ _ _ _

theorem rentry_any (p : Nat) (l : List UInt8) (s : Except Nat Nat) (w : World) (h : RS w p l s) :
    Calls Tryz.prog 107 #[.pointer (some ⟨p, 0, none⟩)] w fun e w' => e = .returned (rdEnt l s).1.agg ∧ RS w' p l (rdEnt l s).2 ∧ Fq p w w' := by
  unfold rdEnt
  by_cases hk : (rdBetween l 0 1 (rdMax l s).2).1 = 1
  · rw [if_pos hk]
    exact rentry_cmd p _ _ _ _ l s _ _ _ _ _ w h rfl (Prod.ext hk rfl) rfl rfl rfl
  · rw [if_neg hk]
    exact rentry_none p _ _ l s _ _ w h rfl rfl hk
end Go.Proofs.YtebiekkkmimomaaGreatDoor
