/- The program's reader of an entry. -/
import Derived.Test.YthphadbcebeoaaaGreatDoorJJointRdAllRefRowValsInLawWrites
import Derived.RegionTactic
import Derived.ChangeAlike
namespace Go.Proofs.YthphadbcebeoaaaGreatDoor
open Go.RowKit Go.Lib

/-- Bytes behind their number. -/
def rdData (l : List UInt8) (most : Nat) (s : Except Nat Nat) : List UInt8 × Except Nat Nat := rdTake l (rdBetween l 0 (most : Int) s).1.toNat (rdBetween l 0 (most : Int) s).2
theorem rdBetween_nat (l : List UInt8) (most : Nat) (s : Except Nat Nat) : ((rdBetween l 0 (most : Int) s).1.toNat : Int) = (rdBetween l 0 (most : Int) s).1 := by
  cases h : (rdBetween l 0 (most : Int) s).2 with
  | ok a => obtain ⟨n, e, _⟩ := rdBetween_ok (by omega) h; rw [e]; simp
  | error c => rw [rdBetween_err h]; rfl

set_option maxHeartbeats 1600000 in
theorem rdata_any (p most : Nat) (l : List UInt8) (s : Except Nat Nat) (w : World) (h : RS w p l s) (hm : most ≤ 1000000000) :
    Calls Tryz.prog 134 #[.pointer (some ⟨p, 0, none⟩), .int .i64 most] w fun e w' => ∃ v', e = .returned v' ∧ RBp w' p v' (rdData l most s).1 ∧ RS w' p l (rdData l most s).2 ∧ Fq p w w' := by
  have HB := hide (rbetween_any p 0 (most : Int) l s w h (by omega) (by omega) (by omega))
  have HT := hide (fun (n : Nat) (s' : Except Nat Nat) (W : World) (hW : RS W p l s') => rtake_any p n l s' W hW)
  unfold rdData
  have e := rdBetween_nat l most s
  generalize rdBetween l 0 (most : Int) s = r at *
  obtain ⟨r1, r2⟩ := r
  dsimp only at e ⊢ HB
  generalize r1.toNat = m at *
  subst e
  clear h
  go_enter Tryz.func134, Tryz.ntmps134
  go_wp2_with (first
    | (go_at_call 125; refine (unhide HB).mono ?_; rintro e w1 ⟨rfl, hr1, hf1⟩)
    | (go_at_call 140; refine (unhide HT m r2 _ hr1).mono ?_; rintro e w2 ⟨v2, rfl, hv2, hr2, hf2⟩))
  go_ret
  exact ⟨_, rfl, hv2, hr2, hf1.trans hf2⟩

set_option maxHeartbeats 1600000 in
theorem rtextN_any (p most : Nat) (l : List UInt8) (s : Except Nat Nat) (w : World) (h : RS w p l s) (hm : most ≤ 1000000000) :
    Calls Tryz.prog 126 #[.pointer (some ⟨p, 0, none⟩), .int .i64 most] w fun e w' => e = .returned (.string ⟨(rdData l most s).1.toArray⟩) ∧ RS w' p l (rdData l most s).2 ∧ Fq p w w' := by
  have HD := hide (rdata_any p most l s w h hm)
  generalize rdData l most s = r at *
  obtain ⟨r1, r2⟩ := r
  clear h
  go_enter Tryz.func126, Tryz.ntmps126
  go_wp2_with (first
    | (go_at_call 134; refine (unhide HD).mono ?_; rintro e w2 ⟨v2, rfl, hv2, hr2, hf2⟩; have hcv := conv_any _ _ _ _ hv2; clear hv2))
  go_ret
  exact ⟨rfl, hr2, hf2⟩

/-- Five cells of a variable of a call's own. -/
structure B5 (w : World) (E : Nat) (a b c d e : Value) : Prop where
  lt : E < w.heap.size
  c0 : w.cell? ⟨E, 0, none⟩ = some a
  c1 : w.cell? ⟨E, 1, none⟩ = some b
  c2 : w.cell? ⟨E, 2, none⟩ = some c
  c3 : w.cell? ⟨E, 3, none⟩ = some d
  c4 : w.cell? ⟨E, 4, none⟩ = some e
  f0 : w.frozen? ⟨E, 0, none⟩ = false
  f1 : w.frozen? ⟨E, 1, none⟩ = false
  f2 : w.frozen? ⟨E, 2, none⟩ = false
  f3 : w.frozen? ⟨E, 3, none⟩ = false
  f4 : w.frozen? ⟨E, 4, none⟩ = false
theorem B5.new (w : World) (T : TypeId) (a b c d e : Value) : B5 (w.alloc (.cells #[a, b, c, d, e] T)) w.heap.size a b c d e := by
  constructor <;> simp
theorem B5.fq {w w' : World} {p E : Nat} {a b c d e : Value} (h : B5 w E a b c d e) (hf : Fq p w w') (hp : p < E) : B5 w' E a b c d e := by
  have hne : E ≠ p := by omega
  exact ⟨Nat.lt_of_lt_of_le h.lt hf.1.size, (hf.cell (a := ⟨E, 0, none⟩) h.lt hne).trans h.c0, (hf.cell (a := ⟨E, 1, none⟩) h.lt hne).trans h.c1, (hf.cell (a := ⟨E, 2, none⟩) h.lt hne).trans h.c2, (hf.cell (a := ⟨E, 3, none⟩) h.lt hne).trans h.c3, (hf.cell (a := ⟨E, 4, none⟩) h.lt hne).trans h.c4,
    (hf.frozen (a := ⟨E, 0, none⟩) h.lt hne).trans h.f0, (hf.frozen (a := ⟨E, 1, none⟩) h.lt hne).trans h.f1, (hf.frozen (a := ⟨E, 2, none⟩) h.lt hne).trans h.f2, (hf.frozen (a := ⟨E, 3, none⟩) h.lt hne).trans h.f3, (hf.frozen (a := ⟨E, 4, none⟩) h.lt hne).trans h.f4⟩
theorem B5.alloc {w : World} {E : Nat} {a b c d e : Value} (h : B5 w E a b c d e) (o : Obj) : B5 (w.alloc o) E a b c d e := by
  have hl := h.lt
  have hne := Nat.ne_of_lt hl
  exact ⟨by simp; omega, (World.cell?_alloc_lt _ _ ⟨E, 0, none⟩ hl).trans h.c0, (World.cell?_alloc_lt _ _ ⟨E, 1, none⟩ hl).trans h.c1, (World.cell?_alloc_lt _ _ ⟨E, 2, none⟩ hl).trans h.c2, (World.cell?_alloc_lt _ _ ⟨E, 3, none⟩ hl).trans h.c3, (World.cell?_alloc_lt _ _ ⟨E, 4, none⟩ hl).trans h.c4,
    (World.frozen?_alloc_old _ _ ⟨E, 0, none⟩ hne).trans h.f0, (World.frozen?_alloc_old _ _ ⟨E, 1, none⟩ hne).trans h.f1, (World.frozen?_alloc_old _ _ ⟨E, 2, none⟩ hne).trans h.f2, (World.frozen?_alloc_old _ _ ⟨E, 3, none⟩ hne).trans h.f3, (World.frozen?_alloc_old _ _ ⟨E, 4, none⟩ hne).trans h.f4⟩
theorem ne_off {b i j : Nat} (h : i ≠ j) : (⟨b, i, none⟩ : Addr) ≠ ⟨b, j, none⟩ := by intro e; injection e; contradiction
theorem ne_blk {b c i j : Nat} (h : b ≠ c) : (⟨b, i, none⟩ : Addr) ≠ ⟨c, j, none⟩ := by intro e; injection e; contradiction
theorem B5.other {w : World} {E k j : Nat} {a b c d e : Value} (h : B5 w E a b c d e) (hk : k ≠ E) (u : Value) : B5 (w.setCell ⟨k, j, none⟩ u) E a b c d e :=
  ⟨by simpa using h.lt, (World.cell?_setCell_other _ _ _ _ (ne_blk hk)).trans h.c0, (World.cell?_setCell_other _ _ _ _ (ne_blk hk)).trans h.c1, (World.cell?_setCell_other _ _ _ _ (ne_blk hk)).trans h.c2, (World.cell?_setCell_other _ _ _ _ (ne_blk hk)).trans h.c3, (World.cell?_setCell_other _ _ _ _ (ne_blk hk)).trans h.c4,
    by simpa using h.f0, by simpa using h.f1, by simpa using h.f2, by simpa using h.f3, by simpa using h.f4⟩
theorem B5.set1 {w : World} {E : Nat} {a b c d e : Value} (h : B5 w E a b c d e) (u : Value) : B5 (w.setCell ⟨E, 1, none⟩ u) E a u c d e :=
  ⟨by simpa using h.lt, (World.cell?_setCell_other _ _ _ _ (ne_off (by decide))).trans h.c0, World.cell?_setCell_same _ _ _ h.c1, (World.cell?_setCell_other _ _ _ _ (ne_off (by decide))).trans h.c2, (World.cell?_setCell_other _ _ _ _ (ne_off (by decide))).trans h.c3, (World.cell?_setCell_other _ _ _ _ (ne_off (by decide))).trans h.c4,
    by simpa using h.f0, by simpa using h.f1, by simpa using h.f2, by simpa using h.f3, by simpa using h.f4⟩
theorem B5.set2 {w : World} {E : Nat} {a b c d e : Value} (h : B5 w E a b c d e) (u : Value) : B5 (w.setCell ⟨E, 2, none⟩ u) E a b u d e :=
  ⟨by simpa using h.lt, (World.cell?_setCell_other _ _ _ _ (ne_off (by decide))).trans h.c0, (World.cell?_setCell_other _ _ _ _ (ne_off (by decide))).trans h.c1, World.cell?_setCell_same _ _ _ h.c2, (World.cell?_setCell_other _ _ _ _ (ne_off (by decide))).trans h.c3, (World.cell?_setCell_other _ _ _ _ (ne_off (by decide))).trans h.c4,
    by simpa using h.f0, by simpa using h.f1, by simpa using h.f2, by simpa using h.f3, by simpa using h.f4⟩
theorem B5.set3 {w : World} {E : Nat} {a b c d e : Value} (h : B5 w E a b c d e) (u : Value) : B5 (w.setCell ⟨E, 3, none⟩ u) E a b c u e :=
  ⟨by simpa using h.lt, (World.cell?_setCell_other _ _ _ _ (ne_off (by decide))).trans h.c0, (World.cell?_setCell_other _ _ _ _ (ne_off (by decide))).trans h.c1, (World.cell?_setCell_other _ _ _ _ (ne_off (by decide))).trans h.c2, World.cell?_setCell_same _ _ _ h.c3, (World.cell?_setCell_other _ _ _ _ (ne_off (by decide))).trans h.c4,
    by simpa using h.f0, by simpa using h.f1, by simpa using h.f2, by simpa using h.f3, by simpa using h.f4⟩
theorem B5.set4 {w : World} {E : Nat} {a b c d e : Value} (h : B5 w E a b c d e) (u : Value) : B5 (w.setCell ⟨E, 4, none⟩ u) E a b c d u :=
  ⟨by simpa using h.lt, (World.cell?_setCell_other _ _ _ _ (ne_off (by decide))).trans h.c0, (World.cell?_setCell_other _ _ _ _ (ne_off (by decide))).trans h.c1, (World.cell?_setCell_other _ _ _ _ (ne_off (by decide))).trans h.c2, (World.cell?_setCell_other _ _ _ _ (ne_off (by decide))).trans h.c3, World.cell?_setCell_same _ _ _ h.c4,
    by simpa using h.f0, by simpa using h.f1, by simpa using h.f2, by simpa using h.f3, by simpa using h.f4⟩
/-- Five cells written over. -/
abbrev over5 (w : World) (E : Nat) (a b c d e : Value) : World := ((((w.setCell ⟨E, 0, none⟩ a).setCell ⟨E, 1, none⟩ b).setCell ⟨E, 2, none⟩ c).setCell ⟨E, 3, none⟩ d).setCell ⟨E, 4, none⟩ e
theorem RS.over5 {w : World} {p E : Nat} {l : List UInt8} {s : Except Nat Nat} {x y : Int} {a0 c0 d0 e0 : Value} (h : RS w p l s) (hb : B5 w E a0 (.int .i64 x) c0 d0 e0) (hp : p < E) (a c d e : Value) : RS (over5 w E a (.int .i64 y) c d e) p l s := by
  have b0 : (w.setCell ⟨E, 0, none⟩ a).cell? ⟨E, 1, none⟩ = some (.int .i64 x) := (World.cell?_setCell_other _ _ _ _ (ne_off (by decide))).trans hb.c1
  have b1 : ((w.setCell ⟨E, 0, none⟩ a).setCell ⟨E, 1, none⟩ (.int .i64 y)).cell? ⟨E, 1, none⟩ = some (.int .i64 y) := World.cell?_setCell_same _ _ _ b0
  have b2 : (((w.setCell ⟨E, 0, none⟩ a).setCell ⟨E, 1, none⟩ (.int .i64 y)).setCell ⟨E, 2, none⟩ c).cell? ⟨E, 1, none⟩ = some (.int .i64 y) := (World.cell?_setCell_other _ _ _ _ (ne_off (by decide))).trans b1
  have b3 : ((((w.setCell ⟨E, 0, none⟩ a).setCell ⟨E, 1, none⟩ (.int .i64 y)).setCell ⟨E, 2, none⟩ c).setCell ⟨E, 3, none⟩ d).cell? ⟨E, 1, none⟩ = some (.int .i64 y) := (World.cell?_setCell_other _ _ _ _ (ne_off (by decide))).trans b2
  exact ((((h.setOther hp hb.c1 0 a).setOther hp b0 1 _).setOther hp b1 2 c).setOther hp b2 3 d).setOther hp b3 4 e
theorem Fq.over5 {p : Nat} {a0 w : World} (h : Fq p a0 w) {E : Nat} (hE : a0.heap.size ≤ E) (hp : p ≤ E) (a b c d e : Value) : Fq p a0 (over5 w E a b c d e) :=
  ((((h.setNew hE hp 0 a).setNew hE hp 1 b).setNew hE hp 2 c).setNew hE hp 3 d).setNew hE hp 4 e

theorem results_cell1 {fn : Func} {p : Tmp} {ty : TypeId} (h : fn.results = #[.cell p ty]) (tmps : Array Value) (P : Program) (w : World) :
    (results fn tmps).run P w = ((asAddr (tmps.getD p undef)).run P w).andThen fun a w₁ => (loadVar ty a).run P w₁ := by
  simp only [results, h]
  simp [Sem.run_bind, Result.andThen]

set_option maxHeartbeats 3200000 in
set_option maxRecDepth 100000 in
theorem rentry_none (p n0 : Nat) (kd : Int) (l : List UInt8) (s s0 s1 : Except Nat Nat) (w : World) (h : RS w p l s) (h0 : rdMax l s = (n0, s0)) (h1 : rdBetween l 0 1 s0 = (kd, s1)) (hk : kd ≠ 1) :
    Calls Tryz.prog 107 #[.pointer (some ⟨p, 0, none⟩)] w fun e w' => e = .returned (GE.agg ⟨n0, kd, 0, 0, ⟨#[]⟩⟩) ∧ RS w' p l s1 ∧ Fq p w w' := by
  have hp := h.lt
  have HR := hide (h.alloc (.cells #[.int .u64 0, .int .i64 0, .int .u64 0, .int .u64 0, .string ⟨#[]⟩] 37))
  have HN := hide (fun (W : World) (hW : RS W p l s) => rnumber_any p l s W hW)
  have HB := hide (fun (W : World) (hW : RS W p l s0) => rbetween_any p 0 1 l s0 W hW (by omega) (by omega) (by omega))
  have e0 : rdUp l 18446744073709551615 s = (n0, s0) := h0
  rw [e0] at HN
  rw [h1] at HB
  have hk' : (kd == 1) = false := by simpa using hk
  clear h h0 h1 e0 hk
  go_enter Tryz.func107, Tryz.ntmps107
  go_wp2_with (first
    | (go_at_call 124; refine (unhide HN _ (unhide HR)).mono ?_; rintro e w1 ⟨rfl, hr1, hf1⟩; have bR1 := hide ((B5.new w _ _ _ _ _ _).fq hf1 hp); have hp1 := hr1.lt)
    | (go_at_call 125; refine (unhide HB _ (hr1.alloc _)).mono ?_; rintro e w2 ⟨rfl, hr2, hf2⟩; have bE := (B5.new w1 _ _ _ _ _ _).fq hf2 hp1; have bR := ((unhide bR1).alloc _).fq hf2 hp; have BE := hide bE; have BR := hide bR; obtain ⟨hz1, x0, x1, x2, x3, x4, y0, y1, y2, y3, y4⟩ := bE; obtain ⟨hz2, u0, u1, u2, u3, u4, v0, v1, v2, v3, v4⟩ := bR; have hne : w1.heap.size ≠ w.heap.size := by have := (unhide bR1).lt; omega))
  have hz : w.heap.size ≤ w1.heap.size := Nat.le_of_lt (unhide bR1).lt
  refine bodyPost_ret (v := GE.agg ⟨n0, kd, 0, 0, ⟨#[]⟩⟩) ?_ rfl ⟨rfl, ?_, ?_⟩
  · rw [results_cell1 rfl]
    go_simp
    rfl
  · exact (hr2.setOther hp1 (unhide BE).c1 1 _).over5 ((unhide BR).other hne _) hp _ _ _ _
  · exact Fq.over5 (Fq.setNew ((((Fq.refl p w).alloc (by omega) _).trans hf1).trans (((Fq.refl p w1).alloc (by omega) _).trans hf2)) hz (by omega) 1 _) (Nat.le_refl _) (by omega) _ _ _ _ _

set_option maxHeartbeats 6400000 in
set_option maxRecDepth 100000 in
theorem rentry_cmd (p n0 n2 n3 : Nat) (S : List UInt8) (l : List UInt8) (s s0 s1 s2 s3 s4 : Except Nat Nat) (w : World) (h : RS w p l s) (h0 : rdMax l s = (n0, s0)) (h1 : rdBetween l 0 1 s0 = (1, s1)) (h2 : rdMax l s1 = (n2, s2)) (h3 : rdMax l s2 = (n3, s3)) (h4 : rdSql l s3 = (S, s4)) :
    Calls Tryz.prog 107 #[.pointer (some ⟨p, 0, none⟩)] w fun e w' => e = .returned (GE.agg ⟨n0, 1, n2, n3, ⟨S.toArray⟩⟩) ∧ RS w' p l s4 ∧ Fq p w w' := by
  have hp := h.lt
  have HR := hide (h.alloc (.cells #[.int .u64 0, .int .i64 0, .int .u64 0, .int .u64 0, .string ⟨#[]⟩] 37))
  have HN := hide (fun (W : World) (hW : RS W p l s) => rnumber_any p l s W hW)
  have HB := hide (fun (W : World) (hW : RS W p l s0) => rbetween_any p 0 1 l s0 W hW (by omega) (by omega) (by omega))
  have HN2 := hide (fun (W : World) (hW : RS W p l s1) => rnumber_any p l s1 W hW)
  have HN3 := hide (fun (W : World) (hW : RS W p l s2) => rnumber_any p l s2 W hW)
  have HT := hide (fun (W : World) (hW : RS W p l s3) => rtextN_any p 2000 l s3 W hW (by decide))
  have e0 : rdUp l 18446744073709551615 s = (n0, s0) := h0
  have e2 : rdUp l 18446744073709551615 s1 = (n2, s2) := h2
  have e3 : rdUp l 18446744073709551615 s2 = (n3, s3) := h3
  have e4 : rdData l 2000 s3 = (S, s4) := h4
  rw [e0] at HN
  rw [h1] at HB
  rw [e2] at HN2
  rw [e3] at HN3
  rw [e4] at HT
  clear h h0 h1 h2 h3 h4 e0 e2 e3 e4
  go_enter Tryz.func107, Tryz.ntmps107
  go_wp2_with (first
    | (go_at_call 124; refine (unhide HN _ (unhide HR)).mono ?_; rintro e w1 ⟨rfl, hr1, hf1⟩; have bR1 := hide ((B5.new w _ _ _ _ _ _).fq hf1 hp); have hp1 := hr1.lt; clear HN HR)
    | (go_at_call 125; refine (unhide HB _ (hr1.alloc _)).mono ?_; rintro e w2 ⟨rfl, hr2, hf2⟩; have BE2 := hide ((B5.new w1 _ _ _ _ _ _).fq hf2 hp1); have BR2 := hide (((unhide bR1).alloc _).fq hf2 hp); have hne : w1.heap.size ≠ w.heap.size := (by have := (unhide bR1).lt; omega); have x1 := (unhide BE2).c1; have y1 := (unhide BE2).f1)
    | (go_at_call 124; refine (unhide HN2 _ (hr2.setOther hp1 (unhide BE2).c1 1 (.int .i64 1))).mono ?_; rintro e w3 ⟨rfl, hr3, hf3⟩; clear HN2 x1 y1; have BE3 := hide (((unhide BE2).set1 _).fq hf3 hp1); have BR3 := hide (((unhide BR2).other hne _).fq hf3 hp); have x2 := (unhide BE3).c2; have y2 := (unhide BE3).f2)
    | (go_at_call 124; refine (unhide HN3 _ (hr3.setOther hp1 (unhide BE3).c1 2 (.int .u64 n2))).mono ?_; rintro e w4 ⟨rfl, hr4, hf4⟩; clear HN3 x2 y2; have BE4 := hide (((unhide BE3).set2 _).fq hf4 hp1); have BR4 := hide (((unhide BR3).other hne _).fq hf4 hp); have x3 := (unhide BE4).c3; have y3 := (unhide BE4).f3)
    | (go_at_call 126; refine (unhide HT _ (hr4.setOther hp1 (unhide BE4).c1 3 (.int .u64 n3))).mono ?_; rintro e w5 ⟨rfl, hr5, hf5⟩; clear HT x3 y3; have BE5 := hide (((unhide BE4).set3 _).fq hf5 hp1); have BR5 := hide (((unhide BR4).other hne _).fq hf5 hp); obtain ⟨hz1, x0, x1, x2, x3, x4, y0, y1, y2, y3, y4⟩ := unhide BE5; obtain ⟨hz2, u0, u1, u2, u3, u4, v0, v1, v2, v3, v4⟩ := unhide BR5))
  have hz : w.heap.size ≤ w1.heap.size := Nat.le_of_lt (unhide bR1).lt
  refine bodyPost_ret (v := GE.agg ⟨n0, 1, n2, n3, ⟨S.toArray⟩⟩) ?_ rfl ⟨rfl, ?_, ?_⟩
  · rw [results_cell1 rfl]
    go_simp
    rfl
  · exact (hr5.setOther hp1 (unhide BE5).c1 4 _).over5 ((unhide BR5).other hne _) hp _ _ _ _
  · have q2 := (((Fq.refl p w).alloc (by omega) _).trans hf1).trans (((Fq.refl p w1).alloc (by omega) _).trans hf2)
    have q3 := (q2.setNew hz (by omega) 1 _).trans hf3
    have q4 := (q3.setNew hz (by omega) 2 _).trans hf4
    have q5 := (q4.setNew hz (by omega) 3 _).trans hf5
    exact Fq.over5 (q5.setNew hz (by omega) 4 _) (Nat.le_refl _) (by omega) _ _ _ _ _

theorem rentry_any (p : Nat) (l : List UInt8) (s : Except Nat Nat) (w : World) (h : RS w p l s) :
    Calls Tryz.prog 107 #[.pointer (some ⟨p, 0, none⟩)] w fun e w' => e = .returned (rdEnt l s).1.agg ∧ RS w' p l (rdEnt l s).2 ∧ Fq p w w' := by
  unfold rdEnt
  by_cases hk : (rdBetween l 0 1 (rdMax l s).2).1 = 1
  · rw [if_pos hk]
    exact rentry_cmd p _ _ _ _ l s _ _ _ _ _ w h rfl (Prod.ext hk rfl) rfl rfl rfl
  · rw [if_neg hk]
    exact rentry_none p _ _ l s _ _ w h rfl rfl hk
end Go.Proofs.YthphadbcebeoaaaGreatDoor
/- wire.Entry, at all bytes. -/
namespace Go.Proofs.YthphadbcebeoaaaGreatDoor
open Go.RowKit Go.Lib

theorem B5.fq' {w w' : World} {p E : Nat} {a b c d e : Value} (h : B5 w E a b c d e) (hf : Fq p w w') (hne : E ≠ p) : B5 w' E a b c d e := by
  exact ⟨Nat.lt_of_lt_of_le h.lt hf.1.size, (hf.cell (a := ⟨E, 0, none⟩) h.lt hne).trans h.c0, (hf.cell (a := ⟨E, 1, none⟩) h.lt hne).trans h.c1, (hf.cell (a := ⟨E, 2, none⟩) h.lt hne).trans h.c2, (hf.cell (a := ⟨E, 3, none⟩) h.lt hne).trans h.c3, (hf.cell (a := ⟨E, 4, none⟩) h.lt hne).trans h.c4,
    (hf.frozen (a := ⟨E, 0, none⟩) h.lt hne).trans h.f0, (hf.frozen (a := ⟨E, 1, none⟩) h.lt hne).trans h.f1, (hf.frozen (a := ⟨E, 2, none⟩) h.lt hne).trans h.f2, (hf.frozen (a := ⟨E, 3, none⟩) h.lt hne).trans h.f3, (hf.frozen (a := ⟨E, 4, none⟩) h.lt hne).trans h.f4⟩

theorem ErrAt.set {w : World} {b k : Nat} {p c : Int} (h : ErrAt w b p c) (hk : k ≠ b) (j : Nat) (u : Value) : ErrAt (w.setCell ⟨k, j, none⟩ u) b p c :=
  ⟨(World.cell?_setCell_other _ _ _ _ (ne_blk hk)).trans h.1, (World.cell?_setCell_other _ _ _ _ (ne_blk hk)).trans h.2⟩
/-- What wire.Entry tells. -/
def EntPost (r : GE × Except Nat Nat) (w : World) (e : Ending) (w' : World) : Prop :=
  match r.2 with
  | .ok b => e = .returned (.tuple #[r.1.agg, .int .i64 (b : Int), .nilIface]) ∧ Below w.heap.size w w'
  | .error c => ∃ b pl, e = .returned (.tuple #[zE.agg, .int .i64 0, ev b]) ∧ ErrAt w' b pl (c : Int) ∧ Below w.heap.size w w'

set_option maxHeartbeats 3200000 in
set_option maxRecDepth 100000 in
theorem entry_any (v : Value) (l : List UInt8) (w : World) (hE : ET w) (hv : RBp w w.heap.size v l) :
    Calls Tryz.prog 94 #[v] w fun e w' => EntPost (rdEnt l (.ok 0)) w e w' := by
  have hb0 := below_alloc (B := w.heap.size) (.cells #[.int .u64 0, .int .i64 0, .int .u64 0, .int .u64 0, .string ⟨#[]⟩] 37) (Nat.le_refl w.heap.size)
  have hE0 := hE.below hb0 hE.lt
  have hv0 : RBp (w.alloc (.cells #[.int .u64 0, .int .i64 0, .int .u64 0, .int .u64 0, .string ⟨#[]⟩] 37)) (w.alloc (.cells #[.int .u64 0, .int .i64 0, .int .u64 0, .int .u64 0, .string ⟨#[]⟩] 37)).heap.size v l := rb_later hv hb0 hb0.size
  have hrs := RS.new _ v l hE0 hv0
  have hsz : (w.alloc (.cells #[.int .u64 0, .int .i64 0, .int .u64 0, .int .u64 0, .string ⟨#[]⟩] 37)).heap.size = w.heap.size + 1 := by simp
  rw [hsz] at hrs
  have HR := hide (rentry_any (w.heap.size + 1) l (.ok 0) _ hrs)
  have HB5 := hide ((B5.new w 37 (.int .u64 0) (.int .i64 0) (.int .u64 0) (.int .u64 0) (.string ⟨#[]⟩)).alloc (.cells #[v, .int .i64 0, .nilIface] 193))
  have HB := hide (hb0.alloc hb0.size (.cells #[v, .int .i64 0, .nilIface] 193))
  obtain ⟨av, kv, rfl⟩ := rb_len hv
  generalize rdEnt l (.ok 0) = r at *
  obtain ⟨g, s⟩ := r
  clear hE hv hE0 hv0 hrs hsz hb0
  unfold GE.agg GE.cells at HR
  cases s with
  | ok b =>
    go_enter Tryz.func94, Tryz.ntmps94
    go_wp2_with (first | (go_at_call 107; refine (unhide HR).mono ?_; rintro e w1 ⟨rfl, hr1, hf1⟩; obtain ⟨k1, k2, _⟩ := hr1.cells_ok; have hp1 := hr1.lt; have bR := ((unhide HB5).fq' hf1 (by omega)); obtain ⟨hz2, u0, u1, u2, u3, u4, v0, v1, v2, v3, v4⟩ := bR; have hb1 := hide ((unhide HB).trans (hf1.1.mono (by omega))); clear HR hf1 hr1))
    go_region
    all_goals (try go_wp2)
    (try simp only [Exit.inBlock, Exit.then])
    refine bodyPost_ret (v := .tuple #[g.agg, .int .i64 (b : Int), .nilIface]) ?_ rfl ⟨rfl, ?_⟩
    · rw [results_cell3 rfl]
      go_simp
      rfl
    · exact ((((((unhide hb1).setCell (p := ⟨w.heap.size, 0, none⟩) (Nat.le_refl _) _).setCell (p := ⟨w.heap.size, 1, none⟩) (Nat.le_refl _) _).setCell (p := ⟨w.heap.size, 2, none⟩) (Nat.le_refl _) _).setCell (p := ⟨w.heap.size, 3, none⟩) (Nat.le_refl _) _).setCell (p := ⟨w.heap.size, 4, none⟩) (Nat.le_refl _) _).alloc (by simp; omega) _ |>.drew
  | error c =>
    go_enter Tryz.func94, Tryz.ntmps94
    go_wp2_with (first | (go_at_call 107; refine (unhide HR).mono ?_; rintro e w1 ⟨rfl, hr1, hf1⟩; have hp1 := hr1.lt; obtain ⟨_, _, _, _, _, a', b', pl, _, _, k2, k3, k4⟩ := hr1; have HE := hide k4; clear k4; have bR := ((unhide HB5).fq' hf1 (by omega)); obtain ⟨hz2, u0, u1, u2, u3, u4, v0, v1, v2, v3, v4⟩ := bR; have hb1 := hide ((unhide HB).trans (hf1.1.mono (by omega))); clear HR hf1))
    go_region
    (try go_wp2)
    (try simp only [Exit.inBlock, Exit.then])
    refine bodyPost_ret (v := .tuple #[zE.agg, .int .i64 0, ev b']) ?_ rfl ⟨b', pl, rfl, ?_, ?_⟩
    · unfold zE GE.agg GE.cells
      rw [results_cell3 rfl]
      go_simp
    · have hne : w.heap.size ≠ b' := by omega
      exact (((((((unhide HE).set hne 0 _).set hne 1 _).set hne 2 _).set hne 3 _).set hne 4 _).alloc _).drew
    · exact ((((((unhide hb1).setCell (p := ⟨w.heap.size, 0, none⟩) (Nat.le_refl _) _).setCell (p := ⟨w.heap.size, 1, none⟩) (Nat.le_refl _) _).setCell (p := ⟨w.heap.size, 2, none⟩) (Nat.le_refl _) _).setCell (p := ⟨w.heap.size, 3, none⟩) (Nat.le_refl _) _).setCell (p := ⟨w.heap.size, 4, none⟩) (Nat.le_refl _) _).alloc (by simp; omega) _ |>.drew
end Go.Proofs.YthphadbcebeoaaaGreatDoor
/- The document's own reader of an entry; it and the program's tell the same. -/
namespace Go.Proofs.YthphadbcebeoaaaGreatDoor
open Go.RowKit Go.Lib

/-- What it tells. -/
def ER (r : GE × Nat × Nat) : Ending := .returned (.tuple #[r.1.agg, .int .i64 (r.2.1 : Int), .int .i64 (r.2.2 : Int)])
/-- The world in which it has laid its two variables. -/
abbrev twoE (w : World) (t : Nat) (k : Int) (c q : Nat) : World := (w.alloc (.cells #[.int .u64 0, .int .i64 0, .int .u64 0, .int .u64 0, .string ⟨#[]⟩] 37)).alloc (.cells #[.int .u64 t, .int .i64 k, .int .u64 c, .int .u64 q, .string ⟨#[]⟩] 37)
theorem twoE_below (w : World) (t : Nat) (k : Int) (c q : Nat) : Below w.heap.size w (twoE w t k c q) := by
  repeat' (first | exact Below.refl _ _ | refine Below.alloc ?_ (by simp) _)

end Go.Proofs.YthphadbcebeoaaaGreatDoor
namespace Go.Proofs.YthphadbcebeoaaaGreatDoor
open Go.RowKit Go.Lib

end Go.Proofs.YthphadbcebeoaaaGreatDoor
namespace Go.Proofs.YthphadbcebeoaaaGreatDoor
open Go.RowKit Go.Lib

end Go.Proofs.YthphadbcebeoaaaGreatDoor
namespace Go.Proofs.YthphadbcebeoaaaGreatDoor
open Go.RowKit Go.Lib

theorem getD_drop {l r : List UInt8} {a : Nat} {c : UInt8} (h : l.drop a = c :: r) : l.getD a 0 = c := by
  have h2 : (l.drop a)[0]? = some c := by rw [h]; rfl
  rw [List.getElem?_drop, Nat.add_zero] at h2
  simp [List.getD_eq_getElem?_getD, h2]
theorem refTxt_ok {m S : List UInt8} {k : Nat} (h : refTxt m 2000 = (S, k, 0)) : k ≤ m.length := by
  unfold refTxt at h
  rcases decU_cases m with ⟨n', k', hd, _, h8, h9⟩ | ⟨q', hd⟩ | ⟨q', hd, _⟩
  · rw [hd] at h
    simp only [if_true] at h
    split at h
    · simp at h
    · split at h
      · simp at h
      · simp at h; omega
  · rw [hd] at h; simp at h
  · rw [hd] at h; simp at h

end Go.Proofs.YthphadbcebeoaaaGreatDoor
namespace Go.Proofs.YthphadbcebeoaaaGreatDoor
open Go.RowKit Go.Lib

theorem ent_same (l : List UInt8) : (∀ g k, refEnt l = (g, k, 0) → rdEnt l (.ok 0) = (g, .ok k)) ∧ (∀ g k c, refEnt l = (g, k, c) → c ≠ 0 → (rdEnt l (.ok 0)).2 = .error c ∧ g = zE ∧ k = 0) := by
  have fin : ∀ (x : GE × Except Nat Nat) (g : GE) (k : Nat), refEnt l = (g, k, 0) → x = (g, .ok k) → (∀ g k, refEnt l = (g, k, 0) → x = (g, .ok k)) ∧ (∀ g k c, refEnt l = (g, k, c) → c ≠ 0 → x.2 = .error c ∧ g = zE ∧ k = 0) := by
    intro x g k e h
    refine ⟨fun g' k' e' => ?_, fun g' k' c' e' hc => ?_⟩
    · rw [e] at e'; simp only [Prod.mk.injEq] at e'; obtain ⟨rfl, rfl, _⟩ := e'; exact h
    · rw [e] at e'; simp only [Prod.mk.injEq] at e'; exact absurd e'.2.2.symm hc
  have fer : ∀ (x : GE × Except Nat Nat) (c : Nat), c ≠ 0 → refEnt l = (zE, 0, c) → x.2 = .error c → (∀ g k, refEnt l = (g, k, 0) → x = (g, .ok k)) ∧ (∀ g k c, refEnt l = (g, k, c) → c ≠ 0 → x.2 = .error c ∧ g = zE ∧ k = 0) := by
    intro x c hc e h
    refine ⟨fun g' k' e' => ?_, fun g' k' c' e' _ => ?_⟩
    · rw [e] at e'; simp only [Prod.mk.injEq] at e'; exact absurd e'.2.2 hc
    · rw [e] at e'; simp only [Prod.mk.injEq] at e'; obtain ⟨rfl, rfl, rfl⟩ := e'; exact ⟨h, rfl, rfl⟩
  have bad : ∀ c q, c ≠ 0 → decU l = (0, 0, c, q) → (∀ g k, refEnt l = (g, k, 0) → rdEnt l (.ok 0) = (g, .ok k)) ∧ (∀ g k c, refEnt l = (g, k, c) → c ≠ 0 → (rdEnt l (.ok 0)).2 = .error c ∧ g = zE ∧ k = 0) := by
    intro c q hc hd
    have m0 : rdMax l (.ok 0) = (0, .error c) := by have := rdMax_ok (l := l) (a := 0) hd; simpa [hc] using this
    refine fer _ c hc (by simp [refEnt, hd, hc]) ?_
    simp [rdEnt, m0, rdB_err]
  rcases decU_cases l with ⟨t, a, hd, _, hal, ha0⟩ | ⟨q, hd⟩ | ⟨q, hd, _⟩
  rotate_left
  · exact bad 20 q (by decide) hd
  · exact bad 22 q (by decide) hd
  have m0 : rdMax l (.ok 0) = (t, .ok a) := by have := rdMax_ok (l := l) (a := 0) hd; simpa using this
  cases hdr : l.drop a with
  | nil =>
    have b1 : rdBetween l 0 1 (.ok a) = (0, .error 22) := rdB_nil (hi := 1) hdr
    refine fer _ 22 (by decide) (by simp [refEnt, hd, hdr]) ?_
    simp [rdEnt, m0, b1]
  | cons kb r =>
    obtain ⟨h1, hlt, hr⟩ := drop_cons hdr
    have b1 : rdBetween l 0 1 (.ok a) = if kb.toNat ≤ 1 then ((kb.toNat : Int), .ok (a + 1)) else (0, .error 20) := rdB_small (hi := 1) (by decide) hdr
    by_cases k0 : kb.toNat = 0
    · refine fin _ _ _ (by simp [refEnt, hd, hdr, k0]; exact ⟨rfl, rfl⟩) ?_
      rw [k0] at b1
      simp at b1
      simp [rdEnt, m0, b1]
    by_cases k1 : kb.toNat ≠ 1
    · rw [if_neg (by omega)] at b1
      refine fer _ 20 (by decide) (by simp [refEnt, hd, hdr, k0, k1]) ?_
      simp [rdEnt, m0, b1]
    have k1 : kb.toNat = 1 := by omega
    rw [k1] at b1
    simp at b1
    have bad1 : ∀ c q, c ≠ 0 → decU r = (0, 0, c, q) → (∀ g k, refEnt l = (g, k, 0) → rdEnt l (.ok 0) = (g, .ok k)) ∧ (∀ g k c, refEnt l = (g, k, c) → c ≠ 0 → (rdEnt l (.ok 0)).2 = .error c ∧ g = zE ∧ k = 0) := by
      intro c q hc hd1
      have m1 : rdMax l (.ok (a + 1)) = (0, .error c) := by have := rdMax_ok (l := l) (a := a + 1) (n := 0) (k := 0) (c := c) (q := q) (by rw [h1, hd1]); simpa [hc] using this
      refine fer _ c hc (by simp [refEnt, hd, hdr, k1, hd1, hc]) ?_
      simp [rdEnt, m0, b1, m1, rdMax_err, rdSql_err]
    rcases decU_cases r with ⟨c, n1, hd1, _, hn1, hn10⟩ | ⟨q, hd1⟩ | ⟨q, hd1, _⟩
    rotate_left
    · exact bad1 20 q (by decide) hd1
    · exact bad1 22 q (by decide) hd1
    have m1 : rdMax l (.ok (a + 1)) = (c, .ok (a + 1 + n1)) := by have := rdMax_ok (l := l) (a := a + 1) (n := c) (k := n1) (c := 0) (q := 0) (by rw [h1, hd1]); simpa using this
    have e2 : r.drop n1 = l.drop (a + 1 + n1) := by rw [← h1, List.drop_drop]
    have bad2 : ∀ x q, x ≠ 0 → decU (r.drop n1) = (0, 0, x, q) → (∀ g k, refEnt l = (g, k, 0) → rdEnt l (.ok 0) = (g, .ok k)) ∧ (∀ g k c, refEnt l = (g, k, c) → c ≠ 0 → (rdEnt l (.ok 0)).2 = .error c ∧ g = zE ∧ k = 0) := by
      intro x q hx hd2
      have m2 : rdMax l (.ok (a + 1 + n1)) = (0, .error x) := by have := rdMax_ok (l := l) (a := a + 1 + n1) (n := 0) (k := 0) (c := x) (q := q) (by rw [← e2, hd2]); simpa [hx] using this
      refine fer _ x hx (by simp [refEnt, hd, hdr, k1, hd1, hd2, hx]) ?_
      simp [rdEnt, m0, b1, m1, m2, rdSql_err]
    rcases decU_cases (r.drop n1) with ⟨q, n2, hd2, _, hn2, hn20⟩ | ⟨q, hd2⟩ | ⟨q, hd2, _⟩
    rotate_left
    · exact bad2 20 q (by decide) hd2
    · exact bad2 22 q (by decide) hd2
    have m2 : rdMax l (.ok (a + 1 + n1)) = (q, .ok (a + 1 + n1 + n2)) := by have := rdMax_ok (l := l) (a := a + 1 + n1) (n := q) (k := n2) (c := 0) (q := 0) (by rw [← e2, hd2]); simpa using this
    have e3 : (r.drop n1).drop n2 = l.drop (a + 1 + n1 + n2) := by rw [e2, List.drop_drop]
    have hle3 : a + 1 + n1 + n2 ≤ l.length := by simp at hn2; omega
    have hs := rdSql_ok l (a + 1 + n1 + n2) hle3
    rw [← e3] at hs
    generalize hmm : (r.drop n1).drop n2 = m at hs
    cases htw : twoMore m with
    | true =>
      rw [htw, if_pos rfl] at hs
      have := hs.2 (by decide)
      refine fer _ 20 (by decide) (by simp [refEnt, hd, hdr, k1, hd1, hd2, -List.drop_drop, hmm, htw]) ?_
      simp [rdEnt, m0, b1, m1, m2, this]
    | false =>
      rw [htw, if_neg (by decide)] at hs
      obtain ⟨S, n3, x3, ht⟩ : ∃ S n3 x3, refTxt m 2000 = (S, n3, x3) := ⟨_, _, _, rfl⟩
      rw [ht] at hs
      by_cases hx3 : x3 = 0
      · subst hx3
        have := (hs.1 rfl).1
        dsimp only at this
        refine fin _ ⟨t, 1, c, q, ⟨S.toArray⟩⟩ (a + 1 + n1 + n2 + n3) (by simp [refEnt, hd, hdr, k1, hd1, hd2, -List.drop_drop, hmm, htw, ht]) ?_
        simp [rdEnt, m0, b1, m1, m2, this]
      · have := hs.2 hx3
        dsimp only at this
        refine fer _ x3 hx3 (by simp [refEnt, hd, hdr, k1, hd1, hd2, -List.drop_drop, hmm, htw, ht, hx3]) ?_
        simp [rdEnt, m0, b1, m1, m2, this]
end Go.Proofs.YthphadbcebeoaaaGreatDoor
