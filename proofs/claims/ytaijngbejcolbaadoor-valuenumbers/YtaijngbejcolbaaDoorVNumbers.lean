/- ValueNumbers: its walk. -/
import Derived.Test.YtaijngbejcolbaaDoorVKnown
namespace Go.Proofs.YtaijngbejcolbaaDoor
open Go.RowKit Go.Lib

theorem int_may (n : Int) : GV.may ⟨2, n, ⟨#[]⟩⟩ = true := by
  simp [GV.may]
theorem do_int_ok {op a b n : Int} (ho : operG op = 2) (h1 : op ≠ 1) (h : reckG op a b = (n, 0)) : doG op ⟨2, a, ⟨#[]⟩⟩ ⟨2, b, ⟨#[]⟩⟩ = (⟨2, n, ⟨#[]⟩⟩, 0) := by
  unfold doG
  simp only [if_neg h1, int_may, ho, h]
  rw [if_neg (by simp), if_neg (by simp), if_neg (by simp), if_neg (by simp), if_pos trivial]
theorem do_int_err {op a b m c : Int} (ho : operG op = 2) (h1 : op ≠ 1) (h : reckG op a b = (m, c)) (hc : c ≠ 0) : doG op ⟨2, a, ⟨#[]⟩⟩ ⟨2, b, ⟨#[]⟩⟩ = (⟨0, 0, ⟨#[]⟩⟩, c) := by
  unfold doG
  simp only [if_neg h1, int_may, ho, h]
  rw [if_neg (by simp), if_neg (by simp), if_neg (by simp), if_neg (by simp), if_neg hc]
  rfl
theorem fit_in {n : Int} (h : -9223372036854775808 ≤ n ∧ n < 9223372036854775808) : fitG n = (n, 0) := if_pos h
theorem fit_out {n : Int} (h : ¬ (-9223372036854775808 ≤ n ∧ n < 9223372036854775808)) : fitG n = (0, 6) := if_neg h
theorem reck_11 (a b : Int) : reckG 11 a b = fitG (a + b) := by simp [reckG]
theorem reck_12 (a b : Int) : reckG 12 a b = fitG (a - b) := by simp [reckG]
theorem reck_13 (a b : Int) : reckG 13 a b = fitG (a * b) := by simp [reckG]
theorem reck_14 {a b : Int} (h : b ≠ 0) : reckG 14 a b = fitG (a.tdiv b) := by simp [reckG, h]
theorem reck_15 {a b : Int} (h : b ≠ 0) : reckG 15 a b = (a.tmod b, 0) := by simp [reckG, h]
theorem reck_140 (a : Int) : reckG 14 a 0 = (0, 7) := by simp [reckG]
theorem reck_150 (a : Int) : reckG 15 a 0 = (0, 7) := by simp [reckG]
/-- Do of integers, as the walk asks for it. -/
abbrev DoI (op a b k n : Int) (v : Value) : Prop := ∀ W : World, Calls Tryd.prog 18 #[.int .i64 op, .agg #[.int .i64 2, .int .i64 a, .string ⟨#[]⟩], .agg #[.int .i64 2, .int .i64 b, .string ⟨#[]⟩]] W fun e w' => e = .returned (.tuple #[.agg #[.int .i64 k, .int .i64 n, .string ⟨#[]⟩], v]) ∧ Below W.heap.size W w'
theorem doI_ok {op a b n : Int} (ha : -9223372036854775808 ≤ a ∧ a < 9223372036854775808) (hb : -9223372036854775808 ≤ b ∧ b < 9223372036854775808) (ho : operG op = 2) (h1 : op ≠ 1) (h : reckG op a b = (n, 0)) : DoI op a b 2 n .nilIface :=
  fun W => do_at op _ _ _ _ _ _ (do_int_ok ho h1 h) W (num_ok ha) (.inr (num_ok hb))
theorem doI_err {op a b m c : Int} (ha : -9223372036854775808 ≤ a ∧ a < 9223372036854775808) (hb : -9223372036854775808 ≤ b ∧ b < 9223372036854775808) (ho : operG op = 2) (h1 : op ≠ 1) (h : reckG op a b = (m, c)) (hc : c ≠ 0) : DoI op a b 0 0 (.iface 55 (.int .i64 c)) :=
  fun W => by
    have := do_at op _ _ _ _ _ _ (do_int_err ho h1 h hc) W (num_ok ha) (.inr (num_ok hb))
    rw [errG_some hc] at this
    exact this
theorem tmod_facts {a b : Int} (ha : -9223372036854775808 ≤ a ∧ a < 9223372036854775808) (hb : -9223372036854775808 ≤ b ∧ b < 9223372036854775808) (h0 : b ≠ 0) :
    wrap64 (a.tdiv b * b) = a.tdiv b * b ∧ wrap64 (a.tdiv b * b + a.tmod b) = a ∧ (a.tmod b ≠ 0 → (a.tmod b < 0 ↔ a < 0)) ∧ -9223372036854775808 ≤ a.tmod b ∧ a.tmod b < 9223372036854775808 := by
  have h1 := Int.mul_tdiv_add_tmod a b
  have h2 : (a.tmod b).natAbs < b.natAbs := by rw [Int.natAbs_tmod]; exact Nat.mod_lt _ (by omega)
  have h3 : (a.tmod b).natAbs ≤ a.natAbs := by rw [Int.natAbs_tmod]; exact Nat.mod_le _ _
  have h4 : 0 ≤ a → 0 ≤ a.tmod b := fun h => Int.tmod_nonneg _ h
  have h5 : a ≤ 0 → a.tmod b ≤ 0 := fun h => by
    have : 0 ≤ (-a).tmod b := Int.tmod_nonneg _ (by omega)
    rw [Int.neg_tmod] at this; omega
  rw [Int.mul_comm] at h1
  generalize a.tmod b = m at *
  generalize a.tdiv b * b = q at *
  refine ⟨wrap64_in (by omega) (by omega), ?_, by omega, by omega, by omega⟩
  rw [h1]
  exact wrap64_in (by omega) (by omega)

set_option maxHeartbeats 3200000 in
theorem numbers_zero (a b : Int) (w : World) (hE : ET w) (ha : -9223372036854775808 ≤ a ∧ a < 9223372036854775808) (h0 : b = 0) :
    Calls Tryd.prog 5 #[.int .i64 a, .int .i64 b] w fun e w' => e = .returned (.bool true) ∧ Below w.heap.size w w' := by
  have HK := hide (known_any w hE)
  have HC := hide (fun (W : World) (c : Int) (hW : Below w.heap.size w W) => class_bare c W (hE.below hW hE.lt))
  have hb : -9223372036854775808 ≤ (0 : Int) ∧ (0 : Int) < 9223372036854775808 := by decide
  subst h0
  have H11 : Hid (DoI 11 a 0 2 a .nilIface) := doI_ok ha hb rfl (by decide) (by rw [reck_11, Int.add_zero]; exact fit_in ha)
  have H12 : Hid (DoI 12 a 0 2 a .nilIface) := doI_ok ha hb rfl (by decide) (by rw [reck_12, Int.sub_zero]; exact fit_in ha)
  have H13 : Hid (DoI 13 a 0 2 0 .nilIface) := doI_ok ha hb rfl (by decide) (by rw [reck_13, Int.mul_zero]; rfl)
  have H14 : Hid (DoI 14 a 0 0 0 (.iface 55 (.int .i64 7))) := doI_err ha hb rfl (by decide) (reck_140 a) (by decide)
  have H15 : Hid (DoI 15 a 0 0 0 (.iface 55 (.int .i64 7))) := doI_err ha hb rfl (by decide) (reck_150 a) (by decide)
  have hw : wrap64 a = a := wrap64_in ha.1 ha.2
  clear ha hb
  clear hE
  go_enter Tryd.func5, Tryd.ntmps5
  go_wp2_with (first
    | (go_at_call 9; refine (unhide HK).mono ?_; clear HK; rintro e w1 ⟨rfl, hb1⟩)
    | (go_at_call 17; refine (num_any _ _).mono ?_; rintro e w0 ⟨rfl, rfl⟩)
    | (go_at_call 18; refine (unhide H11 _).mono ?_; clear H11; rintro e w2 ⟨rfl, hb2⟩; have Q2 := hide (one_new' (one_step (one_new' (one_new' (one_new' (one_new' hb1 _) _) _) _) hb2) (.cells #[.int .i64 2, .int .i64 a, .string ⟨#[]⟩] 29)); have Vx2 := hide ((((B3.new _ (w1.heap.size + 1 + 1) 2 a ⟨#[]⟩ (by simp)).alloc _).after hb2).alloc (.cells #[.int .i64 2, .int .i64 a, .string ⟨#[]⟩] 29)); have Vy2 := hide (((B3.new _ (w1.heap.size + 1 + 1 + 1) 2 0 ⟨#[]⟩ (by simp)).after hb2).alloc (.cells #[.int .i64 2, .int .i64 a, .string ⟨#[]⟩] 29)); have Vs2 := hide (B3.new w2 w2.heap.size 2 a ⟨#[]⟩ rfl); obtain ⟨x0, x1, x2, _, _, _⟩ := unhide Vx2; obtain ⟨y0, y1, y2, _, _, _⟩ := unhide Vy2; obtain ⟨s0, s1, s2, _, _, _⟩ := unhide Vs2)
    | (go_at_call 18; refine (unhide H12 _).mono ?_; clear H12 x0 x1 x2 y0 y1 y2 s0 s1 s2; rintro e w3 ⟨rfl, hb3⟩; have Q3 := hide (one_new' (one_step (unhide Q2) hb3) (.cells #[.int .i64 2, .int .i64 a, .string ⟨#[]⟩] 29)); have Vx3 := hide (((unhide Vx2).after hb3).alloc (.cells #[.int .i64 2, .int .i64 a, .string ⟨#[]⟩] 29)); have Vy3 := hide (((unhide Vy2).after hb3).alloc (.cells #[.int .i64 2, .int .i64 a, .string ⟨#[]⟩] 29)); have Vs3 := hide (((unhide Vs2).after hb3).alloc (.cells #[.int .i64 2, .int .i64 a, .string ⟨#[]⟩] 29)); have Vt3 := hide (B3.new w3 w3.heap.size 2 a ⟨#[]⟩ rfl); obtain ⟨x0, x1, x2, _, _, _⟩ := unhide Vx3; obtain ⟨y0, y1, y2, _, _, _⟩ := unhide Vy3; obtain ⟨s0, s1, s2, _, _, _⟩ := unhide Vs3; obtain ⟨t0, t1, t2, _, _, _⟩ := unhide Vt3)
    | (go_at_call 18; refine (unhide H13 _).mono ?_; clear H13 x0 x1 x2 y0 y1 y2 s0 s1 s2 t0 t1 t2; rintro e w4 ⟨rfl, hb4⟩; have Q4 := hide (one_new' (one_step (unhide Q3) hb4) (.cells #[.int .i64 2, .int .i64 0, .string ⟨#[]⟩] 29)); have Vx4 := hide (((unhide Vx3).after hb4).alloc (.cells #[.int .i64 2, .int .i64 0, .string ⟨#[]⟩] 29)); have Vy4 := hide (((unhide Vy3).after hb4).alloc (.cells #[.int .i64 2, .int .i64 0, .string ⟨#[]⟩] 29)); obtain ⟨x0, x1, x2, _, _, _⟩ := unhide Vx4; obtain ⟨y0, y1, y2, _, _, _⟩ := unhide Vy4)
    | (go_at_call 18; refine (unhide H14 _).mono ?_; clear H14 x0 x1 x2 y0 y1 y2; rintro e w5 ⟨rfl, hb5⟩; have Q5 := hide (one_new' (one_step (unhide Q4) hb5) (.cells #[.int .i64 0, .int .i64 0, .string ⟨#[]⟩] 29)); have Vx5 := hide (((unhide Vx4).after hb5).alloc (.cells #[.int .i64 0, .int .i64 0, .string ⟨#[]⟩] 29)); have Vy5 := hide (((unhide Vy4).after hb5).alloc (.cells #[.int .i64 0, .int .i64 0, .string ⟨#[]⟩] 29)); obtain ⟨x0, x1, x2, _, _, _⟩ := unhide Vx5; obtain ⟨y0, y1, y2, _, _, _⟩ := unhide Vy5)
    | (go_at_call 18; refine (unhide H15 _).mono ?_; clear H15 x0 x1 x2 y0 y1 y2; rintro e w6 ⟨rfl, hb6⟩; have Q6 := hide (one_new' (one_step (unhide Q5) hb6) (.cells #[.int .i64 0, .int .i64 0, .string ⟨#[]⟩] 29)); have Vx6 := hide (((unhide Vx5).after hb6).alloc (.cells #[.int .i64 0, .int .i64 0, .string ⟨#[]⟩] 29)); have Vy6 := hide (((unhide Vy5).after hb6).alloc (.cells #[.int .i64 0, .int .i64 0, .string ⟨#[]⟩] 29)); obtain ⟨x0, x1, x2, _, _, _⟩ := unhide Vx6; obtain ⟨y0, y1, y2, _, _, _⟩ := unhide Vy6)
    | (go_at_call 19; refine (unhide HC _ 7 (unhide Q6)).mono ?_; clear x0 x1 x2 y0 y1 y2; rintro e w7 ⟨rfl, hb7⟩; have Q7 := hide (one_step (unhide Q6) hb7); have Vx7 := hide ((unhide Vx6).after hb7); have Vy7 := hide ((unhide Vy6).after hb7); obtain ⟨x0, x1, x2, _, _, _⟩ := unhide Vx7; obtain ⟨y0, y1, y2, _, _, _⟩ := unhide Vy7)
    | (go_at_call 19; refine (unhide HC _ 7 (unhide Q7)).mono ?_; clear x0 x1 x2 y0 y1 y2; rintro e w8 ⟨rfl, hb8⟩; have Q8 := hide (one_step (unhide Q7) hb8); have Vx8 := hide ((unhide Vx7).after hb8); have Vy8 := hide ((unhide Vy7).after hb8); obtain ⟨x0, x1, x2, _, _, _⟩ := unhide Vx8; obtain ⟨y0, y1, y2, _, _, _⟩ := unhide Vy8))
  go_ret
  exact ⟨rfl, unhide Q8⟩

set_option maxHeartbeats 3200000 in
theorem numbers_aokn0x (a b : Int) (w : World) (hE : ET w) (ha : -9223372036854775808 ≤ a ∧ a < 9223372036854775808) (hb : -9223372036854775808 ≤ b ∧ b < 9223372036854775808) (h0 : b ≠ 0) (hq : ¬ (a = -9223372036854775808 ∧ b = -1)) (hs : (-9223372036854775808 ≤ a + b ∧ a + b < 9223372036854775808)) (hp : (-9223372036854775808 ≤ a * b ∧ a * b < 9223372036854775808)) (hz : a.tmod b = 0) (hk : a ≠ -9223372036854775808) :
    Calls Tryd.prog 5 #[.int .i64 a, .int .i64 b] w fun e w' => e = .returned (.bool true) ∧ Below w.heap.size w w' := by
  have HK := hide (known_any w hE)
  have HC := hide (fun (W : World) (c : Int) (hW : Below w.heap.size w W) => class_bare c W (hE.below hW hE.lt))
  have hd := tdiv_in ha hb h0 hq
  obtain ⟨w1', w2', w3', hm1, hm2⟩ := tmod_facts ha hb h0
  have e0 : (b == 0) = false := by simpa using h0
  have e0n : (b != 0) = true := by simpa using h0
  have e1 : (a == -9223372036854775808) = false := by simpa using hk
  have H14 : Hid (DoI 14 a b 2 (a.tdiv b) .nilIface) := doI_ok ha hb rfl (by decide) (by rw [reck_14 h0]; exact fit_in hd)
  have H15 : Hid (DoI 15 a b 2 (a.tmod b) .nilIface) := doI_ok ha hb rfl (by decide) (reck_15 h0)
  have H11 : Hid (DoI 11 a b 2 (a + b) .nilIface) := doI_ok ha hb rfl (by decide) (by rw [reck_11]; exact fit_in hs)
  have H12 : Hid (DoI 12 (a + b) b 2 a .nilIface) := doI_ok hs hb rfl (by decide) (by rw [reck_12, show a + b - b = a by omega]; exact fit_in ha)
  have hw : wrap64 (a + b) = a + b := wrap64_in hs.1 hs.2
  have H13 : Hid (DoI 13 a b 2 (a * b) .nilIface) := doI_ok ha hb rfl (by decide) (by rw [reck_13]; exact fit_in hp)
  have H14p : Hid (DoI 14 (a * b) b 2 a .nilIface) := doI_ok hp hb rfl (by decide) (by rw [reck_14 h0, Int.mul_tdiv_cancel _ h0]; exact fit_in ha)
  generalize a.tdiv b = d at *
  rw [hz] at H15 w2'
  rw [Int.add_zero] at w2'
  have wa : wrap64 a = a := wrap64_in ha.1 ha.2
  clear w3' hm1 hm2 w1'
  clear ha hb hd hs hp hq hk hz
  clear hE
  go_enter Tryd.func5, Tryd.ntmps5
  go_wp2_with (first
    | (go_at_call 9; refine (unhide HK).mono ?_; clear HK; rintro e w1 ⟨rfl, hb1⟩)
    | (go_at_call 17; refine (num_any _ _).mono ?_; rintro e w0 ⟨rfl, rfl⟩)
    | (go_at_call 18; refine (unhide H11 _).mono ?_; clear H11; rintro e w2 ⟨rfl, hb2⟩; have Q2 := hide (one_new' (one_step (one_new' (one_new' (one_new' (one_new' hb1 _) _) _) _) hb2) (.cells #[.int .i64 2, .int .i64 (a + b), .string ⟨#[]⟩] 29)); have Vx2 := hide ((((B3.new _ (w1.heap.size + 1 + 1) 2 a ⟨#[]⟩ (by simp)).alloc _).after hb2).alloc (.cells #[.int .i64 2, .int .i64 (a + b), .string ⟨#[]⟩] 29)); have Vy2 := hide (((B3.new _ (w1.heap.size + 1 + 1 + 1) 2 b ⟨#[]⟩ (by simp)).after hb2).alloc (.cells #[.int .i64 2, .int .i64 (a + b), .string ⟨#[]⟩] 29)); have Vs2 := hide (B3.new w2 w2.heap.size 2 (a + b) ⟨#[]⟩ rfl); obtain ⟨x0, x1, x2, _, _, _⟩ := unhide Vx2; obtain ⟨y0, y1, y2, _, _, _⟩ := unhide Vy2; obtain ⟨s0, s1, s2, _, _, _⟩ := unhide Vs2)
    | (go_at_call 18; refine (unhide H12 _).mono ?_; clear H12 x0 x1 x2 y0 y1 y2 s0 s1 s2; rintro e w3 ⟨rfl, hb3⟩; have Q3 := hide (one_new' (one_step (unhide Q2) hb3) (.cells #[.int .i64 2, .int .i64 a, .string ⟨#[]⟩] 29)); have Vx3 := hide (((unhide Vx2).after hb3).alloc (.cells #[.int .i64 2, .int .i64 a, .string ⟨#[]⟩] 29)); have Vy3 := hide (((unhide Vy2).after hb3).alloc (.cells #[.int .i64 2, .int .i64 a, .string ⟨#[]⟩] 29)); have Vs3 := hide (((unhide Vs2).after hb3).alloc (.cells #[.int .i64 2, .int .i64 a, .string ⟨#[]⟩] 29)); have Vt3 := hide (B3.new w3 w3.heap.size 2 a ⟨#[]⟩ rfl); obtain ⟨x0, x1, x2, _, _, _⟩ := unhide Vx3; obtain ⟨y0, y1, y2, _, _, _⟩ := unhide Vy3; obtain ⟨s0, s1, s2, _, _, _⟩ := unhide Vs3; obtain ⟨t0, t1, t2, _, _, _⟩ := unhide Vt3)
    | (go_at_call 18; refine (unhide H13 _).mono ?_; clear H13 x0 x1 x2 y0 y1 y2 s0 s1 s2 t0 t1 t2; rintro e w4 ⟨rfl, hb4⟩; have Q4 := hide (one_new' (one_step (unhide Q3) hb4) (.cells #[.int .i64 2, .int .i64 (a * b), .string ⟨#[]⟩] 29)); have Vx4 := hide (((unhide Vx3).after hb4).alloc (.cells #[.int .i64 2, .int .i64 (a * b), .string ⟨#[]⟩] 29)); have Vy4 := hide (((unhide Vy3).after hb4).alloc (.cells #[.int .i64 2, .int .i64 (a * b), .string ⟨#[]⟩] 29)); have Vp4 := hide (B3.new w4 w4.heap.size 2 (a * b) ⟨#[]⟩ rfl); obtain ⟨x0, x1, x2, _, _, _⟩ := unhide Vx4; obtain ⟨y0, y1, y2, _, _, _⟩ := unhide Vy4; obtain ⟨p0, p1, p2, _, _, _⟩ := unhide Vp4)
    | (go_at_call 18; refine (unhide H14p _).mono ?_; clear H14p x0 x1 x2 y0 y1 y2 p0 p1 p2; rintro e w5 ⟨rfl, hb5⟩; have Q5 := hide (one_new' (one_step (unhide Q4) hb5) (.cells #[.int .i64 2, .int .i64 a, .string ⟨#[]⟩] 29)); have Vx5 := hide (((unhide Vx4).after hb5).alloc (.cells #[.int .i64 2, .int .i64 a, .string ⟨#[]⟩] 29)); have Vy5 := hide (((unhide Vy4).after hb5).alloc (.cells #[.int .i64 2, .int .i64 a, .string ⟨#[]⟩] 29)); have Vp5 := hide (((unhide Vp4).after hb5).alloc (.cells #[.int .i64 2, .int .i64 a, .string ⟨#[]⟩] 29)); have Vr5 := hide (B3.new w5 w5.heap.size 2 a ⟨#[]⟩ rfl); obtain ⟨x0, x1, x2, _, _, _⟩ := unhide Vx5; obtain ⟨y0, y1, y2, _, _, _⟩ := unhide Vy5; obtain ⟨p0, p1, p2, _, _, _⟩ := unhide Vp5; obtain ⟨r0, r1, r2, _, _, _⟩ := unhide Vr5)
    | (go_at_call 18; refine (unhide H14 _).mono ?_; clear H14 x0 x1 x2 y0 y1 y2 p0 p1 p2 r0 r1 r2; rintro e w6 ⟨rfl, hb6⟩; have Q6 := hide (one_new' (one_step (unhide Q5) hb6) (.cells #[.int .i64 2, .int .i64 d, .string ⟨#[]⟩] 29)); have Vx6 := hide (((unhide Vx5).after hb6).alloc (.cells #[.int .i64 2, .int .i64 d, .string ⟨#[]⟩] 29)); have Vy6 := hide (((unhide Vy5).after hb6).alloc (.cells #[.int .i64 2, .int .i64 d, .string ⟨#[]⟩] 29)); have Vq6 := hide (B3.new w6 w6.heap.size 2 d ⟨#[]⟩ rfl); obtain ⟨x0, x1, x2, _, _, _⟩ := unhide Vx6; obtain ⟨y0, y1, y2, _, _, _⟩ := unhide Vy6; obtain ⟨q0, q1, q2, _, _, _⟩ := unhide Vq6)
    | (go_at_call 18; refine (unhide H15 _).mono ?_; clear H15 x0 x1 x2 y0 y1 y2 q0 q1 q2; rintro e w7 ⟨rfl, hb7⟩; have Q7 := hide (one_new' (one_step (unhide Q6) hb7) (.cells #[.int .i64 2, .int .i64 0, .string ⟨#[]⟩] 29)); have Vx7 := hide (((unhide Vx6).after hb7).alloc (.cells #[.int .i64 2, .int .i64 0, .string ⟨#[]⟩] 29)); have Vy7 := hide (((unhide Vy6).after hb7).alloc (.cells #[.int .i64 2, .int .i64 0, .string ⟨#[]⟩] 29)); have Vq7 := hide (((unhide Vq6).after hb7).alloc (.cells #[.int .i64 2, .int .i64 0, .string ⟨#[]⟩] 29)); have Vm7 := hide (B3.new w7 w7.heap.size 2 0 ⟨#[]⟩ rfl); obtain ⟨x0, x1, x2, _, _, _⟩ := unhide Vx7; obtain ⟨y0, y1, y2, _, _, _⟩ := unhide Vy7; obtain ⟨q0, q1, q2, _, _, _⟩ := unhide Vq7; obtain ⟨m0, m1, m2, _, _, _⟩ := unhide Vm7))
  go_ret
  exact ⟨rfl, unhide Q7⟩

set_option maxHeartbeats 3200000 in
theorem numbers_aokn0m (a b : Int) (w : World) (hE : ET w) (ha : -9223372036854775808 ≤ a ∧ a < 9223372036854775808) (hb : -9223372036854775808 ≤ b ∧ b < 9223372036854775808) (h0 : b ≠ 0) (hq : ¬ (a = -9223372036854775808 ∧ b = -1)) (hs : (-9223372036854775808 ≤ a + b ∧ a + b < 9223372036854775808)) (hp : (-9223372036854775808 ≤ a * b ∧ a * b < 9223372036854775808)) (hz : a.tmod b = 0) (hk : a = -9223372036854775808) :
    Calls Tryd.prog 5 #[.int .i64 a, .int .i64 b] w fun e w' => e = .returned (.bool true) ∧ Below w.heap.size w w' := by
  have HK := hide (known_any w hE)
  have HC := hide (fun (W : World) (c : Int) (hW : Below w.heap.size w W) => class_bare c W (hE.below hW hE.lt))
  have hd := tdiv_in ha hb h0 hq
  obtain ⟨w1', w2', w3', hm1, hm2⟩ := tmod_facts ha hb h0
  have e0 : (b == 0) = false := by simpa using h0
  have e0n : (b != 0) = true := by simpa using h0
  have e1 : (a == -9223372036854775808) = true := by simpa using hk
  have e2 : (b == -1) = false := by simpa using fun h => hq ⟨hk, h⟩
  have H14 : Hid (DoI 14 a b 2 (a.tdiv b) .nilIface) := doI_ok ha hb rfl (by decide) (by rw [reck_14 h0]; exact fit_in hd)
  have H15 : Hid (DoI 15 a b 2 (a.tmod b) .nilIface) := doI_ok ha hb rfl (by decide) (reck_15 h0)
  have H11 : Hid (DoI 11 a b 2 (a + b) .nilIface) := doI_ok ha hb rfl (by decide) (by rw [reck_11]; exact fit_in hs)
  have H12 : Hid (DoI 12 (a + b) b 2 a .nilIface) := doI_ok hs hb rfl (by decide) (by rw [reck_12, show a + b - b = a by omega]; exact fit_in ha)
  have hw : wrap64 (a + b) = a + b := wrap64_in hs.1 hs.2
  have H13 : Hid (DoI 13 a b 2 (a * b) .nilIface) := doI_ok ha hb rfl (by decide) (by rw [reck_13]; exact fit_in hp)
  have H14p : Hid (DoI 14 (a * b) b 2 a .nilIface) := doI_ok hp hb rfl (by decide) (by rw [reck_14 h0, Int.mul_tdiv_cancel _ h0]; exact fit_in ha)
  generalize a.tdiv b = d at *
  rw [hz] at H15 w2'
  rw [Int.add_zero] at w2'
  have wa : wrap64 a = a := wrap64_in ha.1 ha.2
  clear w3' hm1 hm2 w1'
  clear ha hb hd hs hp hq hk hz
  clear hE
  go_enter Tryd.func5, Tryd.ntmps5
  go_wp2_with (first
    | (go_at_call 9; refine (unhide HK).mono ?_; clear HK; rintro e w1 ⟨rfl, hb1⟩)
    | (go_at_call 17; refine (num_any _ _).mono ?_; rintro e w0 ⟨rfl, rfl⟩)
    | (go_at_call 18; refine (unhide H11 _).mono ?_; clear H11; rintro e w2 ⟨rfl, hb2⟩; have Q2 := hide (one_new' (one_step (one_new' (one_new' (one_new' (one_new' hb1 _) _) _) _) hb2) (.cells #[.int .i64 2, .int .i64 (a + b), .string ⟨#[]⟩] 29)); have Vx2 := hide ((((B3.new _ (w1.heap.size + 1 + 1) 2 a ⟨#[]⟩ (by simp)).alloc _).after hb2).alloc (.cells #[.int .i64 2, .int .i64 (a + b), .string ⟨#[]⟩] 29)); have Vy2 := hide (((B3.new _ (w1.heap.size + 1 + 1 + 1) 2 b ⟨#[]⟩ (by simp)).after hb2).alloc (.cells #[.int .i64 2, .int .i64 (a + b), .string ⟨#[]⟩] 29)); have Vs2 := hide (B3.new w2 w2.heap.size 2 (a + b) ⟨#[]⟩ rfl); obtain ⟨x0, x1, x2, _, _, _⟩ := unhide Vx2; obtain ⟨y0, y1, y2, _, _, _⟩ := unhide Vy2; obtain ⟨s0, s1, s2, _, _, _⟩ := unhide Vs2)
    | (go_at_call 18; refine (unhide H12 _).mono ?_; clear H12 x0 x1 x2 y0 y1 y2 s0 s1 s2; rintro e w3 ⟨rfl, hb3⟩; have Q3 := hide (one_new' (one_step (unhide Q2) hb3) (.cells #[.int .i64 2, .int .i64 a, .string ⟨#[]⟩] 29)); have Vx3 := hide (((unhide Vx2).after hb3).alloc (.cells #[.int .i64 2, .int .i64 a, .string ⟨#[]⟩] 29)); have Vy3 := hide (((unhide Vy2).after hb3).alloc (.cells #[.int .i64 2, .int .i64 a, .string ⟨#[]⟩] 29)); have Vs3 := hide (((unhide Vs2).after hb3).alloc (.cells #[.int .i64 2, .int .i64 a, .string ⟨#[]⟩] 29)); have Vt3 := hide (B3.new w3 w3.heap.size 2 a ⟨#[]⟩ rfl); obtain ⟨x0, x1, x2, _, _, _⟩ := unhide Vx3; obtain ⟨y0, y1, y2, _, _, _⟩ := unhide Vy3; obtain ⟨s0, s1, s2, _, _, _⟩ := unhide Vs3; obtain ⟨t0, t1, t2, _, _, _⟩ := unhide Vt3)
    | (go_at_call 18; refine (unhide H13 _).mono ?_; clear H13 x0 x1 x2 y0 y1 y2 s0 s1 s2 t0 t1 t2; rintro e w4 ⟨rfl, hb4⟩; have Q4 := hide (one_new' (one_step (unhide Q3) hb4) (.cells #[.int .i64 2, .int .i64 (a * b), .string ⟨#[]⟩] 29)); have Vx4 := hide (((unhide Vx3).after hb4).alloc (.cells #[.int .i64 2, .int .i64 (a * b), .string ⟨#[]⟩] 29)); have Vy4 := hide (((unhide Vy3).after hb4).alloc (.cells #[.int .i64 2, .int .i64 (a * b), .string ⟨#[]⟩] 29)); have Vp4 := hide (B3.new w4 w4.heap.size 2 (a * b) ⟨#[]⟩ rfl); obtain ⟨x0, x1, x2, _, _, _⟩ := unhide Vx4; obtain ⟨y0, y1, y2, _, _, _⟩ := unhide Vy4; obtain ⟨p0, p1, p2, _, _, _⟩ := unhide Vp4)
    | (go_at_call 18; refine (unhide H14p _).mono ?_; clear H14p x0 x1 x2 y0 y1 y2 p0 p1 p2; rintro e w5 ⟨rfl, hb5⟩; have Q5 := hide (one_new' (one_step (unhide Q4) hb5) (.cells #[.int .i64 2, .int .i64 a, .string ⟨#[]⟩] 29)); have Vx5 := hide (((unhide Vx4).after hb5).alloc (.cells #[.int .i64 2, .int .i64 a, .string ⟨#[]⟩] 29)); have Vy5 := hide (((unhide Vy4).after hb5).alloc (.cells #[.int .i64 2, .int .i64 a, .string ⟨#[]⟩] 29)); have Vp5 := hide (((unhide Vp4).after hb5).alloc (.cells #[.int .i64 2, .int .i64 a, .string ⟨#[]⟩] 29)); have Vr5 := hide (B3.new w5 w5.heap.size 2 a ⟨#[]⟩ rfl); obtain ⟨x0, x1, x2, _, _, _⟩ := unhide Vx5; obtain ⟨y0, y1, y2, _, _, _⟩ := unhide Vy5; obtain ⟨p0, p1, p2, _, _, _⟩ := unhide Vp5; obtain ⟨r0, r1, r2, _, _, _⟩ := unhide Vr5)
    | (go_at_call 18; refine (unhide H14 _).mono ?_; clear H14 x0 x1 x2 y0 y1 y2 p0 p1 p2 r0 r1 r2; rintro e w6 ⟨rfl, hb6⟩; have Q6 := hide (one_new' (one_step (unhide Q5) hb6) (.cells #[.int .i64 2, .int .i64 d, .string ⟨#[]⟩] 29)); have Vx6 := hide (((unhide Vx5).after hb6).alloc (.cells #[.int .i64 2, .int .i64 d, .string ⟨#[]⟩] 29)); have Vy6 := hide (((unhide Vy5).after hb6).alloc (.cells #[.int .i64 2, .int .i64 d, .string ⟨#[]⟩] 29)); have Vq6 := hide (B3.new w6 w6.heap.size 2 d ⟨#[]⟩ rfl); obtain ⟨x0, x1, x2, _, _, _⟩ := unhide Vx6; obtain ⟨y0, y1, y2, _, _, _⟩ := unhide Vy6; obtain ⟨q0, q1, q2, _, _, _⟩ := unhide Vq6)
    | (go_at_call 18; refine (unhide H15 _).mono ?_; clear H15 x0 x1 x2 y0 y1 y2 q0 q1 q2; rintro e w7 ⟨rfl, hb7⟩; have Q7 := hide (one_new' (one_step (unhide Q6) hb7) (.cells #[.int .i64 2, .int .i64 0, .string ⟨#[]⟩] 29)); have Vx7 := hide (((unhide Vx6).after hb7).alloc (.cells #[.int .i64 2, .int .i64 0, .string ⟨#[]⟩] 29)); have Vy7 := hide (((unhide Vy6).after hb7).alloc (.cells #[.int .i64 2, .int .i64 0, .string ⟨#[]⟩] 29)); have Vq7 := hide (((unhide Vq6).after hb7).alloc (.cells #[.int .i64 2, .int .i64 0, .string ⟨#[]⟩] 29)); have Vm7 := hide (B3.new w7 w7.heap.size 2 0 ⟨#[]⟩ rfl); obtain ⟨x0, x1, x2, _, _, _⟩ := unhide Vx7; obtain ⟨y0, y1, y2, _, _, _⟩ := unhide Vy7; obtain ⟨q0, q1, q2, _, _, _⟩ := unhide Vq7; obtain ⟨m0, m1, m2, _, _, _⟩ := unhide Vm7))
  go_ret
  exact ⟨rfl, unhide Q7⟩

set_option maxHeartbeats 3200000 in
theorem numbers_aokn1x (a b : Int) (w : World) (hE : ET w) (ha : -9223372036854775808 ≤ a ∧ a < 9223372036854775808) (hb : -9223372036854775808 ≤ b ∧ b < 9223372036854775808) (h0 : b ≠ 0) (hq : ¬ (a = -9223372036854775808 ∧ b = -1)) (hs : (-9223372036854775808 ≤ a + b ∧ a + b < 9223372036854775808)) (hp : (-9223372036854775808 ≤ a * b ∧ a * b < 9223372036854775808)) (hz : a.tmod b ≠ 0) (hk : a ≠ -9223372036854775808) :
    Calls Tryd.prog 5 #[.int .i64 a, .int .i64 b] w fun e w' => e = .returned (.bool true) ∧ Below w.heap.size w w' := by
  have HK := hide (known_any w hE)
  have HC := hide (fun (W : World) (c : Int) (hW : Below w.heap.size w W) => class_bare c W (hE.below hW hE.lt))
  have hd := tdiv_in ha hb h0 hq
  obtain ⟨w1', w2', w3', hm1, hm2⟩ := tmod_facts ha hb h0
  have e0 : (b == 0) = false := by simpa using h0
  have e0n : (b != 0) = true := by simpa using h0
  have e1 : (a == -9223372036854775808) = false := by simpa using hk
  have H14 : Hid (DoI 14 a b 2 (a.tdiv b) .nilIface) := doI_ok ha hb rfl (by decide) (by rw [reck_14 h0]; exact fit_in hd)
  have H15 : Hid (DoI 15 a b 2 (a.tmod b) .nilIface) := doI_ok ha hb rfl (by decide) (reck_15 h0)
  have H11 : Hid (DoI 11 a b 2 (a + b) .nilIface) := doI_ok ha hb rfl (by decide) (by rw [reck_11]; exact fit_in hs)
  have H12 : Hid (DoI 12 (a + b) b 2 a .nilIface) := doI_ok hs hb rfl (by decide) (by rw [reck_12, show a + b - b = a by omega]; exact fit_in ha)
  have hw : wrap64 (a + b) = a + b := wrap64_in hs.1 hs.2
  have H13 : Hid (DoI 13 a b 2 (a * b) .nilIface) := doI_ok ha hb rfl (by decide) (by rw [reck_13]; exact fit_in hp)
  have H14p : Hid (DoI 14 (a * b) b 2 a .nilIface) := doI_ok hp hb rfl (by decide) (by rw [reck_14 h0, Int.mul_tdiv_cancel _ h0]; exact fit_in ha)
  generalize a.tdiv b = d at *
  have ez : (a.tmod b == 0) = false := by simpa using hz
  have ey : (a.tmod b < 0) = (a < 0) := propext (w3' hz)
  generalize a.tmod b = m at *
  clear w3' hm1 hm2 hz
  clear ha hb hd hs hp hq hk
  clear hE
  go_enter Tryd.func5, Tryd.ntmps5
  go_wp2_with (first
    | (go_at_call 9; refine (unhide HK).mono ?_; clear HK; rintro e w1 ⟨rfl, hb1⟩)
    | (go_at_call 17; refine (num_any _ _).mono ?_; rintro e w0 ⟨rfl, rfl⟩)
    | (go_at_call 18; refine (unhide H11 _).mono ?_; clear H11; rintro e w2 ⟨rfl, hb2⟩; have Q2 := hide (one_new' (one_step (one_new' (one_new' (one_new' (one_new' hb1 _) _) _) _) hb2) (.cells #[.int .i64 2, .int .i64 (a + b), .string ⟨#[]⟩] 29)); have Vx2 := hide ((((B3.new _ (w1.heap.size + 1 + 1) 2 a ⟨#[]⟩ (by simp)).alloc _).after hb2).alloc (.cells #[.int .i64 2, .int .i64 (a + b), .string ⟨#[]⟩] 29)); have Vy2 := hide (((B3.new _ (w1.heap.size + 1 + 1 + 1) 2 b ⟨#[]⟩ (by simp)).after hb2).alloc (.cells #[.int .i64 2, .int .i64 (a + b), .string ⟨#[]⟩] 29)); have Vs2 := hide (B3.new w2 w2.heap.size 2 (a + b) ⟨#[]⟩ rfl); obtain ⟨x0, x1, x2, _, _, _⟩ := unhide Vx2; obtain ⟨y0, y1, y2, _, _, _⟩ := unhide Vy2; obtain ⟨s0, s1, s2, _, _, _⟩ := unhide Vs2)
    | (go_at_call 18; refine (unhide H12 _).mono ?_; clear H12 x0 x1 x2 y0 y1 y2 s0 s1 s2; rintro e w3 ⟨rfl, hb3⟩; have Q3 := hide (one_new' (one_step (unhide Q2) hb3) (.cells #[.int .i64 2, .int .i64 a, .string ⟨#[]⟩] 29)); have Vx3 := hide (((unhide Vx2).after hb3).alloc (.cells #[.int .i64 2, .int .i64 a, .string ⟨#[]⟩] 29)); have Vy3 := hide (((unhide Vy2).after hb3).alloc (.cells #[.int .i64 2, .int .i64 a, .string ⟨#[]⟩] 29)); have Vs3 := hide (((unhide Vs2).after hb3).alloc (.cells #[.int .i64 2, .int .i64 a, .string ⟨#[]⟩] 29)); have Vt3 := hide (B3.new w3 w3.heap.size 2 a ⟨#[]⟩ rfl); obtain ⟨x0, x1, x2, _, _, _⟩ := unhide Vx3; obtain ⟨y0, y1, y2, _, _, _⟩ := unhide Vy3; obtain ⟨s0, s1, s2, _, _, _⟩ := unhide Vs3; obtain ⟨t0, t1, t2, _, _, _⟩ := unhide Vt3)
    | (go_at_call 18; refine (unhide H13 _).mono ?_; clear H13 x0 x1 x2 y0 y1 y2 s0 s1 s2 t0 t1 t2; rintro e w4 ⟨rfl, hb4⟩; have Q4 := hide (one_new' (one_step (unhide Q3) hb4) (.cells #[.int .i64 2, .int .i64 (a * b), .string ⟨#[]⟩] 29)); have Vx4 := hide (((unhide Vx3).after hb4).alloc (.cells #[.int .i64 2, .int .i64 (a * b), .string ⟨#[]⟩] 29)); have Vy4 := hide (((unhide Vy3).after hb4).alloc (.cells #[.int .i64 2, .int .i64 (a * b), .string ⟨#[]⟩] 29)); have Vp4 := hide (B3.new w4 w4.heap.size 2 (a * b) ⟨#[]⟩ rfl); obtain ⟨x0, x1, x2, _, _, _⟩ := unhide Vx4; obtain ⟨y0, y1, y2, _, _, _⟩ := unhide Vy4; obtain ⟨p0, p1, p2, _, _, _⟩ := unhide Vp4)
    | (go_at_call 18; refine (unhide H14p _).mono ?_; clear H14p x0 x1 x2 y0 y1 y2 p0 p1 p2; rintro e w5 ⟨rfl, hb5⟩; have Q5 := hide (one_new' (one_step (unhide Q4) hb5) (.cells #[.int .i64 2, .int .i64 a, .string ⟨#[]⟩] 29)); have Vx5 := hide (((unhide Vx4).after hb5).alloc (.cells #[.int .i64 2, .int .i64 a, .string ⟨#[]⟩] 29)); have Vy5 := hide (((unhide Vy4).after hb5).alloc (.cells #[.int .i64 2, .int .i64 a, .string ⟨#[]⟩] 29)); have Vp5 := hide (((unhide Vp4).after hb5).alloc (.cells #[.int .i64 2, .int .i64 a, .string ⟨#[]⟩] 29)); have Vr5 := hide (B3.new w5 w5.heap.size 2 a ⟨#[]⟩ rfl); obtain ⟨x0, x1, x2, _, _, _⟩ := unhide Vx5; obtain ⟨y0, y1, y2, _, _, _⟩ := unhide Vy5; obtain ⟨p0, p1, p2, _, _, _⟩ := unhide Vp5; obtain ⟨r0, r1, r2, _, _, _⟩ := unhide Vr5)
    | (go_at_call 18; refine (unhide H14 _).mono ?_; clear H14 x0 x1 x2 y0 y1 y2 p0 p1 p2 r0 r1 r2; rintro e w6 ⟨rfl, hb6⟩; have Q6 := hide (one_new' (one_step (unhide Q5) hb6) (.cells #[.int .i64 2, .int .i64 d, .string ⟨#[]⟩] 29)); have Vx6 := hide (((unhide Vx5).after hb6).alloc (.cells #[.int .i64 2, .int .i64 d, .string ⟨#[]⟩] 29)); have Vy6 := hide (((unhide Vy5).after hb6).alloc (.cells #[.int .i64 2, .int .i64 d, .string ⟨#[]⟩] 29)); have Vq6 := hide (B3.new w6 w6.heap.size 2 d ⟨#[]⟩ rfl); obtain ⟨x0, x1, x2, _, _, _⟩ := unhide Vx6; obtain ⟨y0, y1, y2, _, _, _⟩ := unhide Vy6; obtain ⟨q0, q1, q2, _, _, _⟩ := unhide Vq6)
    | (go_at_call 18; refine (unhide H15 _).mono ?_; clear H15 x0 x1 x2 y0 y1 y2 q0 q1 q2; rintro e w7 ⟨rfl, hb7⟩; have Q7 := hide (one_new' (one_step (unhide Q6) hb7) (.cells #[.int .i64 2, .int .i64 m, .string ⟨#[]⟩] 29)); have Vx7 := hide (((unhide Vx6).after hb7).alloc (.cells #[.int .i64 2, .int .i64 m, .string ⟨#[]⟩] 29)); have Vy7 := hide (((unhide Vy6).after hb7).alloc (.cells #[.int .i64 2, .int .i64 m, .string ⟨#[]⟩] 29)); have Vq7 := hide (((unhide Vq6).after hb7).alloc (.cells #[.int .i64 2, .int .i64 m, .string ⟨#[]⟩] 29)); have Vm7 := hide (B3.new w7 w7.heap.size 2 m ⟨#[]⟩ rfl); obtain ⟨x0, x1, x2, _, _, _⟩ := unhide Vx7; obtain ⟨y0, y1, y2, _, _, _⟩ := unhide Vy7; obtain ⟨q0, q1, q2, _, _, _⟩ := unhide Vq7; obtain ⟨m0, m1, m2, _, _, _⟩ := unhide Vm7))
  go_ret
  exact ⟨rfl, unhide Q7⟩

set_option maxHeartbeats 3200000 in
theorem numbers_aokn1m (a b : Int) (w : World) (hE : ET w) (ha : -9223372036854775808 ≤ a ∧ a < 9223372036854775808) (hb : -9223372036854775808 ≤ b ∧ b < 9223372036854775808) (h0 : b ≠ 0) (hq : ¬ (a = -9223372036854775808 ∧ b = -1)) (hs : (-9223372036854775808 ≤ a + b ∧ a + b < 9223372036854775808)) (hp : (-9223372036854775808 ≤ a * b ∧ a * b < 9223372036854775808)) (hz : a.tmod b ≠ 0) (hk : a = -9223372036854775808) :
    Calls Tryd.prog 5 #[.int .i64 a, .int .i64 b] w fun e w' => e = .returned (.bool true) ∧ Below w.heap.size w w' := by
  have HK := hide (known_any w hE)
  have HC := hide (fun (W : World) (c : Int) (hW : Below w.heap.size w W) => class_bare c W (hE.below hW hE.lt))
  have hd := tdiv_in ha hb h0 hq
  obtain ⟨w1', w2', w3', hm1, hm2⟩ := tmod_facts ha hb h0
  have e0 : (b == 0) = false := by simpa using h0
  have e0n : (b != 0) = true := by simpa using h0
  have e1 : (a == -9223372036854775808) = true := by simpa using hk
  have e2 : (b == -1) = false := by simpa using fun h => hq ⟨hk, h⟩
  have H14 : Hid (DoI 14 a b 2 (a.tdiv b) .nilIface) := doI_ok ha hb rfl (by decide) (by rw [reck_14 h0]; exact fit_in hd)
  have H15 : Hid (DoI 15 a b 2 (a.tmod b) .nilIface) := doI_ok ha hb rfl (by decide) (reck_15 h0)
  have H11 : Hid (DoI 11 a b 2 (a + b) .nilIface) := doI_ok ha hb rfl (by decide) (by rw [reck_11]; exact fit_in hs)
  have H12 : Hid (DoI 12 (a + b) b 2 a .nilIface) := doI_ok hs hb rfl (by decide) (by rw [reck_12, show a + b - b = a by omega]; exact fit_in ha)
  have hw : wrap64 (a + b) = a + b := wrap64_in hs.1 hs.2
  have H13 : Hid (DoI 13 a b 2 (a * b) .nilIface) := doI_ok ha hb rfl (by decide) (by rw [reck_13]; exact fit_in hp)
  have H14p : Hid (DoI 14 (a * b) b 2 a .nilIface) := doI_ok hp hb rfl (by decide) (by rw [reck_14 h0, Int.mul_tdiv_cancel _ h0]; exact fit_in ha)
  generalize a.tdiv b = d at *
  have ez : (a.tmod b == 0) = false := by simpa using hz
  have ey : (a.tmod b < 0) = (a < 0) := propext (w3' hz)
  generalize a.tmod b = m at *
  clear w3' hm1 hm2 hz
  clear ha hb hd hs hp hq hk
  clear hE
  go_enter Tryd.func5, Tryd.ntmps5
  go_wp2_with (first
    | (go_at_call 9; refine (unhide HK).mono ?_; clear HK; rintro e w1 ⟨rfl, hb1⟩)
    | (go_at_call 17; refine (num_any _ _).mono ?_; rintro e w0 ⟨rfl, rfl⟩)
    | (go_at_call 18; refine (unhide H11 _).mono ?_; clear H11; rintro e w2 ⟨rfl, hb2⟩; have Q2 := hide (one_new' (one_step (one_new' (one_new' (one_new' (one_new' hb1 _) _) _) _) hb2) (.cells #[.int .i64 2, .int .i64 (a + b), .string ⟨#[]⟩] 29)); have Vx2 := hide ((((B3.new _ (w1.heap.size + 1 + 1) 2 a ⟨#[]⟩ (by simp)).alloc _).after hb2).alloc (.cells #[.int .i64 2, .int .i64 (a + b), .string ⟨#[]⟩] 29)); have Vy2 := hide (((B3.new _ (w1.heap.size + 1 + 1 + 1) 2 b ⟨#[]⟩ (by simp)).after hb2).alloc (.cells #[.int .i64 2, .int .i64 (a + b), .string ⟨#[]⟩] 29)); have Vs2 := hide (B3.new w2 w2.heap.size 2 (a + b) ⟨#[]⟩ rfl); obtain ⟨x0, x1, x2, _, _, _⟩ := unhide Vx2; obtain ⟨y0, y1, y2, _, _, _⟩ := unhide Vy2; obtain ⟨s0, s1, s2, _, _, _⟩ := unhide Vs2)
    | (go_at_call 18; refine (unhide H12 _).mono ?_; clear H12 x0 x1 x2 y0 y1 y2 s0 s1 s2; rintro e w3 ⟨rfl, hb3⟩; have Q3 := hide (one_new' (one_step (unhide Q2) hb3) (.cells #[.int .i64 2, .int .i64 a, .string ⟨#[]⟩] 29)); have Vx3 := hide (((unhide Vx2).after hb3).alloc (.cells #[.int .i64 2, .int .i64 a, .string ⟨#[]⟩] 29)); have Vy3 := hide (((unhide Vy2).after hb3).alloc (.cells #[.int .i64 2, .int .i64 a, .string ⟨#[]⟩] 29)); have Vs3 := hide (((unhide Vs2).after hb3).alloc (.cells #[.int .i64 2, .int .i64 a, .string ⟨#[]⟩] 29)); have Vt3 := hide (B3.new w3 w3.heap.size 2 a ⟨#[]⟩ rfl); obtain ⟨x0, x1, x2, _, _, _⟩ := unhide Vx3; obtain ⟨y0, y1, y2, _, _, _⟩ := unhide Vy3; obtain ⟨s0, s1, s2, _, _, _⟩ := unhide Vs3; obtain ⟨t0, t1, t2, _, _, _⟩ := unhide Vt3)
    | (go_at_call 18; refine (unhide H13 _).mono ?_; clear H13 x0 x1 x2 y0 y1 y2 s0 s1 s2 t0 t1 t2; rintro e w4 ⟨rfl, hb4⟩; have Q4 := hide (one_new' (one_step (unhide Q3) hb4) (.cells #[.int .i64 2, .int .i64 (a * b), .string ⟨#[]⟩] 29)); have Vx4 := hide (((unhide Vx3).after hb4).alloc (.cells #[.int .i64 2, .int .i64 (a * b), .string ⟨#[]⟩] 29)); have Vy4 := hide (((unhide Vy3).after hb4).alloc (.cells #[.int .i64 2, .int .i64 (a * b), .string ⟨#[]⟩] 29)); have Vp4 := hide (B3.new w4 w4.heap.size 2 (a * b) ⟨#[]⟩ rfl); obtain ⟨x0, x1, x2, _, _, _⟩ := unhide Vx4; obtain ⟨y0, y1, y2, _, _, _⟩ := unhide Vy4; obtain ⟨p0, p1, p2, _, _, _⟩ := unhide Vp4)
    | (go_at_call 18; refine (unhide H14p _).mono ?_; clear H14p x0 x1 x2 y0 y1 y2 p0 p1 p2; rintro e w5 ⟨rfl, hb5⟩; have Q5 := hide (one_new' (one_step (unhide Q4) hb5) (.cells #[.int .i64 2, .int .i64 a, .string ⟨#[]⟩] 29)); have Vx5 := hide (((unhide Vx4).after hb5).alloc (.cells #[.int .i64 2, .int .i64 a, .string ⟨#[]⟩] 29)); have Vy5 := hide (((unhide Vy4).after hb5).alloc (.cells #[.int .i64 2, .int .i64 a, .string ⟨#[]⟩] 29)); have Vp5 := hide (((unhide Vp4).after hb5).alloc (.cells #[.int .i64 2, .int .i64 a, .string ⟨#[]⟩] 29)); have Vr5 := hide (B3.new w5 w5.heap.size 2 a ⟨#[]⟩ rfl); obtain ⟨x0, x1, x2, _, _, _⟩ := unhide Vx5; obtain ⟨y0, y1, y2, _, _, _⟩ := unhide Vy5; obtain ⟨p0, p1, p2, _, _, _⟩ := unhide Vp5; obtain ⟨r0, r1, r2, _, _, _⟩ := unhide Vr5)
    | (go_at_call 18; refine (unhide H14 _).mono ?_; clear H14 x0 x1 x2 y0 y1 y2 p0 p1 p2 r0 r1 r2; rintro e w6 ⟨rfl, hb6⟩; have Q6 := hide (one_new' (one_step (unhide Q5) hb6) (.cells #[.int .i64 2, .int .i64 d, .string ⟨#[]⟩] 29)); have Vx6 := hide (((unhide Vx5).after hb6).alloc (.cells #[.int .i64 2, .int .i64 d, .string ⟨#[]⟩] 29)); have Vy6 := hide (((unhide Vy5).after hb6).alloc (.cells #[.int .i64 2, .int .i64 d, .string ⟨#[]⟩] 29)); have Vq6 := hide (B3.new w6 w6.heap.size 2 d ⟨#[]⟩ rfl); obtain ⟨x0, x1, x2, _, _, _⟩ := unhide Vx6; obtain ⟨y0, y1, y2, _, _, _⟩ := unhide Vy6; obtain ⟨q0, q1, q2, _, _, _⟩ := unhide Vq6)
    | (go_at_call 18; refine (unhide H15 _).mono ?_; clear H15 x0 x1 x2 y0 y1 y2 q0 q1 q2; rintro e w7 ⟨rfl, hb7⟩; have Q7 := hide (one_new' (one_step (unhide Q6) hb7) (.cells #[.int .i64 2, .int .i64 m, .string ⟨#[]⟩] 29)); have Vx7 := hide (((unhide Vx6).after hb7).alloc (.cells #[.int .i64 2, .int .i64 m, .string ⟨#[]⟩] 29)); have Vy7 := hide (((unhide Vy6).after hb7).alloc (.cells #[.int .i64 2, .int .i64 m, .string ⟨#[]⟩] 29)); have Vq7 := hide (((unhide Vq6).after hb7).alloc (.cells #[.int .i64 2, .int .i64 m, .string ⟨#[]⟩] 29)); have Vm7 := hide (B3.new w7 w7.heap.size 2 m ⟨#[]⟩ rfl); obtain ⟨x0, x1, x2, _, _, _⟩ := unhide Vx7; obtain ⟨y0, y1, y2, _, _, _⟩ := unhide Vy7; obtain ⟨q0, q1, q2, _, _, _⟩ := unhide Vq7; obtain ⟨m0, m1, m2, _, _, _⟩ := unhide Vm7))
  go_ret
  exact ⟨rfl, unhide Q7⟩

set_option maxHeartbeats 3200000 in
theorem numbers_aerrn0x (a b : Int) (w : World) (hE : ET w) (ha : -9223372036854775808 ≤ a ∧ a < 9223372036854775808) (hb : -9223372036854775808 ≤ b ∧ b < 9223372036854775808) (h0 : b ≠ 0) (hq : ¬ (a = -9223372036854775808 ∧ b = -1)) (hs : (-9223372036854775808 ≤ a + b ∧ a + b < 9223372036854775808)) (hp : ¬ (-9223372036854775808 ≤ a * b ∧ a * b < 9223372036854775808)) (hz : a.tmod b = 0) (hk : a ≠ -9223372036854775808) :
    Calls Tryd.prog 5 #[.int .i64 a, .int .i64 b] w fun e w' => e = .returned (.bool true) ∧ Below w.heap.size w w' := by
  have HK := hide (known_any w hE)
  have HC := hide (fun (W : World) (c : Int) (hW : Below w.heap.size w W) => class_bare c W (hE.below hW hE.lt))
  have hd := tdiv_in ha hb h0 hq
  obtain ⟨w1', w2', w3', hm1, hm2⟩ := tmod_facts ha hb h0
  have e0 : (b == 0) = false := by simpa using h0
  have e0n : (b != 0) = true := by simpa using h0
  have e1 : (a == -9223372036854775808) = false := by simpa using hk
  have H14 : Hid (DoI 14 a b 2 (a.tdiv b) .nilIface) := doI_ok ha hb rfl (by decide) (by rw [reck_14 h0]; exact fit_in hd)
  have H15 : Hid (DoI 15 a b 2 (a.tmod b) .nilIface) := doI_ok ha hb rfl (by decide) (reck_15 h0)
  have H11 : Hid (DoI 11 a b 2 (a + b) .nilIface) := doI_ok ha hb rfl (by decide) (by rw [reck_11]; exact fit_in hs)
  have H12 : Hid (DoI 12 (a + b) b 2 a .nilIface) := doI_ok hs hb rfl (by decide) (by rw [reck_12, show a + b - b = a by omega]; exact fit_in ha)
  have hw : wrap64 (a + b) = a + b := wrap64_in hs.1 hs.2
  have H13 : Hid (DoI 13 a b 0 0 (.iface 55 (.int .i64 6))) := doI_err ha hb rfl (by decide) (by rw [reck_13]; exact fit_out hp) (by decide)
  generalize a.tdiv b = d at *
  rw [hz] at H15 w2'
  rw [Int.add_zero] at w2'
  have wa : wrap64 a = a := wrap64_in ha.1 ha.2
  clear w3' hm1 hm2 w1'
  clear ha hb hd hs hp hq hk hz
  clear hE
  go_enter Tryd.func5, Tryd.ntmps5
  go_wp2_with (first
    | (go_at_call 9; refine (unhide HK).mono ?_; clear HK; rintro e w1 ⟨rfl, hb1⟩)
    | (go_at_call 17; refine (num_any _ _).mono ?_; rintro e w0 ⟨rfl, rfl⟩)
    | (go_at_call 18; refine (unhide H11 _).mono ?_; clear H11; rintro e w2 ⟨rfl, hb2⟩; have Q2 := hide (one_new' (one_step (one_new' (one_new' (one_new' (one_new' hb1 _) _) _) _) hb2) (.cells #[.int .i64 2, .int .i64 (a + b), .string ⟨#[]⟩] 29)); have Vx2 := hide ((((B3.new _ (w1.heap.size + 1 + 1) 2 a ⟨#[]⟩ (by simp)).alloc _).after hb2).alloc (.cells #[.int .i64 2, .int .i64 (a + b), .string ⟨#[]⟩] 29)); have Vy2 := hide (((B3.new _ (w1.heap.size + 1 + 1 + 1) 2 b ⟨#[]⟩ (by simp)).after hb2).alloc (.cells #[.int .i64 2, .int .i64 (a + b), .string ⟨#[]⟩] 29)); have Vs2 := hide (B3.new w2 w2.heap.size 2 (a + b) ⟨#[]⟩ rfl); obtain ⟨x0, x1, x2, _, _, _⟩ := unhide Vx2; obtain ⟨y0, y1, y2, _, _, _⟩ := unhide Vy2; obtain ⟨s0, s1, s2, _, _, _⟩ := unhide Vs2)
    | (go_at_call 18; refine (unhide H12 _).mono ?_; clear H12 x0 x1 x2 y0 y1 y2 s0 s1 s2; rintro e w3 ⟨rfl, hb3⟩; have Q3 := hide (one_new' (one_step (unhide Q2) hb3) (.cells #[.int .i64 2, .int .i64 a, .string ⟨#[]⟩] 29)); have Vx3 := hide (((unhide Vx2).after hb3).alloc (.cells #[.int .i64 2, .int .i64 a, .string ⟨#[]⟩] 29)); have Vy3 := hide (((unhide Vy2).after hb3).alloc (.cells #[.int .i64 2, .int .i64 a, .string ⟨#[]⟩] 29)); have Vs3 := hide (((unhide Vs2).after hb3).alloc (.cells #[.int .i64 2, .int .i64 a, .string ⟨#[]⟩] 29)); have Vt3 := hide (B3.new w3 w3.heap.size 2 a ⟨#[]⟩ rfl); obtain ⟨x0, x1, x2, _, _, _⟩ := unhide Vx3; obtain ⟨y0, y1, y2, _, _, _⟩ := unhide Vy3; obtain ⟨s0, s1, s2, _, _, _⟩ := unhide Vs3; obtain ⟨t0, t1, t2, _, _, _⟩ := unhide Vt3)
    | (go_at_call 18; refine (unhide H13 _).mono ?_; clear H13 x0 x1 x2 y0 y1 y2 s0 s1 s2 t0 t1 t2; rintro e w4 ⟨rfl, hb4⟩; have Q4 := hide (one_new' (one_step (unhide Q3) hb4) (.cells #[.int .i64 0, .int .i64 0, .string ⟨#[]⟩] 29)); have Vx4 := hide (((unhide Vx3).after hb4).alloc (.cells #[.int .i64 0, .int .i64 0, .string ⟨#[]⟩] 29)); have Vy4 := hide (((unhide Vy3).after hb4).alloc (.cells #[.int .i64 0, .int .i64 0, .string ⟨#[]⟩] 29)); obtain ⟨x0, x1, x2, _, _, _⟩ := unhide Vx4; obtain ⟨y0, y1, y2, _, _, _⟩ := unhide Vy4)
    | (go_at_call 18; refine (unhide H14 _).mono ?_; clear H14 x0 x1 x2 y0 y1 y2; rintro e w5 ⟨rfl, hb5⟩; have Q5 := hide (one_new' (one_step (unhide Q4) hb5) (.cells #[.int .i64 2, .int .i64 d, .string ⟨#[]⟩] 29)); have Vx5 := hide (((unhide Vx4).after hb5).alloc (.cells #[.int .i64 2, .int .i64 d, .string ⟨#[]⟩] 29)); have Vy5 := hide (((unhide Vy4).after hb5).alloc (.cells #[.int .i64 2, .int .i64 d, .string ⟨#[]⟩] 29)); have Vq5 := hide (B3.new w5 w5.heap.size 2 d ⟨#[]⟩ rfl); obtain ⟨x0, x1, x2, _, _, _⟩ := unhide Vx5; obtain ⟨y0, y1, y2, _, _, _⟩ := unhide Vy5; obtain ⟨q0, q1, q2, _, _, _⟩ := unhide Vq5)
    | (go_at_call 18; refine (unhide H15 _).mono ?_; clear H15 x0 x1 x2 y0 y1 y2 q0 q1 q2; rintro e w6 ⟨rfl, hb6⟩; have Q6 := hide (one_new' (one_step (unhide Q5) hb6) (.cells #[.int .i64 2, .int .i64 0, .string ⟨#[]⟩] 29)); have Vx6 := hide (((unhide Vx5).after hb6).alloc (.cells #[.int .i64 2, .int .i64 0, .string ⟨#[]⟩] 29)); have Vy6 := hide (((unhide Vy5).after hb6).alloc (.cells #[.int .i64 2, .int .i64 0, .string ⟨#[]⟩] 29)); have Vq6 := hide (((unhide Vq5).after hb6).alloc (.cells #[.int .i64 2, .int .i64 0, .string ⟨#[]⟩] 29)); have Vm6 := hide (B3.new w6 w6.heap.size 2 0 ⟨#[]⟩ rfl); obtain ⟨x0, x1, x2, _, _, _⟩ := unhide Vx6; obtain ⟨y0, y1, y2, _, _, _⟩ := unhide Vy6; obtain ⟨q0, q1, q2, _, _, _⟩ := unhide Vq6; obtain ⟨m0, m1, m2, _, _, _⟩ := unhide Vm6))
  go_ret
  exact ⟨rfl, unhide Q6⟩

set_option maxHeartbeats 3200000 in
theorem numbers_aerrn0m (a b : Int) (w : World) (hE : ET w) (ha : -9223372036854775808 ≤ a ∧ a < 9223372036854775808) (hb : -9223372036854775808 ≤ b ∧ b < 9223372036854775808) (h0 : b ≠ 0) (hq : ¬ (a = -9223372036854775808 ∧ b = -1)) (hs : (-9223372036854775808 ≤ a + b ∧ a + b < 9223372036854775808)) (hp : ¬ (-9223372036854775808 ≤ a * b ∧ a * b < 9223372036854775808)) (hz : a.tmod b = 0) (hk : a = -9223372036854775808) :
    Calls Tryd.prog 5 #[.int .i64 a, .int .i64 b] w fun e w' => e = .returned (.bool true) ∧ Below w.heap.size w w' := by
  have HK := hide (known_any w hE)
  have HC := hide (fun (W : World) (c : Int) (hW : Below w.heap.size w W) => class_bare c W (hE.below hW hE.lt))
  have hd := tdiv_in ha hb h0 hq
  obtain ⟨w1', w2', w3', hm1, hm2⟩ := tmod_facts ha hb h0
  have e0 : (b == 0) = false := by simpa using h0
  have e0n : (b != 0) = true := by simpa using h0
  have e1 : (a == -9223372036854775808) = true := by simpa using hk
  have e2 : (b == -1) = false := by simpa using fun h => hq ⟨hk, h⟩
  have H14 : Hid (DoI 14 a b 2 (a.tdiv b) .nilIface) := doI_ok ha hb rfl (by decide) (by rw [reck_14 h0]; exact fit_in hd)
  have H15 : Hid (DoI 15 a b 2 (a.tmod b) .nilIface) := doI_ok ha hb rfl (by decide) (reck_15 h0)
  have H11 : Hid (DoI 11 a b 2 (a + b) .nilIface) := doI_ok ha hb rfl (by decide) (by rw [reck_11]; exact fit_in hs)
  have H12 : Hid (DoI 12 (a + b) b 2 a .nilIface) := doI_ok hs hb rfl (by decide) (by rw [reck_12, show a + b - b = a by omega]; exact fit_in ha)
  have hw : wrap64 (a + b) = a + b := wrap64_in hs.1 hs.2
  have H13 : Hid (DoI 13 a b 0 0 (.iface 55 (.int .i64 6))) := doI_err ha hb rfl (by decide) (by rw [reck_13]; exact fit_out hp) (by decide)
  generalize a.tdiv b = d at *
  rw [hz] at H15 w2'
  rw [Int.add_zero] at w2'
  have wa : wrap64 a = a := wrap64_in ha.1 ha.2
  clear w3' hm1 hm2 w1'
  clear ha hb hd hs hp hq hk hz
  clear hE
  go_enter Tryd.func5, Tryd.ntmps5
  go_wp2_with (first
    | (go_at_call 9; refine (unhide HK).mono ?_; clear HK; rintro e w1 ⟨rfl, hb1⟩)
    | (go_at_call 17; refine (num_any _ _).mono ?_; rintro e w0 ⟨rfl, rfl⟩)
    | (go_at_call 18; refine (unhide H11 _).mono ?_; clear H11; rintro e w2 ⟨rfl, hb2⟩; have Q2 := hide (one_new' (one_step (one_new' (one_new' (one_new' (one_new' hb1 _) _) _) _) hb2) (.cells #[.int .i64 2, .int .i64 (a + b), .string ⟨#[]⟩] 29)); have Vx2 := hide ((((B3.new _ (w1.heap.size + 1 + 1) 2 a ⟨#[]⟩ (by simp)).alloc _).after hb2).alloc (.cells #[.int .i64 2, .int .i64 (a + b), .string ⟨#[]⟩] 29)); have Vy2 := hide (((B3.new _ (w1.heap.size + 1 + 1 + 1) 2 b ⟨#[]⟩ (by simp)).after hb2).alloc (.cells #[.int .i64 2, .int .i64 (a + b), .string ⟨#[]⟩] 29)); have Vs2 := hide (B3.new w2 w2.heap.size 2 (a + b) ⟨#[]⟩ rfl); obtain ⟨x0, x1, x2, _, _, _⟩ := unhide Vx2; obtain ⟨y0, y1, y2, _, _, _⟩ := unhide Vy2; obtain ⟨s0, s1, s2, _, _, _⟩ := unhide Vs2)
    | (go_at_call 18; refine (unhide H12 _).mono ?_; clear H12 x0 x1 x2 y0 y1 y2 s0 s1 s2; rintro e w3 ⟨rfl, hb3⟩; have Q3 := hide (one_new' (one_step (unhide Q2) hb3) (.cells #[.int .i64 2, .int .i64 a, .string ⟨#[]⟩] 29)); have Vx3 := hide (((unhide Vx2).after hb3).alloc (.cells #[.int .i64 2, .int .i64 a, .string ⟨#[]⟩] 29)); have Vy3 := hide (((unhide Vy2).after hb3).alloc (.cells #[.int .i64 2, .int .i64 a, .string ⟨#[]⟩] 29)); have Vs3 := hide (((unhide Vs2).after hb3).alloc (.cells #[.int .i64 2, .int .i64 a, .string ⟨#[]⟩] 29)); have Vt3 := hide (B3.new w3 w3.heap.size 2 a ⟨#[]⟩ rfl); obtain ⟨x0, x1, x2, _, _, _⟩ := unhide Vx3; obtain ⟨y0, y1, y2, _, _, _⟩ := unhide Vy3; obtain ⟨s0, s1, s2, _, _, _⟩ := unhide Vs3; obtain ⟨t0, t1, t2, _, _, _⟩ := unhide Vt3)
    | (go_at_call 18; refine (unhide H13 _).mono ?_; clear H13 x0 x1 x2 y0 y1 y2 s0 s1 s2 t0 t1 t2; rintro e w4 ⟨rfl, hb4⟩; have Q4 := hide (one_new' (one_step (unhide Q3) hb4) (.cells #[.int .i64 0, .int .i64 0, .string ⟨#[]⟩] 29)); have Vx4 := hide (((unhide Vx3).after hb4).alloc (.cells #[.int .i64 0, .int .i64 0, .string ⟨#[]⟩] 29)); have Vy4 := hide (((unhide Vy3).after hb4).alloc (.cells #[.int .i64 0, .int .i64 0, .string ⟨#[]⟩] 29)); obtain ⟨x0, x1, x2, _, _, _⟩ := unhide Vx4; obtain ⟨y0, y1, y2, _, _, _⟩ := unhide Vy4)
    | (go_at_call 18; refine (unhide H14 _).mono ?_; clear H14 x0 x1 x2 y0 y1 y2; rintro e w5 ⟨rfl, hb5⟩; have Q5 := hide (one_new' (one_step (unhide Q4) hb5) (.cells #[.int .i64 2, .int .i64 d, .string ⟨#[]⟩] 29)); have Vx5 := hide (((unhide Vx4).after hb5).alloc (.cells #[.int .i64 2, .int .i64 d, .string ⟨#[]⟩] 29)); have Vy5 := hide (((unhide Vy4).after hb5).alloc (.cells #[.int .i64 2, .int .i64 d, .string ⟨#[]⟩] 29)); have Vq5 := hide (B3.new w5 w5.heap.size 2 d ⟨#[]⟩ rfl); obtain ⟨x0, x1, x2, _, _, _⟩ := unhide Vx5; obtain ⟨y0, y1, y2, _, _, _⟩ := unhide Vy5; obtain ⟨q0, q1, q2, _, _, _⟩ := unhide Vq5)
    | (go_at_call 18; refine (unhide H15 _).mono ?_; clear H15 x0 x1 x2 y0 y1 y2 q0 q1 q2; rintro e w6 ⟨rfl, hb6⟩; have Q6 := hide (one_new' (one_step (unhide Q5) hb6) (.cells #[.int .i64 2, .int .i64 0, .string ⟨#[]⟩] 29)); have Vx6 := hide (((unhide Vx5).after hb6).alloc (.cells #[.int .i64 2, .int .i64 0, .string ⟨#[]⟩] 29)); have Vy6 := hide (((unhide Vy5).after hb6).alloc (.cells #[.int .i64 2, .int .i64 0, .string ⟨#[]⟩] 29)); have Vq6 := hide (((unhide Vq5).after hb6).alloc (.cells #[.int .i64 2, .int .i64 0, .string ⟨#[]⟩] 29)); have Vm6 := hide (B3.new w6 w6.heap.size 2 0 ⟨#[]⟩ rfl); obtain ⟨x0, x1, x2, _, _, _⟩ := unhide Vx6; obtain ⟨y0, y1, y2, _, _, _⟩ := unhide Vy6; obtain ⟨q0, q1, q2, _, _, _⟩ := unhide Vq6; obtain ⟨m0, m1, m2, _, _, _⟩ := unhide Vm6))
  go_ret
  exact ⟨rfl, unhide Q6⟩

set_option maxHeartbeats 3200000 in
theorem numbers_aerrn1x (a b : Int) (w : World) (hE : ET w) (ha : -9223372036854775808 ≤ a ∧ a < 9223372036854775808) (hb : -9223372036854775808 ≤ b ∧ b < 9223372036854775808) (h0 : b ≠ 0) (hq : ¬ (a = -9223372036854775808 ∧ b = -1)) (hs : (-9223372036854775808 ≤ a + b ∧ a + b < 9223372036854775808)) (hp : ¬ (-9223372036854775808 ≤ a * b ∧ a * b < 9223372036854775808)) (hz : a.tmod b ≠ 0) (hk : a ≠ -9223372036854775808) :
    Calls Tryd.prog 5 #[.int .i64 a, .int .i64 b] w fun e w' => e = .returned (.bool true) ∧ Below w.heap.size w w' := by
  have HK := hide (known_any w hE)
  have HC := hide (fun (W : World) (c : Int) (hW : Below w.heap.size w W) => class_bare c W (hE.below hW hE.lt))
  have hd := tdiv_in ha hb h0 hq
  obtain ⟨w1', w2', w3', hm1, hm2⟩ := tmod_facts ha hb h0
  have e0 : (b == 0) = false := by simpa using h0
  have e0n : (b != 0) = true := by simpa using h0
  have e1 : (a == -9223372036854775808) = false := by simpa using hk
  have H14 : Hid (DoI 14 a b 2 (a.tdiv b) .nilIface) := doI_ok ha hb rfl (by decide) (by rw [reck_14 h0]; exact fit_in hd)
  have H15 : Hid (DoI 15 a b 2 (a.tmod b) .nilIface) := doI_ok ha hb rfl (by decide) (reck_15 h0)
  have H11 : Hid (DoI 11 a b 2 (a + b) .nilIface) := doI_ok ha hb rfl (by decide) (by rw [reck_11]; exact fit_in hs)
  have H12 : Hid (DoI 12 (a + b) b 2 a .nilIface) := doI_ok hs hb rfl (by decide) (by rw [reck_12, show a + b - b = a by omega]; exact fit_in ha)
  have hw : wrap64 (a + b) = a + b := wrap64_in hs.1 hs.2
  have H13 : Hid (DoI 13 a b 0 0 (.iface 55 (.int .i64 6))) := doI_err ha hb rfl (by decide) (by rw [reck_13]; exact fit_out hp) (by decide)
  generalize a.tdiv b = d at *
  have ez : (a.tmod b == 0) = false := by simpa using hz
  have ey : (a.tmod b < 0) = (a < 0) := propext (w3' hz)
  generalize a.tmod b = m at *
  clear w3' hm1 hm2 hz
  clear ha hb hd hs hp hq hk
  clear hE
  go_enter Tryd.func5, Tryd.ntmps5
  go_wp2_with (first
    | (go_at_call 9; refine (unhide HK).mono ?_; clear HK; rintro e w1 ⟨rfl, hb1⟩)
    | (go_at_call 17; refine (num_any _ _).mono ?_; rintro e w0 ⟨rfl, rfl⟩)
    | (go_at_call 18; refine (unhide H11 _).mono ?_; clear H11; rintro e w2 ⟨rfl, hb2⟩; have Q2 := hide (one_new' (one_step (one_new' (one_new' (one_new' (one_new' hb1 _) _) _) _) hb2) (.cells #[.int .i64 2, .int .i64 (a + b), .string ⟨#[]⟩] 29)); have Vx2 := hide ((((B3.new _ (w1.heap.size + 1 + 1) 2 a ⟨#[]⟩ (by simp)).alloc _).after hb2).alloc (.cells #[.int .i64 2, .int .i64 (a + b), .string ⟨#[]⟩] 29)); have Vy2 := hide (((B3.new _ (w1.heap.size + 1 + 1 + 1) 2 b ⟨#[]⟩ (by simp)).after hb2).alloc (.cells #[.int .i64 2, .int .i64 (a + b), .string ⟨#[]⟩] 29)); have Vs2 := hide (B3.new w2 w2.heap.size 2 (a + b) ⟨#[]⟩ rfl); obtain ⟨x0, x1, x2, _, _, _⟩ := unhide Vx2; obtain ⟨y0, y1, y2, _, _, _⟩ := unhide Vy2; obtain ⟨s0, s1, s2, _, _, _⟩ := unhide Vs2)
    | (go_at_call 18; refine (unhide H12 _).mono ?_; clear H12 x0 x1 x2 y0 y1 y2 s0 s1 s2; rintro e w3 ⟨rfl, hb3⟩; have Q3 := hide (one_new' (one_step (unhide Q2) hb3) (.cells #[.int .i64 2, .int .i64 a, .string ⟨#[]⟩] 29)); have Vx3 := hide (((unhide Vx2).after hb3).alloc (.cells #[.int .i64 2, .int .i64 a, .string ⟨#[]⟩] 29)); have Vy3 := hide (((unhide Vy2).after hb3).alloc (.cells #[.int .i64 2, .int .i64 a, .string ⟨#[]⟩] 29)); have Vs3 := hide (((unhide Vs2).after hb3).alloc (.cells #[.int .i64 2, .int .i64 a, .string ⟨#[]⟩] 29)); have Vt3 := hide (B3.new w3 w3.heap.size 2 a ⟨#[]⟩ rfl); obtain ⟨x0, x1, x2, _, _, _⟩ := unhide Vx3; obtain ⟨y0, y1, y2, _, _, _⟩ := unhide Vy3; obtain ⟨s0, s1, s2, _, _, _⟩ := unhide Vs3; obtain ⟨t0, t1, t2, _, _, _⟩ := unhide Vt3)
    | (go_at_call 18; refine (unhide H13 _).mono ?_; clear H13 x0 x1 x2 y0 y1 y2 s0 s1 s2 t0 t1 t2; rintro e w4 ⟨rfl, hb4⟩; have Q4 := hide (one_new' (one_step (unhide Q3) hb4) (.cells #[.int .i64 0, .int .i64 0, .string ⟨#[]⟩] 29)); have Vx4 := hide (((unhide Vx3).after hb4).alloc (.cells #[.int .i64 0, .int .i64 0, .string ⟨#[]⟩] 29)); have Vy4 := hide (((unhide Vy3).after hb4).alloc (.cells #[.int .i64 0, .int .i64 0, .string ⟨#[]⟩] 29)); obtain ⟨x0, x1, x2, _, _, _⟩ := unhide Vx4; obtain ⟨y0, y1, y2, _, _, _⟩ := unhide Vy4)
    | (go_at_call 18; refine (unhide H14 _).mono ?_; clear H14 x0 x1 x2 y0 y1 y2; rintro e w5 ⟨rfl, hb5⟩; have Q5 := hide (one_new' (one_step (unhide Q4) hb5) (.cells #[.int .i64 2, .int .i64 d, .string ⟨#[]⟩] 29)); have Vx5 := hide (((unhide Vx4).after hb5).alloc (.cells #[.int .i64 2, .int .i64 d, .string ⟨#[]⟩] 29)); have Vy5 := hide (((unhide Vy4).after hb5).alloc (.cells #[.int .i64 2, .int .i64 d, .string ⟨#[]⟩] 29)); have Vq5 := hide (B3.new w5 w5.heap.size 2 d ⟨#[]⟩ rfl); obtain ⟨x0, x1, x2, _, _, _⟩ := unhide Vx5; obtain ⟨y0, y1, y2, _, _, _⟩ := unhide Vy5; obtain ⟨q0, q1, q2, _, _, _⟩ := unhide Vq5)
    | (go_at_call 18; refine (unhide H15 _).mono ?_; clear H15 x0 x1 x2 y0 y1 y2 q0 q1 q2; rintro e w6 ⟨rfl, hb6⟩; have Q6 := hide (one_new' (one_step (unhide Q5) hb6) (.cells #[.int .i64 2, .int .i64 m, .string ⟨#[]⟩] 29)); have Vx6 := hide (((unhide Vx5).after hb6).alloc (.cells #[.int .i64 2, .int .i64 m, .string ⟨#[]⟩] 29)); have Vy6 := hide (((unhide Vy5).after hb6).alloc (.cells #[.int .i64 2, .int .i64 m, .string ⟨#[]⟩] 29)); have Vq6 := hide (((unhide Vq5).after hb6).alloc (.cells #[.int .i64 2, .int .i64 m, .string ⟨#[]⟩] 29)); have Vm6 := hide (B3.new w6 w6.heap.size 2 m ⟨#[]⟩ rfl); obtain ⟨x0, x1, x2, _, _, _⟩ := unhide Vx6; obtain ⟨y0, y1, y2, _, _, _⟩ := unhide Vy6; obtain ⟨q0, q1, q2, _, _, _⟩ := unhide Vq6; obtain ⟨m0, m1, m2, _, _, _⟩ := unhide Vm6))
  go_ret
  exact ⟨rfl, unhide Q6⟩

set_option maxHeartbeats 3200000 in
theorem numbers_aerrn1m (a b : Int) (w : World) (hE : ET w) (ha : -9223372036854775808 ≤ a ∧ a < 9223372036854775808) (hb : -9223372036854775808 ≤ b ∧ b < 9223372036854775808) (h0 : b ≠ 0) (hq : ¬ (a = -9223372036854775808 ∧ b = -1)) (hs : (-9223372036854775808 ≤ a + b ∧ a + b < 9223372036854775808)) (hp : ¬ (-9223372036854775808 ≤ a * b ∧ a * b < 9223372036854775808)) (hz : a.tmod b ≠ 0) (hk : a = -9223372036854775808) :
    Calls Tryd.prog 5 #[.int .i64 a, .int .i64 b] w fun e w' => e = .returned (.bool true) ∧ Below w.heap.size w w' := by
  have HK := hide (known_any w hE)
  have HC := hide (fun (W : World) (c : Int) (hW : Below w.heap.size w W) => class_bare c W (hE.below hW hE.lt))
  have hd := tdiv_in ha hb h0 hq
  obtain ⟨w1', w2', w3', hm1, hm2⟩ := tmod_facts ha hb h0
  have e0 : (b == 0) = false := by simpa using h0
  have e0n : (b != 0) = true := by simpa using h0
  have e1 : (a == -9223372036854775808) = true := by simpa using hk
  have e2 : (b == -1) = false := by simpa using fun h => hq ⟨hk, h⟩
  have H14 : Hid (DoI 14 a b 2 (a.tdiv b) .nilIface) := doI_ok ha hb rfl (by decide) (by rw [reck_14 h0]; exact fit_in hd)
  have H15 : Hid (DoI 15 a b 2 (a.tmod b) .nilIface) := doI_ok ha hb rfl (by decide) (reck_15 h0)
  have H11 : Hid (DoI 11 a b 2 (a + b) .nilIface) := doI_ok ha hb rfl (by decide) (by rw [reck_11]; exact fit_in hs)
  have H12 : Hid (DoI 12 (a + b) b 2 a .nilIface) := doI_ok hs hb rfl (by decide) (by rw [reck_12, show a + b - b = a by omega]; exact fit_in ha)
  have hw : wrap64 (a + b) = a + b := wrap64_in hs.1 hs.2
  have H13 : Hid (DoI 13 a b 0 0 (.iface 55 (.int .i64 6))) := doI_err ha hb rfl (by decide) (by rw [reck_13]; exact fit_out hp) (by decide)
  generalize a.tdiv b = d at *
  have ez : (a.tmod b == 0) = false := by simpa using hz
  have ey : (a.tmod b < 0) = (a < 0) := propext (w3' hz)
  generalize a.tmod b = m at *
  clear w3' hm1 hm2 hz
  clear ha hb hd hs hp hq hk
  clear hE
  go_enter Tryd.func5, Tryd.ntmps5
  go_wp2_with (first
    | (go_at_call 9; refine (unhide HK).mono ?_; clear HK; rintro e w1 ⟨rfl, hb1⟩)
    | (go_at_call 17; refine (num_any _ _).mono ?_; rintro e w0 ⟨rfl, rfl⟩)
    | (go_at_call 18; refine (unhide H11 _).mono ?_; clear H11; rintro e w2 ⟨rfl, hb2⟩; have Q2 := hide (one_new' (one_step (one_new' (one_new' (one_new' (one_new' hb1 _) _) _) _) hb2) (.cells #[.int .i64 2, .int .i64 (a + b), .string ⟨#[]⟩] 29)); have Vx2 := hide ((((B3.new _ (w1.heap.size + 1 + 1) 2 a ⟨#[]⟩ (by simp)).alloc _).after hb2).alloc (.cells #[.int .i64 2, .int .i64 (a + b), .string ⟨#[]⟩] 29)); have Vy2 := hide (((B3.new _ (w1.heap.size + 1 + 1 + 1) 2 b ⟨#[]⟩ (by simp)).after hb2).alloc (.cells #[.int .i64 2, .int .i64 (a + b), .string ⟨#[]⟩] 29)); have Vs2 := hide (B3.new w2 w2.heap.size 2 (a + b) ⟨#[]⟩ rfl); obtain ⟨x0, x1, x2, _, _, _⟩ := unhide Vx2; obtain ⟨y0, y1, y2, _, _, _⟩ := unhide Vy2; obtain ⟨s0, s1, s2, _, _, _⟩ := unhide Vs2)
    | (go_at_call 18; refine (unhide H12 _).mono ?_; clear H12 x0 x1 x2 y0 y1 y2 s0 s1 s2; rintro e w3 ⟨rfl, hb3⟩; have Q3 := hide (one_new' (one_step (unhide Q2) hb3) (.cells #[.int .i64 2, .int .i64 a, .string ⟨#[]⟩] 29)); have Vx3 := hide (((unhide Vx2).after hb3).alloc (.cells #[.int .i64 2, .int .i64 a, .string ⟨#[]⟩] 29)); have Vy3 := hide (((unhide Vy2).after hb3).alloc (.cells #[.int .i64 2, .int .i64 a, .string ⟨#[]⟩] 29)); have Vs3 := hide (((unhide Vs2).after hb3).alloc (.cells #[.int .i64 2, .int .i64 a, .string ⟨#[]⟩] 29)); have Vt3 := hide (B3.new w3 w3.heap.size 2 a ⟨#[]⟩ rfl); obtain ⟨x0, x1, x2, _, _, _⟩ := unhide Vx3; obtain ⟨y0, y1, y2, _, _, _⟩ := unhide Vy3; obtain ⟨s0, s1, s2, _, _, _⟩ := unhide Vs3; obtain ⟨t0, t1, t2, _, _, _⟩ := unhide Vt3)
    | (go_at_call 18; refine (unhide H13 _).mono ?_; clear H13 x0 x1 x2 y0 y1 y2 s0 s1 s2 t0 t1 t2; rintro e w4 ⟨rfl, hb4⟩; have Q4 := hide (one_new' (one_step (unhide Q3) hb4) (.cells #[.int .i64 0, .int .i64 0, .string ⟨#[]⟩] 29)); have Vx4 := hide (((unhide Vx3).after hb4).alloc (.cells #[.int .i64 0, .int .i64 0, .string ⟨#[]⟩] 29)); have Vy4 := hide (((unhide Vy3).after hb4).alloc (.cells #[.int .i64 0, .int .i64 0, .string ⟨#[]⟩] 29)); obtain ⟨x0, x1, x2, _, _, _⟩ := unhide Vx4; obtain ⟨y0, y1, y2, _, _, _⟩ := unhide Vy4)
    | (go_at_call 18; refine (unhide H14 _).mono ?_; clear H14 x0 x1 x2 y0 y1 y2; rintro e w5 ⟨rfl, hb5⟩; have Q5 := hide (one_new' (one_step (unhide Q4) hb5) (.cells #[.int .i64 2, .int .i64 d, .string ⟨#[]⟩] 29)); have Vx5 := hide (((unhide Vx4).after hb5).alloc (.cells #[.int .i64 2, .int .i64 d, .string ⟨#[]⟩] 29)); have Vy5 := hide (((unhide Vy4).after hb5).alloc (.cells #[.int .i64 2, .int .i64 d, .string ⟨#[]⟩] 29)); have Vq5 := hide (B3.new w5 w5.heap.size 2 d ⟨#[]⟩ rfl); obtain ⟨x0, x1, x2, _, _, _⟩ := unhide Vx5; obtain ⟨y0, y1, y2, _, _, _⟩ := unhide Vy5; obtain ⟨q0, q1, q2, _, _, _⟩ := unhide Vq5)
    | (go_at_call 18; refine (unhide H15 _).mono ?_; clear H15 x0 x1 x2 y0 y1 y2 q0 q1 q2; rintro e w6 ⟨rfl, hb6⟩; have Q6 := hide (one_new' (one_step (unhide Q5) hb6) (.cells #[.int .i64 2, .int .i64 m, .string ⟨#[]⟩] 29)); have Vx6 := hide (((unhide Vx5).after hb6).alloc (.cells #[.int .i64 2, .int .i64 m, .string ⟨#[]⟩] 29)); have Vy6 := hide (((unhide Vy5).after hb6).alloc (.cells #[.int .i64 2, .int .i64 m, .string ⟨#[]⟩] 29)); have Vq6 := hide (((unhide Vq5).after hb6).alloc (.cells #[.int .i64 2, .int .i64 m, .string ⟨#[]⟩] 29)); have Vm6 := hide (B3.new w6 w6.heap.size 2 m ⟨#[]⟩ rfl); obtain ⟨x0, x1, x2, _, _, _⟩ := unhide Vx6; obtain ⟨y0, y1, y2, _, _, _⟩ := unhide Vy6; obtain ⟨q0, q1, q2, _, _, _⟩ := unhide Vq6; obtain ⟨m0, m1, m2, _, _, _⟩ := unhide Vm6))
  go_ret
  exact ⟨rfl, unhide Q6⟩

set_option maxHeartbeats 3200000 in
theorem numbers_ookn0x (a b : Int) (w : World) (hE : ET w) (ha : -9223372036854775808 ≤ a ∧ a < 9223372036854775808) (hb : -9223372036854775808 ≤ b ∧ b < 9223372036854775808) (h0 : b ≠ 0) (hq : ¬ (a = -9223372036854775808 ∧ b = -1)) (hs : ¬ (-9223372036854775808 ≤ a + b ∧ a + b < 9223372036854775808)) (hp : (-9223372036854775808 ≤ a * b ∧ a * b < 9223372036854775808)) (hz : a.tmod b = 0) (hk : a ≠ -9223372036854775808) :
    Calls Tryd.prog 5 #[.int .i64 a, .int .i64 b] w fun e w' => e = .returned (.bool true) ∧ Below w.heap.size w w' := by
  have HK := hide (known_any w hE)
  have HC := hide (fun (W : World) (c : Int) (hW : Below w.heap.size w W) => class_bare c W (hE.below hW hE.lt))
  have hd := tdiv_in ha hb h0 hq
  obtain ⟨w1', w2', w3', hm1, hm2⟩ := tmod_facts ha hb h0
  have e0 : (b == 0) = false := by simpa using h0
  have e0n : (b != 0) = true := by simpa using h0
  have e1 : (a == -9223372036854775808) = false := by simpa using hk
  have H14 : Hid (DoI 14 a b 2 (a.tdiv b) .nilIface) := doI_ok ha hb rfl (by decide) (by rw [reck_14 h0]; exact fit_in hd)
  have H15 : Hid (DoI 15 a b 2 (a.tmod b) .nilIface) := doI_ok ha hb rfl (by decide) (reck_15 h0)
  have H11 : Hid (DoI 11 a b 0 0 (.iface 55 (.int .i64 6))) := doI_err ha hb rfl (by decide) (by rw [reck_11]; exact fit_out hs) (by decide)
  have H13 : Hid (DoI 13 a b 2 (a * b) .nilIface) := doI_ok ha hb rfl (by decide) (by rw [reck_13]; exact fit_in hp)
  have H14p : Hid (DoI 14 (a * b) b 2 a .nilIface) := doI_ok hp hb rfl (by decide) (by rw [reck_14 h0, Int.mul_tdiv_cancel _ h0]; exact fit_in ha)
  generalize a.tdiv b = d at *
  rw [hz] at H15 w2'
  rw [Int.add_zero] at w2'
  have wa : wrap64 a = a := wrap64_in ha.1 ha.2
  clear w3' hm1 hm2 w1'
  clear ha hb hd hs hp hq hk hz
  clear hE
  go_enter Tryd.func5, Tryd.ntmps5
  go_wp2_with (first
    | (go_at_call 9; refine (unhide HK).mono ?_; clear HK; rintro e w1 ⟨rfl, hb1⟩)
    | (go_at_call 17; refine (num_any _ _).mono ?_; rintro e w0 ⟨rfl, rfl⟩)
    | (go_at_call 18; refine (unhide H11 _).mono ?_; clear H11; rintro e w2 ⟨rfl, hb2⟩; have Q2 := hide (one_new' (one_step (one_new' (one_new' (one_new' (one_new' hb1 _) _) _) _) hb2) (.cells #[.int .i64 0, .int .i64 0, .string ⟨#[]⟩] 29)); have Vx2 := hide ((((B3.new _ (w1.heap.size + 1 + 1) 2 a ⟨#[]⟩ (by simp)).alloc _).after hb2).alloc (.cells #[.int .i64 0, .int .i64 0, .string ⟨#[]⟩] 29)); have Vy2 := hide (((B3.new _ (w1.heap.size + 1 + 1 + 1) 2 b ⟨#[]⟩ (by simp)).after hb2).alloc (.cells #[.int .i64 0, .int .i64 0, .string ⟨#[]⟩] 29)); obtain ⟨x0, x1, x2, _, _, _⟩ := unhide Vx2; obtain ⟨y0, y1, y2, _, _, _⟩ := unhide Vy2)
    | (go_at_call 19; refine (unhide HC _ 6 (unhide Q2)).mono ?_; clear x0 x1 x2 y0 y1 y2; rintro e w3 ⟨rfl, hb3⟩; have Q3 := hide (one_step (unhide Q2) hb3); have Vx3 := hide ((unhide Vx2).after hb3); have Vy3 := hide ((unhide Vy2).after hb3); obtain ⟨x0, x1, x2, _, _, _⟩ := unhide Vx3; obtain ⟨y0, y1, y2, _, _, _⟩ := unhide Vy3)
    | (go_at_call 18; refine (unhide H13 _).mono ?_; clear H13 x0 x1 x2 y0 y1 y2; rintro e w4 ⟨rfl, hb4⟩; have Q4 := hide (one_new' (one_step (unhide Q3) hb4) (.cells #[.int .i64 2, .int .i64 (a * b), .string ⟨#[]⟩] 29)); have Vx4 := hide (((unhide Vx3).after hb4).alloc (.cells #[.int .i64 2, .int .i64 (a * b), .string ⟨#[]⟩] 29)); have Vy4 := hide (((unhide Vy3).after hb4).alloc (.cells #[.int .i64 2, .int .i64 (a * b), .string ⟨#[]⟩] 29)); have Vp4 := hide (B3.new w4 w4.heap.size 2 (a * b) ⟨#[]⟩ rfl); obtain ⟨x0, x1, x2, _, _, _⟩ := unhide Vx4; obtain ⟨y0, y1, y2, _, _, _⟩ := unhide Vy4; obtain ⟨p0, p1, p2, _, _, _⟩ := unhide Vp4)
    | (go_at_call 18; refine (unhide H14p _).mono ?_; clear H14p x0 x1 x2 y0 y1 y2 p0 p1 p2; rintro e w5 ⟨rfl, hb5⟩; have Q5 := hide (one_new' (one_step (unhide Q4) hb5) (.cells #[.int .i64 2, .int .i64 a, .string ⟨#[]⟩] 29)); have Vx5 := hide (((unhide Vx4).after hb5).alloc (.cells #[.int .i64 2, .int .i64 a, .string ⟨#[]⟩] 29)); have Vy5 := hide (((unhide Vy4).after hb5).alloc (.cells #[.int .i64 2, .int .i64 a, .string ⟨#[]⟩] 29)); have Vp5 := hide (((unhide Vp4).after hb5).alloc (.cells #[.int .i64 2, .int .i64 a, .string ⟨#[]⟩] 29)); have Vr5 := hide (B3.new w5 w5.heap.size 2 a ⟨#[]⟩ rfl); obtain ⟨x0, x1, x2, _, _, _⟩ := unhide Vx5; obtain ⟨y0, y1, y2, _, _, _⟩ := unhide Vy5; obtain ⟨p0, p1, p2, _, _, _⟩ := unhide Vp5; obtain ⟨r0, r1, r2, _, _, _⟩ := unhide Vr5)
    | (go_at_call 18; refine (unhide H14 _).mono ?_; clear H14 x0 x1 x2 y0 y1 y2 p0 p1 p2 r0 r1 r2; rintro e w6 ⟨rfl, hb6⟩; have Q6 := hide (one_new' (one_step (unhide Q5) hb6) (.cells #[.int .i64 2, .int .i64 d, .string ⟨#[]⟩] 29)); have Vx6 := hide (((unhide Vx5).after hb6).alloc (.cells #[.int .i64 2, .int .i64 d, .string ⟨#[]⟩] 29)); have Vy6 := hide (((unhide Vy5).after hb6).alloc (.cells #[.int .i64 2, .int .i64 d, .string ⟨#[]⟩] 29)); have Vq6 := hide (B3.new w6 w6.heap.size 2 d ⟨#[]⟩ rfl); obtain ⟨x0, x1, x2, _, _, _⟩ := unhide Vx6; obtain ⟨y0, y1, y2, _, _, _⟩ := unhide Vy6; obtain ⟨q0, q1, q2, _, _, _⟩ := unhide Vq6)
    | (go_at_call 18; refine (unhide H15 _).mono ?_; clear H15 x0 x1 x2 y0 y1 y2 q0 q1 q2; rintro e w7 ⟨rfl, hb7⟩; have Q7 := hide (one_new' (one_step (unhide Q6) hb7) (.cells #[.int .i64 2, .int .i64 0, .string ⟨#[]⟩] 29)); have Vx7 := hide (((unhide Vx6).after hb7).alloc (.cells #[.int .i64 2, .int .i64 0, .string ⟨#[]⟩] 29)); have Vy7 := hide (((unhide Vy6).after hb7).alloc (.cells #[.int .i64 2, .int .i64 0, .string ⟨#[]⟩] 29)); have Vq7 := hide (((unhide Vq6).after hb7).alloc (.cells #[.int .i64 2, .int .i64 0, .string ⟨#[]⟩] 29)); have Vm7 := hide (B3.new w7 w7.heap.size 2 0 ⟨#[]⟩ rfl); obtain ⟨x0, x1, x2, _, _, _⟩ := unhide Vx7; obtain ⟨y0, y1, y2, _, _, _⟩ := unhide Vy7; obtain ⟨q0, q1, q2, _, _, _⟩ := unhide Vq7; obtain ⟨m0, m1, m2, _, _, _⟩ := unhide Vm7))
  go_ret
  exact ⟨rfl, unhide Q7⟩

set_option maxHeartbeats 3200000 in
theorem numbers_ookn0m (a b : Int) (w : World) (hE : ET w) (ha : -9223372036854775808 ≤ a ∧ a < 9223372036854775808) (hb : -9223372036854775808 ≤ b ∧ b < 9223372036854775808) (h0 : b ≠ 0) (hq : ¬ (a = -9223372036854775808 ∧ b = -1)) (hs : ¬ (-9223372036854775808 ≤ a + b ∧ a + b < 9223372036854775808)) (hp : (-9223372036854775808 ≤ a * b ∧ a * b < 9223372036854775808)) (hz : a.tmod b = 0) (hk : a = -9223372036854775808) :
    Calls Tryd.prog 5 #[.int .i64 a, .int .i64 b] w fun e w' => e = .returned (.bool true) ∧ Below w.heap.size w w' := by
  have HK := hide (known_any w hE)
  have HC := hide (fun (W : World) (c : Int) (hW : Below w.heap.size w W) => class_bare c W (hE.below hW hE.lt))
  have hd := tdiv_in ha hb h0 hq
  obtain ⟨w1', w2', w3', hm1, hm2⟩ := tmod_facts ha hb h0
  have e0 : (b == 0) = false := by simpa using h0
  have e0n : (b != 0) = true := by simpa using h0
  have e1 : (a == -9223372036854775808) = true := by simpa using hk
  have e2 : (b == -1) = false := by simpa using fun h => hq ⟨hk, h⟩
  have H14 : Hid (DoI 14 a b 2 (a.tdiv b) .nilIface) := doI_ok ha hb rfl (by decide) (by rw [reck_14 h0]; exact fit_in hd)
  have H15 : Hid (DoI 15 a b 2 (a.tmod b) .nilIface) := doI_ok ha hb rfl (by decide) (reck_15 h0)
  have H11 : Hid (DoI 11 a b 0 0 (.iface 55 (.int .i64 6))) := doI_err ha hb rfl (by decide) (by rw [reck_11]; exact fit_out hs) (by decide)
  have H13 : Hid (DoI 13 a b 2 (a * b) .nilIface) := doI_ok ha hb rfl (by decide) (by rw [reck_13]; exact fit_in hp)
  have H14p : Hid (DoI 14 (a * b) b 2 a .nilIface) := doI_ok hp hb rfl (by decide) (by rw [reck_14 h0, Int.mul_tdiv_cancel _ h0]; exact fit_in ha)
  generalize a.tdiv b = d at *
  rw [hz] at H15 w2'
  rw [Int.add_zero] at w2'
  have wa : wrap64 a = a := wrap64_in ha.1 ha.2
  clear w3' hm1 hm2 w1'
  clear ha hb hd hs hp hq hk hz
  clear hE
  go_enter Tryd.func5, Tryd.ntmps5
  go_wp2_with (first
    | (go_at_call 9; refine (unhide HK).mono ?_; clear HK; rintro e w1 ⟨rfl, hb1⟩)
    | (go_at_call 17; refine (num_any _ _).mono ?_; rintro e w0 ⟨rfl, rfl⟩)
    | (go_at_call 18; refine (unhide H11 _).mono ?_; clear H11; rintro e w2 ⟨rfl, hb2⟩; have Q2 := hide (one_new' (one_step (one_new' (one_new' (one_new' (one_new' hb1 _) _) _) _) hb2) (.cells #[.int .i64 0, .int .i64 0, .string ⟨#[]⟩] 29)); have Vx2 := hide ((((B3.new _ (w1.heap.size + 1 + 1) 2 a ⟨#[]⟩ (by simp)).alloc _).after hb2).alloc (.cells #[.int .i64 0, .int .i64 0, .string ⟨#[]⟩] 29)); have Vy2 := hide (((B3.new _ (w1.heap.size + 1 + 1 + 1) 2 b ⟨#[]⟩ (by simp)).after hb2).alloc (.cells #[.int .i64 0, .int .i64 0, .string ⟨#[]⟩] 29)); obtain ⟨x0, x1, x2, _, _, _⟩ := unhide Vx2; obtain ⟨y0, y1, y2, _, _, _⟩ := unhide Vy2)
    | (go_at_call 19; refine (unhide HC _ 6 (unhide Q2)).mono ?_; clear x0 x1 x2 y0 y1 y2; rintro e w3 ⟨rfl, hb3⟩; have Q3 := hide (one_step (unhide Q2) hb3); have Vx3 := hide ((unhide Vx2).after hb3); have Vy3 := hide ((unhide Vy2).after hb3); obtain ⟨x0, x1, x2, _, _, _⟩ := unhide Vx3; obtain ⟨y0, y1, y2, _, _, _⟩ := unhide Vy3)
    | (go_at_call 18; refine (unhide H13 _).mono ?_; clear H13 x0 x1 x2 y0 y1 y2; rintro e w4 ⟨rfl, hb4⟩; have Q4 := hide (one_new' (one_step (unhide Q3) hb4) (.cells #[.int .i64 2, .int .i64 (a * b), .string ⟨#[]⟩] 29)); have Vx4 := hide (((unhide Vx3).after hb4).alloc (.cells #[.int .i64 2, .int .i64 (a * b), .string ⟨#[]⟩] 29)); have Vy4 := hide (((unhide Vy3).after hb4).alloc (.cells #[.int .i64 2, .int .i64 (a * b), .string ⟨#[]⟩] 29)); have Vp4 := hide (B3.new w4 w4.heap.size 2 (a * b) ⟨#[]⟩ rfl); obtain ⟨x0, x1, x2, _, _, _⟩ := unhide Vx4; obtain ⟨y0, y1, y2, _, _, _⟩ := unhide Vy4; obtain ⟨p0, p1, p2, _, _, _⟩ := unhide Vp4)
    | (go_at_call 18; refine (unhide H14p _).mono ?_; clear H14p x0 x1 x2 y0 y1 y2 p0 p1 p2; rintro e w5 ⟨rfl, hb5⟩; have Q5 := hide (one_new' (one_step (unhide Q4) hb5) (.cells #[.int .i64 2, .int .i64 a, .string ⟨#[]⟩] 29)); have Vx5 := hide (((unhide Vx4).after hb5).alloc (.cells #[.int .i64 2, .int .i64 a, .string ⟨#[]⟩] 29)); have Vy5 := hide (((unhide Vy4).after hb5).alloc (.cells #[.int .i64 2, .int .i64 a, .string ⟨#[]⟩] 29)); have Vp5 := hide (((unhide Vp4).after hb5).alloc (.cells #[.int .i64 2, .int .i64 a, .string ⟨#[]⟩] 29)); have Vr5 := hide (B3.new w5 w5.heap.size 2 a ⟨#[]⟩ rfl); obtain ⟨x0, x1, x2, _, _, _⟩ := unhide Vx5; obtain ⟨y0, y1, y2, _, _, _⟩ := unhide Vy5; obtain ⟨p0, p1, p2, _, _, _⟩ := unhide Vp5; obtain ⟨r0, r1, r2, _, _, _⟩ := unhide Vr5)
    | (go_at_call 18; refine (unhide H14 _).mono ?_; clear H14 x0 x1 x2 y0 y1 y2 p0 p1 p2 r0 r1 r2; rintro e w6 ⟨rfl, hb6⟩; have Q6 := hide (one_new' (one_step (unhide Q5) hb6) (.cells #[.int .i64 2, .int .i64 d, .string ⟨#[]⟩] 29)); have Vx6 := hide (((unhide Vx5).after hb6).alloc (.cells #[.int .i64 2, .int .i64 d, .string ⟨#[]⟩] 29)); have Vy6 := hide (((unhide Vy5).after hb6).alloc (.cells #[.int .i64 2, .int .i64 d, .string ⟨#[]⟩] 29)); have Vq6 := hide (B3.new w6 w6.heap.size 2 d ⟨#[]⟩ rfl); obtain ⟨x0, x1, x2, _, _, _⟩ := unhide Vx6; obtain ⟨y0, y1, y2, _, _, _⟩ := unhide Vy6; obtain ⟨q0, q1, q2, _, _, _⟩ := unhide Vq6)
    | (go_at_call 18; refine (unhide H15 _).mono ?_; clear H15 x0 x1 x2 y0 y1 y2 q0 q1 q2; rintro e w7 ⟨rfl, hb7⟩; have Q7 := hide (one_new' (one_step (unhide Q6) hb7) (.cells #[.int .i64 2, .int .i64 0, .string ⟨#[]⟩] 29)); have Vx7 := hide (((unhide Vx6).after hb7).alloc (.cells #[.int .i64 2, .int .i64 0, .string ⟨#[]⟩] 29)); have Vy7 := hide (((unhide Vy6).after hb7).alloc (.cells #[.int .i64 2, .int .i64 0, .string ⟨#[]⟩] 29)); have Vq7 := hide (((unhide Vq6).after hb7).alloc (.cells #[.int .i64 2, .int .i64 0, .string ⟨#[]⟩] 29)); have Vm7 := hide (B3.new w7 w7.heap.size 2 0 ⟨#[]⟩ rfl); obtain ⟨x0, x1, x2, _, _, _⟩ := unhide Vx7; obtain ⟨y0, y1, y2, _, _, _⟩ := unhide Vy7; obtain ⟨q0, q1, q2, _, _, _⟩ := unhide Vq7; obtain ⟨m0, m1, m2, _, _, _⟩ := unhide Vm7))
  go_ret
  exact ⟨rfl, unhide Q7⟩

set_option maxHeartbeats 3200000 in
theorem numbers_ookn1x (a b : Int) (w : World) (hE : ET w) (ha : -9223372036854775808 ≤ a ∧ a < 9223372036854775808) (hb : -9223372036854775808 ≤ b ∧ b < 9223372036854775808) (h0 : b ≠ 0) (hq : ¬ (a = -9223372036854775808 ∧ b = -1)) (hs : ¬ (-9223372036854775808 ≤ a + b ∧ a + b < 9223372036854775808)) (hp : (-9223372036854775808 ≤ a * b ∧ a * b < 9223372036854775808)) (hz : a.tmod b ≠ 0) (hk : a ≠ -9223372036854775808) :
    Calls Tryd.prog 5 #[.int .i64 a, .int .i64 b] w fun e w' => e = .returned (.bool true) ∧ Below w.heap.size w w' := by
  have HK := hide (known_any w hE)
  have HC := hide (fun (W : World) (c : Int) (hW : Below w.heap.size w W) => class_bare c W (hE.below hW hE.lt))
  have hd := tdiv_in ha hb h0 hq
  obtain ⟨w1', w2', w3', hm1, hm2⟩ := tmod_facts ha hb h0
  have e0 : (b == 0) = false := by simpa using h0
  have e0n : (b != 0) = true := by simpa using h0
  have e1 : (a == -9223372036854775808) = false := by simpa using hk
  have H14 : Hid (DoI 14 a b 2 (a.tdiv b) .nilIface) := doI_ok ha hb rfl (by decide) (by rw [reck_14 h0]; exact fit_in hd)
  have H15 : Hid (DoI 15 a b 2 (a.tmod b) .nilIface) := doI_ok ha hb rfl (by decide) (reck_15 h0)
  have H11 : Hid (DoI 11 a b 0 0 (.iface 55 (.int .i64 6))) := doI_err ha hb rfl (by decide) (by rw [reck_11]; exact fit_out hs) (by decide)
  have H13 : Hid (DoI 13 a b 2 (a * b) .nilIface) := doI_ok ha hb rfl (by decide) (by rw [reck_13]; exact fit_in hp)
  have H14p : Hid (DoI 14 (a * b) b 2 a .nilIface) := doI_ok hp hb rfl (by decide) (by rw [reck_14 h0, Int.mul_tdiv_cancel _ h0]; exact fit_in ha)
  generalize a.tdiv b = d at *
  have ez : (a.tmod b == 0) = false := by simpa using hz
  have ey : (a.tmod b < 0) = (a < 0) := propext (w3' hz)
  generalize a.tmod b = m at *
  clear w3' hm1 hm2 hz
  clear ha hb hd hs hp hq hk
  clear hE
  go_enter Tryd.func5, Tryd.ntmps5
  go_wp2_with (first
    | (go_at_call 9; refine (unhide HK).mono ?_; clear HK; rintro e w1 ⟨rfl, hb1⟩)
    | (go_at_call 17; refine (num_any _ _).mono ?_; rintro e w0 ⟨rfl, rfl⟩)
    | (go_at_call 18; refine (unhide H11 _).mono ?_; clear H11; rintro e w2 ⟨rfl, hb2⟩; have Q2 := hide (one_new' (one_step (one_new' (one_new' (one_new' (one_new' hb1 _) _) _) _) hb2) (.cells #[.int .i64 0, .int .i64 0, .string ⟨#[]⟩] 29)); have Vx2 := hide ((((B3.new _ (w1.heap.size + 1 + 1) 2 a ⟨#[]⟩ (by simp)).alloc _).after hb2).alloc (.cells #[.int .i64 0, .int .i64 0, .string ⟨#[]⟩] 29)); have Vy2 := hide (((B3.new _ (w1.heap.size + 1 + 1 + 1) 2 b ⟨#[]⟩ (by simp)).after hb2).alloc (.cells #[.int .i64 0, .int .i64 0, .string ⟨#[]⟩] 29)); obtain ⟨x0, x1, x2, _, _, _⟩ := unhide Vx2; obtain ⟨y0, y1, y2, _, _, _⟩ := unhide Vy2)
    | (go_at_call 19; refine (unhide HC _ 6 (unhide Q2)).mono ?_; clear x0 x1 x2 y0 y1 y2; rintro e w3 ⟨rfl, hb3⟩; have Q3 := hide (one_step (unhide Q2) hb3); have Vx3 := hide ((unhide Vx2).after hb3); have Vy3 := hide ((unhide Vy2).after hb3); obtain ⟨x0, x1, x2, _, _, _⟩ := unhide Vx3; obtain ⟨y0, y1, y2, _, _, _⟩ := unhide Vy3)
    | (go_at_call 18; refine (unhide H13 _).mono ?_; clear H13 x0 x1 x2 y0 y1 y2; rintro e w4 ⟨rfl, hb4⟩; have Q4 := hide (one_new' (one_step (unhide Q3) hb4) (.cells #[.int .i64 2, .int .i64 (a * b), .string ⟨#[]⟩] 29)); have Vx4 := hide (((unhide Vx3).after hb4).alloc (.cells #[.int .i64 2, .int .i64 (a * b), .string ⟨#[]⟩] 29)); have Vy4 := hide (((unhide Vy3).after hb4).alloc (.cells #[.int .i64 2, .int .i64 (a * b), .string ⟨#[]⟩] 29)); have Vp4 := hide (B3.new w4 w4.heap.size 2 (a * b) ⟨#[]⟩ rfl); obtain ⟨x0, x1, x2, _, _, _⟩ := unhide Vx4; obtain ⟨y0, y1, y2, _, _, _⟩ := unhide Vy4; obtain ⟨p0, p1, p2, _, _, _⟩ := unhide Vp4)
    | (go_at_call 18; refine (unhide H14p _).mono ?_; clear H14p x0 x1 x2 y0 y1 y2 p0 p1 p2; rintro e w5 ⟨rfl, hb5⟩; have Q5 := hide (one_new' (one_step (unhide Q4) hb5) (.cells #[.int .i64 2, .int .i64 a, .string ⟨#[]⟩] 29)); have Vx5 := hide (((unhide Vx4).after hb5).alloc (.cells #[.int .i64 2, .int .i64 a, .string ⟨#[]⟩] 29)); have Vy5 := hide (((unhide Vy4).after hb5).alloc (.cells #[.int .i64 2, .int .i64 a, .string ⟨#[]⟩] 29)); have Vp5 := hide (((unhide Vp4).after hb5).alloc (.cells #[.int .i64 2, .int .i64 a, .string ⟨#[]⟩] 29)); have Vr5 := hide (B3.new w5 w5.heap.size 2 a ⟨#[]⟩ rfl); obtain ⟨x0, x1, x2, _, _, _⟩ := unhide Vx5; obtain ⟨y0, y1, y2, _, _, _⟩ := unhide Vy5; obtain ⟨p0, p1, p2, _, _, _⟩ := unhide Vp5; obtain ⟨r0, r1, r2, _, _, _⟩ := unhide Vr5)
    | (go_at_call 18; refine (unhide H14 _).mono ?_; clear H14 x0 x1 x2 y0 y1 y2 p0 p1 p2 r0 r1 r2; rintro e w6 ⟨rfl, hb6⟩; have Q6 := hide (one_new' (one_step (unhide Q5) hb6) (.cells #[.int .i64 2, .int .i64 d, .string ⟨#[]⟩] 29)); have Vx6 := hide (((unhide Vx5).after hb6).alloc (.cells #[.int .i64 2, .int .i64 d, .string ⟨#[]⟩] 29)); have Vy6 := hide (((unhide Vy5).after hb6).alloc (.cells #[.int .i64 2, .int .i64 d, .string ⟨#[]⟩] 29)); have Vq6 := hide (B3.new w6 w6.heap.size 2 d ⟨#[]⟩ rfl); obtain ⟨x0, x1, x2, _, _, _⟩ := unhide Vx6; obtain ⟨y0, y1, y2, _, _, _⟩ := unhide Vy6; obtain ⟨q0, q1, q2, _, _, _⟩ := unhide Vq6)
    | (go_at_call 18; refine (unhide H15 _).mono ?_; clear H15 x0 x1 x2 y0 y1 y2 q0 q1 q2; rintro e w7 ⟨rfl, hb7⟩; have Q7 := hide (one_new' (one_step (unhide Q6) hb7) (.cells #[.int .i64 2, .int .i64 m, .string ⟨#[]⟩] 29)); have Vx7 := hide (((unhide Vx6).after hb7).alloc (.cells #[.int .i64 2, .int .i64 m, .string ⟨#[]⟩] 29)); have Vy7 := hide (((unhide Vy6).after hb7).alloc (.cells #[.int .i64 2, .int .i64 m, .string ⟨#[]⟩] 29)); have Vq7 := hide (((unhide Vq6).after hb7).alloc (.cells #[.int .i64 2, .int .i64 m, .string ⟨#[]⟩] 29)); have Vm7 := hide (B3.new w7 w7.heap.size 2 m ⟨#[]⟩ rfl); obtain ⟨x0, x1, x2, _, _, _⟩ := unhide Vx7; obtain ⟨y0, y1, y2, _, _, _⟩ := unhide Vy7; obtain ⟨q0, q1, q2, _, _, _⟩ := unhide Vq7; obtain ⟨m0, m1, m2, _, _, _⟩ := unhide Vm7))
  go_ret
  exact ⟨rfl, unhide Q7⟩

set_option maxHeartbeats 3200000 in
theorem numbers_ookn1m (a b : Int) (w : World) (hE : ET w) (ha : -9223372036854775808 ≤ a ∧ a < 9223372036854775808) (hb : -9223372036854775808 ≤ b ∧ b < 9223372036854775808) (h0 : b ≠ 0) (hq : ¬ (a = -9223372036854775808 ∧ b = -1)) (hs : ¬ (-9223372036854775808 ≤ a + b ∧ a + b < 9223372036854775808)) (hp : (-9223372036854775808 ≤ a * b ∧ a * b < 9223372036854775808)) (hz : a.tmod b ≠ 0) (hk : a = -9223372036854775808) :
    Calls Tryd.prog 5 #[.int .i64 a, .int .i64 b] w fun e w' => e = .returned (.bool true) ∧ Below w.heap.size w w' := by
  have HK := hide (known_any w hE)
  have HC := hide (fun (W : World) (c : Int) (hW : Below w.heap.size w W) => class_bare c W (hE.below hW hE.lt))
  have hd := tdiv_in ha hb h0 hq
  obtain ⟨w1', w2', w3', hm1, hm2⟩ := tmod_facts ha hb h0
  have e0 : (b == 0) = false := by simpa using h0
  have e0n : (b != 0) = true := by simpa using h0
  have e1 : (a == -9223372036854775808) = true := by simpa using hk
  have e2 : (b == -1) = false := by simpa using fun h => hq ⟨hk, h⟩
  have H14 : Hid (DoI 14 a b 2 (a.tdiv b) .nilIface) := doI_ok ha hb rfl (by decide) (by rw [reck_14 h0]; exact fit_in hd)
  have H15 : Hid (DoI 15 a b 2 (a.tmod b) .nilIface) := doI_ok ha hb rfl (by decide) (reck_15 h0)
  have H11 : Hid (DoI 11 a b 0 0 (.iface 55 (.int .i64 6))) := doI_err ha hb rfl (by decide) (by rw [reck_11]; exact fit_out hs) (by decide)
  have H13 : Hid (DoI 13 a b 2 (a * b) .nilIface) := doI_ok ha hb rfl (by decide) (by rw [reck_13]; exact fit_in hp)
  have H14p : Hid (DoI 14 (a * b) b 2 a .nilIface) := doI_ok hp hb rfl (by decide) (by rw [reck_14 h0, Int.mul_tdiv_cancel _ h0]; exact fit_in ha)
  generalize a.tdiv b = d at *
  have ez : (a.tmod b == 0) = false := by simpa using hz
  have ey : (a.tmod b < 0) = (a < 0) := propext (w3' hz)
  generalize a.tmod b = m at *
  clear w3' hm1 hm2 hz
  clear ha hb hd hs hp hq hk
  clear hE
  go_enter Tryd.func5, Tryd.ntmps5
  go_wp2_with (first
    | (go_at_call 9; refine (unhide HK).mono ?_; clear HK; rintro e w1 ⟨rfl, hb1⟩)
    | (go_at_call 17; refine (num_any _ _).mono ?_; rintro e w0 ⟨rfl, rfl⟩)
    | (go_at_call 18; refine (unhide H11 _).mono ?_; clear H11; rintro e w2 ⟨rfl, hb2⟩; have Q2 := hide (one_new' (one_step (one_new' (one_new' (one_new' (one_new' hb1 _) _) _) _) hb2) (.cells #[.int .i64 0, .int .i64 0, .string ⟨#[]⟩] 29)); have Vx2 := hide ((((B3.new _ (w1.heap.size + 1 + 1) 2 a ⟨#[]⟩ (by simp)).alloc _).after hb2).alloc (.cells #[.int .i64 0, .int .i64 0, .string ⟨#[]⟩] 29)); have Vy2 := hide (((B3.new _ (w1.heap.size + 1 + 1 + 1) 2 b ⟨#[]⟩ (by simp)).after hb2).alloc (.cells #[.int .i64 0, .int .i64 0, .string ⟨#[]⟩] 29)); obtain ⟨x0, x1, x2, _, _, _⟩ := unhide Vx2; obtain ⟨y0, y1, y2, _, _, _⟩ := unhide Vy2)
    | (go_at_call 19; refine (unhide HC _ 6 (unhide Q2)).mono ?_; clear x0 x1 x2 y0 y1 y2; rintro e w3 ⟨rfl, hb3⟩; have Q3 := hide (one_step (unhide Q2) hb3); have Vx3 := hide ((unhide Vx2).after hb3); have Vy3 := hide ((unhide Vy2).after hb3); obtain ⟨x0, x1, x2, _, _, _⟩ := unhide Vx3; obtain ⟨y0, y1, y2, _, _, _⟩ := unhide Vy3)
    | (go_at_call 18; refine (unhide H13 _).mono ?_; clear H13 x0 x1 x2 y0 y1 y2; rintro e w4 ⟨rfl, hb4⟩; have Q4 := hide (one_new' (one_step (unhide Q3) hb4) (.cells #[.int .i64 2, .int .i64 (a * b), .string ⟨#[]⟩] 29)); have Vx4 := hide (((unhide Vx3).after hb4).alloc (.cells #[.int .i64 2, .int .i64 (a * b), .string ⟨#[]⟩] 29)); have Vy4 := hide (((unhide Vy3).after hb4).alloc (.cells #[.int .i64 2, .int .i64 (a * b), .string ⟨#[]⟩] 29)); have Vp4 := hide (B3.new w4 w4.heap.size 2 (a * b) ⟨#[]⟩ rfl); obtain ⟨x0, x1, x2, _, _, _⟩ := unhide Vx4; obtain ⟨y0, y1, y2, _, _, _⟩ := unhide Vy4; obtain ⟨p0, p1, p2, _, _, _⟩ := unhide Vp4)
    | (go_at_call 18; refine (unhide H14p _).mono ?_; clear H14p x0 x1 x2 y0 y1 y2 p0 p1 p2; rintro e w5 ⟨rfl, hb5⟩; have Q5 := hide (one_new' (one_step (unhide Q4) hb5) (.cells #[.int .i64 2, .int .i64 a, .string ⟨#[]⟩] 29)); have Vx5 := hide (((unhide Vx4).after hb5).alloc (.cells #[.int .i64 2, .int .i64 a, .string ⟨#[]⟩] 29)); have Vy5 := hide (((unhide Vy4).after hb5).alloc (.cells #[.int .i64 2, .int .i64 a, .string ⟨#[]⟩] 29)); have Vp5 := hide (((unhide Vp4).after hb5).alloc (.cells #[.int .i64 2, .int .i64 a, .string ⟨#[]⟩] 29)); have Vr5 := hide (B3.new w5 w5.heap.size 2 a ⟨#[]⟩ rfl); obtain ⟨x0, x1, x2, _, _, _⟩ := unhide Vx5; obtain ⟨y0, y1, y2, _, _, _⟩ := unhide Vy5; obtain ⟨p0, p1, p2, _, _, _⟩ := unhide Vp5; obtain ⟨r0, r1, r2, _, _, _⟩ := unhide Vr5)
    | (go_at_call 18; refine (unhide H14 _).mono ?_; clear H14 x0 x1 x2 y0 y1 y2 p0 p1 p2 r0 r1 r2; rintro e w6 ⟨rfl, hb6⟩; have Q6 := hide (one_new' (one_step (unhide Q5) hb6) (.cells #[.int .i64 2, .int .i64 d, .string ⟨#[]⟩] 29)); have Vx6 := hide (((unhide Vx5).after hb6).alloc (.cells #[.int .i64 2, .int .i64 d, .string ⟨#[]⟩] 29)); have Vy6 := hide (((unhide Vy5).after hb6).alloc (.cells #[.int .i64 2, .int .i64 d, .string ⟨#[]⟩] 29)); have Vq6 := hide (B3.new w6 w6.heap.size 2 d ⟨#[]⟩ rfl); obtain ⟨x0, x1, x2, _, _, _⟩ := unhide Vx6; obtain ⟨y0, y1, y2, _, _, _⟩ := unhide Vy6; obtain ⟨q0, q1, q2, _, _, _⟩ := unhide Vq6)
    | (go_at_call 18; refine (unhide H15 _).mono ?_; clear H15 x0 x1 x2 y0 y1 y2 q0 q1 q2; rintro e w7 ⟨rfl, hb7⟩; have Q7 := hide (one_new' (one_step (unhide Q6) hb7) (.cells #[.int .i64 2, .int .i64 m, .string ⟨#[]⟩] 29)); have Vx7 := hide (((unhide Vx6).after hb7).alloc (.cells #[.int .i64 2, .int .i64 m, .string ⟨#[]⟩] 29)); have Vy7 := hide (((unhide Vy6).after hb7).alloc (.cells #[.int .i64 2, .int .i64 m, .string ⟨#[]⟩] 29)); have Vq7 := hide (((unhide Vq6).after hb7).alloc (.cells #[.int .i64 2, .int .i64 m, .string ⟨#[]⟩] 29)); have Vm7 := hide (B3.new w7 w7.heap.size 2 m ⟨#[]⟩ rfl); obtain ⟨x0, x1, x2, _, _, _⟩ := unhide Vx7; obtain ⟨y0, y1, y2, _, _, _⟩ := unhide Vy7; obtain ⟨q0, q1, q2, _, _, _⟩ := unhide Vq7; obtain ⟨m0, m1, m2, _, _, _⟩ := unhide Vm7))
  go_ret
  exact ⟨rfl, unhide Q7⟩

set_option maxHeartbeats 3200000 in
theorem numbers_oerrn0x (a b : Int) (w : World) (hE : ET w) (ha : -9223372036854775808 ≤ a ∧ a < 9223372036854775808) (hb : -9223372036854775808 ≤ b ∧ b < 9223372036854775808) (h0 : b ≠ 0) (hq : ¬ (a = -9223372036854775808 ∧ b = -1)) (hs : ¬ (-9223372036854775808 ≤ a + b ∧ a + b < 9223372036854775808)) (hp : ¬ (-9223372036854775808 ≤ a * b ∧ a * b < 9223372036854775808)) (hz : a.tmod b = 0) (hk : a ≠ -9223372036854775808) :
    Calls Tryd.prog 5 #[.int .i64 a, .int .i64 b] w fun e w' => e = .returned (.bool true) ∧ Below w.heap.size w w' := by
  have HK := hide (known_any w hE)
  have HC := hide (fun (W : World) (c : Int) (hW : Below w.heap.size w W) => class_bare c W (hE.below hW hE.lt))
  have hd := tdiv_in ha hb h0 hq
  obtain ⟨w1', w2', w3', hm1, hm2⟩ := tmod_facts ha hb h0
  have e0 : (b == 0) = false := by simpa using h0
  have e0n : (b != 0) = true := by simpa using h0
  have e1 : (a == -9223372036854775808) = false := by simpa using hk
  have H14 : Hid (DoI 14 a b 2 (a.tdiv b) .nilIface) := doI_ok ha hb rfl (by decide) (by rw [reck_14 h0]; exact fit_in hd)
  have H15 : Hid (DoI 15 a b 2 (a.tmod b) .nilIface) := doI_ok ha hb rfl (by decide) (reck_15 h0)
  have H11 : Hid (DoI 11 a b 0 0 (.iface 55 (.int .i64 6))) := doI_err ha hb rfl (by decide) (by rw [reck_11]; exact fit_out hs) (by decide)
  have H13 : Hid (DoI 13 a b 0 0 (.iface 55 (.int .i64 6))) := doI_err ha hb rfl (by decide) (by rw [reck_13]; exact fit_out hp) (by decide)
  generalize a.tdiv b = d at *
  rw [hz] at H15 w2'
  rw [Int.add_zero] at w2'
  have wa : wrap64 a = a := wrap64_in ha.1 ha.2
  clear w3' hm1 hm2 w1'
  clear ha hb hd hs hp hq hk hz
  clear hE
  go_enter Tryd.func5, Tryd.ntmps5
  go_wp2_with (first
    | (go_at_call 9; refine (unhide HK).mono ?_; clear HK; rintro e w1 ⟨rfl, hb1⟩)
    | (go_at_call 17; refine (num_any _ _).mono ?_; rintro e w0 ⟨rfl, rfl⟩)
    | (go_at_call 18; refine (unhide H11 _).mono ?_; clear H11; rintro e w2 ⟨rfl, hb2⟩; have Q2 := hide (one_new' (one_step (one_new' (one_new' (one_new' (one_new' hb1 _) _) _) _) hb2) (.cells #[.int .i64 0, .int .i64 0, .string ⟨#[]⟩] 29)); have Vx2 := hide ((((B3.new _ (w1.heap.size + 1 + 1) 2 a ⟨#[]⟩ (by simp)).alloc _).after hb2).alloc (.cells #[.int .i64 0, .int .i64 0, .string ⟨#[]⟩] 29)); have Vy2 := hide (((B3.new _ (w1.heap.size + 1 + 1 + 1) 2 b ⟨#[]⟩ (by simp)).after hb2).alloc (.cells #[.int .i64 0, .int .i64 0, .string ⟨#[]⟩] 29)); obtain ⟨x0, x1, x2, _, _, _⟩ := unhide Vx2; obtain ⟨y0, y1, y2, _, _, _⟩ := unhide Vy2)
    | (go_at_call 19; refine (unhide HC _ 6 (unhide Q2)).mono ?_; clear x0 x1 x2 y0 y1 y2; rintro e w3 ⟨rfl, hb3⟩; have Q3 := hide (one_step (unhide Q2) hb3); have Vx3 := hide ((unhide Vx2).after hb3); have Vy3 := hide ((unhide Vy2).after hb3); obtain ⟨x0, x1, x2, _, _, _⟩ := unhide Vx3; obtain ⟨y0, y1, y2, _, _, _⟩ := unhide Vy3)
    | (go_at_call 18; refine (unhide H13 _).mono ?_; clear H13 x0 x1 x2 y0 y1 y2; rintro e w4 ⟨rfl, hb4⟩; have Q4 := hide (one_new' (one_step (unhide Q3) hb4) (.cells #[.int .i64 0, .int .i64 0, .string ⟨#[]⟩] 29)); have Vx4 := hide (((unhide Vx3).after hb4).alloc (.cells #[.int .i64 0, .int .i64 0, .string ⟨#[]⟩] 29)); have Vy4 := hide (((unhide Vy3).after hb4).alloc (.cells #[.int .i64 0, .int .i64 0, .string ⟨#[]⟩] 29)); obtain ⟨x0, x1, x2, _, _, _⟩ := unhide Vx4; obtain ⟨y0, y1, y2, _, _, _⟩ := unhide Vy4)
    | (go_at_call 18; refine (unhide H14 _).mono ?_; clear H14 x0 x1 x2 y0 y1 y2; rintro e w5 ⟨rfl, hb5⟩; have Q5 := hide (one_new' (one_step (unhide Q4) hb5) (.cells #[.int .i64 2, .int .i64 d, .string ⟨#[]⟩] 29)); have Vx5 := hide (((unhide Vx4).after hb5).alloc (.cells #[.int .i64 2, .int .i64 d, .string ⟨#[]⟩] 29)); have Vy5 := hide (((unhide Vy4).after hb5).alloc (.cells #[.int .i64 2, .int .i64 d, .string ⟨#[]⟩] 29)); have Vq5 := hide (B3.new w5 w5.heap.size 2 d ⟨#[]⟩ rfl); obtain ⟨x0, x1, x2, _, _, _⟩ := unhide Vx5; obtain ⟨y0, y1, y2, _, _, _⟩ := unhide Vy5; obtain ⟨q0, q1, q2, _, _, _⟩ := unhide Vq5)
    | (go_at_call 18; refine (unhide H15 _).mono ?_; clear H15 x0 x1 x2 y0 y1 y2 q0 q1 q2; rintro e w6 ⟨rfl, hb6⟩; have Q6 := hide (one_new' (one_step (unhide Q5) hb6) (.cells #[.int .i64 2, .int .i64 0, .string ⟨#[]⟩] 29)); have Vx6 := hide (((unhide Vx5).after hb6).alloc (.cells #[.int .i64 2, .int .i64 0, .string ⟨#[]⟩] 29)); have Vy6 := hide (((unhide Vy5).after hb6).alloc (.cells #[.int .i64 2, .int .i64 0, .string ⟨#[]⟩] 29)); have Vq6 := hide (((unhide Vq5).after hb6).alloc (.cells #[.int .i64 2, .int .i64 0, .string ⟨#[]⟩] 29)); have Vm6 := hide (B3.new w6 w6.heap.size 2 0 ⟨#[]⟩ rfl); obtain ⟨x0, x1, x2, _, _, _⟩ := unhide Vx6; obtain ⟨y0, y1, y2, _, _, _⟩ := unhide Vy6; obtain ⟨q0, q1, q2, _, _, _⟩ := unhide Vq6; obtain ⟨m0, m1, m2, _, _, _⟩ := unhide Vm6))
  go_ret
  exact ⟨rfl, unhide Q6⟩

set_option maxHeartbeats 3200000 in
theorem numbers_oerrn0m (a b : Int) (w : World) (hE : ET w) (ha : -9223372036854775808 ≤ a ∧ a < 9223372036854775808) (hb : -9223372036854775808 ≤ b ∧ b < 9223372036854775808) (h0 : b ≠ 0) (hq : ¬ (a = -9223372036854775808 ∧ b = -1)) (hs : ¬ (-9223372036854775808 ≤ a + b ∧ a + b < 9223372036854775808)) (hp : ¬ (-9223372036854775808 ≤ a * b ∧ a * b < 9223372036854775808)) (hz : a.tmod b = 0) (hk : a = -9223372036854775808) :
    Calls Tryd.prog 5 #[.int .i64 a, .int .i64 b] w fun e w' => e = .returned (.bool true) ∧ Below w.heap.size w w' := by
  have HK := hide (known_any w hE)
  have HC := hide (fun (W : World) (c : Int) (hW : Below w.heap.size w W) => class_bare c W (hE.below hW hE.lt))
  have hd := tdiv_in ha hb h0 hq
  obtain ⟨w1', w2', w3', hm1, hm2⟩ := tmod_facts ha hb h0
  have e0 : (b == 0) = false := by simpa using h0
  have e0n : (b != 0) = true := by simpa using h0
  have e1 : (a == -9223372036854775808) = true := by simpa using hk
  have e2 : (b == -1) = false := by simpa using fun h => hq ⟨hk, h⟩
  have H14 : Hid (DoI 14 a b 2 (a.tdiv b) .nilIface) := doI_ok ha hb rfl (by decide) (by rw [reck_14 h0]; exact fit_in hd)
  have H15 : Hid (DoI 15 a b 2 (a.tmod b) .nilIface) := doI_ok ha hb rfl (by decide) (reck_15 h0)
  have H11 : Hid (DoI 11 a b 0 0 (.iface 55 (.int .i64 6))) := doI_err ha hb rfl (by decide) (by rw [reck_11]; exact fit_out hs) (by decide)
  have H13 : Hid (DoI 13 a b 0 0 (.iface 55 (.int .i64 6))) := doI_err ha hb rfl (by decide) (by rw [reck_13]; exact fit_out hp) (by decide)
  generalize a.tdiv b = d at *
  rw [hz] at H15 w2'
  rw [Int.add_zero] at w2'
  have wa : wrap64 a = a := wrap64_in ha.1 ha.2
  clear w3' hm1 hm2 w1'
  clear ha hb hd hs hp hq hk hz
  clear hE
  go_enter Tryd.func5, Tryd.ntmps5
  go_wp2_with (first
    | (go_at_call 9; refine (unhide HK).mono ?_; clear HK; rintro e w1 ⟨rfl, hb1⟩)
    | (go_at_call 17; refine (num_any _ _).mono ?_; rintro e w0 ⟨rfl, rfl⟩)
    | (go_at_call 18; refine (unhide H11 _).mono ?_; clear H11; rintro e w2 ⟨rfl, hb2⟩; have Q2 := hide (one_new' (one_step (one_new' (one_new' (one_new' (one_new' hb1 _) _) _) _) hb2) (.cells #[.int .i64 0, .int .i64 0, .string ⟨#[]⟩] 29)); have Vx2 := hide ((((B3.new _ (w1.heap.size + 1 + 1) 2 a ⟨#[]⟩ (by simp)).alloc _).after hb2).alloc (.cells #[.int .i64 0, .int .i64 0, .string ⟨#[]⟩] 29)); have Vy2 := hide (((B3.new _ (w1.heap.size + 1 + 1 + 1) 2 b ⟨#[]⟩ (by simp)).after hb2).alloc (.cells #[.int .i64 0, .int .i64 0, .string ⟨#[]⟩] 29)); obtain ⟨x0, x1, x2, _, _, _⟩ := unhide Vx2; obtain ⟨y0, y1, y2, _, _, _⟩ := unhide Vy2)
    | (go_at_call 19; refine (unhide HC _ 6 (unhide Q2)).mono ?_; clear x0 x1 x2 y0 y1 y2; rintro e w3 ⟨rfl, hb3⟩; have Q3 := hide (one_step (unhide Q2) hb3); have Vx3 := hide ((unhide Vx2).after hb3); have Vy3 := hide ((unhide Vy2).after hb3); obtain ⟨x0, x1, x2, _, _, _⟩ := unhide Vx3; obtain ⟨y0, y1, y2, _, _, _⟩ := unhide Vy3)
    | (go_at_call 18; refine (unhide H13 _).mono ?_; clear H13 x0 x1 x2 y0 y1 y2; rintro e w4 ⟨rfl, hb4⟩; have Q4 := hide (one_new' (one_step (unhide Q3) hb4) (.cells #[.int .i64 0, .int .i64 0, .string ⟨#[]⟩] 29)); have Vx4 := hide (((unhide Vx3).after hb4).alloc (.cells #[.int .i64 0, .int .i64 0, .string ⟨#[]⟩] 29)); have Vy4 := hide (((unhide Vy3).after hb4).alloc (.cells #[.int .i64 0, .int .i64 0, .string ⟨#[]⟩] 29)); obtain ⟨x0, x1, x2, _, _, _⟩ := unhide Vx4; obtain ⟨y0, y1, y2, _, _, _⟩ := unhide Vy4)
    | (go_at_call 18; refine (unhide H14 _).mono ?_; clear H14 x0 x1 x2 y0 y1 y2; rintro e w5 ⟨rfl, hb5⟩; have Q5 := hide (one_new' (one_step (unhide Q4) hb5) (.cells #[.int .i64 2, .int .i64 d, .string ⟨#[]⟩] 29)); have Vx5 := hide (((unhide Vx4).after hb5).alloc (.cells #[.int .i64 2, .int .i64 d, .string ⟨#[]⟩] 29)); have Vy5 := hide (((unhide Vy4).after hb5).alloc (.cells #[.int .i64 2, .int .i64 d, .string ⟨#[]⟩] 29)); have Vq5 := hide (B3.new w5 w5.heap.size 2 d ⟨#[]⟩ rfl); obtain ⟨x0, x1, x2, _, _, _⟩ := unhide Vx5; obtain ⟨y0, y1, y2, _, _, _⟩ := unhide Vy5; obtain ⟨q0, q1, q2, _, _, _⟩ := unhide Vq5)
    | (go_at_call 18; refine (unhide H15 _).mono ?_; clear H15 x0 x1 x2 y0 y1 y2 q0 q1 q2; rintro e w6 ⟨rfl, hb6⟩; have Q6 := hide (one_new' (one_step (unhide Q5) hb6) (.cells #[.int .i64 2, .int .i64 0, .string ⟨#[]⟩] 29)); have Vx6 := hide (((unhide Vx5).after hb6).alloc (.cells #[.int .i64 2, .int .i64 0, .string ⟨#[]⟩] 29)); have Vy6 := hide (((unhide Vy5).after hb6).alloc (.cells #[.int .i64 2, .int .i64 0, .string ⟨#[]⟩] 29)); have Vq6 := hide (((unhide Vq5).after hb6).alloc (.cells #[.int .i64 2, .int .i64 0, .string ⟨#[]⟩] 29)); have Vm6 := hide (B3.new w6 w6.heap.size 2 0 ⟨#[]⟩ rfl); obtain ⟨x0, x1, x2, _, _, _⟩ := unhide Vx6; obtain ⟨y0, y1, y2, _, _, _⟩ := unhide Vy6; obtain ⟨q0, q1, q2, _, _, _⟩ := unhide Vq6; obtain ⟨m0, m1, m2, _, _, _⟩ := unhide Vm6))
  go_ret
  exact ⟨rfl, unhide Q6⟩

set_option maxHeartbeats 3200000 in
theorem numbers_oerrn1x (a b : Int) (w : World) (hE : ET w) (ha : -9223372036854775808 ≤ a ∧ a < 9223372036854775808) (hb : -9223372036854775808 ≤ b ∧ b < 9223372036854775808) (h0 : b ≠ 0) (hq : ¬ (a = -9223372036854775808 ∧ b = -1)) (hs : ¬ (-9223372036854775808 ≤ a + b ∧ a + b < 9223372036854775808)) (hp : ¬ (-9223372036854775808 ≤ a * b ∧ a * b < 9223372036854775808)) (hz : a.tmod b ≠ 0) (hk : a ≠ -9223372036854775808) :
    Calls Tryd.prog 5 #[.int .i64 a, .int .i64 b] w fun e w' => e = .returned (.bool true) ∧ Below w.heap.size w w' := by
  have HK := hide (known_any w hE)
  have HC := hide (fun (W : World) (c : Int) (hW : Below w.heap.size w W) => class_bare c W (hE.below hW hE.lt))
  have hd := tdiv_in ha hb h0 hq
  obtain ⟨w1', w2', w3', hm1, hm2⟩ := tmod_facts ha hb h0
  have e0 : (b == 0) = false := by simpa using h0
  have e0n : (b != 0) = true := by simpa using h0
  have e1 : (a == -9223372036854775808) = false := by simpa using hk
  have H14 : Hid (DoI 14 a b 2 (a.tdiv b) .nilIface) := doI_ok ha hb rfl (by decide) (by rw [reck_14 h0]; exact fit_in hd)
  have H15 : Hid (DoI 15 a b 2 (a.tmod b) .nilIface) := doI_ok ha hb rfl (by decide) (reck_15 h0)
  have H11 : Hid (DoI 11 a b 0 0 (.iface 55 (.int .i64 6))) := doI_err ha hb rfl (by decide) (by rw [reck_11]; exact fit_out hs) (by decide)
  have H13 : Hid (DoI 13 a b 0 0 (.iface 55 (.int .i64 6))) := doI_err ha hb rfl (by decide) (by rw [reck_13]; exact fit_out hp) (by decide)
  generalize a.tdiv b = d at *
  have ez : (a.tmod b == 0) = false := by simpa using hz
  have ey : (a.tmod b < 0) = (a < 0) := propext (w3' hz)
  generalize a.tmod b = m at *
  clear w3' hm1 hm2 hz
  clear ha hb hd hs hp hq hk
  clear hE
  go_enter Tryd.func5, Tryd.ntmps5
  go_wp2_with (first
    | (go_at_call 9; refine (unhide HK).mono ?_; clear HK; rintro e w1 ⟨rfl, hb1⟩)
    | (go_at_call 17; refine (num_any _ _).mono ?_; rintro e w0 ⟨rfl, rfl⟩)
    | (go_at_call 18; refine (unhide H11 _).mono ?_; clear H11; rintro e w2 ⟨rfl, hb2⟩; have Q2 := hide (one_new' (one_step (one_new' (one_new' (one_new' (one_new' hb1 _) _) _) _) hb2) (.cells #[.int .i64 0, .int .i64 0, .string ⟨#[]⟩] 29)); have Vx2 := hide ((((B3.new _ (w1.heap.size + 1 + 1) 2 a ⟨#[]⟩ (by simp)).alloc _).after hb2).alloc (.cells #[.int .i64 0, .int .i64 0, .string ⟨#[]⟩] 29)); have Vy2 := hide (((B3.new _ (w1.heap.size + 1 + 1 + 1) 2 b ⟨#[]⟩ (by simp)).after hb2).alloc (.cells #[.int .i64 0, .int .i64 0, .string ⟨#[]⟩] 29)); obtain ⟨x0, x1, x2, _, _, _⟩ := unhide Vx2; obtain ⟨y0, y1, y2, _, _, _⟩ := unhide Vy2)
    | (go_at_call 19; refine (unhide HC _ 6 (unhide Q2)).mono ?_; clear x0 x1 x2 y0 y1 y2; rintro e w3 ⟨rfl, hb3⟩; have Q3 := hide (one_step (unhide Q2) hb3); have Vx3 := hide ((unhide Vx2).after hb3); have Vy3 := hide ((unhide Vy2).after hb3); obtain ⟨x0, x1, x2, _, _, _⟩ := unhide Vx3; obtain ⟨y0, y1, y2, _, _, _⟩ := unhide Vy3)
    | (go_at_call 18; refine (unhide H13 _).mono ?_; clear H13 x0 x1 x2 y0 y1 y2; rintro e w4 ⟨rfl, hb4⟩; have Q4 := hide (one_new' (one_step (unhide Q3) hb4) (.cells #[.int .i64 0, .int .i64 0, .string ⟨#[]⟩] 29)); have Vx4 := hide (((unhide Vx3).after hb4).alloc (.cells #[.int .i64 0, .int .i64 0, .string ⟨#[]⟩] 29)); have Vy4 := hide (((unhide Vy3).after hb4).alloc (.cells #[.int .i64 0, .int .i64 0, .string ⟨#[]⟩] 29)); obtain ⟨x0, x1, x2, _, _, _⟩ := unhide Vx4; obtain ⟨y0, y1, y2, _, _, _⟩ := unhide Vy4)
    | (go_at_call 18; refine (unhide H14 _).mono ?_; clear H14 x0 x1 x2 y0 y1 y2; rintro e w5 ⟨rfl, hb5⟩; have Q5 := hide (one_new' (one_step (unhide Q4) hb5) (.cells #[.int .i64 2, .int .i64 d, .string ⟨#[]⟩] 29)); have Vx5 := hide (((unhide Vx4).after hb5).alloc (.cells #[.int .i64 2, .int .i64 d, .string ⟨#[]⟩] 29)); have Vy5 := hide (((unhide Vy4).after hb5).alloc (.cells #[.int .i64 2, .int .i64 d, .string ⟨#[]⟩] 29)); have Vq5 := hide (B3.new w5 w5.heap.size 2 d ⟨#[]⟩ rfl); obtain ⟨x0, x1, x2, _, _, _⟩ := unhide Vx5; obtain ⟨y0, y1, y2, _, _, _⟩ := unhide Vy5; obtain ⟨q0, q1, q2, _, _, _⟩ := unhide Vq5)
    | (go_at_call 18; refine (unhide H15 _).mono ?_; clear H15 x0 x1 x2 y0 y1 y2 q0 q1 q2; rintro e w6 ⟨rfl, hb6⟩; have Q6 := hide (one_new' (one_step (unhide Q5) hb6) (.cells #[.int .i64 2, .int .i64 m, .string ⟨#[]⟩] 29)); have Vx6 := hide (((unhide Vx5).after hb6).alloc (.cells #[.int .i64 2, .int .i64 m, .string ⟨#[]⟩] 29)); have Vy6 := hide (((unhide Vy5).after hb6).alloc (.cells #[.int .i64 2, .int .i64 m, .string ⟨#[]⟩] 29)); have Vq6 := hide (((unhide Vq5).after hb6).alloc (.cells #[.int .i64 2, .int .i64 m, .string ⟨#[]⟩] 29)); have Vm6 := hide (B3.new w6 w6.heap.size 2 m ⟨#[]⟩ rfl); obtain ⟨x0, x1, x2, _, _, _⟩ := unhide Vx6; obtain ⟨y0, y1, y2, _, _, _⟩ := unhide Vy6; obtain ⟨q0, q1, q2, _, _, _⟩ := unhide Vq6; obtain ⟨m0, m1, m2, _, _, _⟩ := unhide Vm6))
  go_ret
  exact ⟨rfl, unhide Q6⟩

set_option maxHeartbeats 3200000 in
theorem numbers_oerrn1m (a b : Int) (w : World) (hE : ET w) (ha : -9223372036854775808 ≤ a ∧ a < 9223372036854775808) (hb : -9223372036854775808 ≤ b ∧ b < 9223372036854775808) (h0 : b ≠ 0) (hq : ¬ (a = -9223372036854775808 ∧ b = -1)) (hs : ¬ (-9223372036854775808 ≤ a + b ∧ a + b < 9223372036854775808)) (hp : ¬ (-9223372036854775808 ≤ a * b ∧ a * b < 9223372036854775808)) (hz : a.tmod b ≠ 0) (hk : a = -9223372036854775808) :
    Calls Tryd.prog 5 #[.int .i64 a, .int .i64 b] w fun e w' => e = .returned (.bool true) ∧ Below w.heap.size w w' := by
  have HK := hide (known_any w hE)
  have HC := hide (fun (W : World) (c : Int) (hW : Below w.heap.size w W) => class_bare c W (hE.below hW hE.lt))
  have hd := tdiv_in ha hb h0 hq
  obtain ⟨w1', w2', w3', hm1, hm2⟩ := tmod_facts ha hb h0
  have e0 : (b == 0) = false := by simpa using h0
  have e0n : (b != 0) = true := by simpa using h0
  have e1 : (a == -9223372036854775808) = true := by simpa using hk
  have e2 : (b == -1) = false := by simpa using fun h => hq ⟨hk, h⟩
  have H14 : Hid (DoI 14 a b 2 (a.tdiv b) .nilIface) := doI_ok ha hb rfl (by decide) (by rw [reck_14 h0]; exact fit_in hd)
  have H15 : Hid (DoI 15 a b 2 (a.tmod b) .nilIface) := doI_ok ha hb rfl (by decide) (reck_15 h0)
  have H11 : Hid (DoI 11 a b 0 0 (.iface 55 (.int .i64 6))) := doI_err ha hb rfl (by decide) (by rw [reck_11]; exact fit_out hs) (by decide)
  have H13 : Hid (DoI 13 a b 0 0 (.iface 55 (.int .i64 6))) := doI_err ha hb rfl (by decide) (by rw [reck_13]; exact fit_out hp) (by decide)
  generalize a.tdiv b = d at *
  have ez : (a.tmod b == 0) = false := by simpa using hz
  have ey : (a.tmod b < 0) = (a < 0) := propext (w3' hz)
  generalize a.tmod b = m at *
  clear w3' hm1 hm2 hz
  clear ha hb hd hs hp hq hk
  clear hE
  go_enter Tryd.func5, Tryd.ntmps5
  go_wp2_with (first
    | (go_at_call 9; refine (unhide HK).mono ?_; clear HK; rintro e w1 ⟨rfl, hb1⟩)
    | (go_at_call 17; refine (num_any _ _).mono ?_; rintro e w0 ⟨rfl, rfl⟩)
    | (go_at_call 18; refine (unhide H11 _).mono ?_; clear H11; rintro e w2 ⟨rfl, hb2⟩; have Q2 := hide (one_new' (one_step (one_new' (one_new' (one_new' (one_new' hb1 _) _) _) _) hb2) (.cells #[.int .i64 0, .int .i64 0, .string ⟨#[]⟩] 29)); have Vx2 := hide ((((B3.new _ (w1.heap.size + 1 + 1) 2 a ⟨#[]⟩ (by simp)).alloc _).after hb2).alloc (.cells #[.int .i64 0, .int .i64 0, .string ⟨#[]⟩] 29)); have Vy2 := hide (((B3.new _ (w1.heap.size + 1 + 1 + 1) 2 b ⟨#[]⟩ (by simp)).after hb2).alloc (.cells #[.int .i64 0, .int .i64 0, .string ⟨#[]⟩] 29)); obtain ⟨x0, x1, x2, _, _, _⟩ := unhide Vx2; obtain ⟨y0, y1, y2, _, _, _⟩ := unhide Vy2)
    | (go_at_call 19; refine (unhide HC _ 6 (unhide Q2)).mono ?_; clear x0 x1 x2 y0 y1 y2; rintro e w3 ⟨rfl, hb3⟩; have Q3 := hide (one_step (unhide Q2) hb3); have Vx3 := hide ((unhide Vx2).after hb3); have Vy3 := hide ((unhide Vy2).after hb3); obtain ⟨x0, x1, x2, _, _, _⟩ := unhide Vx3; obtain ⟨y0, y1, y2, _, _, _⟩ := unhide Vy3)
    | (go_at_call 18; refine (unhide H13 _).mono ?_; clear H13 x0 x1 x2 y0 y1 y2; rintro e w4 ⟨rfl, hb4⟩; have Q4 := hide (one_new' (one_step (unhide Q3) hb4) (.cells #[.int .i64 0, .int .i64 0, .string ⟨#[]⟩] 29)); have Vx4 := hide (((unhide Vx3).after hb4).alloc (.cells #[.int .i64 0, .int .i64 0, .string ⟨#[]⟩] 29)); have Vy4 := hide (((unhide Vy3).after hb4).alloc (.cells #[.int .i64 0, .int .i64 0, .string ⟨#[]⟩] 29)); obtain ⟨x0, x1, x2, _, _, _⟩ := unhide Vx4; obtain ⟨y0, y1, y2, _, _, _⟩ := unhide Vy4)
    | (go_at_call 18; refine (unhide H14 _).mono ?_; clear H14 x0 x1 x2 y0 y1 y2; rintro e w5 ⟨rfl, hb5⟩; have Q5 := hide (one_new' (one_step (unhide Q4) hb5) (.cells #[.int .i64 2, .int .i64 d, .string ⟨#[]⟩] 29)); have Vx5 := hide (((unhide Vx4).after hb5).alloc (.cells #[.int .i64 2, .int .i64 d, .string ⟨#[]⟩] 29)); have Vy5 := hide (((unhide Vy4).after hb5).alloc (.cells #[.int .i64 2, .int .i64 d, .string ⟨#[]⟩] 29)); have Vq5 := hide (B3.new w5 w5.heap.size 2 d ⟨#[]⟩ rfl); obtain ⟨x0, x1, x2, _, _, _⟩ := unhide Vx5; obtain ⟨y0, y1, y2, _, _, _⟩ := unhide Vy5; obtain ⟨q0, q1, q2, _, _, _⟩ := unhide Vq5)
    | (go_at_call 18; refine (unhide H15 _).mono ?_; clear H15 x0 x1 x2 y0 y1 y2 q0 q1 q2; rintro e w6 ⟨rfl, hb6⟩; have Q6 := hide (one_new' (one_step (unhide Q5) hb6) (.cells #[.int .i64 2, .int .i64 m, .string ⟨#[]⟩] 29)); have Vx6 := hide (((unhide Vx5).after hb6).alloc (.cells #[.int .i64 2, .int .i64 m, .string ⟨#[]⟩] 29)); have Vy6 := hide (((unhide Vy5).after hb6).alloc (.cells #[.int .i64 2, .int .i64 m, .string ⟨#[]⟩] 29)); have Vq6 := hide (((unhide Vq5).after hb6).alloc (.cells #[.int .i64 2, .int .i64 m, .string ⟨#[]⟩] 29)); have Vm6 := hide (B3.new w6 w6.heap.size 2 m ⟨#[]⟩ rfl); obtain ⟨x0, x1, x2, _, _, _⟩ := unhide Vx6; obtain ⟨y0, y1, y2, _, _, _⟩ := unhide Vy6; obtain ⟨q0, q1, q2, _, _, _⟩ := unhide Vq6; obtain ⟨m0, m1, m2, _, _, _⟩ := unhide Vm6))
  go_ret
  exact ⟨rfl, unhide Q6⟩

set_option maxHeartbeats 3200000 in
theorem numbers_spec (w : World) (hE : ET w)  :
    Calls Tryd.prog 5 #[.int .i64 (-9223372036854775808), .int .i64 (-1)] w fun e w' => e = .returned (.bool true) ∧ Below w.heap.size w w' := by
  have HK := hide (known_any w hE)
  have HC := hide (fun (W : World) (c : Int) (hW : Below w.heap.size w W) => class_bare c W (hE.below hW hE.lt))
  have ha : -9223372036854775808 ≤ (-9223372036854775808 : Int) ∧ (-9223372036854775808 : Int) < 9223372036854775808 := by decide
  have hb : -9223372036854775808 ≤ (-1 : Int) ∧ (-1 : Int) < 9223372036854775808 := by decide
  have H11 : Hid (DoI 11 (-9223372036854775808) (-1) 0 0 (.iface 55 (.int .i64 6))) := doI_err ha hb rfl (by decide) (by rw [reck_11]; rfl) (by decide)
  have H13 : Hid (DoI 13 (-9223372036854775808) (-1) 0 0 (.iface 55 (.int .i64 6))) := doI_err ha hb rfl (by decide) (by rw [reck_13]; rfl) (by decide)
  have H14 : Hid (DoI 14 (-9223372036854775808) (-1) 0 0 (.iface 55 (.int .i64 6))) := doI_err ha hb rfl (by decide) (by rw [reck_14 (by decide)]; rfl) (by decide)
  have H15 : Hid (DoI 15 (-9223372036854775808) (-1) 2 0 .nilIface) := doI_ok ha hb rfl (by decide) (by rw [reck_15 (by decide)]; rfl)
  clear ha hb
  clear hE
  go_enter Tryd.func5, Tryd.ntmps5
  go_wp2_with (first
    | (go_at_call 9; refine (unhide HK).mono ?_; clear HK; rintro e w1 ⟨rfl, hb1⟩)
    | (go_at_call 17; refine (num_any _ _).mono ?_; rintro e w0 ⟨rfl, rfl⟩)
    | (go_at_call 18; refine (unhide H11 _).mono ?_; clear H11; rintro e w2 ⟨rfl, hb2⟩; have Q2 := hide (one_new' (one_step (one_new' (one_new' (one_new' (one_new' hb1 _) _) _) _) hb2) (.cells #[.int .i64 0, .int .i64 0, .string ⟨#[]⟩] 29)); have Vx2 := hide ((((B3.new _ (w1.heap.size + 1 + 1) 2 (-9223372036854775808) ⟨#[]⟩ (by simp)).alloc _).after hb2).alloc (.cells #[.int .i64 0, .int .i64 0, .string ⟨#[]⟩] 29)); have Vy2 := hide (((B3.new _ (w1.heap.size + 1 + 1 + 1) 2 (-1) ⟨#[]⟩ (by simp)).after hb2).alloc (.cells #[.int .i64 0, .int .i64 0, .string ⟨#[]⟩] 29)); obtain ⟨x0, x1, x2, _, _, _⟩ := unhide Vx2; obtain ⟨y0, y1, y2, _, _, _⟩ := unhide Vy2)
    | (go_at_call 19; refine (unhide HC _ 6 (unhide Q2)).mono ?_; clear x0 x1 x2 y0 y1 y2; rintro e w3 ⟨rfl, hb3⟩; have Q3 := hide (one_step (unhide Q2) hb3); have Vx3 := hide ((unhide Vx2).after hb3); have Vy3 := hide ((unhide Vy2).after hb3); obtain ⟨x0, x1, x2, _, _, _⟩ := unhide Vx3; obtain ⟨y0, y1, y2, _, _, _⟩ := unhide Vy3)
    | (go_at_call 18; refine (unhide H13 _).mono ?_; clear H13 x0 x1 x2 y0 y1 y2; rintro e w4 ⟨rfl, hb4⟩; have Q4 := hide (one_new' (one_step (unhide Q3) hb4) (.cells #[.int .i64 0, .int .i64 0, .string ⟨#[]⟩] 29)); have Vx4 := hide (((unhide Vx3).after hb4).alloc (.cells #[.int .i64 0, .int .i64 0, .string ⟨#[]⟩] 29)); have Vy4 := hide (((unhide Vy3).after hb4).alloc (.cells #[.int .i64 0, .int .i64 0, .string ⟨#[]⟩] 29)); obtain ⟨x0, x1, x2, _, _, _⟩ := unhide Vx4; obtain ⟨y0, y1, y2, _, _, _⟩ := unhide Vy4)
    | (go_at_call 18; refine (unhide H14 _).mono ?_; clear H14 x0 x1 x2 y0 y1 y2; rintro e w5 ⟨rfl, hb5⟩; have Q5 := hide (one_new' (one_step (unhide Q4) hb5) (.cells #[.int .i64 0, .int .i64 0, .string ⟨#[]⟩] 29)); have Vx5 := hide (((unhide Vx4).after hb5).alloc (.cells #[.int .i64 0, .int .i64 0, .string ⟨#[]⟩] 29)); have Vy5 := hide (((unhide Vy4).after hb5).alloc (.cells #[.int .i64 0, .int .i64 0, .string ⟨#[]⟩] 29)); obtain ⟨x0, x1, x2, _, _, _⟩ := unhide Vx5; obtain ⟨y0, y1, y2, _, _, _⟩ := unhide Vy5)
    | (go_at_call 18; refine (unhide H15 _).mono ?_; clear H15 x0 x1 x2 y0 y1 y2; rintro e w6 ⟨rfl, hb6⟩; have Q6 := hide (one_new' (one_step (unhide Q5) hb6) (.cells #[.int .i64 2, .int .i64 0, .string ⟨#[]⟩] 29)); have Vx6 := hide (((unhide Vx5).after hb6).alloc (.cells #[.int .i64 2, .int .i64 0, .string ⟨#[]⟩] 29)); have Vy6 := hide (((unhide Vy5).after hb6).alloc (.cells #[.int .i64 2, .int .i64 0, .string ⟨#[]⟩] 29)); have Vm6 := hide (B3.new w6 w6.heap.size 2 0 ⟨#[]⟩ rfl); obtain ⟨x0, x1, x2, _, _, _⟩ := unhide Vx6; obtain ⟨y0, y1, y2, _, _, _⟩ := unhide Vy6; obtain ⟨m0, m1, m2, _, _, _⟩ := unhide Vm6))
  go_ret
  exact ⟨rfl, unhide Q6⟩

theorem numbers_any (a b : Int) (w : World) (hE : ET w) (ha : -9223372036854775808 ≤ a ∧ a < 9223372036854775808) (hb : -9223372036854775808 ≤ b ∧ b < 9223372036854775808) :
    Calls Tryd.prog 5 #[.int .i64 a, .int .i64 b] w fun e w' => e = .returned (.bool true) ∧ Below w.heap.size w w' := by
  by_cases h0 : b = 0
  · exact numbers_zero a b w hE ha h0
  by_cases hq : a = -9223372036854775808 ∧ b = -1
  · obtain ⟨rfl, rfl⟩ := hq
    exact numbers_spec w hE
  by_cases hs : -9223372036854775808 ≤ a + b ∧ a + b < 9223372036854775808
  · by_cases hp : -9223372036854775808 ≤ a * b ∧ a * b < 9223372036854775808
    · by_cases hz : a.tmod b = 0
      · by_cases hk : a = -9223372036854775808
        · exact numbers_aokn0m a b w hE ha hb h0 hq hs hp hz hk
        · exact numbers_aokn0x a b w hE ha hb h0 hq hs hp hz hk
      · by_cases hk : a = -9223372036854775808
        · exact numbers_aokn1m a b w hE ha hb h0 hq hs hp hz hk
        · exact numbers_aokn1x a b w hE ha hb h0 hq hs hp hz hk
    · by_cases hz : a.tmod b = 0
      · by_cases hk : a = -9223372036854775808
        · exact numbers_aerrn0m a b w hE ha hb h0 hq hs hp hz hk
        · exact numbers_aerrn0x a b w hE ha hb h0 hq hs hp hz hk
      · by_cases hk : a = -9223372036854775808
        · exact numbers_aerrn1m a b w hE ha hb h0 hq hs hp hz hk
        · exact numbers_aerrn1x a b w hE ha hb h0 hq hs hp hz hk
  · by_cases hp : -9223372036854775808 ≤ a * b ∧ a * b < 9223372036854775808
    · by_cases hz : a.tmod b = 0
      · by_cases hk : a = -9223372036854775808
        · exact numbers_ookn0m a b w hE ha hb h0 hq hs hp hz hk
        · exact numbers_ookn0x a b w hE ha hb h0 hq hs hp hz hk
      · by_cases hk : a = -9223372036854775808
        · exact numbers_ookn1m a b w hE ha hb h0 hq hs hp hz hk
        · exact numbers_ookn1x a b w hE ha hb h0 hq hs hp hz hk
    · by_cases hz : a.tmod b = 0
      · by_cases hk : a = -9223372036854775808
        · exact numbers_oerrn0m a b w hE ha hb h0 hq hs hp hz hk
        · exact numbers_oerrn0x a b w hE ha hb h0 hq hs hp hz hk
      · by_cases hk : a = -9223372036854775808
        · exact numbers_oerrn1m a b w hE ha hb h0 hq hs hp hz hk
        · exact numbers_oerrn1x a b w hE ha hb h0 hq hs hp hz hk
end Go.Proofs.YtaijngbejcolbaaDoor
