/- ValueNulls: its walk. -/
import Derived.Test.YtaijngbejcolbaaDoorVFew
namespace Go.Proofs.YtaijngbejcolbaaDoor
open Go.RowKit Go.Lib

theorem null_may : GV.may ⟨0, 0, ⟨#[]⟩⟩ = true := by decide +kernel
theorem test_null1 {op : Int} {g : GV} (h1 : 5 ≤ op) (h2 : op ≤ 10) (hm : g.may = true) : testG op ⟨0, 0, ⟨#[]⟩⟩ g = (2, 0) := by
  unfold testG
  rw [if_neg (by simp [null_may, hm]; omega), if_pos (.inl rfl)]
theorem test_null2 {op : Int} {g : GV} (h1 : 5 ≤ op) (h2 : op ≤ 10) (hm : g.may = true) : testG op g ⟨0, 0, ⟨#[]⟩⟩ = (2, 0) := by
  unfold testG
  rw [if_neg (by simp [null_may, hm]; omega), if_pos (.inr rfl)]
theorem oper_ne {op : Int} (h1 : 11 ≤ op) (h2 : op ≤ 16) : operG op ≠ 0 := by
  unfold operG
  split
  · decide
  · rw [if_pos (by omega)]; decide
theorem do_null1 {op : Int} {g : GV} (h1 : 11 ≤ op) (h2 : op ≤ 16) (hm : g.may = true) : doG op ⟨0, 0, ⟨#[]⟩⟩ g = (⟨0, 0, ⟨#[]⟩⟩, 0) := by
  unfold doG
  have := oper_ne h1 h2
  simp only [if_neg (show ¬ op = 1 by omega)]
  rw [if_neg (by simp [null_may, hm, this]), if_pos (.inl trivial)]
  rfl
theorem do_null2 {op : Int} {g : GV} (h1 : 11 ≤ op) (h2 : op ≤ 16) (hm : g.may = true) : doG op g ⟨0, 0, ⟨#[]⟩⟩ = (⟨0, 0, ⟨#[]⟩⟩, 0) := by
  unfold doG
  have := oper_ne h1 h2
  simp only [if_neg (show ¬ op = 1 by omega)]
  rw [if_neg (by simp [null_may, hm, this]), if_pos (.inr trivial)]
  rfl
theorem do_neg1 (g : GV) : doG 1 ⟨0, 0, ⟨#[]⟩⟩ g = (⟨0, 0, ⟨#[]⟩⟩, 0) := by
  unfold doG
  simp only [if_pos]
  rw [if_neg (by simp [null_may]; decide), if_pos (.inl trivial)]
  rfl
theorem do_form {op : Int} (a b : GV) (h1 : op ≠ 1) (h2 : ¬ (11 ≤ op ∧ op ≤ 16)) : doG op a b = (⟨0, 0, ⟨#[]⟩⟩, 20) := by
  unfold doG
  have : operG op = 0 := by unfold operG; rw [if_neg (by omega), if_neg (by omega)]
  rw [if_pos (.inl this)]
  rfl

set_option maxHeartbeats 6400000 in
theorem nulls_any (op : Int) (g : GV) (w : World) (hE : ET w) (hg : g.ok) :
    Calls Tryd.prog 6 #[.int .i64 op, g.agg] w fun e w' => e = .returned (.bool true) ∧ Below w.heap.size w w' := by
  have HK := hide (known_any (w.alloc (.cells #[.int .i64 g.kind, .int .i64 g.int, .string g.text] 29)) (hE.alloc _))
  have HF := hide (fun W => few1 g W hg)
  have HI := hide (fun W => is_any g W hg)
  have HT1 := hide (fun (p : Int × Int) (h : testG op ⟨0, 0, ⟨#[]⟩⟩ g = p) W => test_at op ⟨0, 0, ⟨#[]⟩⟩ g p.1 p.2 h W null_ok hg)
  have HT2 := hide (fun (p : Int × Int) (h : testG op g ⟨0, 0, ⟨#[]⟩⟩ = p) W => test_at op g ⟨0, 0, ⟨#[]⟩⟩ p.1 p.2 h W hg null_ok)
  have HD1 := hide (fun (k n : Int) (t : ByteArray) (c : Int) (h : doG op ⟨0, 0, ⟨#[]⟩⟩ g = (⟨k, n, t⟩, c)) W => do_at op ⟨0, 0, ⟨#[]⟩⟩ g k n t c h W null_ok (.inr hg))
  have HD2 := hide (fun (k n : Int) (t : ByteArray) (c : Int) (h : doG op g ⟨0, 0, ⟨#[]⟩⟩ = (⟨k, n, t⟩, c)) W => do_at op g ⟨0, 0, ⟨#[]⟩⟩ k n t c h W hg (.inr null_ok))
  have HC := hide (fun (W : World) (hW : Below w.heap.size w W) => class_bare 20 W (hE.below hW hE.lt))
  have HQ : Hid (∀ w1, Below (w.alloc (.cells #[.int .i64 g.kind, .int .i64 g.int, .string g.text] 29)).heap.size (w.alloc (.cells #[.int .i64 g.kind, .int .i64 g.int, .string g.text] 29)) w1 → Below w.heap.size w w1 ∧ B3 w1 w.heap.size g.kind g.int g.text) :=
    fun w1 h => ⟨one_step (one_new' (Below.refl _ _) _) h, (B3.new w w.heap.size g.kind g.int g.text rfl).after h⟩
  clear hE hg
  have HM := hide (show g.may = true → g.may = true from id)
  obtain ⟨g', hgg⟩ : ∃ g', g' = g := ⟨_, rfl⟩
  obtain ⟨k, n, t⟩ := g
  have HG := hide hgg
  clear hgg
  simp only [GV.agg_eq] at HI HT1 HT2 HD1 HD2 ⊢
  dsimp only at HF HQ HK
  by_cases h100 : t.size ≤ 100
  · rw [decide_eq_true h100] at HF
    obtain ⟨ma, hma⟩ : ∃ ma, GV.may ⟨k, n, t⟩ = ma := ⟨_, rfl⟩
    rw [hma] at HI
    cases ma with
    | false =>
      clear hma HT1 HT2 HD1 HD2 HC HM h100
      go_enter Tryd.func6, Tryd.ntmps6
      go_wp2_with (first
        | (go_at_call 9; refine (unhide HK).mono ?_; rintro e w1 ⟨rfl, hb1⟩; have Q1 := hide (unhide HQ w1 hb1).1; have B1 := hide (unhide HQ w1 hb1).2; obtain ⟨c0, c1, c2, _, _, _⟩ := unhide B1; clear hb1)
        | (go_at_call 13; refine (unhide HF _).mono ?_; rintro e w0 ⟨rfl, rfl⟩; clear c0 c1 c2; have QF := hide (one_new' (unhide Q1) (.cells #[.int .i64 k, .int .i64 n, .string t] 29)); have BF := hide ((unhide B1).alloc (.cells #[.int .i64 k, .int .i64 n, .string t] 29)); obtain ⟨c0, c1, c2, _, _, _⟩ := unhide BF)
        | (go_at_call 15; refine (unhide HI _).mono ?_; clear c0 c1 c2; rintro e w2 ⟨rfl, hb2⟩; have Q2 := hide (one_step (unhide QF) hb2); have B2 := hide ((unhide BF).after hb2); obtain ⟨c0, c1, c2, _, _, _⟩ := unhide B2))
      go_ret
      exact ⟨rfl, unhide Q2⟩
    | true =>
      by_cases h5 : 5 ≤ op ∧ op ≤ 10
      · obtain ⟨h5, h10⟩ := h5
        have H1 : Hid (∀ W : World, Calls Tryd.prog 16 #[.int .i64 op, .agg #[.int .i64 0, .int .i64 0, .string ⟨#[]⟩], .agg #[.int .i64 k, .int .i64 n, .string t]] W fun e w' => e = .returned (.tuple #[.int .i64 2, .nilIface]) ∧ Below W.heap.size W w') := unhide HT1 (2, 0) (test_null1 h5 h10 hma)
        have H2 : Hid (∀ W : World, Calls Tryd.prog 16 #[.int .i64 op, .agg #[.int .i64 k, .int .i64 n, .string t], .agg #[.int .i64 0, .int .i64 0, .string ⟨#[]⟩]] W fun e w' => e = .returned (.tuple #[.int .i64 2, .nilIface]) ∧ Below W.heap.size W w') := unhide HT2 (2, 0) (test_null2 h5 h10 hma)
        clear hma HT1 HT2 HD1 HD2 HC HM h100
        go_enter Tryd.func6, Tryd.ntmps6
        go_wp2_with (first
          | (go_at_call 9; refine (unhide HK).mono ?_; rintro e w1 ⟨rfl, hb1⟩; have Q1 := hide (unhide HQ w1 hb1).1; have B1 := hide (unhide HQ w1 hb1).2; obtain ⟨c0, c1, c2, _, _, _⟩ := unhide B1; clear hb1)
          | (go_at_call 13; refine (unhide HF _).mono ?_; rintro e w0 ⟨rfl, rfl⟩; clear c0 c1 c2; have QF := hide (one_new' (unhide Q1) (.cells #[.int .i64 k, .int .i64 n, .string t] 29)); have BF := hide ((unhide B1).alloc (.cells #[.int .i64 k, .int .i64 n, .string t] 29)); obtain ⟨c0, c1, c2, _, _, _⟩ := unhide BF)
          | (go_at_call 15; refine (unhide HI _).mono ?_; clear c0 c1 c2; rintro e w2 ⟨rfl, hb2⟩; have Q2 := hide (one_step (unhide QF) hb2); have B2 := hide ((unhide BF).after hb2); obtain ⟨c0, c1, c2, _, _, _⟩ := unhide B2)
          | (go_at_call 16; refine (unhide H1 _).mono ?_; clear H1 c0 c1 c2; rintro e w3 ⟨rfl, hb3⟩; have Q3 := hide (one_step (unhide Q2) hb3); have B3' := hide ((unhide B2).after hb3); obtain ⟨c0, c1, c2, _, _, _⟩ := unhide B3')
          | (go_at_call 16; refine (unhide H2 _).mono ?_; clear H2; rintro e w4 ⟨rfl, hb4⟩; have Q4 := hide (one_step (unhide Q3) hb4)))
        go_ret
        exact ⟨rfl, unhide Q4⟩
      by_cases h1 : op = 1
      · subst h1
        have H1 : Hid (∀ W : World, Calls Tryd.prog 18 #[.int .i64 1, .agg #[.int .i64 0, .int .i64 0, .string ⟨#[]⟩], .agg #[.int .i64 k, .int .i64 n, .string t]] W fun e w' => e = .returned (.tuple #[.agg #[.int .i64 0, .int .i64 0, .string ⟨#[]⟩], .nilIface]) ∧ Below W.heap.size W w') := unhide HD1 _ _ _ _ (do_neg1 _)
        obtain ⟨⟨⟨xk, xn, xt⟩, xc⟩, hx⟩ : ∃ x, doG 1 ⟨k, n, t⟩ ⟨0, 0, ⟨#[]⟩⟩ = x := ⟨_, rfl⟩
        have H2 := hide (unhide HD2 _ _ _ _ hx)
        clear hma HT1 HT2 HD1 HD2 HC HM h100 hx h5
        go_enter Tryd.func6, Tryd.ntmps6
        go_wp2_with (first
          | (go_at_call 9; refine (unhide HK).mono ?_; rintro e w1 ⟨rfl, hb1⟩; have Q1 := hide (unhide HQ w1 hb1).1; have B1 := hide (unhide HQ w1 hb1).2; obtain ⟨c0, c1, c2, _, _, _⟩ := unhide B1; clear hb1)
          | (go_at_call 13; refine (unhide HF _).mono ?_; rintro e w0 ⟨rfl, rfl⟩; clear c0 c1 c2; have QF := hide (one_new' (unhide Q1) (.cells #[.int .i64 k, .int .i64 n, .string t] 29)); have BF := hide ((unhide B1).alloc (.cells #[.int .i64 k, .int .i64 n, .string t] 29)); obtain ⟨c0, c1, c2, _, _, _⟩ := unhide BF)
          | (go_at_call 15; refine (unhide HI _).mono ?_; clear c0 c1 c2; rintro e w2 ⟨rfl, hb2⟩; have Q2 := hide (one_step (unhide QF) hb2); have B2 := hide ((unhide BF).after hb2); obtain ⟨c0, c1, c2, _, _, _⟩ := unhide B2)
          | (go_at_call 18; refine (unhide H1 _).mono ?_; clear H1 c0 c1 c2; rintro e w3 ⟨rfl, hb3⟩; have Q3 := hide (one_new' (one_step (unhide Q2) hb3) (.cells #[.int .i64 0, .int .i64 0, .string ⟨#[]⟩] 29)); have B3' := hide (((unhide B2).after hb3).alloc (.cells #[.int .i64 0, .int .i64 0, .string ⟨#[]⟩] 29)); have N3 := hide (B3.new w3 w3.heap.size 0 0 ⟨#[]⟩ rfl); obtain ⟨c0, c1, c2, _, _, _⟩ := unhide B3')
          | (go_at_call 18; refine (unhide H2 _).mono ?_; clear H2 c0 c1 c2; rintro e w4 ⟨rfl, hb4⟩; have Q4 := hide (one_new' (one_step (unhide Q3) hb4) (.cells #[.int .i64 xk, .int .i64 xn, .string xt] 29)); obtain ⟨x0, x1, x2, _, _, _⟩ := ((unhide N3).after hb4).alloc (.cells #[.int .i64 xk, .int .i64 xn, .string xt] 29)))
        go_ret
        exact ⟨rfl, unhide Q4⟩
      by_cases h11 : 11 ≤ op ∧ op ≤ 16
      · obtain ⟨h11, h16⟩ := h11
        have p1 : 5 ≤ op := by omega
        have p2 : (op ≤ 10) = False := by simp; omega
        have p5 : (op == 1) = false := by simpa using h1
        have H1 : Hid (∀ W : World, Calls Tryd.prog 18 #[.int .i64 op, .agg #[.int .i64 0, .int .i64 0, .string ⟨#[]⟩], .agg #[.int .i64 k, .int .i64 n, .string t]] W fun e w' => e = .returned (.tuple #[.agg #[.int .i64 0, .int .i64 0, .string ⟨#[]⟩], .nilIface]) ∧ Below W.heap.size W w') := unhide HD1 _ _ _ _ (do_null1 h11 h16 hma)
        have H2 : Hid (∀ W : World, Calls Tryd.prog 18 #[.int .i64 op, .agg #[.int .i64 k, .int .i64 n, .string t], .agg #[.int .i64 0, .int .i64 0, .string ⟨#[]⟩]] W fun e w' => e = .returned (.tuple #[.agg #[.int .i64 0, .int .i64 0, .string ⟨#[]⟩], .nilIface]) ∧ Below W.heap.size W w') := unhide HD2 _ _ _ _ (do_null2 h11 h16 hma)
        clear hma HT1 HT2 HD1 HD2 HC HM h100 h5 h1
        go_enter Tryd.func6, Tryd.ntmps6
        go_wp2_with (first
          | (go_at_call 9; refine (unhide HK).mono ?_; rintro e w1 ⟨rfl, hb1⟩; have Q1 := hide (unhide HQ w1 hb1).1; have B1 := hide (unhide HQ w1 hb1).2; obtain ⟨c0, c1, c2, _, _, _⟩ := unhide B1; clear hb1)
          | (go_at_call 13; refine (unhide HF _).mono ?_; rintro e w0 ⟨rfl, rfl⟩; clear c0 c1 c2; have QF := hide (one_new' (unhide Q1) (.cells #[.int .i64 k, .int .i64 n, .string t] 29)); have BF := hide ((unhide B1).alloc (.cells #[.int .i64 k, .int .i64 n, .string t] 29)); obtain ⟨c0, c1, c2, _, _, _⟩ := unhide BF)
          | (go_at_call 15; refine (unhide HI _).mono ?_; clear c0 c1 c2; rintro e w2 ⟨rfl, hb2⟩; have Q2 := hide (one_step (unhide QF) hb2); have B2 := hide ((unhide BF).after hb2); obtain ⟨c0, c1, c2, _, _, _⟩ := unhide B2)
          | (go_at_call 18; refine (unhide H1 _).mono ?_; clear H1 c0 c1 c2; rintro e w3 ⟨rfl, hb3⟩; have Q3 := hide (one_new' (one_step (unhide Q2) hb3) (.cells #[.int .i64 0, .int .i64 0, .string ⟨#[]⟩] 29)); have B3' := hide (((unhide B2).after hb3).alloc (.cells #[.int .i64 0, .int .i64 0, .string ⟨#[]⟩] 29)); have N3 := hide (B3.new w3 w3.heap.size 0 0 ⟨#[]⟩ rfl); obtain ⟨c0, c1, c2, _, _, _⟩ := unhide B3')
          | (go_at_call 18; refine (unhide H2 _).mono ?_; clear H2 c0 c1 c2; rintro e w4 ⟨rfl, hb4⟩; have Q4 := hide (one_new' (one_step (unhide Q3) hb4) (.cells #[.int .i64 0, .int .i64 0, .string ⟨#[]⟩] 29)); obtain ⟨x0, x1, x2, _, _, _⟩ := ((unhide N3).after hb4).alloc (.cells #[.int .i64 0, .int .i64 0, .string ⟨#[]⟩] 29)))
        go_ret
        exact ⟨rfl, unhide Q4⟩
      have H1 : Hid (∀ W : World, Calls Tryd.prog 18 #[.int .i64 op, .agg #[.int .i64 0, .int .i64 0, .string ⟨#[]⟩], .agg #[.int .i64 k, .int .i64 n, .string t]] W fun e w' => e = .returned (.tuple #[.agg #[.int .i64 0, .int .i64 0, .string ⟨#[]⟩], .iface 55 (.int .i64 20)]) ∧ Below W.heap.size W w') := unhide HD1 _ _ _ _ (do_form _ _ h1 h11)
      have H2 : Hid (∀ W : World, Calls Tryd.prog 18 #[.int .i64 op, .agg #[.int .i64 k, .int .i64 n, .string t], .agg #[.int .i64 0, .int .i64 0, .string ⟨#[]⟩]] W fun e w' => e = .returned (.tuple #[.agg #[.int .i64 0, .int .i64 0, .string ⟨#[]⟩], .iface 55 (.int .i64 20)]) ∧ Below W.heap.size W w') := unhide HD2 _ _ _ _ (do_form _ _ h1 h11)
      have p5 : (op == 1) = false := by simpa using h1
      by_cases l5 : op < 5
      · have p1 : (5 ≤ op) = False := by simp; omega
        have p3 : (11 ≤ op) = False := by simp; omega
        clear hma HT1 HT2 HD1 HD2 HM h100 h5 h1 h11 l5
        go_enter Tryd.func6, Tryd.ntmps6
        go_wp2_with (first
          | (go_at_call 9; refine (unhide HK).mono ?_; rintro e w1 ⟨rfl, hb1⟩; have Q1 := hide (unhide HQ w1 hb1).1; have B1 := hide (unhide HQ w1 hb1).2; obtain ⟨c0, c1, c2, _, _, _⟩ := unhide B1; clear hb1)
          | (go_at_call 13; refine (unhide HF _).mono ?_; rintro e w0 ⟨rfl, rfl⟩; clear c0 c1 c2; have QF := hide (one_new' (unhide Q1) (.cells #[.int .i64 k, .int .i64 n, .string t] 29)); have BF := hide ((unhide B1).alloc (.cells #[.int .i64 k, .int .i64 n, .string t] 29)); obtain ⟨c0, c1, c2, _, _, _⟩ := unhide BF)
          | (go_at_call 15; refine (unhide HI _).mono ?_; clear c0 c1 c2; rintro e w2 ⟨rfl, hb2⟩; have Q2 := hide (one_step (unhide QF) hb2); have B2 := hide ((unhide BF).after hb2); obtain ⟨c0, c1, c2, _, _, _⟩ := unhide B2)
          | (go_at_call 18; refine (unhide H1 _).mono ?_; clear H1 c0 c1 c2; rintro e w3 ⟨rfl, hb3⟩; have Q3 := hide (one_new' (one_step (unhide Q2) hb3) (.cells #[.int .i64 0, .int .i64 0, .string ⟨#[]⟩] 29)); have B3' := hide (((unhide B2).after hb3).alloc (.cells #[.int .i64 0, .int .i64 0, .string ⟨#[]⟩] 29)); have N3 := hide (B3.new w3 w3.heap.size 0 0 ⟨#[]⟩ rfl); obtain ⟨c0, c1, c2, _, _, _⟩ := unhide B3')
          | (go_at_call 18; refine (unhide H2 _).mono ?_; clear H2 c0 c1 c2; rintro e w4 ⟨rfl, hb4⟩; have Q4 := hide (one_new' (one_step (unhide Q3) hb4) (.cells #[.int .i64 0, .int .i64 0, .string ⟨#[]⟩] 29)); obtain ⟨x0, x1, x2, _, _, _⟩ := ((unhide N3).after hb4).alloc (.cells #[.int .i64 0, .int .i64 0, .string ⟨#[]⟩] 29))
          | (go_at_call 19; refine (unhide HC _ (unhide Q4)).mono ?_; rintro e w5 ⟨rfl, hb5⟩; have Q5 := hide (one_step (unhide Q4) hb5); clear Q4)
          | (go_at_call 19; refine (unhide HC _ (unhide Q5)).mono ?_; rintro e w6 ⟨rfl, hb6⟩; have Q6 := hide (one_step (unhide Q5) hb6); clear Q5))
        go_ret
        exact ⟨rfl, unhide Q6⟩
      · have p1 : 5 ≤ op := by omega
        have p2 : (op ≤ 10) = False := by simp; omega
        have p3 : 11 ≤ op := by omega
        have p4 : (op ≤ 16) = False := by simp; omega
        clear hma HT1 HT2 HD1 HD2 HM h100 h5 h1 h11 l5
        go_enter Tryd.func6, Tryd.ntmps6
        go_wp2_with (first
          | (go_at_call 9; refine (unhide HK).mono ?_; rintro e w1 ⟨rfl, hb1⟩; have Q1 := hide (unhide HQ w1 hb1).1; have B1 := hide (unhide HQ w1 hb1).2; obtain ⟨c0, c1, c2, _, _, _⟩ := unhide B1; clear hb1)
          | (go_at_call 13; refine (unhide HF _).mono ?_; rintro e w0 ⟨rfl, rfl⟩; clear c0 c1 c2; have QF := hide (one_new' (unhide Q1) (.cells #[.int .i64 k, .int .i64 n, .string t] 29)); have BF := hide ((unhide B1).alloc (.cells #[.int .i64 k, .int .i64 n, .string t] 29)); obtain ⟨c0, c1, c2, _, _, _⟩ := unhide BF)
          | (go_at_call 15; refine (unhide HI _).mono ?_; clear c0 c1 c2; rintro e w2 ⟨rfl, hb2⟩; have Q2 := hide (one_step (unhide QF) hb2); have B2 := hide ((unhide BF).after hb2); obtain ⟨c0, c1, c2, _, _, _⟩ := unhide B2)
          | (go_at_call 18; refine (unhide H1 _).mono ?_; clear H1 c0 c1 c2; rintro e w3 ⟨rfl, hb3⟩; have Q3 := hide (one_new' (one_step (unhide Q2) hb3) (.cells #[.int .i64 0, .int .i64 0, .string ⟨#[]⟩] 29)); have B3' := hide (((unhide B2).after hb3).alloc (.cells #[.int .i64 0, .int .i64 0, .string ⟨#[]⟩] 29)); have N3 := hide (B3.new w3 w3.heap.size 0 0 ⟨#[]⟩ rfl); obtain ⟨c0, c1, c2, _, _, _⟩ := unhide B3')
          | (go_at_call 18; refine (unhide H2 _).mono ?_; clear H2 c0 c1 c2; rintro e w4 ⟨rfl, hb4⟩; have Q4 := hide (one_new' (one_step (unhide Q3) hb4) (.cells #[.int .i64 0, .int .i64 0, .string ⟨#[]⟩] 29)); obtain ⟨x0, x1, x2, _, _, _⟩ := ((unhide N3).after hb4).alloc (.cells #[.int .i64 0, .int .i64 0, .string ⟨#[]⟩] 29))
          | (go_at_call 19; refine (unhide HC _ (unhide Q4)).mono ?_; rintro e w5 ⟨rfl, hb5⟩; have Q5 := hide (one_step (unhide Q4) hb5); clear Q4)
          | (go_at_call 19; refine (unhide HC _ (unhide Q5)).mono ?_; rintro e w6 ⟨rfl, hb6⟩; have Q6 := hide (one_step (unhide Q5) hb6); clear Q5))
        go_ret
        exact ⟨rfl, unhide Q6⟩
  · rw [decide_eq_false h100] at HF
    clear h100 HT1 HT2 HD1 HD2 HC HM HI
    go_enter Tryd.func6, Tryd.ntmps6
    go_wp2_with (first
      | (go_at_call 9; refine (unhide HK).mono ?_; rintro e w1 ⟨rfl, hb1⟩; have Q1 := hide (unhide HQ w1 hb1).1; have B1 := hide (unhide HQ w1 hb1).2; obtain ⟨c0, c1, c2, _, _, _⟩ := unhide B1; clear hb1)
      | (go_at_call 13; refine (unhide HF _).mono ?_; rintro e w0 ⟨rfl, rfl⟩; clear c0 c1 c2; have QF := hide (one_new' (unhide Q1) (.cells #[.int .i64 k, .int .i64 n, .string t] 29)); have BF := hide ((unhide B1).alloc (.cells #[.int .i64 k, .int .i64 n, .string t] 29)); obtain ⟨c0, c1, c2, _, _, _⟩ := unhide BF))
    go_ret
    exact ⟨rfl, unhide QF⟩
end Go.Proofs.YtaijngbejcolbaaDoor
