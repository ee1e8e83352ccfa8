/- ValueTests: its walk. -/
import Derived.Test.YtaijngbejcolbaaDoorVFew
import Derived.Deep.RegionHeld3
namespace Go.Proofs.YtaijngbejcolbaaDoor
open Go.RowKit Go.Lib

def C1 (w : World) (b i : Nat) (v : Value) : Prop := w.cell? ⟨b, i, none⟩ = some v
theorem C1.new {w : World} {b i : Nat} {v : Value} (cs : Array Value) (T : TypeId) (hb : b = w.heap.size) (hi : cs[i]? = some v) : C1 (w.alloc (.cells cs T)) b i v := by
  subst hb
  unfold C1
  rw [World.cell?_alloc_at _ _ _ _ rfl]
  exact hi
theorem C1.alloc {w : World} {b i : Nat} {v : Value} (h : C1 w b i v) (o : Obj) : C1 (w.alloc o) b i v := by
  unfold C1
  rw [World.cell?_alloc_lt _ _ ⟨b, i, none⟩ (lt_of_cell h)]
  exact h
theorem C1.after {w w' : World} {b i : Nat} {v : Value} (h : C1 w b i v) (hb : Below w.heap.size w w') : C1 w' b i v := (hb.cell (p := ⟨b, i, none⟩) (lt_of_cell h)).trans h
theorem C1.drew {w : World} {b i : Nat} {v : Value} (h : C1 w b i v) : C1 w.drew b i v := h

def notO (op : Int) : Int := if op = 5 then 6 else if op = 6 then 5 else if op = 7 then 10 else if op = 8 then 9 else if op = 9 then 8 else 7
def backO (op : Int) : Int := if op = 7 then 9 else if op = 8 then 10 else if op = 9 then 7 else if op = 10 then 8 else op
theorem ops6 {op : Int} (h1 : 5 ≤ op) (h2 : op ≤ 10) : op = 5 ∨ op = 6 ∨ op = 7 ∨ op = 8 ∨ op = 9 ∨ op = 10 := by omega
theorem holds_not {op o : Int} (h1 : 5 ≤ op) (h2 : op ≤ 10) : holdsG (notO op) o = !holdsG op o := by
  rcases ops6 h1 h2 with rfl | rfl | rfl | rfl | rfl | rfl <;> simp [holdsG, notO] <;> (rw [Bool.eq_iff_iff]; simp; try omega)
theorem holds_back {op o : Int} (h1 : 5 ≤ op) (h2 : op ≤ 10) : holdsG (backO op) (-o) = holdsG op o := by
  rcases ops6 h1 h2 with rfl | rfl | rfl | rfl | rfl | rfl <;> simp [holdsG, backO] <;> (rw [Bool.eq_iff_iff]; simp; try omega)
theorem not_in {op : Int} (h1 : 5 ≤ op) (h2 : op ≤ 10) : 5 ≤ notO op ∧ notO op ≤ 10 := by
  rcases ops6 h1 h2 with rfl | rfl | rfl | rfl | rfl | rfl <;> decide
theorem back_in {op : Int} (h1 : 5 ≤ op) (h2 : op ≤ 10) : 5 ≤ backO op ∧ backO op ≤ 10 := by
  rcases ops6 h1 h2 with rfl | rfl | rfl | rfl | rfl | rfl <;> decide
theorem test_may {op : Int} {a b : GV} (ho : 5 ≤ op ∧ op ≤ 10) (ha : ¬ a.may = false) (hb : ¬ b.may = false) :
    testG op a b = if a.kind = 0 ∨ b.kind = 0 then (2, 0) else if a.kind ≠ b.kind then (0, 4) else if holdsG op (cmpG a b) then (1, 0) else (0, 0) := by
  unfold testG
  exact if_neg (fun h => by rcases h with h | h | h | h <;> first | omega | exact ha h | exact hb h)
/-- What the three tests tell: an error each, of one class, or truths that fit. -/
theorem tests_tell {op : Int} (a b : GV) (h1 : 5 ≤ op) (h2 : op ≤ 10) :
    (∃ c, c ≠ 0 ∧ testG op a b = (0, c) ∧ testG (notO op) a b = (0, c) ∧ testG (backO op) b a = (0, c)) ∨
    (∃ t, testG op a b = (t, 0) ∧ testG (notO op) a b = (notG t, 0) ∧ testG (backO op) b a = (t, 0)) := by
  have n1 := not_in h1 h2
  have n2 := back_in h1 h2
  by_cases ha : a.may = false
  · have no : ∀ o, testG o a b = (0, 20) ∧ testG o b a = (0, 20) := fun o => by
      unfold testG
      exact ⟨if_pos (.inr (.inr (.inl ha))), if_pos (.inr (.inr (.inr ha)))⟩
    exact .inl ⟨20, by decide, (no _).1, (no _).1, (no _).2⟩
  by_cases hb : b.may = false
  · have no : ∀ o, testG o a b = (0, 20) ∧ testG o b a = (0, 20) := fun o => by
      unfold testG
      exact ⟨if_pos (.inr (.inr (.inr hb))), if_pos (.inr (.inr (.inl hb)))⟩
    exact .inl ⟨20, by decide, (no _).1, (no _).1, (no _).2⟩
  have e1 := test_may (op := op) ⟨h1, h2⟩ ha hb
  have e2 := test_may (op := notO op) n1 ha hb
  have e3 := test_may (op := backO op) n2 hb ha
  by_cases h0 : a.kind = 0 ∨ b.kind = 0
  · rw [if_pos h0] at e1 e2
    rw [if_pos h0.symm] at e3
    exact .inr ⟨2, e1, e2, e3⟩
  have h0' : ¬ (b.kind = 0 ∨ a.kind = 0) := fun h => h0 h.symm
  rw [if_neg h0] at e1 e2
  rw [if_neg h0'] at e3
  by_cases hk : a.kind = b.kind
  · rw [if_neg (fun h => h hk)] at e1 e2
    rw [if_neg (fun h => h hk.symm)] at e3
    rw [holds_not h1 h2] at e2
    rw [cmpG_cmp.anti b a, holds_back h1 h2] at e3
    cases hh : holdsG op (cmpG a b) with
    | false =>
      rw [hh] at e1 e2 e3
      exact .inr ⟨0, e1, e2, e3⟩
    | true =>
      rw [hh] at e1 e2 e3
      exact .inr ⟨1, e1, e2, e3⟩
  · rw [if_pos hk] at e1 e2
    rw [if_pos (fun h => hk h.symm)] at e3
    exact .inl ⟨4, by decide, e1, e2, e3⟩
abbrev TestI (op k n : Int) (t : ByteArray) (k' n' : Int) (t' : ByteArray) (x : Int) (v : Value) : Prop := ∀ W : World, Calls Tryd.prog 16 #[.int .i64 op, .agg #[.int .i64 k, .int .i64 n, .string t], .agg #[.int .i64 k', .int .i64 n', .string t']] W fun e w' => e = .returned (.tuple #[.int .i64 x, v]) ∧ Below W.heap.size W w'
theorem testI_err {op c : Int} {a b : GV} (ha : a.ok) (hb : b.ok) (hc : c ≠ 0) (h : testG op a b = (0, c)) : TestI op a.kind a.int a.text b.kind b.int b.text 0 (.iface 55 (.int .i64 c)) := fun W => by
  have := test_at op a b 0 c h W ha hb
  rw [errG_some hc] at this
  exact this
theorem testI_ok {op x : Int} {a b : GV} (ha : a.ok) (hb : b.ok) (h : testG op a b = (x, 0)) : TestI op a.kind a.int a.text b.kind b.int b.text x .nilIface := fun W => test_at op a b x 0 h W ha hb

set_option maxHeartbeats 6400000 in
theorem tests_5k (x : Int) (k n : Int) (t : ByteArray) (k' n' : Int) (t' : ByteArray) (w : World) (hE : ET w)
    (HF : Hid (∀ W : World, Calls Tryd.prog 13 #[.slice (some ⟨W.heap.size, 0, none⟩) 2 2, .int .i64 2] (W.alloc (.cells #[.int .i64 k, .int .i64 n, .string t, .int .i64 k', .int .i64 n', .string t'] 29)) fun e w' => e = .returned (.bool true) ∧ w' = W.alloc (.cells #[.int .i64 k, .int .i64 n, .string t, .int .i64 k', .int .i64 n', .string t'] 29)))
    (H1 : Hid (TestI 5 k n t k' n' t' x (.nilIface))) (H2 : Hid (TestI 6 k n t k' n' t' (notG x) (.nilIface))) (H3 : Hid (TestI 5 k' n' t' k n t x (.nilIface))) :
    Calls Tryd.prog 8 #[.int .i64 5, .agg #[.int .i64 k, .int .i64 n, .string t], .agg #[.int .i64 k', .int .i64 n', .string t']] w fun e w' => e = .returned (.bool true) ∧ Below w.heap.size w w' := by
  have HK := hide (known_any ((w.alloc (.cells #[.int .i64 k, .int .i64 n, .string t] 29)).alloc (.cells #[.int .i64 k', .int .i64 n', .string t'] 29)) ((hE.alloc _).alloc _))
  have HN := hide (fun (W : World) => not_any x W)
  clear hE
  have hwr : IntKind.i64.wrap 0 = 0 := by decide +kernel
  go_enter Tryd.func8, Tryd.ntmps8
  go_wp2_with (first
    | (go_at_call 9; refine (unhide HK).mono ?_; clear HK; rintro e w1 ⟨rfl, hb1⟩; have Q1 := hide (two_below2 hb1); have A1 := hide (((B3.new w w.heap.size k n t rfl).alloc _).after hb1); have B1 := hide ((B3.new _ (w.heap.size + 1) k' n' t' (by simp)).after hb1); obtain ⟨a0, a1, a2, _, _, _⟩ := unhide A1; obtain ⟨b0, b1, b2, _, _, _⟩ := unhide B1; clear hb1)
    | (go_at_call 13; refine (unhide HF _).mono ?_; clear HF; rintro e w0 ⟨rfl, rfl⟩; clear a0 a1 a2 b0 b1 b2; have AF := hide ((((unhide A1).alloc (.cells #[.int .i64 k, .int .i64 n, .string t, .int .i64 k', .int .i64 n', .string t'] 29)).alloc (.cells #[.int .i64 6, .int .i64 5, .int .i64 10, .int .i64 9, .int .i64 8, .int .i64 7] 47)).alloc (.cells #[.int .i64 5, .int .i64 6, .int .i64 9, .int .i64 10, .int .i64 7, .int .i64 8] 47)); have BF := hide ((((unhide B1).alloc (.cells #[.int .i64 k, .int .i64 n, .string t, .int .i64 k', .int .i64 n', .string t'] 29)).alloc (.cells #[.int .i64 6, .int .i64 5, .int .i64 10, .int .i64 9, .int .i64 8, .int .i64 7] 47)).alloc (.cells #[.int .i64 5, .int .i64 6, .int .i64 9, .int .i64 10, .int .i64 7, .int .i64 8] 47)); obtain ⟨a0, a1, a2, _, _, _⟩ := unhide AF; obtain ⟨b0, b1, b2, _, _, _⟩ := unhide BF)
    | (go_at_call 16; refine (unhide H1 _).mono ?_; clear H1; rintro e w2 ⟨rfl, hb2⟩; have Q2 := hide (one_step (one_new' (one_new' (one_new' (unhide Q1) _) _) _) hb2); have A2 := hide ((unhide AF).after hb2); have B2 := hide ((unhide BF).after hb2); have N2 := hide (((C1.new (w := w1.alloc (.cells #[.int .i64 k, .int .i64 n, .string t, .int .i64 k', .int .i64 n', .string t'] 29)) (b := w1.heap.size + 1) (i := 0) (v := .int .i64 6) _ _ (by simp) rfl).alloc _).after hb2); have K2 := hide ((C1.new (b := w1.heap.size + 1 + 1) (i := 0) (v := .int .i64 5) _ _ (by simp) rfl).after hb2); clear hb2 a0 a1 a2 b0 b1 b2))
  obtain ⟨a0, a1, a2, _, _, _⟩ := unhide A2
  obtain ⟨b0, b1, b2, _, _, _⟩ := unhide B2
  have nn : w2.cell? ⟨w1.heap.size + 1, 0, none⟩ = some (.int .i64 6) := unhide N2
  go_region_held3 (fun w' => w'.cell? ⟨w.heap.size, 0, none⟩ = some (.int .i64 k) ∧ w'.cell? ⟨w.heap.size, 1, none⟩ = some (.int .i64 n) ∧ w'.cell? ⟨w.heap.size, 2, none⟩ = some (.string t) ∧ w'.cell? ⟨w.heap.size + 1, 0, none⟩ = some (.int .i64 k') ∧ w'.cell? ⟨w.heap.size + 1, 1, none⟩ = some (.int .i64 n') ∧ w'.cell? ⟨w.heap.size + 1, 2, none⟩ = some (.string t') ∧ w'.cell? ⟨w1.heap.size + 1, 0, none⟩ = some (.int .i64 6)) (go_keep) (first | (go_at_call 16; refine (unhide H2 _).mono ?_; clear H2 a0 a1 a2 b0 b1 b2; rintro e w3 ⟨rfl, hb3⟩; have Q3 := hide (one_step (unhide Q2).drew hb3); have A3 := hide ((unhide A2).drew.after hb3); have B3' := hide ((unhide B2).drew.after hb3); have K3 := hide ((unhide K2).drew.after hb3); have nn3 : w3.cell? ⟨w1.heap.size + 1, 0, none⟩ = some (.int .i64 6) := (unhide N2).drew.after hb3; obtain ⟨a0, a1, a2, _, _, _⟩ := unhide A3; obtain ⟨b0, b1, b2, _, _, _⟩ := unhide B3'))
  go_wp2_with fail
  have kk : w3.cell? ⟨w1.heap.size + 1 + 1, 0, none⟩ = some (.int .i64 5) := unhide K3
  go_region_held3 (fun w' => w'.cell? ⟨w.heap.size, 0, none⟩ = some (.int .i64 k) ∧ w'.cell? ⟨w.heap.size, 1, none⟩ = some (.int .i64 n) ∧ w'.cell? ⟨w.heap.size, 2, none⟩ = some (.string t) ∧ w'.cell? ⟨w.heap.size + 1, 0, none⟩ = some (.int .i64 k') ∧ w'.cell? ⟨w.heap.size + 1, 1, none⟩ = some (.int .i64 n') ∧ w'.cell? ⟨w.heap.size + 1, 2, none⟩ = some (.string t') ∧ w'.cell? ⟨w1.heap.size + 1 + 1, 0, none⟩ = some (.int .i64 5)) (go_keep) (first | (go_at_call 16; refine (unhide H3 _).mono ?_; clear H3 a0 a1 a2 b0 b1 b2; rintro e w4 ⟨rfl, hb4⟩; have Q4 := hide (one_step (unhide Q3).drew hb4); have A4 := hide ((unhide A3).drew.after hb4); have B4 := hide ((unhide B3').drew.after hb4); have kk4 : w4.cell? ⟨w1.heap.size + 1 + 1, 0, none⟩ = some (.int .i64 5) := (unhide K3).drew.after hb4; obtain ⟨a0, a1, a2, _, _, _⟩ := unhide A4; obtain ⟨b0, b1, b2, _, _, _⟩ := unhide B4))
  clear a0 a1 a2 b0 b1 b2
  go_wp2_with (first
    | (go_at_call 19; refine (class_nil _).mono ?_; rintro e w0 ⟨rfl, rfl⟩)
    | (go_at_call 12; refine (unhide HN _).mono ?_; rintro e w0 ⟨rfl, rfl⟩))
  go_ret
  exact ⟨rfl, unhide Q4⟩

set_option maxHeartbeats 6400000 in
theorem tests_5e (c : Int) (k n : Int) (t : ByteArray) (k' n' : Int) (t' : ByteArray) (w : World) (hE : ET w)
    (HF : Hid (∀ W : World, Calls Tryd.prog 13 #[.slice (some ⟨W.heap.size, 0, none⟩) 2 2, .int .i64 2] (W.alloc (.cells #[.int .i64 k, .int .i64 n, .string t, .int .i64 k', .int .i64 n', .string t'] 29)) fun e w' => e = .returned (.bool true) ∧ w' = W.alloc (.cells #[.int .i64 k, .int .i64 n, .string t, .int .i64 k', .int .i64 n', .string t'] 29)))
    (H1 : Hid (TestI 5 k n t k' n' t' 0 (.iface 55 (.int .i64 c)))) (H2 : Hid (TestI 6 k n t k' n' t' 0 (.iface 55 (.int .i64 c)))) (H3 : Hid (TestI 5 k' n' t' k n t 0 (.iface 55 (.int .i64 c)))) :
    Calls Tryd.prog 8 #[.int .i64 5, .agg #[.int .i64 k, .int .i64 n, .string t], .agg #[.int .i64 k', .int .i64 n', .string t']] w fun e w' => e = .returned (.bool true) ∧ Below w.heap.size w w' := by
  have HK := hide (known_any ((w.alloc (.cells #[.int .i64 k, .int .i64 n, .string t] 29)).alloc (.cells #[.int .i64 k', .int .i64 n', .string t'] 29)) ((hE.alloc _).alloc _))
  have HC1 := hide (fun (W : World) (hW : Below w.heap.size w W) => class_bare c W (hE.below hW hE.lt))
  have HC2 := hide (fun (W : World) (hW : Below w.heap.size w W) => class_bare c W (hE.below hW hE.lt))
  have HC3 := hide (fun (W : World) (hW : Below w.heap.size w W) => class_bare c W (hE.below hW hE.lt))
  have HC4 := hide (fun (W : World) (hW : Below w.heap.size w W) => class_bare c W (hE.below hW hE.lt))
  clear hE
  have hwr : IntKind.i64.wrap 0 = 0 := by decide +kernel
  go_enter Tryd.func8, Tryd.ntmps8
  go_wp2_with (first
    | (go_at_call 9; refine (unhide HK).mono ?_; clear HK; rintro e w1 ⟨rfl, hb1⟩; have Q1 := hide (two_below2 hb1); have A1 := hide (((B3.new w w.heap.size k n t rfl).alloc _).after hb1); have B1 := hide ((B3.new _ (w.heap.size + 1) k' n' t' (by simp)).after hb1); obtain ⟨a0, a1, a2, _, _, _⟩ := unhide A1; obtain ⟨b0, b1, b2, _, _, _⟩ := unhide B1; clear hb1)
    | (go_at_call 13; refine (unhide HF _).mono ?_; clear HF; rintro e w0 ⟨rfl, rfl⟩; clear a0 a1 a2 b0 b1 b2; have AF := hide ((((unhide A1).alloc (.cells #[.int .i64 k, .int .i64 n, .string t, .int .i64 k', .int .i64 n', .string t'] 29)).alloc (.cells #[.int .i64 6, .int .i64 5, .int .i64 10, .int .i64 9, .int .i64 8, .int .i64 7] 47)).alloc (.cells #[.int .i64 5, .int .i64 6, .int .i64 9, .int .i64 10, .int .i64 7, .int .i64 8] 47)); have BF := hide ((((unhide B1).alloc (.cells #[.int .i64 k, .int .i64 n, .string t, .int .i64 k', .int .i64 n', .string t'] 29)).alloc (.cells #[.int .i64 6, .int .i64 5, .int .i64 10, .int .i64 9, .int .i64 8, .int .i64 7] 47)).alloc (.cells #[.int .i64 5, .int .i64 6, .int .i64 9, .int .i64 10, .int .i64 7, .int .i64 8] 47)); obtain ⟨a0, a1, a2, _, _, _⟩ := unhide AF; obtain ⟨b0, b1, b2, _, _, _⟩ := unhide BF)
    | (go_at_call 16; refine (unhide H1 _).mono ?_; clear H1; rintro e w2 ⟨rfl, hb2⟩; have Q2 := hide (one_step (one_new' (one_new' (one_new' (unhide Q1) _) _) _) hb2); have A2 := hide ((unhide AF).after hb2); have B2 := hide ((unhide BF).after hb2); have N2 := hide (((C1.new (w := w1.alloc (.cells #[.int .i64 k, .int .i64 n, .string t, .int .i64 k', .int .i64 n', .string t'] 29)) (b := w1.heap.size + 1) (i := 0) (v := .int .i64 6) _ _ (by simp) rfl).alloc _).after hb2); have K2 := hide ((C1.new (b := w1.heap.size + 1 + 1) (i := 0) (v := .int .i64 5) _ _ (by simp) rfl).after hb2); clear hb2 a0 a1 a2 b0 b1 b2))
  obtain ⟨a0, a1, a2, _, _, _⟩ := unhide A2
  obtain ⟨b0, b1, b2, _, _, _⟩ := unhide B2
  have nn : w2.cell? ⟨w1.heap.size + 1, 0, none⟩ = some (.int .i64 6) := unhide N2
  go_region_held3 (fun w' => w'.cell? ⟨w.heap.size, 0, none⟩ = some (.int .i64 k) ∧ w'.cell? ⟨w.heap.size, 1, none⟩ = some (.int .i64 n) ∧ w'.cell? ⟨w.heap.size, 2, none⟩ = some (.string t) ∧ w'.cell? ⟨w.heap.size + 1, 0, none⟩ = some (.int .i64 k') ∧ w'.cell? ⟨w.heap.size + 1, 1, none⟩ = some (.int .i64 n') ∧ w'.cell? ⟨w.heap.size + 1, 2, none⟩ = some (.string t') ∧ w'.cell? ⟨w1.heap.size + 1, 0, none⟩ = some (.int .i64 6)) (go_keep) (first | (go_at_call 16; refine (unhide H2 _).mono ?_; clear H2 a0 a1 a2 b0 b1 b2; rintro e w3 ⟨rfl, hb3⟩; have Q3 := hide (one_step (unhide Q2).drew hb3); have A3 := hide ((unhide A2).drew.after hb3); have B3' := hide ((unhide B2).drew.after hb3); have K3 := hide ((unhide K2).drew.after hb3); have nn3 : w3.cell? ⟨w1.heap.size + 1, 0, none⟩ = some (.int .i64 6) := (unhide N2).drew.after hb3; obtain ⟨a0, a1, a2, _, _, _⟩ := unhide A3; obtain ⟨b0, b1, b2, _, _, _⟩ := unhide B3'))
  go_wp2_with fail
  have kk : w3.cell? ⟨w1.heap.size + 1 + 1, 0, none⟩ = some (.int .i64 5) := unhide K3
  go_region_held3 (fun w' => w'.cell? ⟨w.heap.size, 0, none⟩ = some (.int .i64 k) ∧ w'.cell? ⟨w.heap.size, 1, none⟩ = some (.int .i64 n) ∧ w'.cell? ⟨w.heap.size, 2, none⟩ = some (.string t) ∧ w'.cell? ⟨w.heap.size + 1, 0, none⟩ = some (.int .i64 k') ∧ w'.cell? ⟨w.heap.size + 1, 1, none⟩ = some (.int .i64 n') ∧ w'.cell? ⟨w.heap.size + 1, 2, none⟩ = some (.string t') ∧ w'.cell? ⟨w1.heap.size + 1 + 1, 0, none⟩ = some (.int .i64 5)) (go_keep) (first | (go_at_call 16; refine (unhide H3 _).mono ?_; clear H3 a0 a1 a2 b0 b1 b2; rintro e w4 ⟨rfl, hb4⟩; have Q4 := hide (one_step (unhide Q3).drew hb4); have A4 := hide ((unhide A3).drew.after hb4); have B4 := hide ((unhide B3').drew.after hb4); have kk4 : w4.cell? ⟨w1.heap.size + 1 + 1, 0, none⟩ = some (.int .i64 5) := (unhide K3).drew.after hb4; obtain ⟨a0, a1, a2, _, _, _⟩ := unhide A4; obtain ⟨b0, b1, b2, _, _, _⟩ := unhide B4))
  clear a0 a1 a2 b0 b1 b2
  go_wp2_with (first
    | (go_at_call 19; refine (unhide HC1 _ (unhide Q4)).mono ?_; clear HC1; rintro e w5 ⟨rfl, hb5⟩; have Q5 := hide (one_step (unhide Q4) hb5))
    | (go_at_call 19; refine (unhide HC2 _ (unhide Q5)).mono ?_; clear HC2; rintro e w6 ⟨rfl, hb6⟩; have Q6 := hide (one_step (unhide Q5) hb6))
    | (go_at_call 19; refine (unhide HC3 _ (unhide Q6)).mono ?_; clear HC3; rintro e w7 ⟨rfl, hb7⟩; have Q7 := hide (one_step (unhide Q6) hb7))
    | (go_at_call 19; refine (unhide HC4 _ (unhide Q7)).mono ?_; clear HC4; rintro e w8 ⟨rfl, hb8⟩; have Q8 := hide (one_step (unhide Q7) hb8)))
  go_ret
  exact ⟨rfl, unhide Q8⟩

set_option maxHeartbeats 6400000 in
theorem tests_6k (x : Int) (k n : Int) (t : ByteArray) (k' n' : Int) (t' : ByteArray) (w : World) (hE : ET w)
    (HF : Hid (∀ W : World, Calls Tryd.prog 13 #[.slice (some ⟨W.heap.size, 0, none⟩) 2 2, .int .i64 2] (W.alloc (.cells #[.int .i64 k, .int .i64 n, .string t, .int .i64 k', .int .i64 n', .string t'] 29)) fun e w' => e = .returned (.bool true) ∧ w' = W.alloc (.cells #[.int .i64 k, .int .i64 n, .string t, .int .i64 k', .int .i64 n', .string t'] 29)))
    (H1 : Hid (TestI 6 k n t k' n' t' x (.nilIface))) (H2 : Hid (TestI 5 k n t k' n' t' (notG x) (.nilIface))) (H3 : Hid (TestI 6 k' n' t' k n t x (.nilIface))) :
    Calls Tryd.prog 8 #[.int .i64 6, .agg #[.int .i64 k, .int .i64 n, .string t], .agg #[.int .i64 k', .int .i64 n', .string t']] w fun e w' => e = .returned (.bool true) ∧ Below w.heap.size w w' := by
  have HK := hide (known_any ((w.alloc (.cells #[.int .i64 k, .int .i64 n, .string t] 29)).alloc (.cells #[.int .i64 k', .int .i64 n', .string t'] 29)) ((hE.alloc _).alloc _))
  have HN := hide (fun (W : World) => not_any x W)
  clear hE
  have hwr : IntKind.i64.wrap 1 = 1 := by decide +kernel
  go_enter Tryd.func8, Tryd.ntmps8
  go_wp2_with (first
    | (go_at_call 9; refine (unhide HK).mono ?_; clear HK; rintro e w1 ⟨rfl, hb1⟩; have Q1 := hide (two_below2 hb1); have A1 := hide (((B3.new w w.heap.size k n t rfl).alloc _).after hb1); have B1 := hide ((B3.new _ (w.heap.size + 1) k' n' t' (by simp)).after hb1); obtain ⟨a0, a1, a2, _, _, _⟩ := unhide A1; obtain ⟨b0, b1, b2, _, _, _⟩ := unhide B1; clear hb1)
    | (go_at_call 13; refine (unhide HF _).mono ?_; clear HF; rintro e w0 ⟨rfl, rfl⟩; clear a0 a1 a2 b0 b1 b2; have AF := hide ((((unhide A1).alloc (.cells #[.int .i64 k, .int .i64 n, .string t, .int .i64 k', .int .i64 n', .string t'] 29)).alloc (.cells #[.int .i64 6, .int .i64 5, .int .i64 10, .int .i64 9, .int .i64 8, .int .i64 7] 47)).alloc (.cells #[.int .i64 5, .int .i64 6, .int .i64 9, .int .i64 10, .int .i64 7, .int .i64 8] 47)); have BF := hide ((((unhide B1).alloc (.cells #[.int .i64 k, .int .i64 n, .string t, .int .i64 k', .int .i64 n', .string t'] 29)).alloc (.cells #[.int .i64 6, .int .i64 5, .int .i64 10, .int .i64 9, .int .i64 8, .int .i64 7] 47)).alloc (.cells #[.int .i64 5, .int .i64 6, .int .i64 9, .int .i64 10, .int .i64 7, .int .i64 8] 47)); obtain ⟨a0, a1, a2, _, _, _⟩ := unhide AF; obtain ⟨b0, b1, b2, _, _, _⟩ := unhide BF)
    | (go_at_call 16; refine (unhide H1 _).mono ?_; clear H1; rintro e w2 ⟨rfl, hb2⟩; have Q2 := hide (one_step (one_new' (one_new' (one_new' (unhide Q1) _) _) _) hb2); have A2 := hide ((unhide AF).after hb2); have B2 := hide ((unhide BF).after hb2); have N2 := hide (((C1.new (w := w1.alloc (.cells #[.int .i64 k, .int .i64 n, .string t, .int .i64 k', .int .i64 n', .string t'] 29)) (b := w1.heap.size + 1) (i := 1) (v := .int .i64 5) _ _ (by simp) rfl).alloc _).after hb2); have K2 := hide ((C1.new (b := w1.heap.size + 1 + 1) (i := 1) (v := .int .i64 6) _ _ (by simp) rfl).after hb2); clear hb2 a0 a1 a2 b0 b1 b2))
  obtain ⟨a0, a1, a2, _, _, _⟩ := unhide A2
  obtain ⟨b0, b1, b2, _, _, _⟩ := unhide B2
  have nn : w2.cell? ⟨w1.heap.size + 1, 1, none⟩ = some (.int .i64 5) := unhide N2
  go_region_held3 (fun w' => w'.cell? ⟨w.heap.size, 0, none⟩ = some (.int .i64 k) ∧ w'.cell? ⟨w.heap.size, 1, none⟩ = some (.int .i64 n) ∧ w'.cell? ⟨w.heap.size, 2, none⟩ = some (.string t) ∧ w'.cell? ⟨w.heap.size + 1, 0, none⟩ = some (.int .i64 k') ∧ w'.cell? ⟨w.heap.size + 1, 1, none⟩ = some (.int .i64 n') ∧ w'.cell? ⟨w.heap.size + 1, 2, none⟩ = some (.string t') ∧ w'.cell? ⟨w1.heap.size + 1, 1, none⟩ = some (.int .i64 5)) (go_keep) (first | (go_at_call 16; refine (unhide H2 _).mono ?_; clear H2 a0 a1 a2 b0 b1 b2; rintro e w3 ⟨rfl, hb3⟩; have Q3 := hide (one_step (unhide Q2).drew hb3); have A3 := hide ((unhide A2).drew.after hb3); have B3' := hide ((unhide B2).drew.after hb3); have K3 := hide ((unhide K2).drew.after hb3); have nn3 : w3.cell? ⟨w1.heap.size + 1, 1, none⟩ = some (.int .i64 5) := (unhide N2).drew.after hb3; obtain ⟨a0, a1, a2, _, _, _⟩ := unhide A3; obtain ⟨b0, b1, b2, _, _, _⟩ := unhide B3'))
  go_wp2_with fail
  have kk : w3.cell? ⟨w1.heap.size + 1 + 1, 1, none⟩ = some (.int .i64 6) := unhide K3
  go_region_held3 (fun w' => w'.cell? ⟨w.heap.size, 0, none⟩ = some (.int .i64 k) ∧ w'.cell? ⟨w.heap.size, 1, none⟩ = some (.int .i64 n) ∧ w'.cell? ⟨w.heap.size, 2, none⟩ = some (.string t) ∧ w'.cell? ⟨w.heap.size + 1, 0, none⟩ = some (.int .i64 k') ∧ w'.cell? ⟨w.heap.size + 1, 1, none⟩ = some (.int .i64 n') ∧ w'.cell? ⟨w.heap.size + 1, 2, none⟩ = some (.string t') ∧ w'.cell? ⟨w1.heap.size + 1 + 1, 1, none⟩ = some (.int .i64 6)) (go_keep) (first | (go_at_call 16; refine (unhide H3 _).mono ?_; clear H3 a0 a1 a2 b0 b1 b2; rintro e w4 ⟨rfl, hb4⟩; have Q4 := hide (one_step (unhide Q3).drew hb4); have A4 := hide ((unhide A3).drew.after hb4); have B4 := hide ((unhide B3').drew.after hb4); have kk4 : w4.cell? ⟨w1.heap.size + 1 + 1, 1, none⟩ = some (.int .i64 6) := (unhide K3).drew.after hb4; obtain ⟨a0, a1, a2, _, _, _⟩ := unhide A4; obtain ⟨b0, b1, b2, _, _, _⟩ := unhide B4))
  clear a0 a1 a2 b0 b1 b2
  go_wp2_with (first
    | (go_at_call 19; refine (class_nil _).mono ?_; rintro e w0 ⟨rfl, rfl⟩)
    | (go_at_call 12; refine (unhide HN _).mono ?_; rintro e w0 ⟨rfl, rfl⟩))
  go_ret
  exact ⟨rfl, unhide Q4⟩

set_option maxHeartbeats 6400000 in
theorem tests_6e (c : Int) (k n : Int) (t : ByteArray) (k' n' : Int) (t' : ByteArray) (w : World) (hE : ET w)
    (HF : Hid (∀ W : World, Calls Tryd.prog 13 #[.slice (some ⟨W.heap.size, 0, none⟩) 2 2, .int .i64 2] (W.alloc (.cells #[.int .i64 k, .int .i64 n, .string t, .int .i64 k', .int .i64 n', .string t'] 29)) fun e w' => e = .returned (.bool true) ∧ w' = W.alloc (.cells #[.int .i64 k, .int .i64 n, .string t, .int .i64 k', .int .i64 n', .string t'] 29)))
    (H1 : Hid (TestI 6 k n t k' n' t' 0 (.iface 55 (.int .i64 c)))) (H2 : Hid (TestI 5 k n t k' n' t' 0 (.iface 55 (.int .i64 c)))) (H3 : Hid (TestI 6 k' n' t' k n t 0 (.iface 55 (.int .i64 c)))) :
    Calls Tryd.prog 8 #[.int .i64 6, .agg #[.int .i64 k, .int .i64 n, .string t], .agg #[.int .i64 k', .int .i64 n', .string t']] w fun e w' => e = .returned (.bool true) ∧ Below w.heap.size w w' := by
  have HK := hide (known_any ((w.alloc (.cells #[.int .i64 k, .int .i64 n, .string t] 29)).alloc (.cells #[.int .i64 k', .int .i64 n', .string t'] 29)) ((hE.alloc _).alloc _))
  have HC1 := hide (fun (W : World) (hW : Below w.heap.size w W) => class_bare c W (hE.below hW hE.lt))
  have HC2 := hide (fun (W : World) (hW : Below w.heap.size w W) => class_bare c W (hE.below hW hE.lt))
  have HC3 := hide (fun (W : World) (hW : Below w.heap.size w W) => class_bare c W (hE.below hW hE.lt))
  have HC4 := hide (fun (W : World) (hW : Below w.heap.size w W) => class_bare c W (hE.below hW hE.lt))
  clear hE
  have hwr : IntKind.i64.wrap 1 = 1 := by decide +kernel
  go_enter Tryd.func8, Tryd.ntmps8
  go_wp2_with (first
    | (go_at_call 9; refine (unhide HK).mono ?_; clear HK; rintro e w1 ⟨rfl, hb1⟩; have Q1 := hide (two_below2 hb1); have A1 := hide (((B3.new w w.heap.size k n t rfl).alloc _).after hb1); have B1 := hide ((B3.new _ (w.heap.size + 1) k' n' t' (by simp)).after hb1); obtain ⟨a0, a1, a2, _, _, _⟩ := unhide A1; obtain ⟨b0, b1, b2, _, _, _⟩ := unhide B1; clear hb1)
    | (go_at_call 13; refine (unhide HF _).mono ?_; clear HF; rintro e w0 ⟨rfl, rfl⟩; clear a0 a1 a2 b0 b1 b2; have AF := hide ((((unhide A1).alloc (.cells #[.int .i64 k, .int .i64 n, .string t, .int .i64 k', .int .i64 n', .string t'] 29)).alloc (.cells #[.int .i64 6, .int .i64 5, .int .i64 10, .int .i64 9, .int .i64 8, .int .i64 7] 47)).alloc (.cells #[.int .i64 5, .int .i64 6, .int .i64 9, .int .i64 10, .int .i64 7, .int .i64 8] 47)); have BF := hide ((((unhide B1).alloc (.cells #[.int .i64 k, .int .i64 n, .string t, .int .i64 k', .int .i64 n', .string t'] 29)).alloc (.cells #[.int .i64 6, .int .i64 5, .int .i64 10, .int .i64 9, .int .i64 8, .int .i64 7] 47)).alloc (.cells #[.int .i64 5, .int .i64 6, .int .i64 9, .int .i64 10, .int .i64 7, .int .i64 8] 47)); obtain ⟨a0, a1, a2, _, _, _⟩ := unhide AF; obtain ⟨b0, b1, b2, _, _, _⟩ := unhide BF)
    | (go_at_call 16; refine (unhide H1 _).mono ?_; clear H1; rintro e w2 ⟨rfl, hb2⟩; have Q2 := hide (one_step (one_new' (one_new' (one_new' (unhide Q1) _) _) _) hb2); have A2 := hide ((unhide AF).after hb2); have B2 := hide ((unhide BF).after hb2); have N2 := hide (((C1.new (w := w1.alloc (.cells #[.int .i64 k, .int .i64 n, .string t, .int .i64 k', .int .i64 n', .string t'] 29)) (b := w1.heap.size + 1) (i := 1) (v := .int .i64 5) _ _ (by simp) rfl).alloc _).after hb2); have K2 := hide ((C1.new (b := w1.heap.size + 1 + 1) (i := 1) (v := .int .i64 6) _ _ (by simp) rfl).after hb2); clear hb2 a0 a1 a2 b0 b1 b2))
  obtain ⟨a0, a1, a2, _, _, _⟩ := unhide A2
  obtain ⟨b0, b1, b2, _, _, _⟩ := unhide B2
  have nn : w2.cell? ⟨w1.heap.size + 1, 1, none⟩ = some (.int .i64 5) := unhide N2
  go_region_held3 (fun w' => w'.cell? ⟨w.heap.size, 0, none⟩ = some (.int .i64 k) ∧ w'.cell? ⟨w.heap.size, 1, none⟩ = some (.int .i64 n) ∧ w'.cell? ⟨w.heap.size, 2, none⟩ = some (.string t) ∧ w'.cell? ⟨w.heap.size + 1, 0, none⟩ = some (.int .i64 k') ∧ w'.cell? ⟨w.heap.size + 1, 1, none⟩ = some (.int .i64 n') ∧ w'.cell? ⟨w.heap.size + 1, 2, none⟩ = some (.string t') ∧ w'.cell? ⟨w1.heap.size + 1, 1, none⟩ = some (.int .i64 5)) (go_keep) (first | (go_at_call 16; refine (unhide H2 _).mono ?_; clear H2 a0 a1 a2 b0 b1 b2; rintro e w3 ⟨rfl, hb3⟩; have Q3 := hide (one_step (unhide Q2).drew hb3); have A3 := hide ((unhide A2).drew.after hb3); have B3' := hide ((unhide B2).drew.after hb3); have K3 := hide ((unhide K2).drew.after hb3); have nn3 : w3.cell? ⟨w1.heap.size + 1, 1, none⟩ = some (.int .i64 5) := (unhide N2).drew.after hb3; obtain ⟨a0, a1, a2, _, _, _⟩ := unhide A3; obtain ⟨b0, b1, b2, _, _, _⟩ := unhide B3'))
  go_wp2_with fail
  have kk : w3.cell? ⟨w1.heap.size + 1 + 1, 1, none⟩ = some (.int .i64 6) := unhide K3
  go_region_held3 (fun w' => w'.cell? ⟨w.heap.size, 0, none⟩ = some (.int .i64 k) ∧ w'.cell? ⟨w.heap.size, 1, none⟩ = some (.int .i64 n) ∧ w'.cell? ⟨w.heap.size, 2, none⟩ = some (.string t) ∧ w'.cell? ⟨w.heap.size + 1, 0, none⟩ = some (.int .i64 k') ∧ w'.cell? ⟨w.heap.size + 1, 1, none⟩ = some (.int .i64 n') ∧ w'.cell? ⟨w.heap.size + 1, 2, none⟩ = some (.string t') ∧ w'.cell? ⟨w1.heap.size + 1 + 1, 1, none⟩ = some (.int .i64 6)) (go_keep) (first | (go_at_call 16; refine (unhide H3 _).mono ?_; clear H3 a0 a1 a2 b0 b1 b2; rintro e w4 ⟨rfl, hb4⟩; have Q4 := hide (one_step (unhide Q3).drew hb4); have A4 := hide ((unhide A3).drew.after hb4); have B4 := hide ((unhide B3').drew.after hb4); have kk4 : w4.cell? ⟨w1.heap.size + 1 + 1, 1, none⟩ = some (.int .i64 6) := (unhide K3).drew.after hb4; obtain ⟨a0, a1, a2, _, _, _⟩ := unhide A4; obtain ⟨b0, b1, b2, _, _, _⟩ := unhide B4))
  clear a0 a1 a2 b0 b1 b2
  go_wp2_with (first
    | (go_at_call 19; refine (unhide HC1 _ (unhide Q4)).mono ?_; clear HC1; rintro e w5 ⟨rfl, hb5⟩; have Q5 := hide (one_step (unhide Q4) hb5))
    | (go_at_call 19; refine (unhide HC2 _ (unhide Q5)).mono ?_; clear HC2; rintro e w6 ⟨rfl, hb6⟩; have Q6 := hide (one_step (unhide Q5) hb6))
    | (go_at_call 19; refine (unhide HC3 _ (unhide Q6)).mono ?_; clear HC3; rintro e w7 ⟨rfl, hb7⟩; have Q7 := hide (one_step (unhide Q6) hb7))
    | (go_at_call 19; refine (unhide HC4 _ (unhide Q7)).mono ?_; clear HC4; rintro e w8 ⟨rfl, hb8⟩; have Q8 := hide (one_step (unhide Q7) hb8)))
  go_ret
  exact ⟨rfl, unhide Q8⟩

set_option maxHeartbeats 6400000 in
theorem tests_7k (x : Int) (k n : Int) (t : ByteArray) (k' n' : Int) (t' : ByteArray) (w : World) (hE : ET w)
    (HF : Hid (∀ W : World, Calls Tryd.prog 13 #[.slice (some ⟨W.heap.size, 0, none⟩) 2 2, .int .i64 2] (W.alloc (.cells #[.int .i64 k, .int .i64 n, .string t, .int .i64 k', .int .i64 n', .string t'] 29)) fun e w' => e = .returned (.bool true) ∧ w' = W.alloc (.cells #[.int .i64 k, .int .i64 n, .string t, .int .i64 k', .int .i64 n', .string t'] 29)))
    (H1 : Hid (TestI 7 k n t k' n' t' x (.nilIface))) (H2 : Hid (TestI 10 k n t k' n' t' (notG x) (.nilIface))) (H3 : Hid (TestI 9 k' n' t' k n t x (.nilIface))) :
    Calls Tryd.prog 8 #[.int .i64 7, .agg #[.int .i64 k, .int .i64 n, .string t], .agg #[.int .i64 k', .int .i64 n', .string t']] w fun e w' => e = .returned (.bool true) ∧ Below w.heap.size w w' := by
  have HK := hide (known_any ((w.alloc (.cells #[.int .i64 k, .int .i64 n, .string t] 29)).alloc (.cells #[.int .i64 k', .int .i64 n', .string t'] 29)) ((hE.alloc _).alloc _))
  have HN := hide (fun (W : World) => not_any x W)
  clear hE
  have hwr : IntKind.i64.wrap 2 = 2 := by decide +kernel
  go_enter Tryd.func8, Tryd.ntmps8
  go_wp2_with (first
    | (go_at_call 9; refine (unhide HK).mono ?_; clear HK; rintro e w1 ⟨rfl, hb1⟩; have Q1 := hide (two_below2 hb1); have A1 := hide (((B3.new w w.heap.size k n t rfl).alloc _).after hb1); have B1 := hide ((B3.new _ (w.heap.size + 1) k' n' t' (by simp)).after hb1); obtain ⟨a0, a1, a2, _, _, _⟩ := unhide A1; obtain ⟨b0, b1, b2, _, _, _⟩ := unhide B1; clear hb1)
    | (go_at_call 13; refine (unhide HF _).mono ?_; clear HF; rintro e w0 ⟨rfl, rfl⟩; clear a0 a1 a2 b0 b1 b2; have AF := hide ((((unhide A1).alloc (.cells #[.int .i64 k, .int .i64 n, .string t, .int .i64 k', .int .i64 n', .string t'] 29)).alloc (.cells #[.int .i64 6, .int .i64 5, .int .i64 10, .int .i64 9, .int .i64 8, .int .i64 7] 47)).alloc (.cells #[.int .i64 5, .int .i64 6, .int .i64 9, .int .i64 10, .int .i64 7, .int .i64 8] 47)); have BF := hide ((((unhide B1).alloc (.cells #[.int .i64 k, .int .i64 n, .string t, .int .i64 k', .int .i64 n', .string t'] 29)).alloc (.cells #[.int .i64 6, .int .i64 5, .int .i64 10, .int .i64 9, .int .i64 8, .int .i64 7] 47)).alloc (.cells #[.int .i64 5, .int .i64 6, .int .i64 9, .int .i64 10, .int .i64 7, .int .i64 8] 47)); obtain ⟨a0, a1, a2, _, _, _⟩ := unhide AF; obtain ⟨b0, b1, b2, _, _, _⟩ := unhide BF)
    | (go_at_call 16; refine (unhide H1 _).mono ?_; clear H1; rintro e w2 ⟨rfl, hb2⟩; have Q2 := hide (one_step (one_new' (one_new' (one_new' (unhide Q1) _) _) _) hb2); have A2 := hide ((unhide AF).after hb2); have B2 := hide ((unhide BF).after hb2); have N2 := hide (((C1.new (w := w1.alloc (.cells #[.int .i64 k, .int .i64 n, .string t, .int .i64 k', .int .i64 n', .string t'] 29)) (b := w1.heap.size + 1) (i := 2) (v := .int .i64 10) _ _ (by simp) rfl).alloc _).after hb2); have K2 := hide ((C1.new (b := w1.heap.size + 1 + 1) (i := 2) (v := .int .i64 9) _ _ (by simp) rfl).after hb2); clear hb2 a0 a1 a2 b0 b1 b2))
  obtain ⟨a0, a1, a2, _, _, _⟩ := unhide A2
  obtain ⟨b0, b1, b2, _, _, _⟩ := unhide B2
  have nn : w2.cell? ⟨w1.heap.size + 1, 2, none⟩ = some (.int .i64 10) := unhide N2
  go_region_held3 (fun w' => w'.cell? ⟨w.heap.size, 0, none⟩ = some (.int .i64 k) ∧ w'.cell? ⟨w.heap.size, 1, none⟩ = some (.int .i64 n) ∧ w'.cell? ⟨w.heap.size, 2, none⟩ = some (.string t) ∧ w'.cell? ⟨w.heap.size + 1, 0, none⟩ = some (.int .i64 k') ∧ w'.cell? ⟨w.heap.size + 1, 1, none⟩ = some (.int .i64 n') ∧ w'.cell? ⟨w.heap.size + 1, 2, none⟩ = some (.string t') ∧ w'.cell? ⟨w1.heap.size + 1, 2, none⟩ = some (.int .i64 10)) (go_keep) (first | (go_at_call 16; refine (unhide H2 _).mono ?_; clear H2 a0 a1 a2 b0 b1 b2; rintro e w3 ⟨rfl, hb3⟩; have Q3 := hide (one_step (unhide Q2).drew hb3); have A3 := hide ((unhide A2).drew.after hb3); have B3' := hide ((unhide B2).drew.after hb3); have K3 := hide ((unhide K2).drew.after hb3); have nn3 : w3.cell? ⟨w1.heap.size + 1, 2, none⟩ = some (.int .i64 10) := (unhide N2).drew.after hb3; obtain ⟨a0, a1, a2, _, _, _⟩ := unhide A3; obtain ⟨b0, b1, b2, _, _, _⟩ := unhide B3'))
  go_wp2_with fail
  have kk : w3.cell? ⟨w1.heap.size + 1 + 1, 2, none⟩ = some (.int .i64 9) := unhide K3
  go_region_held3 (fun w' => w'.cell? ⟨w.heap.size, 0, none⟩ = some (.int .i64 k) ∧ w'.cell? ⟨w.heap.size, 1, none⟩ = some (.int .i64 n) ∧ w'.cell? ⟨w.heap.size, 2, none⟩ = some (.string t) ∧ w'.cell? ⟨w.heap.size + 1, 0, none⟩ = some (.int .i64 k') ∧ w'.cell? ⟨w.heap.size + 1, 1, none⟩ = some (.int .i64 n') ∧ w'.cell? ⟨w.heap.size + 1, 2, none⟩ = some (.string t') ∧ w'.cell? ⟨w1.heap.size + 1 + 1, 2, none⟩ = some (.int .i64 9)) (go_keep) (first | (go_at_call 16; refine (unhide H3 _).mono ?_; clear H3 a0 a1 a2 b0 b1 b2; rintro e w4 ⟨rfl, hb4⟩; have Q4 := hide (one_step (unhide Q3).drew hb4); have A4 := hide ((unhide A3).drew.after hb4); have B4 := hide ((unhide B3').drew.after hb4); have kk4 : w4.cell? ⟨w1.heap.size + 1 + 1, 2, none⟩ = some (.int .i64 9) := (unhide K3).drew.after hb4; obtain ⟨a0, a1, a2, _, _, _⟩ := unhide A4; obtain ⟨b0, b1, b2, _, _, _⟩ := unhide B4))
  clear a0 a1 a2 b0 b1 b2
  go_wp2_with (first
    | (go_at_call 19; refine (class_nil _).mono ?_; rintro e w0 ⟨rfl, rfl⟩)
    | (go_at_call 12; refine (unhide HN _).mono ?_; rintro e w0 ⟨rfl, rfl⟩))
  go_ret
  exact ⟨rfl, unhide Q4⟩

set_option maxHeartbeats 6400000 in
theorem tests_7e (c : Int) (k n : Int) (t : ByteArray) (k' n' : Int) (t' : ByteArray) (w : World) (hE : ET w)
    (HF : Hid (∀ W : World, Calls Tryd.prog 13 #[.slice (some ⟨W.heap.size, 0, none⟩) 2 2, .int .i64 2] (W.alloc (.cells #[.int .i64 k, .int .i64 n, .string t, .int .i64 k', .int .i64 n', .string t'] 29)) fun e w' => e = .returned (.bool true) ∧ w' = W.alloc (.cells #[.int .i64 k, .int .i64 n, .string t, .int .i64 k', .int .i64 n', .string t'] 29)))
    (H1 : Hid (TestI 7 k n t k' n' t' 0 (.iface 55 (.int .i64 c)))) (H2 : Hid (TestI 10 k n t k' n' t' 0 (.iface 55 (.int .i64 c)))) (H3 : Hid (TestI 9 k' n' t' k n t 0 (.iface 55 (.int .i64 c)))) :
    Calls Tryd.prog 8 #[.int .i64 7, .agg #[.int .i64 k, .int .i64 n, .string t], .agg #[.int .i64 k', .int .i64 n', .string t']] w fun e w' => e = .returned (.bool true) ∧ Below w.heap.size w w' := by
  have HK := hide (known_any ((w.alloc (.cells #[.int .i64 k, .int .i64 n, .string t] 29)).alloc (.cells #[.int .i64 k', .int .i64 n', .string t'] 29)) ((hE.alloc _).alloc _))
  have HC1 := hide (fun (W : World) (hW : Below w.heap.size w W) => class_bare c W (hE.below hW hE.lt))
  have HC2 := hide (fun (W : World) (hW : Below w.heap.size w W) => class_bare c W (hE.below hW hE.lt))
  have HC3 := hide (fun (W : World) (hW : Below w.heap.size w W) => class_bare c W (hE.below hW hE.lt))
  have HC4 := hide (fun (W : World) (hW : Below w.heap.size w W) => class_bare c W (hE.below hW hE.lt))
  clear hE
  have hwr : IntKind.i64.wrap 2 = 2 := by decide +kernel
  go_enter Tryd.func8, Tryd.ntmps8
  go_wp2_with (first
    | (go_at_call 9; refine (unhide HK).mono ?_; clear HK; rintro e w1 ⟨rfl, hb1⟩; have Q1 := hide (two_below2 hb1); have A1 := hide (((B3.new w w.heap.size k n t rfl).alloc _).after hb1); have B1 := hide ((B3.new _ (w.heap.size + 1) k' n' t' (by simp)).after hb1); obtain ⟨a0, a1, a2, _, _, _⟩ := unhide A1; obtain ⟨b0, b1, b2, _, _, _⟩ := unhide B1; clear hb1)
    | (go_at_call 13; refine (unhide HF _).mono ?_; clear HF; rintro e w0 ⟨rfl, rfl⟩; clear a0 a1 a2 b0 b1 b2; have AF := hide ((((unhide A1).alloc (.cells #[.int .i64 k, .int .i64 n, .string t, .int .i64 k', .int .i64 n', .string t'] 29)).alloc (.cells #[.int .i64 6, .int .i64 5, .int .i64 10, .int .i64 9, .int .i64 8, .int .i64 7] 47)).alloc (.cells #[.int .i64 5, .int .i64 6, .int .i64 9, .int .i64 10, .int .i64 7, .int .i64 8] 47)); have BF := hide ((((unhide B1).alloc (.cells #[.int .i64 k, .int .i64 n, .string t, .int .i64 k', .int .i64 n', .string t'] 29)).alloc (.cells #[.int .i64 6, .int .i64 5, .int .i64 10, .int .i64 9, .int .i64 8, .int .i64 7] 47)).alloc (.cells #[.int .i64 5, .int .i64 6, .int .i64 9, .int .i64 10, .int .i64 7, .int .i64 8] 47)); obtain ⟨a0, a1, a2, _, _, _⟩ := unhide AF; obtain ⟨b0, b1, b2, _, _, _⟩ := unhide BF)
    | (go_at_call 16; refine (unhide H1 _).mono ?_; clear H1; rintro e w2 ⟨rfl, hb2⟩; have Q2 := hide (one_step (one_new' (one_new' (one_new' (unhide Q1) _) _) _) hb2); have A2 := hide ((unhide AF).after hb2); have B2 := hide ((unhide BF).after hb2); have N2 := hide (((C1.new (w := w1.alloc (.cells #[.int .i64 k, .int .i64 n, .string t, .int .i64 k', .int .i64 n', .string t'] 29)) (b := w1.heap.size + 1) (i := 2) (v := .int .i64 10) _ _ (by simp) rfl).alloc _).after hb2); have K2 := hide ((C1.new (b := w1.heap.size + 1 + 1) (i := 2) (v := .int .i64 9) _ _ (by simp) rfl).after hb2); clear hb2 a0 a1 a2 b0 b1 b2))
  obtain ⟨a0, a1, a2, _, _, _⟩ := unhide A2
  obtain ⟨b0, b1, b2, _, _, _⟩ := unhide B2
  have nn : w2.cell? ⟨w1.heap.size + 1, 2, none⟩ = some (.int .i64 10) := unhide N2
  go_region_held3 (fun w' => w'.cell? ⟨w.heap.size, 0, none⟩ = some (.int .i64 k) ∧ w'.cell? ⟨w.heap.size, 1, none⟩ = some (.int .i64 n) ∧ w'.cell? ⟨w.heap.size, 2, none⟩ = some (.string t) ∧ w'.cell? ⟨w.heap.size + 1, 0, none⟩ = some (.int .i64 k') ∧ w'.cell? ⟨w.heap.size + 1, 1, none⟩ = some (.int .i64 n') ∧ w'.cell? ⟨w.heap.size + 1, 2, none⟩ = some (.string t') ∧ w'.cell? ⟨w1.heap.size + 1, 2, none⟩ = some (.int .i64 10)) (go_keep) (first | (go_at_call 16; refine (unhide H2 _).mono ?_; clear H2 a0 a1 a2 b0 b1 b2; rintro e w3 ⟨rfl, hb3⟩; have Q3 := hide (one_step (unhide Q2).drew hb3); have A3 := hide ((unhide A2).drew.after hb3); have B3' := hide ((unhide B2).drew.after hb3); have K3 := hide ((unhide K2).drew.after hb3); have nn3 : w3.cell? ⟨w1.heap.size + 1, 2, none⟩ = some (.int .i64 10) := (unhide N2).drew.after hb3; obtain ⟨a0, a1, a2, _, _, _⟩ := unhide A3; obtain ⟨b0, b1, b2, _, _, _⟩ := unhide B3'))
  go_wp2_with fail
  have kk : w3.cell? ⟨w1.heap.size + 1 + 1, 2, none⟩ = some (.int .i64 9) := unhide K3
  go_region_held3 (fun w' => w'.cell? ⟨w.heap.size, 0, none⟩ = some (.int .i64 k) ∧ w'.cell? ⟨w.heap.size, 1, none⟩ = some (.int .i64 n) ∧ w'.cell? ⟨w.heap.size, 2, none⟩ = some (.string t) ∧ w'.cell? ⟨w.heap.size + 1, 0, none⟩ = some (.int .i64 k') ∧ w'.cell? ⟨w.heap.size + 1, 1, none⟩ = some (.int .i64 n') ∧ w'.cell? ⟨w.heap.size + 1, 2, none⟩ = some (.string t') ∧ w'.cell? ⟨w1.heap.size + 1 + 1, 2, none⟩ = some (.int .i64 9)) (go_keep) (first | (go_at_call 16; refine (unhide H3 _).mono ?_; clear H3 a0 a1 a2 b0 b1 b2; rintro e w4 ⟨rfl, hb4⟩; have Q4 := hide (one_step (unhide Q3).drew hb4); have A4 := hide ((unhide A3).drew.after hb4); have B4 := hide ((unhide B3').drew.after hb4); have kk4 : w4.cell? ⟨w1.heap.size + 1 + 1, 2, none⟩ = some (.int .i64 9) := (unhide K3).drew.after hb4; obtain ⟨a0, a1, a2, _, _, _⟩ := unhide A4; obtain ⟨b0, b1, b2, _, _, _⟩ := unhide B4))
  clear a0 a1 a2 b0 b1 b2
  go_wp2_with (first
    | (go_at_call 19; refine (unhide HC1 _ (unhide Q4)).mono ?_; clear HC1; rintro e w5 ⟨rfl, hb5⟩; have Q5 := hide (one_step (unhide Q4) hb5))
    | (go_at_call 19; refine (unhide HC2 _ (unhide Q5)).mono ?_; clear HC2; rintro e w6 ⟨rfl, hb6⟩; have Q6 := hide (one_step (unhide Q5) hb6))
    | (go_at_call 19; refine (unhide HC3 _ (unhide Q6)).mono ?_; clear HC3; rintro e w7 ⟨rfl, hb7⟩; have Q7 := hide (one_step (unhide Q6) hb7))
    | (go_at_call 19; refine (unhide HC4 _ (unhide Q7)).mono ?_; clear HC4; rintro e w8 ⟨rfl, hb8⟩; have Q8 := hide (one_step (unhide Q7) hb8)))
  go_ret
  exact ⟨rfl, unhide Q8⟩

set_option maxHeartbeats 6400000 in
theorem tests_8k (x : Int) (k n : Int) (t : ByteArray) (k' n' : Int) (t' : ByteArray) (w : World) (hE : ET w)
    (HF : Hid (∀ W : World, Calls Tryd.prog 13 #[.slice (some ⟨W.heap.size, 0, none⟩) 2 2, .int .i64 2] (W.alloc (.cells #[.int .i64 k, .int .i64 n, .string t, .int .i64 k', .int .i64 n', .string t'] 29)) fun e w' => e = .returned (.bool true) ∧ w' = W.alloc (.cells #[.int .i64 k, .int .i64 n, .string t, .int .i64 k', .int .i64 n', .string t'] 29)))
    (H1 : Hid (TestI 8 k n t k' n' t' x (.nilIface))) (H2 : Hid (TestI 9 k n t k' n' t' (notG x) (.nilIface))) (H3 : Hid (TestI 10 k' n' t' k n t x (.nilIface))) :
    Calls Tryd.prog 8 #[.int .i64 8, .agg #[.int .i64 k, .int .i64 n, .string t], .agg #[.int .i64 k', .int .i64 n', .string t']] w fun e w' => e = .returned (.bool true) ∧ Below w.heap.size w w' := by
  have HK := hide (known_any ((w.alloc (.cells #[.int .i64 k, .int .i64 n, .string t] 29)).alloc (.cells #[.int .i64 k', .int .i64 n', .string t'] 29)) ((hE.alloc _).alloc _))
  have HN := hide (fun (W : World) => not_any x W)
  clear hE
  have hwr : IntKind.i64.wrap 3 = 3 := by decide +kernel
  go_enter Tryd.func8, Tryd.ntmps8
  go_wp2_with (first
    | (go_at_call 9; refine (unhide HK).mono ?_; clear HK; rintro e w1 ⟨rfl, hb1⟩; have Q1 := hide (two_below2 hb1); have A1 := hide (((B3.new w w.heap.size k n t rfl).alloc _).after hb1); have B1 := hide ((B3.new _ (w.heap.size + 1) k' n' t' (by simp)).after hb1); obtain ⟨a0, a1, a2, _, _, _⟩ := unhide A1; obtain ⟨b0, b1, b2, _, _, _⟩ := unhide B1; clear hb1)
    | (go_at_call 13; refine (unhide HF _).mono ?_; clear HF; rintro e w0 ⟨rfl, rfl⟩; clear a0 a1 a2 b0 b1 b2; have AF := hide ((((unhide A1).alloc (.cells #[.int .i64 k, .int .i64 n, .string t, .int .i64 k', .int .i64 n', .string t'] 29)).alloc (.cells #[.int .i64 6, .int .i64 5, .int .i64 10, .int .i64 9, .int .i64 8, .int .i64 7] 47)).alloc (.cells #[.int .i64 5, .int .i64 6, .int .i64 9, .int .i64 10, .int .i64 7, .int .i64 8] 47)); have BF := hide ((((unhide B1).alloc (.cells #[.int .i64 k, .int .i64 n, .string t, .int .i64 k', .int .i64 n', .string t'] 29)).alloc (.cells #[.int .i64 6, .int .i64 5, .int .i64 10, .int .i64 9, .int .i64 8, .int .i64 7] 47)).alloc (.cells #[.int .i64 5, .int .i64 6, .int .i64 9, .int .i64 10, .int .i64 7, .int .i64 8] 47)); obtain ⟨a0, a1, a2, _, _, _⟩ := unhide AF; obtain ⟨b0, b1, b2, _, _, _⟩ := unhide BF)
    | (go_at_call 16; refine (unhide H1 _).mono ?_; clear H1; rintro e w2 ⟨rfl, hb2⟩; have Q2 := hide (one_step (one_new' (one_new' (one_new' (unhide Q1) _) _) _) hb2); have A2 := hide ((unhide AF).after hb2); have B2 := hide ((unhide BF).after hb2); have N2 := hide (((C1.new (w := w1.alloc (.cells #[.int .i64 k, .int .i64 n, .string t, .int .i64 k', .int .i64 n', .string t'] 29)) (b := w1.heap.size + 1) (i := 3) (v := .int .i64 9) _ _ (by simp) rfl).alloc _).after hb2); have K2 := hide ((C1.new (b := w1.heap.size + 1 + 1) (i := 3) (v := .int .i64 10) _ _ (by simp) rfl).after hb2); clear hb2 a0 a1 a2 b0 b1 b2))
  obtain ⟨a0, a1, a2, _, _, _⟩ := unhide A2
  obtain ⟨b0, b1, b2, _, _, _⟩ := unhide B2
  have nn : w2.cell? ⟨w1.heap.size + 1, 3, none⟩ = some (.int .i64 9) := unhide N2
  go_region_held3 (fun w' => w'.cell? ⟨w.heap.size, 0, none⟩ = some (.int .i64 k) ∧ w'.cell? ⟨w.heap.size, 1, none⟩ = some (.int .i64 n) ∧ w'.cell? ⟨w.heap.size, 2, none⟩ = some (.string t) ∧ w'.cell? ⟨w.heap.size + 1, 0, none⟩ = some (.int .i64 k') ∧ w'.cell? ⟨w.heap.size + 1, 1, none⟩ = some (.int .i64 n') ∧ w'.cell? ⟨w.heap.size + 1, 2, none⟩ = some (.string t') ∧ w'.cell? ⟨w1.heap.size + 1, 3, none⟩ = some (.int .i64 9)) (go_keep) (first | (go_at_call 16; refine (unhide H2 _).mono ?_; clear H2 a0 a1 a2 b0 b1 b2; rintro e w3 ⟨rfl, hb3⟩; have Q3 := hide (one_step (unhide Q2).drew hb3); have A3 := hide ((unhide A2).drew.after hb3); have B3' := hide ((unhide B2).drew.after hb3); have K3 := hide ((unhide K2).drew.after hb3); have nn3 : w3.cell? ⟨w1.heap.size + 1, 3, none⟩ = some (.int .i64 9) := (unhide N2).drew.after hb3; obtain ⟨a0, a1, a2, _, _, _⟩ := unhide A3; obtain ⟨b0, b1, b2, _, _, _⟩ := unhide B3'))
  go_wp2_with fail
  have kk : w3.cell? ⟨w1.heap.size + 1 + 1, 3, none⟩ = some (.int .i64 10) := unhide K3
  go_region_held3 (fun w' => w'.cell? ⟨w.heap.size, 0, none⟩ = some (.int .i64 k) ∧ w'.cell? ⟨w.heap.size, 1, none⟩ = some (.int .i64 n) ∧ w'.cell? ⟨w.heap.size, 2, none⟩ = some (.string t) ∧ w'.cell? ⟨w.heap.size + 1, 0, none⟩ = some (.int .i64 k') ∧ w'.cell? ⟨w.heap.size + 1, 1, none⟩ = some (.int .i64 n') ∧ w'.cell? ⟨w.heap.size + 1, 2, none⟩ = some (.string t') ∧ w'.cell? ⟨w1.heap.size + 1 + 1, 3, none⟩ = some (.int .i64 10)) (go_keep) (first | (go_at_call 16; refine (unhide H3 _).mono ?_; clear H3 a0 a1 a2 b0 b1 b2; rintro e w4 ⟨rfl, hb4⟩; have Q4 := hide (one_step (unhide Q3).drew hb4); have A4 := hide ((unhide A3).drew.after hb4); have B4 := hide ((unhide B3').drew.after hb4); have kk4 : w4.cell? ⟨w1.heap.size + 1 + 1, 3, none⟩ = some (.int .i64 10) := (unhide K3).drew.after hb4; obtain ⟨a0, a1, a2, _, _, _⟩ := unhide A4; obtain ⟨b0, b1, b2, _, _, _⟩ := unhide B4))
  clear a0 a1 a2 b0 b1 b2
  go_wp2_with (first
    | (go_at_call 19; refine (class_nil _).mono ?_; rintro e w0 ⟨rfl, rfl⟩)
    | (go_at_call 12; refine (unhide HN _).mono ?_; rintro e w0 ⟨rfl, rfl⟩))
  go_ret
  exact ⟨rfl, unhide Q4⟩

set_option maxHeartbeats 6400000 in
theorem tests_8e (c : Int) (k n : Int) (t : ByteArray) (k' n' : Int) (t' : ByteArray) (w : World) (hE : ET w)
    (HF : Hid (∀ W : World, Calls Tryd.prog 13 #[.slice (some ⟨W.heap.size, 0, none⟩) 2 2, .int .i64 2] (W.alloc (.cells #[.int .i64 k, .int .i64 n, .string t, .int .i64 k', .int .i64 n', .string t'] 29)) fun e w' => e = .returned (.bool true) ∧ w' = W.alloc (.cells #[.int .i64 k, .int .i64 n, .string t, .int .i64 k', .int .i64 n', .string t'] 29)))
    (H1 : Hid (TestI 8 k n t k' n' t' 0 (.iface 55 (.int .i64 c)))) (H2 : Hid (TestI 9 k n t k' n' t' 0 (.iface 55 (.int .i64 c)))) (H3 : Hid (TestI 10 k' n' t' k n t 0 (.iface 55 (.int .i64 c)))) :
    Calls Tryd.prog 8 #[.int .i64 8, .agg #[.int .i64 k, .int .i64 n, .string t], .agg #[.int .i64 k', .int .i64 n', .string t']] w fun e w' => e = .returned (.bool true) ∧ Below w.heap.size w w' := by
  have HK := hide (known_any ((w.alloc (.cells #[.int .i64 k, .int .i64 n, .string t] 29)).alloc (.cells #[.int .i64 k', .int .i64 n', .string t'] 29)) ((hE.alloc _).alloc _))
  have HC1 := hide (fun (W : World) (hW : Below w.heap.size w W) => class_bare c W (hE.below hW hE.lt))
  have HC2 := hide (fun (W : World) (hW : Below w.heap.size w W) => class_bare c W (hE.below hW hE.lt))
  have HC3 := hide (fun (W : World) (hW : Below w.heap.size w W) => class_bare c W (hE.below hW hE.lt))
  have HC4 := hide (fun (W : World) (hW : Below w.heap.size w W) => class_bare c W (hE.below hW hE.lt))
  clear hE
  have hwr : IntKind.i64.wrap 3 = 3 := by decide +kernel
  go_enter Tryd.func8, Tryd.ntmps8
  go_wp2_with (first
    | (go_at_call 9; refine (unhide HK).mono ?_; clear HK; rintro e w1 ⟨rfl, hb1⟩; have Q1 := hide (two_below2 hb1); have A1 := hide (((B3.new w w.heap.size k n t rfl).alloc _).after hb1); have B1 := hide ((B3.new _ (w.heap.size + 1) k' n' t' (by simp)).after hb1); obtain ⟨a0, a1, a2, _, _, _⟩ := unhide A1; obtain ⟨b0, b1, b2, _, _, _⟩ := unhide B1; clear hb1)
    | (go_at_call 13; refine (unhide HF _).mono ?_; clear HF; rintro e w0 ⟨rfl, rfl⟩; clear a0 a1 a2 b0 b1 b2; have AF := hide ((((unhide A1).alloc (.cells #[.int .i64 k, .int .i64 n, .string t, .int .i64 k', .int .i64 n', .string t'] 29)).alloc (.cells #[.int .i64 6, .int .i64 5, .int .i64 10, .int .i64 9, .int .i64 8, .int .i64 7] 47)).alloc (.cells #[.int .i64 5, .int .i64 6, .int .i64 9, .int .i64 10, .int .i64 7, .int .i64 8] 47)); have BF := hide ((((unhide B1).alloc (.cells #[.int .i64 k, .int .i64 n, .string t, .int .i64 k', .int .i64 n', .string t'] 29)).alloc (.cells #[.int .i64 6, .int .i64 5, .int .i64 10, .int .i64 9, .int .i64 8, .int .i64 7] 47)).alloc (.cells #[.int .i64 5, .int .i64 6, .int .i64 9, .int .i64 10, .int .i64 7, .int .i64 8] 47)); obtain ⟨a0, a1, a2, _, _, _⟩ := unhide AF; obtain ⟨b0, b1, b2, _, _, _⟩ := unhide BF)
    | (go_at_call 16; refine (unhide H1 _).mono ?_; clear H1; rintro e w2 ⟨rfl, hb2⟩; have Q2 := hide (one_step (one_new' (one_new' (one_new' (unhide Q1) _) _) _) hb2); have A2 := hide ((unhide AF).after hb2); have B2 := hide ((unhide BF).after hb2); have N2 := hide (((C1.new (w := w1.alloc (.cells #[.int .i64 k, .int .i64 n, .string t, .int .i64 k', .int .i64 n', .string t'] 29)) (b := w1.heap.size + 1) (i := 3) (v := .int .i64 9) _ _ (by simp) rfl).alloc _).after hb2); have K2 := hide ((C1.new (b := w1.heap.size + 1 + 1) (i := 3) (v := .int .i64 10) _ _ (by simp) rfl).after hb2); clear hb2 a0 a1 a2 b0 b1 b2))
  obtain ⟨a0, a1, a2, _, _, _⟩ := unhide A2
  obtain ⟨b0, b1, b2, _, _, _⟩ := unhide B2
  have nn : w2.cell? ⟨w1.heap.size + 1, 3, none⟩ = some (.int .i64 9) := unhide N2
  go_region_held3 (fun w' => w'.cell? ⟨w.heap.size, 0, none⟩ = some (.int .i64 k) ∧ w'.cell? ⟨w.heap.size, 1, none⟩ = some (.int .i64 n) ∧ w'.cell? ⟨w.heap.size, 2, none⟩ = some (.string t) ∧ w'.cell? ⟨w.heap.size + 1, 0, none⟩ = some (.int .i64 k') ∧ w'.cell? ⟨w.heap.size + 1, 1, none⟩ = some (.int .i64 n') ∧ w'.cell? ⟨w.heap.size + 1, 2, none⟩ = some (.string t') ∧ w'.cell? ⟨w1.heap.size + 1, 3, none⟩ = some (.int .i64 9)) (go_keep) (first | (go_at_call 16; refine (unhide H2 _).mono ?_; clear H2 a0 a1 a2 b0 b1 b2; rintro e w3 ⟨rfl, hb3⟩; have Q3 := hide (one_step (unhide Q2).drew hb3); have A3 := hide ((unhide A2).drew.after hb3); have B3' := hide ((unhide B2).drew.after hb3); have K3 := hide ((unhide K2).drew.after hb3); have nn3 : w3.cell? ⟨w1.heap.size + 1, 3, none⟩ = some (.int .i64 9) := (unhide N2).drew.after hb3; obtain ⟨a0, a1, a2, _, _, _⟩ := unhide A3; obtain ⟨b0, b1, b2, _, _, _⟩ := unhide B3'))
  go_wp2_with fail
  have kk : w3.cell? ⟨w1.heap.size + 1 + 1, 3, none⟩ = some (.int .i64 10) := unhide K3
  go_region_held3 (fun w' => w'.cell? ⟨w.heap.size, 0, none⟩ = some (.int .i64 k) ∧ w'.cell? ⟨w.heap.size, 1, none⟩ = some (.int .i64 n) ∧ w'.cell? ⟨w.heap.size, 2, none⟩ = some (.string t) ∧ w'.cell? ⟨w.heap.size + 1, 0, none⟩ = some (.int .i64 k') ∧ w'.cell? ⟨w.heap.size + 1, 1, none⟩ = some (.int .i64 n') ∧ w'.cell? ⟨w.heap.size + 1, 2, none⟩ = some (.string t') ∧ w'.cell? ⟨w1.heap.size + 1 + 1, 3, none⟩ = some (.int .i64 10)) (go_keep) (first | (go_at_call 16; refine (unhide H3 _).mono ?_; clear H3 a0 a1 a2 b0 b1 b2; rintro e w4 ⟨rfl, hb4⟩; have Q4 := hide (one_step (unhide Q3).drew hb4); have A4 := hide ((unhide A3).drew.after hb4); have B4 := hide ((unhide B3').drew.after hb4); have kk4 : w4.cell? ⟨w1.heap.size + 1 + 1, 3, none⟩ = some (.int .i64 10) := (unhide K3).drew.after hb4; obtain ⟨a0, a1, a2, _, _, _⟩ := unhide A4; obtain ⟨b0, b1, b2, _, _, _⟩ := unhide B4))
  clear a0 a1 a2 b0 b1 b2
  go_wp2_with (first
    | (go_at_call 19; refine (unhide HC1 _ (unhide Q4)).mono ?_; clear HC1; rintro e w5 ⟨rfl, hb5⟩; have Q5 := hide (one_step (unhide Q4) hb5))
    | (go_at_call 19; refine (unhide HC2 _ (unhide Q5)).mono ?_; clear HC2; rintro e w6 ⟨rfl, hb6⟩; have Q6 := hide (one_step (unhide Q5) hb6))
    | (go_at_call 19; refine (unhide HC3 _ (unhide Q6)).mono ?_; clear HC3; rintro e w7 ⟨rfl, hb7⟩; have Q7 := hide (one_step (unhide Q6) hb7))
    | (go_at_call 19; refine (unhide HC4 _ (unhide Q7)).mono ?_; clear HC4; rintro e w8 ⟨rfl, hb8⟩; have Q8 := hide (one_step (unhide Q7) hb8)))
  go_ret
  exact ⟨rfl, unhide Q8⟩

set_option maxHeartbeats 6400000 in
theorem tests_9k (x : Int) (k n : Int) (t : ByteArray) (k' n' : Int) (t' : ByteArray) (w : World) (hE : ET w)
    (HF : Hid (∀ W : World, Calls Tryd.prog 13 #[.slice (some ⟨W.heap.size, 0, none⟩) 2 2, .int .i64 2] (W.alloc (.cells #[.int .i64 k, .int .i64 n, .string t, .int .i64 k', .int .i64 n', .string t'] 29)) fun e w' => e = .returned (.bool true) ∧ w' = W.alloc (.cells #[.int .i64 k, .int .i64 n, .string t, .int .i64 k', .int .i64 n', .string t'] 29)))
    (H1 : Hid (TestI 9 k n t k' n' t' x (.nilIface))) (H2 : Hid (TestI 8 k n t k' n' t' (notG x) (.nilIface))) (H3 : Hid (TestI 7 k' n' t' k n t x (.nilIface))) :
    Calls Tryd.prog 8 #[.int .i64 9, .agg #[.int .i64 k, .int .i64 n, .string t], .agg #[.int .i64 k', .int .i64 n', .string t']] w fun e w' => e = .returned (.bool true) ∧ Below w.heap.size w w' := by
  have HK := hide (known_any ((w.alloc (.cells #[.int .i64 k, .int .i64 n, .string t] 29)).alloc (.cells #[.int .i64 k', .int .i64 n', .string t'] 29)) ((hE.alloc _).alloc _))
  have HN := hide (fun (W : World) => not_any x W)
  clear hE
  have hwr : IntKind.i64.wrap 4 = 4 := by decide +kernel
  go_enter Tryd.func8, Tryd.ntmps8
  go_wp2_with (first
    | (go_at_call 9; refine (unhide HK).mono ?_; clear HK; rintro e w1 ⟨rfl, hb1⟩; have Q1 := hide (two_below2 hb1); have A1 := hide (((B3.new w w.heap.size k n t rfl).alloc _).after hb1); have B1 := hide ((B3.new _ (w.heap.size + 1) k' n' t' (by simp)).after hb1); obtain ⟨a0, a1, a2, _, _, _⟩ := unhide A1; obtain ⟨b0, b1, b2, _, _, _⟩ := unhide B1; clear hb1)
    | (go_at_call 13; refine (unhide HF _).mono ?_; clear HF; rintro e w0 ⟨rfl, rfl⟩; clear a0 a1 a2 b0 b1 b2; have AF := hide ((((unhide A1).alloc (.cells #[.int .i64 k, .int .i64 n, .string t, .int .i64 k', .int .i64 n', .string t'] 29)).alloc (.cells #[.int .i64 6, .int .i64 5, .int .i64 10, .int .i64 9, .int .i64 8, .int .i64 7] 47)).alloc (.cells #[.int .i64 5, .int .i64 6, .int .i64 9, .int .i64 10, .int .i64 7, .int .i64 8] 47)); have BF := hide ((((unhide B1).alloc (.cells #[.int .i64 k, .int .i64 n, .string t, .int .i64 k', .int .i64 n', .string t'] 29)).alloc (.cells #[.int .i64 6, .int .i64 5, .int .i64 10, .int .i64 9, .int .i64 8, .int .i64 7] 47)).alloc (.cells #[.int .i64 5, .int .i64 6, .int .i64 9, .int .i64 10, .int .i64 7, .int .i64 8] 47)); obtain ⟨a0, a1, a2, _, _, _⟩ := unhide AF; obtain ⟨b0, b1, b2, _, _, _⟩ := unhide BF)
    | (go_at_call 16; refine (unhide H1 _).mono ?_; clear H1; rintro e w2 ⟨rfl, hb2⟩; have Q2 := hide (one_step (one_new' (one_new' (one_new' (unhide Q1) _) _) _) hb2); have A2 := hide ((unhide AF).after hb2); have B2 := hide ((unhide BF).after hb2); have N2 := hide (((C1.new (w := w1.alloc (.cells #[.int .i64 k, .int .i64 n, .string t, .int .i64 k', .int .i64 n', .string t'] 29)) (b := w1.heap.size + 1) (i := 4) (v := .int .i64 8) _ _ (by simp) rfl).alloc _).after hb2); have K2 := hide ((C1.new (b := w1.heap.size + 1 + 1) (i := 4) (v := .int .i64 7) _ _ (by simp) rfl).after hb2); clear hb2 a0 a1 a2 b0 b1 b2))
  obtain ⟨a0, a1, a2, _, _, _⟩ := unhide A2
  obtain ⟨b0, b1, b2, _, _, _⟩ := unhide B2
  have nn : w2.cell? ⟨w1.heap.size + 1, 4, none⟩ = some (.int .i64 8) := unhide N2
  go_region_held3 (fun w' => w'.cell? ⟨w.heap.size, 0, none⟩ = some (.int .i64 k) ∧ w'.cell? ⟨w.heap.size, 1, none⟩ = some (.int .i64 n) ∧ w'.cell? ⟨w.heap.size, 2, none⟩ = some (.string t) ∧ w'.cell? ⟨w.heap.size + 1, 0, none⟩ = some (.int .i64 k') ∧ w'.cell? ⟨w.heap.size + 1, 1, none⟩ = some (.int .i64 n') ∧ w'.cell? ⟨w.heap.size + 1, 2, none⟩ = some (.string t') ∧ w'.cell? ⟨w1.heap.size + 1, 4, none⟩ = some (.int .i64 8)) (go_keep) (first | (go_at_call 16; refine (unhide H2 _).mono ?_; clear H2 a0 a1 a2 b0 b1 b2; rintro e w3 ⟨rfl, hb3⟩; have Q3 := hide (one_step (unhide Q2).drew hb3); have A3 := hide ((unhide A2).drew.after hb3); have B3' := hide ((unhide B2).drew.after hb3); have K3 := hide ((unhide K2).drew.after hb3); have nn3 : w3.cell? ⟨w1.heap.size + 1, 4, none⟩ = some (.int .i64 8) := (unhide N2).drew.after hb3; obtain ⟨a0, a1, a2, _, _, _⟩ := unhide A3; obtain ⟨b0, b1, b2, _, _, _⟩ := unhide B3'))
  go_wp2_with fail
  have kk : w3.cell? ⟨w1.heap.size + 1 + 1, 4, none⟩ = some (.int .i64 7) := unhide K3
  go_region_held3 (fun w' => w'.cell? ⟨w.heap.size, 0, none⟩ = some (.int .i64 k) ∧ w'.cell? ⟨w.heap.size, 1, none⟩ = some (.int .i64 n) ∧ w'.cell? ⟨w.heap.size, 2, none⟩ = some (.string t) ∧ w'.cell? ⟨w.heap.size + 1, 0, none⟩ = some (.int .i64 k') ∧ w'.cell? ⟨w.heap.size + 1, 1, none⟩ = some (.int .i64 n') ∧ w'.cell? ⟨w.heap.size + 1, 2, none⟩ = some (.string t') ∧ w'.cell? ⟨w1.heap.size + 1 + 1, 4, none⟩ = some (.int .i64 7)) (go_keep) (first | (go_at_call 16; refine (unhide H3 _).mono ?_; clear H3 a0 a1 a2 b0 b1 b2; rintro e w4 ⟨rfl, hb4⟩; have Q4 := hide (one_step (unhide Q3).drew hb4); have A4 := hide ((unhide A3).drew.after hb4); have B4 := hide ((unhide B3').drew.after hb4); have kk4 : w4.cell? ⟨w1.heap.size + 1 + 1, 4, none⟩ = some (.int .i64 7) := (unhide K3).drew.after hb4; obtain ⟨a0, a1, a2, _, _, _⟩ := unhide A4; obtain ⟨b0, b1, b2, _, _, _⟩ := unhide B4))
  clear a0 a1 a2 b0 b1 b2
  go_wp2_with (first
    | (go_at_call 19; refine (class_nil _).mono ?_; rintro e w0 ⟨rfl, rfl⟩)
    | (go_at_call 12; refine (unhide HN _).mono ?_; rintro e w0 ⟨rfl, rfl⟩))
  go_ret
  exact ⟨rfl, unhide Q4⟩

set_option maxHeartbeats 6400000 in
theorem tests_9e (c : Int) (k n : Int) (t : ByteArray) (k' n' : Int) (t' : ByteArray) (w : World) (hE : ET w)
    (HF : Hid (∀ W : World, Calls Tryd.prog 13 #[.slice (some ⟨W.heap.size, 0, none⟩) 2 2, .int .i64 2] (W.alloc (.cells #[.int .i64 k, .int .i64 n, .string t, .int .i64 k', .int .i64 n', .string t'] 29)) fun e w' => e = .returned (.bool true) ∧ w' = W.alloc (.cells #[.int .i64 k, .int .i64 n, .string t, .int .i64 k', .int .i64 n', .string t'] 29)))
    (H1 : Hid (TestI 9 k n t k' n' t' 0 (.iface 55 (.int .i64 c)))) (H2 : Hid (TestI 8 k n t k' n' t' 0 (.iface 55 (.int .i64 c)))) (H3 : Hid (TestI 7 k' n' t' k n t 0 (.iface 55 (.int .i64 c)))) :
    Calls Tryd.prog 8 #[.int .i64 9, .agg #[.int .i64 k, .int .i64 n, .string t], .agg #[.int .i64 k', .int .i64 n', .string t']] w fun e w' => e = .returned (.bool true) ∧ Below w.heap.size w w' := by
  have HK := hide (known_any ((w.alloc (.cells #[.int .i64 k, .int .i64 n, .string t] 29)).alloc (.cells #[.int .i64 k', .int .i64 n', .string t'] 29)) ((hE.alloc _).alloc _))
  have HC1 := hide (fun (W : World) (hW : Below w.heap.size w W) => class_bare c W (hE.below hW hE.lt))
  have HC2 := hide (fun (W : World) (hW : Below w.heap.size w W) => class_bare c W (hE.below hW hE.lt))
  have HC3 := hide (fun (W : World) (hW : Below w.heap.size w W) => class_bare c W (hE.below hW hE.lt))
  have HC4 := hide (fun (W : World) (hW : Below w.heap.size w W) => class_bare c W (hE.below hW hE.lt))
  clear hE
  have hwr : IntKind.i64.wrap 4 = 4 := by decide +kernel
  go_enter Tryd.func8, Tryd.ntmps8
  go_wp2_with (first
    | (go_at_call 9; refine (unhide HK).mono ?_; clear HK; rintro e w1 ⟨rfl, hb1⟩; have Q1 := hide (two_below2 hb1); have A1 := hide (((B3.new w w.heap.size k n t rfl).alloc _).after hb1); have B1 := hide ((B3.new _ (w.heap.size + 1) k' n' t' (by simp)).after hb1); obtain ⟨a0, a1, a2, _, _, _⟩ := unhide A1; obtain ⟨b0, b1, b2, _, _, _⟩ := unhide B1; clear hb1)
    | (go_at_call 13; refine (unhide HF _).mono ?_; clear HF; rintro e w0 ⟨rfl, rfl⟩; clear a0 a1 a2 b0 b1 b2; have AF := hide ((((unhide A1).alloc (.cells #[.int .i64 k, .int .i64 n, .string t, .int .i64 k', .int .i64 n', .string t'] 29)).alloc (.cells #[.int .i64 6, .int .i64 5, .int .i64 10, .int .i64 9, .int .i64 8, .int .i64 7] 47)).alloc (.cells #[.int .i64 5, .int .i64 6, .int .i64 9, .int .i64 10, .int .i64 7, .int .i64 8] 47)); have BF := hide ((((unhide B1).alloc (.cells #[.int .i64 k, .int .i64 n, .string t, .int .i64 k', .int .i64 n', .string t'] 29)).alloc (.cells #[.int .i64 6, .int .i64 5, .int .i64 10, .int .i64 9, .int .i64 8, .int .i64 7] 47)).alloc (.cells #[.int .i64 5, .int .i64 6, .int .i64 9, .int .i64 10, .int .i64 7, .int .i64 8] 47)); obtain ⟨a0, a1, a2, _, _, _⟩ := unhide AF; obtain ⟨b0, b1, b2, _, _, _⟩ := unhide BF)
    | (go_at_call 16; refine (unhide H1 _).mono ?_; clear H1; rintro e w2 ⟨rfl, hb2⟩; have Q2 := hide (one_step (one_new' (one_new' (one_new' (unhide Q1) _) _) _) hb2); have A2 := hide ((unhide AF).after hb2); have B2 := hide ((unhide BF).after hb2); have N2 := hide (((C1.new (w := w1.alloc (.cells #[.int .i64 k, .int .i64 n, .string t, .int .i64 k', .int .i64 n', .string t'] 29)) (b := w1.heap.size + 1) (i := 4) (v := .int .i64 8) _ _ (by simp) rfl).alloc _).after hb2); have K2 := hide ((C1.new (b := w1.heap.size + 1 + 1) (i := 4) (v := .int .i64 7) _ _ (by simp) rfl).after hb2); clear hb2 a0 a1 a2 b0 b1 b2))
  obtain ⟨a0, a1, a2, _, _, _⟩ := unhide A2
  obtain ⟨b0, b1, b2, _, _, _⟩ := unhide B2
  have nn : w2.cell? ⟨w1.heap.size + 1, 4, none⟩ = some (.int .i64 8) := unhide N2
  go_region_held3 (fun w' => w'.cell? ⟨w.heap.size, 0, none⟩ = some (.int .i64 k) ∧ w'.cell? ⟨w.heap.size, 1, none⟩ = some (.int .i64 n) ∧ w'.cell? ⟨w.heap.size, 2, none⟩ = some (.string t) ∧ w'.cell? ⟨w.heap.size + 1, 0, none⟩ = some (.int .i64 k') ∧ w'.cell? ⟨w.heap.size + 1, 1, none⟩ = some (.int .i64 n') ∧ w'.cell? ⟨w.heap.size + 1, 2, none⟩ = some (.string t') ∧ w'.cell? ⟨w1.heap.size + 1, 4, none⟩ = some (.int .i64 8)) (go_keep) (first | (go_at_call 16; refine (unhide H2 _).mono ?_; clear H2 a0 a1 a2 b0 b1 b2; rintro e w3 ⟨rfl, hb3⟩; have Q3 := hide (one_step (unhide Q2).drew hb3); have A3 := hide ((unhide A2).drew.after hb3); have B3' := hide ((unhide B2).drew.after hb3); have K3 := hide ((unhide K2).drew.after hb3); have nn3 : w3.cell? ⟨w1.heap.size + 1, 4, none⟩ = some (.int .i64 8) := (unhide N2).drew.after hb3; obtain ⟨a0, a1, a2, _, _, _⟩ := unhide A3; obtain ⟨b0, b1, b2, _, _, _⟩ := unhide B3'))
  go_wp2_with fail
  have kk : w3.cell? ⟨w1.heap.size + 1 + 1, 4, none⟩ = some (.int .i64 7) := unhide K3
  go_region_held3 (fun w' => w'.cell? ⟨w.heap.size, 0, none⟩ = some (.int .i64 k) ∧ w'.cell? ⟨w.heap.size, 1, none⟩ = some (.int .i64 n) ∧ w'.cell? ⟨w.heap.size, 2, none⟩ = some (.string t) ∧ w'.cell? ⟨w.heap.size + 1, 0, none⟩ = some (.int .i64 k') ∧ w'.cell? ⟨w.heap.size + 1, 1, none⟩ = some (.int .i64 n') ∧ w'.cell? ⟨w.heap.size + 1, 2, none⟩ = some (.string t') ∧ w'.cell? ⟨w1.heap.size + 1 + 1, 4, none⟩ = some (.int .i64 7)) (go_keep) (first | (go_at_call 16; refine (unhide H3 _).mono ?_; clear H3 a0 a1 a2 b0 b1 b2; rintro e w4 ⟨rfl, hb4⟩; have Q4 := hide (one_step (unhide Q3).drew hb4); have A4 := hide ((unhide A3).drew.after hb4); have B4 := hide ((unhide B3').drew.after hb4); have kk4 : w4.cell? ⟨w1.heap.size + 1 + 1, 4, none⟩ = some (.int .i64 7) := (unhide K3).drew.after hb4; obtain ⟨a0, a1, a2, _, _, _⟩ := unhide A4; obtain ⟨b0, b1, b2, _, _, _⟩ := unhide B4))
  clear a0 a1 a2 b0 b1 b2
  go_wp2_with (first
    | (go_at_call 19; refine (unhide HC1 _ (unhide Q4)).mono ?_; clear HC1; rintro e w5 ⟨rfl, hb5⟩; have Q5 := hide (one_step (unhide Q4) hb5))
    | (go_at_call 19; refine (unhide HC2 _ (unhide Q5)).mono ?_; clear HC2; rintro e w6 ⟨rfl, hb6⟩; have Q6 := hide (one_step (unhide Q5) hb6))
    | (go_at_call 19; refine (unhide HC3 _ (unhide Q6)).mono ?_; clear HC3; rintro e w7 ⟨rfl, hb7⟩; have Q7 := hide (one_step (unhide Q6) hb7))
    | (go_at_call 19; refine (unhide HC4 _ (unhide Q7)).mono ?_; clear HC4; rintro e w8 ⟨rfl, hb8⟩; have Q8 := hide (one_step (unhide Q7) hb8)))
  go_ret
  exact ⟨rfl, unhide Q8⟩

set_option maxHeartbeats 6400000 in
theorem tests_10k (x : Int) (k n : Int) (t : ByteArray) (k' n' : Int) (t' : ByteArray) (w : World) (hE : ET w)
    (HF : Hid (∀ W : World, Calls Tryd.prog 13 #[.slice (some ⟨W.heap.size, 0, none⟩) 2 2, .int .i64 2] (W.alloc (.cells #[.int .i64 k, .int .i64 n, .string t, .int .i64 k', .int .i64 n', .string t'] 29)) fun e w' => e = .returned (.bool true) ∧ w' = W.alloc (.cells #[.int .i64 k, .int .i64 n, .string t, .int .i64 k', .int .i64 n', .string t'] 29)))
    (H1 : Hid (TestI 10 k n t k' n' t' x (.nilIface))) (H2 : Hid (TestI 7 k n t k' n' t' (notG x) (.nilIface))) (H3 : Hid (TestI 8 k' n' t' k n t x (.nilIface))) :
    Calls Tryd.prog 8 #[.int .i64 10, .agg #[.int .i64 k, .int .i64 n, .string t], .agg #[.int .i64 k', .int .i64 n', .string t']] w fun e w' => e = .returned (.bool true) ∧ Below w.heap.size w w' := by
  have HK := hide (known_any ((w.alloc (.cells #[.int .i64 k, .int .i64 n, .string t] 29)).alloc (.cells #[.int .i64 k', .int .i64 n', .string t'] 29)) ((hE.alloc _).alloc _))
  have HN := hide (fun (W : World) => not_any x W)
  clear hE
  have hwr : IntKind.i64.wrap 5 = 5 := by decide +kernel
  go_enter Tryd.func8, Tryd.ntmps8
  go_wp2_with (first
    | (go_at_call 9; refine (unhide HK).mono ?_; clear HK; rintro e w1 ⟨rfl, hb1⟩; have Q1 := hide (two_below2 hb1); have A1 := hide (((B3.new w w.heap.size k n t rfl).alloc _).after hb1); have B1 := hide ((B3.new _ (w.heap.size + 1) k' n' t' (by simp)).after hb1); obtain ⟨a0, a1, a2, _, _, _⟩ := unhide A1; obtain ⟨b0, b1, b2, _, _, _⟩ := unhide B1; clear hb1)
    | (go_at_call 13; refine (unhide HF _).mono ?_; clear HF; rintro e w0 ⟨rfl, rfl⟩; clear a0 a1 a2 b0 b1 b2; have AF := hide ((((unhide A1).alloc (.cells #[.int .i64 k, .int .i64 n, .string t, .int .i64 k', .int .i64 n', .string t'] 29)).alloc (.cells #[.int .i64 6, .int .i64 5, .int .i64 10, .int .i64 9, .int .i64 8, .int .i64 7] 47)).alloc (.cells #[.int .i64 5, .int .i64 6, .int .i64 9, .int .i64 10, .int .i64 7, .int .i64 8] 47)); have BF := hide ((((unhide B1).alloc (.cells #[.int .i64 k, .int .i64 n, .string t, .int .i64 k', .int .i64 n', .string t'] 29)).alloc (.cells #[.int .i64 6, .int .i64 5, .int .i64 10, .int .i64 9, .int .i64 8, .int .i64 7] 47)).alloc (.cells #[.int .i64 5, .int .i64 6, .int .i64 9, .int .i64 10, .int .i64 7, .int .i64 8] 47)); obtain ⟨a0, a1, a2, _, _, _⟩ := unhide AF; obtain ⟨b0, b1, b2, _, _, _⟩ := unhide BF)
    | (go_at_call 16; refine (unhide H1 _).mono ?_; clear H1; rintro e w2 ⟨rfl, hb2⟩; have Q2 := hide (one_step (one_new' (one_new' (one_new' (unhide Q1) _) _) _) hb2); have A2 := hide ((unhide AF).after hb2); have B2 := hide ((unhide BF).after hb2); have N2 := hide (((C1.new (w := w1.alloc (.cells #[.int .i64 k, .int .i64 n, .string t, .int .i64 k', .int .i64 n', .string t'] 29)) (b := w1.heap.size + 1) (i := 5) (v := .int .i64 7) _ _ (by simp) rfl).alloc _).after hb2); have K2 := hide ((C1.new (b := w1.heap.size + 1 + 1) (i := 5) (v := .int .i64 8) _ _ (by simp) rfl).after hb2); clear hb2 a0 a1 a2 b0 b1 b2))
  obtain ⟨a0, a1, a2, _, _, _⟩ := unhide A2
  obtain ⟨b0, b1, b2, _, _, _⟩ := unhide B2
  have nn : w2.cell? ⟨w1.heap.size + 1, 5, none⟩ = some (.int .i64 7) := unhide N2
  go_region_held3 (fun w' => w'.cell? ⟨w.heap.size, 0, none⟩ = some (.int .i64 k) ∧ w'.cell? ⟨w.heap.size, 1, none⟩ = some (.int .i64 n) ∧ w'.cell? ⟨w.heap.size, 2, none⟩ = some (.string t) ∧ w'.cell? ⟨w.heap.size + 1, 0, none⟩ = some (.int .i64 k') ∧ w'.cell? ⟨w.heap.size + 1, 1, none⟩ = some (.int .i64 n') ∧ w'.cell? ⟨w.heap.size + 1, 2, none⟩ = some (.string t') ∧ w'.cell? ⟨w1.heap.size + 1, 5, none⟩ = some (.int .i64 7)) (go_keep) (first | (go_at_call 16; refine (unhide H2 _).mono ?_; clear H2 a0 a1 a2 b0 b1 b2; rintro e w3 ⟨rfl, hb3⟩; have Q3 := hide (one_step (unhide Q2).drew hb3); have A3 := hide ((unhide A2).drew.after hb3); have B3' := hide ((unhide B2).drew.after hb3); have K3 := hide ((unhide K2).drew.after hb3); have nn3 : w3.cell? ⟨w1.heap.size + 1, 5, none⟩ = some (.int .i64 7) := (unhide N2).drew.after hb3; obtain ⟨a0, a1, a2, _, _, _⟩ := unhide A3; obtain ⟨b0, b1, b2, _, _, _⟩ := unhide B3'))
  go_wp2_with fail
  have kk : w3.cell? ⟨w1.heap.size + 1 + 1, 5, none⟩ = some (.int .i64 8) := unhide K3
  go_region_held3 (fun w' => w'.cell? ⟨w.heap.size, 0, none⟩ = some (.int .i64 k) ∧ w'.cell? ⟨w.heap.size, 1, none⟩ = some (.int .i64 n) ∧ w'.cell? ⟨w.heap.size, 2, none⟩ = some (.string t) ∧ w'.cell? ⟨w.heap.size + 1, 0, none⟩ = some (.int .i64 k') ∧ w'.cell? ⟨w.heap.size + 1, 1, none⟩ = some (.int .i64 n') ∧ w'.cell? ⟨w.heap.size + 1, 2, none⟩ = some (.string t') ∧ w'.cell? ⟨w1.heap.size + 1 + 1, 5, none⟩ = some (.int .i64 8)) (go_keep) (first | (go_at_call 16; refine (unhide H3 _).mono ?_; clear H3 a0 a1 a2 b0 b1 b2; rintro e w4 ⟨rfl, hb4⟩; have Q4 := hide (one_step (unhide Q3).drew hb4); have A4 := hide ((unhide A3).drew.after hb4); have B4 := hide ((unhide B3').drew.after hb4); have kk4 : w4.cell? ⟨w1.heap.size + 1 + 1, 5, none⟩ = some (.int .i64 8) := (unhide K3).drew.after hb4; obtain ⟨a0, a1, a2, _, _, _⟩ := unhide A4; obtain ⟨b0, b1, b2, _, _, _⟩ := unhide B4))
  clear a0 a1 a2 b0 b1 b2
  go_wp2_with (first
    | (go_at_call 19; refine (class_nil _).mono ?_; rintro e w0 ⟨rfl, rfl⟩)
    | (go_at_call 12; refine (unhide HN _).mono ?_; rintro e w0 ⟨rfl, rfl⟩))
  go_ret
  exact ⟨rfl, unhide Q4⟩

set_option maxHeartbeats 6400000 in
theorem tests_10e (c : Int) (k n : Int) (t : ByteArray) (k' n' : Int) (t' : ByteArray) (w : World) (hE : ET w)
    (HF : Hid (∀ W : World, Calls Tryd.prog 13 #[.slice (some ⟨W.heap.size, 0, none⟩) 2 2, .int .i64 2] (W.alloc (.cells #[.int .i64 k, .int .i64 n, .string t, .int .i64 k', .int .i64 n', .string t'] 29)) fun e w' => e = .returned (.bool true) ∧ w' = W.alloc (.cells #[.int .i64 k, .int .i64 n, .string t, .int .i64 k', .int .i64 n', .string t'] 29)))
    (H1 : Hid (TestI 10 k n t k' n' t' 0 (.iface 55 (.int .i64 c)))) (H2 : Hid (TestI 7 k n t k' n' t' 0 (.iface 55 (.int .i64 c)))) (H3 : Hid (TestI 8 k' n' t' k n t 0 (.iface 55 (.int .i64 c)))) :
    Calls Tryd.prog 8 #[.int .i64 10, .agg #[.int .i64 k, .int .i64 n, .string t], .agg #[.int .i64 k', .int .i64 n', .string t']] w fun e w' => e = .returned (.bool true) ∧ Below w.heap.size w w' := by
  have HK := hide (known_any ((w.alloc (.cells #[.int .i64 k, .int .i64 n, .string t] 29)).alloc (.cells #[.int .i64 k', .int .i64 n', .string t'] 29)) ((hE.alloc _).alloc _))
  have HC1 := hide (fun (W : World) (hW : Below w.heap.size w W) => class_bare c W (hE.below hW hE.lt))
  have HC2 := hide (fun (W : World) (hW : Below w.heap.size w W) => class_bare c W (hE.below hW hE.lt))
  have HC3 := hide (fun (W : World) (hW : Below w.heap.size w W) => class_bare c W (hE.below hW hE.lt))
  have HC4 := hide (fun (W : World) (hW : Below w.heap.size w W) => class_bare c W (hE.below hW hE.lt))
  clear hE
  have hwr : IntKind.i64.wrap 5 = 5 := by decide +kernel
  go_enter Tryd.func8, Tryd.ntmps8
  go_wp2_with (first
    | (go_at_call 9; refine (unhide HK).mono ?_; clear HK; rintro e w1 ⟨rfl, hb1⟩; have Q1 := hide (two_below2 hb1); have A1 := hide (((B3.new w w.heap.size k n t rfl).alloc _).after hb1); have B1 := hide ((B3.new _ (w.heap.size + 1) k' n' t' (by simp)).after hb1); obtain ⟨a0, a1, a2, _, _, _⟩ := unhide A1; obtain ⟨b0, b1, b2, _, _, _⟩ := unhide B1; clear hb1)
    | (go_at_call 13; refine (unhide HF _).mono ?_; clear HF; rintro e w0 ⟨rfl, rfl⟩; clear a0 a1 a2 b0 b1 b2; have AF := hide ((((unhide A1).alloc (.cells #[.int .i64 k, .int .i64 n, .string t, .int .i64 k', .int .i64 n', .string t'] 29)).alloc (.cells #[.int .i64 6, .int .i64 5, .int .i64 10, .int .i64 9, .int .i64 8, .int .i64 7] 47)).alloc (.cells #[.int .i64 5, .int .i64 6, .int .i64 9, .int .i64 10, .int .i64 7, .int .i64 8] 47)); have BF := hide ((((unhide B1).alloc (.cells #[.int .i64 k, .int .i64 n, .string t, .int .i64 k', .int .i64 n', .string t'] 29)).alloc (.cells #[.int .i64 6, .int .i64 5, .int .i64 10, .int .i64 9, .int .i64 8, .int .i64 7] 47)).alloc (.cells #[.int .i64 5, .int .i64 6, .int .i64 9, .int .i64 10, .int .i64 7, .int .i64 8] 47)); obtain ⟨a0, a1, a2, _, _, _⟩ := unhide AF; obtain ⟨b0, b1, b2, _, _, _⟩ := unhide BF)
    | (go_at_call 16; refine (unhide H1 _).mono ?_; clear H1; rintro e w2 ⟨rfl, hb2⟩; have Q2 := hide (one_step (one_new' (one_new' (one_new' (unhide Q1) _) _) _) hb2); have A2 := hide ((unhide AF).after hb2); have B2 := hide ((unhide BF).after hb2); have N2 := hide (((C1.new (w := w1.alloc (.cells #[.int .i64 k, .int .i64 n, .string t, .int .i64 k', .int .i64 n', .string t'] 29)) (b := w1.heap.size + 1) (i := 5) (v := .int .i64 7) _ _ (by simp) rfl).alloc _).after hb2); have K2 := hide ((C1.new (b := w1.heap.size + 1 + 1) (i := 5) (v := .int .i64 8) _ _ (by simp) rfl).after hb2); clear hb2 a0 a1 a2 b0 b1 b2))
  obtain ⟨a0, a1, a2, _, _, _⟩ := unhide A2
  obtain ⟨b0, b1, b2, _, _, _⟩ := unhide B2
  have nn : w2.cell? ⟨w1.heap.size + 1, 5, none⟩ = some (.int .i64 7) := unhide N2
  go_region_held3 (fun w' => w'.cell? ⟨w.heap.size, 0, none⟩ = some (.int .i64 k) ∧ w'.cell? ⟨w.heap.size, 1, none⟩ = some (.int .i64 n) ∧ w'.cell? ⟨w.heap.size, 2, none⟩ = some (.string t) ∧ w'.cell? ⟨w.heap.size + 1, 0, none⟩ = some (.int .i64 k') ∧ w'.cell? ⟨w.heap.size + 1, 1, none⟩ = some (.int .i64 n') ∧ w'.cell? ⟨w.heap.size + 1, 2, none⟩ = some (.string t') ∧ w'.cell? ⟨w1.heap.size + 1, 5, none⟩ = some (.int .i64 7)) (go_keep) (first | (go_at_call 16; refine (unhide H2 _).mono ?_; clear H2 a0 a1 a2 b0 b1 b2; rintro e w3 ⟨rfl, hb3⟩; have Q3 := hide (one_step (unhide Q2).drew hb3); have A3 := hide ((unhide A2).drew.after hb3); have B3' := hide ((unhide B2).drew.after hb3); have K3 := hide ((unhide K2).drew.after hb3); have nn3 : w3.cell? ⟨w1.heap.size + 1, 5, none⟩ = some (.int .i64 7) := (unhide N2).drew.after hb3; obtain ⟨a0, a1, a2, _, _, _⟩ := unhide A3; obtain ⟨b0, b1, b2, _, _, _⟩ := unhide B3'))
  go_wp2_with fail
  have kk : w3.cell? ⟨w1.heap.size + 1 + 1, 5, none⟩ = some (.int .i64 8) := unhide K3
  go_region_held3 (fun w' => w'.cell? ⟨w.heap.size, 0, none⟩ = some (.int .i64 k) ∧ w'.cell? ⟨w.heap.size, 1, none⟩ = some (.int .i64 n) ∧ w'.cell? ⟨w.heap.size, 2, none⟩ = some (.string t) ∧ w'.cell? ⟨w.heap.size + 1, 0, none⟩ = some (.int .i64 k') ∧ w'.cell? ⟨w.heap.size + 1, 1, none⟩ = some (.int .i64 n') ∧ w'.cell? ⟨w.heap.size + 1, 2, none⟩ = some (.string t') ∧ w'.cell? ⟨w1.heap.size + 1 + 1, 5, none⟩ = some (.int .i64 8)) (go_keep) (first | (go_at_call 16; refine (unhide H3 _).mono ?_; clear H3 a0 a1 a2 b0 b1 b2; rintro e w4 ⟨rfl, hb4⟩; have Q4 := hide (one_step (unhide Q3).drew hb4); have A4 := hide ((unhide A3).drew.after hb4); have B4 := hide ((unhide B3').drew.after hb4); have kk4 : w4.cell? ⟨w1.heap.size + 1 + 1, 5, none⟩ = some (.int .i64 8) := (unhide K3).drew.after hb4; obtain ⟨a0, a1, a2, _, _, _⟩ := unhide A4; obtain ⟨b0, b1, b2, _, _, _⟩ := unhide B4))
  clear a0 a1 a2 b0 b1 b2
  go_wp2_with (first
    | (go_at_call 19; refine (unhide HC1 _ (unhide Q4)).mono ?_; clear HC1; rintro e w5 ⟨rfl, hb5⟩; have Q5 := hide (one_step (unhide Q4) hb5))
    | (go_at_call 19; refine (unhide HC2 _ (unhide Q5)).mono ?_; clear HC2; rintro e w6 ⟨rfl, hb6⟩; have Q6 := hide (one_step (unhide Q5) hb6))
    | (go_at_call 19; refine (unhide HC3 _ (unhide Q6)).mono ?_; clear HC3; rintro e w7 ⟨rfl, hb7⟩; have Q7 := hide (one_step (unhide Q6) hb7))
    | (go_at_call 19; refine (unhide HC4 _ (unhide Q7)).mono ?_; clear HC4; rintro e w8 ⟨rfl, hb8⟩; have Q8 := hide (one_step (unhide Q7) hb8)))
  go_ret
  exact ⟨rfl, unhide Q8⟩

set_option maxHeartbeats 1600000 in
theorem tests_out (op k n : Int) (t : ByteArray) (k' n' : Int) (t' : ByteArray) (m : Bool) (w : World) (hE : ET w) (hm : m = false ∨ op < 5 ∨ 10 < op)
    (HF : Hid (∀ W : World, Calls Tryd.prog 13 #[.slice (some ⟨W.heap.size, 0, none⟩) 2 2, .int .i64 2] (W.alloc (.cells #[.int .i64 k, .int .i64 n, .string t, .int .i64 k', .int .i64 n', .string t'] 29)) fun e w' => e = .returned (.bool m) ∧ w' = W.alloc (.cells #[.int .i64 k, .int .i64 n, .string t, .int .i64 k', .int .i64 n', .string t'] 29))) :
    Calls Tryd.prog 8 #[.int .i64 op, .agg #[.int .i64 k, .int .i64 n, .string t], .agg #[.int .i64 k', .int .i64 n', .string t']] w fun e w' => e = .returned (.bool true) ∧ Below w.heap.size w w' := by
  have HK := hide (known_any ((w.alloc (.cells #[.int .i64 k, .int .i64 n, .string t] 29)).alloc (.cells #[.int .i64 k', .int .i64 n', .string t'] 29)) ((hE.alloc _).alloc _))
  clear hE
  cases m with
  | false =>
    clear hm
    go_enter Tryd.func8, Tryd.ntmps8
    go_wp2_with (first
      | (go_at_call 9; refine (unhide HK).mono ?_; clear HK; rintro e w1 ⟨rfl, hb1⟩; have Q1 := hide (two_below2 hb1); have A1 := hide (((B3.new w w.heap.size k n t rfl).alloc _).after hb1); have B1 := hide ((B3.new _ (w.heap.size + 1) k' n' t' (by simp)).after hb1); obtain ⟨a0, a1, a2, _, _, _⟩ := unhide A1; obtain ⟨b0, b1, b2, _, _, _⟩ := unhide B1; clear hb1)
      | (go_at_call 13; refine (unhide HF _).mono ?_; clear HF; rintro e w0 ⟨rfl, rfl⟩))
    go_ret
    exact ⟨rfl, one_new' (unhide Q1) _⟩
  | true =>
    by_cases h5 : op < 5
    · clear hm
      go_enter Tryd.func8, Tryd.ntmps8
      go_wp2_with (first
        | (go_at_call 9; refine (unhide HK).mono ?_; clear HK; rintro e w1 ⟨rfl, hb1⟩; have Q1 := hide (two_below2 hb1); have A1 := hide (((B3.new w w.heap.size k n t rfl).alloc _).after hb1); have B1 := hide ((B3.new _ (w.heap.size + 1) k' n' t' (by simp)).after hb1); obtain ⟨a0, a1, a2, _, _, _⟩ := unhide A1; obtain ⟨b0, b1, b2, _, _, _⟩ := unhide B1; clear hb1)
        | (go_at_call 13; refine (unhide HF _).mono ?_; clear HF; rintro e w0 ⟨rfl, rfl⟩))
      go_ret
      exact ⟨rfl, one_new' (unhide Q1) _⟩
    · have h10 : 10 < op := by rcases hm with h | h | h <;> first | cases h | omega
      have h5' : (op < 5) = False := by simp; omega
      clear hm h5
      go_enter Tryd.func8, Tryd.ntmps8
      go_wp2_with (first
        | (go_at_call 9; refine (unhide HK).mono ?_; clear HK; rintro e w1 ⟨rfl, hb1⟩; have Q1 := hide (two_below2 hb1); have A1 := hide (((B3.new w w.heap.size k n t rfl).alloc _).after hb1); have B1 := hide ((B3.new _ (w.heap.size + 1) k' n' t' (by simp)).after hb1); obtain ⟨a0, a1, a2, _, _, _⟩ := unhide A1; obtain ⟨b0, b1, b2, _, _, _⟩ := unhide B1; clear hb1)
        | (go_at_call 13; refine (unhide HF _).mono ?_; clear HF; rintro e w0 ⟨rfl, rfl⟩))
      go_ret
      exact ⟨rfl, one_new' (unhide Q1) _⟩

theorem tests_any (op : Int) (a b : GV) (w : World) (hE : ET w) (ha : a.ok) (hb : b.ok) :
    Calls Tryd.prog 8 #[.int .i64 op, a.agg, b.agg] w fun e w' => e = .returned (.bool true) ∧ Below w.heap.size w w' := by
  have HF := fun W => few2 a b W ha hb
  by_cases h : a.text.size ≤ 100 ∧ b.text.size ≤ 100
  · rw [decide_eq_true h] at HF
    by_cases h5 : 5 ≤ op
    · by_cases h10 : op ≤ 10
      · rcases tests_tell a b h5 h10 with ⟨c, hc, e1, e2, e3⟩ | ⟨x, e1, e2, e3⟩
        · have H1 := testI_err ha hb hc e1
          have H2 := testI_err ha hb hc e2
          have H3 := testI_err hb ha hc e3
          rcases ops6 h5 h10 with rfl | rfl | rfl | rfl | rfl | rfl
          · exact tests_5e c _ _ _ _ _ _ w hE HF H1 H2 H3
          · exact tests_6e c _ _ _ _ _ _ w hE HF H1 H2 H3
          · exact tests_7e c _ _ _ _ _ _ w hE HF H1 H2 H3
          · exact tests_8e c _ _ _ _ _ _ w hE HF H1 H2 H3
          · exact tests_9e c _ _ _ _ _ _ w hE HF H1 H2 H3
          · exact tests_10e c _ _ _ _ _ _ w hE HF H1 H2 H3
        · have H1 := testI_ok ha hb e1
          have H2 := testI_ok ha hb e2
          have H3 := testI_ok hb ha e3
          rcases ops6 h5 h10 with rfl | rfl | rfl | rfl | rfl | rfl
          · exact tests_5k x _ _ _ _ _ _ w hE HF H1 H2 H3
          · exact tests_6k x _ _ _ _ _ _ w hE HF H1 H2 H3
          · exact tests_7k x _ _ _ _ _ _ w hE HF H1 H2 H3
          · exact tests_8k x _ _ _ _ _ _ w hE HF H1 H2 H3
          · exact tests_9k x _ _ _ _ _ _ w hE HF H1 H2 H3
          · exact tests_10k x _ _ _ _ _ _ w hE HF H1 H2 H3
      · exact tests_out op _ _ _ _ _ _ true w hE (.inr (.inr (by omega))) HF
    · exact tests_out op _ _ _ _ _ _ true w hE (.inr (.inl (by omega))) HF
  · rw [decide_eq_false h] at HF
    exact tests_out op _ _ _ _ _ _ false w hE (.inl rfl) HF
end Go.Proofs.YtaijngbejcolbaaDoor
