/- Contracts of what compares: cmp.Compare, cmp.Or, strings.Compare. -/
import Derived.Test.YtehgoioinogmkaaGreatDoorJRows2PutRowVCmpVBl
import Derived.Deep.RegionWith
import Derived.Test.YtehgoioinogmkaaGreatDoorJNumsDecFaultsVErr
import Derived.Deep.RegionHeld3
namespace Go.Proofs.YtehgoioinogmkaaGreatDoor
open Go.RowKit Go.Lib

theorem cmpInt_any (x y : Int) (w : World) : Calls Tryz.prog 201 #[.int .i64 x, .int .i64 y] w fun e w' => e = .returned (.int .i64 (compareInt x y)) ∧ w' = w := by
  have HN := hide (fun (x : Int) (w : World) => show Calls Tryz.prog 210 #[.int .i64 x] w fun e w' => e = .returned (.bool false) ∧ w' = w by
    go_enter Tryz.func210, Tryz.ntmps210
    go_wp2
    go_ret
    exact ⟨rfl, rfl⟩)
  by_cases h1 : x < y
  · go_enter Tryz.func201, Tryz.ntmps201
    go_wp2_with (go_at_call 210; refine (unhide HN _ _).mono ?_; rintro e w1 ⟨rfl, rfl⟩)
    go_ret
    exact ⟨ret_int (by unfold compareInt; rw [if_pos h1]), rfl⟩
  · by_cases h2 : x > y
    · go_enter Tryz.func201, Tryz.ntmps201
      go_wp2_with (go_at_call 210; refine (unhide HN _ _).mono ?_; rintro e w1 ⟨rfl, rfl⟩)
      go_ret
      exact ⟨ret_int (by unfold compareInt; rw [if_neg (by omega), if_pos h2]), rfl⟩
    · go_enter Tryz.func201, Tryz.ntmps201
      go_wp2_with (go_at_call 210; refine (unhide HN _ _).mono ?_; rintro e w1 ⟨rfl, rfl⟩)
      go_ret
      exact ⟨ret_int (by unfold compareInt; rw [if_neg (by omega), if_neg (by omega)]), rfl⟩
theorem cmpInt64_any (x y : Int) (w : World) : Calls Tryz.prog 202 #[.int .i64 x, .int .i64 y] w fun e w' => e = .returned (.int .i64 (compareInt x y)) ∧ w' = w := by
  have HN := hide (fun (x : Int) (w : World) => show Calls Tryz.prog 211 #[.int .i64 x] w fun e w' => e = .returned (.bool false) ∧ w' = w by
    go_enter Tryz.func211, Tryz.ntmps211
    go_wp2
    go_ret
    exact ⟨rfl, rfl⟩)
  by_cases h1 : x < y
  · go_enter Tryz.func202, Tryz.ntmps202
    go_wp2_with (go_at_call 211; refine (unhide HN _ _).mono ?_; rintro e w1 ⟨rfl, rfl⟩)
    go_ret
    exact ⟨ret_int (by unfold compareInt; rw [if_pos h1]), rfl⟩
  · by_cases h2 : x > y
    · go_enter Tryz.func202, Tryz.ntmps202
      go_wp2_with (go_at_call 211; refine (unhide HN _ _).mono ?_; rintro e w1 ⟨rfl, rfl⟩)
      go_ret
      exact ⟨ret_int (by unfold compareInt; rw [if_neg (by omega), if_pos h2]), rfl⟩
    · go_enter Tryz.func202, Tryz.ntmps202
      go_wp2_with (go_at_call 211; refine (unhide HN _ _).mono ?_; rintro e w1 ⟨rfl, rfl⟩)
      go_ret
      exact ⟨ret_int (by unfold compareInt; rw [if_neg (by omega), if_neg (by omega)]), rfl⟩

theorem cmpText_any (a b : ByteArray) (w : World) : Calls Tryz.prog 203 #[.string a, .string b] w fun e w' => e = .returned (.int .i64 (compareBytes a.data.toList b.data.toList)) ∧ w' = w := by
  have h := @run_callFunc_extern Tryz.prog 224 _ Extern.BytealgCompare.compare Tryz.func224 (by kernel_rfl) (by kernel_rfl) (by kernel_rfl) (by kernel_rfl)
  have h2 := Lib.run_compareString (P := Tryz.prog) a b
  have HN := hide (fun (w : World) => show Calls Tryz.prog 212 #[.string a, .string b] w fun e w' => e = .returned (.int .i64 (compareBytes a.data.toList b.data.toList)) ∧ w' = w by
    go_enter Tryz.func212, Tryz.ntmps212
    go_wp2
    go_ret
    exact ⟨rfl, rfl⟩)
  clear h h2
  go_enter Tryz.func203, Tryz.ntmps203
  go_wp2_with (go_at_call 212; refine (unhide HN _).mono ?_; rintro e w1 ⟨rfl, rfl⟩)
  go_ret
  exact ⟨rfl, rfl⟩

set_option maxHeartbeats 1600000 in
/-- cmp.Or of three: the first that isn't 0. -/
theorem cmpOr_any (x y z : Int) (w : World) (b : Nat) (h0 : w.cell? ⟨b, 0, none⟩ = some (.int .i64 x)) (h1 : w.cell? ⟨b, 1, none⟩ = some (.int .i64 y)) (h2 : w.cell? ⟨b, 2, none⟩ = some (.int .i64 z)) :
    Calls Tryz.prog 200 #[.slice (some ⟨b, 0, none⟩) 3 3] w fun e w' => e = .returned (.int .i64 (first0 x (first0 y z))) ∧ w' = w := by
  by_cases hx : x = 0
  · subst hx
    by_cases hy : y = 0
    · subst hy
      by_cases hz : z = 0
      · subst hz
        go_enter Tryz.func200, Tryz.ntmps200
        go_wp2
        refine wp_loop_rounds 4 ?_
        rw [rounds_succ]
        go_wp2
        rw [rounds_succ]
        go_wp2
        rw [rounds_succ]
        go_wp2
        rw [rounds_succ]
        go_wp2
        go_ret
        exact ⟨rfl, rfl⟩
      · have hz' : (z != 0) = true := by simp [hz]
        go_enter Tryz.func200, Tryz.ntmps200
        go_wp2
        refine wp_loop_rounds 3 ?_
        rw [rounds_succ]
        go_wp2
        rw [rounds_succ]
        go_wp2
        rw [rounds_succ]
        go_wp2
        go_ret
        exact ⟨rfl, rfl⟩
    · have hy' : (y != 0) = true := by simp [hy]
      go_enter Tryz.func200, Tryz.ntmps200
      go_wp2
      refine wp_loop_rounds 2 ?_
      rw [rounds_succ]
      go_wp2
      rw [rounds_succ]
      go_wp2
      go_ret
      exact ⟨ret_int (by rw [first0_eq, first0_ne hy]), rfl⟩
  · have hx' : (x != 0) = true := by simp [hx]
    go_enter Tryz.func200, Tryz.ntmps200
    go_wp2
    refine wp_loop_rounds 1 ?_
    rw [rounds_succ]
    go_wp2
    go_ret
    exact ⟨ret_int (by rw [first0_ne hx]), rfl⟩
end Go.Proofs.YtehgoioinogmkaaGreatDoor
/- Contracts of value.Is, sound, compareSound, Compare, holds. -/
namespace Go.Proofs.YtehgoioinogmkaaGreatDoor
open Go.RowKit Go.Lib

theorem put_one (g : GV) : putVals [g] (putLen 1 64 (some [])) = if g.may then some (uvarint 1 ++ g.bytes) else none := by
  simp [putVals, putLen, putVal]
theorem GV.agg_eq (k n : Int) (t : ByteArray) : GV.agg ⟨k, n, t⟩ = .agg #[.int .i64 k, .int .i64 n, .string t] := rfl

theorem put_one_any (g : GV) (W : World) (hg : g.ok) : Calls Tryz.prog 167 #[.slice (some ⟨W.heap.size, 0, none⟩) 1 1] (W.alloc (.cells #[.int .i64 g.kind, .int .i64 g.int, .string g.text] 26)) fun e w' =>
    Below W.heap.size W w' ∧ if g.may then ∃ v, e = .returned (.tuple #[v, .nilIface]) else ∃ v b pl, e = .returned (.tuple #[v, ev b]) ∧ ErrAt w' b pl 20 := by
  have hv : RV (W.alloc (.cells #[.int .i64 g.kind, .int .i64 g.int, .string g.text] 26)) (W.alloc (.cells #[.int .i64 g.kind, .int .i64 g.int, .string g.text] 26)).heap.size (.slice (some ⟨W.heap.size, 0, none⟩) 1 1) [g] := by
    refine ⟨by simp, ?_, .inr ⟨W.heap.size, 0, 1, by simp, rfl, ?_⟩⟩
    · intro g' hg'
      simp at hg'
      subst hg'
      exact hg
    · intro i g' hg'
      match i, hg' with
      | 0, hg' => simp at hg'; subst hg'; simp
  refine (putRow_any _ _ _ hv).mono ?_
  intro e w' h
  rw [show ([g] : List GV).length = 1 from rfl, put_one] at h
  by_cases hm : g.may = true
  · rw [if_pos hm] at h ⊢
    obtain ⟨a, k, rfl, _, hb⟩ := h
    exact ⟨((Below.refl _ _).alloc (Nat.le_refl _) _).trans (hb.mono (by simp)), _, rfl⟩
  · rw [if_neg hm] at h ⊢
    obtain ⟨b, pl, rfl, _, he, hb⟩ := h
    exact ⟨((Below.refl _ _).alloc (Nat.le_refl _) _).trans (hb.mono (by simp)), _, b, pl, rfl, he⟩

set_option maxHeartbeats 1600000 in
/-- value.Is: whether a value may be. -/
theorem is_any (g : GV) (w : World) (hg : g.ok) : Calls Tryz.prog 117 #[g.agg] w fun e w' => e = .returned (.bool g.may) ∧ Below w.heap.size w w' := by
  have HP := put_one_any g (w.alloc (.cells #[.int .i64 g.kind, .int .i64 g.int, .string g.text] 26)) hg
  rw [World.size_alloc] at HP
  have HP := hide HP
  obtain ⟨k, n, t⟩ := g
  clear hg
  rw [GV.agg_eq]
  generalize hm : GV.may ⟨k, n, t⟩ = m at HP ⊢
  clear hm
  cases m with
  | true =>
    go_enter Tryz.func117, Tryz.ntmps117
    go_wp2_with (first | (go_at_call 167; refine (unhide HP).mono ?_; rintro e w1 ⟨hb1, v, rfl⟩) | (go_at_call 35; refine (is_nil _ _).mono ?_; rintro e w2 ⟨rfl, rfl⟩))
    go_ret
    exact ⟨rfl, ((Below.refl _ _).alloc (Nat.le_refl _) _).trans (hb1.mono (by simp))⟩
  | false =>
    go_enter Tryz.func117, Tryz.ntmps117
    go_wp2_with (first | (go_at_call 167; refine (unhide HP).mono ?_; rintro e w1 ⟨hb1, v, b, pl, rfl, he⟩) | (go_at_call 35; refine (is_placed _ _ _ _ he.2).mono ?_; rintro e w2 ⟨rfl, rfl⟩))
    go_ret
    exact ⟨rfl, ((Below.refl _ _).alloc (Nat.le_refl _) _).trans (hb1.mono (by simp))⟩

/-- A variable of the call's own at block b that holds a value. -/
def B3 (w : World) (b : Nat) (k n : Int) (t : ByteArray) : Prop :=
  w.cell? ⟨b, 0, none⟩ = some (.int .i64 k) ∧ w.cell? ⟨b, 1, none⟩ = some (.int .i64 n) ∧ w.cell? ⟨b, 2, none⟩ = some (.string t) ∧ w.frozen? ⟨b, 0, none⟩ = false ∧ w.frozen? ⟨b, 1, none⟩ = false ∧ w.frozen? ⟨b, 2, none⟩ = false
theorem B3.lt {w : World} {b : Nat} {k n : Int} {t : ByteArray} (h : B3 w b k n t) : b < w.heap.size := lt_of_cell h.1
theorem B3.new (w : World) (b : Nat) (k n : Int) (t : ByteArray) (hb : b = w.heap.size) : B3 (w.alloc (.cells #[.int .i64 k, .int .i64 n, .string t] 26)) b k n t := by
  subst hb
  refine ⟨?_, ?_, ?_, ?_, ?_, ?_⟩ <;> simp
theorem B3.alloc {w : World} {b : Nat} {k n : Int} {t : ByteArray} (h : B3 w b k n t) (o : Obj) : B3 (w.alloc o) b k n t := by
  have hl := h.lt
  obtain ⟨c0, c1, c2, f0, f1, f2⟩ := h
  refine ⟨?_, ?_, ?_, ?_, ?_, ?_⟩
  · rw [World.cell?_alloc_lt _ _ ⟨b, 0, none⟩ hl]; exact c0
  · rw [World.cell?_alloc_lt _ _ ⟨b, 1, none⟩ hl]; exact c1
  · rw [World.cell?_alloc_lt _ _ ⟨b, 2, none⟩ hl]; exact c2
  · rw [World.frozen?_alloc_old _ _ ⟨b, 0, none⟩ (Nat.ne_of_lt hl)]; exact f0
  · rw [World.frozen?_alloc_old _ _ ⟨b, 1, none⟩ (Nat.ne_of_lt hl)]; exact f1
  · rw [World.frozen?_alloc_old _ _ ⟨b, 2, none⟩ (Nat.ne_of_lt hl)]; exact f2
theorem B3.below {w w' : World} {B b : Nat} {k n : Int} {t : ByteArray} (h : B3 w b k n t) (hb : Below B w w') (hB : b < B) : B3 w' b k n t := by
  obtain ⟨c0, c1, c2, f0, f1, f2⟩ := h
  exact ⟨(hb.cell (p := ⟨b, 0, none⟩) hB).trans c0, (hb.cell (p := ⟨b, 1, none⟩) hB).trans c1, (hb.cell (p := ⟨b, 2, none⟩) hB).trans c2, (hb.frozen (p := ⟨b, 0, none⟩) hB).trans f0, (hb.frozen (p := ⟨b, 1, none⟩) hB).trans f1, (hb.frozen (p := ⟨b, 2, none⟩) hB).trans f2⟩
/-- Whatever is called behind: it stays. -/
theorem B3.after {w w' : World} {b : Nat} {k n : Int} {t : ByteArray} (h : B3 w b k n t) (hb : Below w.heap.size w w') : B3 w' b k n t := h.below hb h.lt
theorem results_cell1 {fn : Func} {p : Tmp} {ty : TypeId} (h : fn.results = #[.cell p ty]) (tmps : Array Value) (P : Program) (w : World) :
    (results fn tmps).run P w = ((asAddr (tmps.getD p undef)).run P w).andThen fun a w₁ => (loadVar ty a).run P w₁ := by
  simp only [results, h]
  simp [Sem.run_bind, Result.andThen]

theorem three_new (x y z : Int) {w : World} {b : Nat} (hb : b = w.heap.size) : (w.alloc (.cells #[.int .i64 x, .int .i64 y, .int .i64 z] 3)).cell? ⟨b, 0, none⟩ = some (.int .i64 x) ∧ (w.alloc (.cells #[.int .i64 x, .int .i64 y, .int .i64 z] 3)).cell? ⟨b, 1, none⟩ = some (.int .i64 y) ∧ (w.alloc (.cells #[.int .i64 x, .int .i64 y, .int .i64 z] 3)).cell? ⟨b, 2, none⟩ = some (.int .i64 z) := by
  subst hb
  refine ⟨?_, ?_, ?_⟩ <;> simp

set_option maxHeartbeats 1600000 in
theorem csound_any (a b : GV) (w : World) : Calls Tryz.prog 173 #[a.agg, b.agg] w fun e w' => e = .returned (.int .i64 (cmpG a b)) ∧ Below w.heap.size w w' := by
  obtain ⟨k, n, t⟩ := a
  obtain ⟨k', n', t'⟩ := b
  rw [GV.agg_eq, GV.agg_eq]
  unfold cmpG
  dsimp only
  generalize hc1 : compareInt k k' = c1
  generalize hc2 : compareInt n n' = c2
  generalize hc3 : compareBytes t.data.toList t'.data.toList = c3
  have H1 := hide (fun (W : World) => hc1 ▸ cmpInt_any k k' W)
  have H2 := hide (fun (W : World) => hc2 ▸ cmpInt64_any n n' W)
  have H3 := hide (fun (W : World) => hc3 ▸ cmpText_any t t' W)
  have HO := hide (cmpOr_any c1 c2 c3 ((((w.alloc (.cells #[.int .i64 k, .int .i64 n, .string t] 26)).alloc (.cells #[.int .i64 k', .int .i64 n', .string t'] 26)).alloc (.cells #[.int .i64 c1, .int .i64 c2, .int .i64 c3] 3)).drew) (w.heap.size + 1 + 1) (three_new c1 c2 c3 (by simp)).1 (three_new c1 c2 c3 (by simp)).2.1 (three_new c1 c2 c3 (by simp)).2.2)
  clear hc1 hc2 hc3
  go_enter Tryz.func173, Tryz.ntmps173
  go_wp2
  go_region_held3 (fun w' => w'.cell? ⟨w.heap.size, 0, none⟩ = some (.int .i64 k) ∧ w'.cell? ⟨w.heap.size, 1, none⟩ = some (.int .i64 n) ∧ w'.cell? ⟨w.heap.size, 2, none⟩ = some (.string t) ∧ w'.cell? ⟨w.heap.size + 1, 0, none⟩ = some (.int .i64 k') ∧ w'.cell? ⟨w.heap.size + 1, 1, none⟩ = some (.int .i64 n') ∧ w'.cell? ⟨w.heap.size + 1, 2, none⟩ = some (.string t')) (go_keep) (first
    | (go_at_call 201; refine (unhide H1 _).mono ?_; rintro e w1 ⟨rfl, rfl⟩)
    | (go_at_call 202; refine (unhide H2 _).mono ?_; rintro e w1 ⟨rfl, rfl⟩)
    | (go_at_call 203; refine (unhide H3 _).mono ?_; rintro e w1 ⟨rfl, rfl⟩)
    | (go_at_call 200; refine (unhide HO).mono ?_; rintro e w1 ⟨rfl, rfl⟩))
  all_goals
    go_wp2
    go_ret
    exact ⟨rfl, by repeat' (first | exact Below.refl _ _ | refine Below.drew ?_ | refine Below.alloc ?_ (by simp <;> omega) _)⟩

theorem holds_any (op o : Int) (w : World) (ho : o = -1 ∨ o = 0 ∨ o = 1) : Calls Tryz.prog 172 #[.int .i64 op, .int .i64 o] w fun e w' => e = .returned (.bool (holdsG op o)) ∧ w' = w := by
  have each : Hid (∀ op' : Int, op' ≠ 9 → op' ≠ 7 → op' ≠ 10 → op' ≠ 8 → op' ≠ 5 → holdsG op' o = decide (o ≠ 0)) := fun op' h9 h7 h10 h8 h5 => by unfold holdsG; rw [if_neg h9, if_neg h7, if_neg h10, if_neg h8, if_neg h5]
  by_cases h9 : op = 9
  · subst h9
    rcases ho with rfl | rfl | rfl <;> (go_enter Tryz.func172, Tryz.ntmps172; go_wp2; go_ret; exact ⟨rfl, rfl⟩)
  · by_cases h7 : op = 7
    · subst h7
      rcases ho with rfl | rfl | rfl <;> (go_enter Tryz.func172, Tryz.ntmps172; go_wp2; go_ret; exact ⟨rfl, rfl⟩)
    · by_cases h10 : op = 10
      · subst h10
        rcases ho with rfl | rfl | rfl <;> (go_enter Tryz.func172, Tryz.ntmps172; go_wp2; go_ret; exact ⟨rfl, rfl⟩)
      · by_cases h8 : op = 8
        · subst h8
          rcases ho with rfl | rfl | rfl <;> (go_enter Tryz.func172, Tryz.ntmps172; go_wp2; go_ret; exact ⟨rfl, rfl⟩)
        · by_cases h5 : op = 5
          · subst h5
            rcases ho with rfl | rfl | rfl <;> (go_enter Tryz.func172, Tryz.ntmps172; go_wp2; go_ret; exact ⟨rfl, rfl⟩)
          · rw [unhide each op h9 h7 h10 h8 h5]
            have b9 : (op == 9) = false := by simp [h9]
            have b7 : (op == 7) = false := by simp [h7]
            have b10 : (op == 10) = false := by simp [h10]
            have b8 : (op == 8) = false := by simp [h8]
            have b5 : (op == 5) = false := by simp [h5]
            rcases ho with rfl | rfl | rfl <;> (go_enter Tryz.func172, Tryz.ntmps172; go_wp2; go_ret; exact ⟨rfl, rfl⟩)
end Go.Proofs.YtehgoioinogmkaaGreatDoor
/- Contracts of value.Compare, Test, And, Or, Not. -/
namespace Go.Proofs.YtehgoioinogmkaaGreatDoor
open Go.RowKit Go.Lib

theorem B3.drew {w : World} {b : Nat} {k n : Int} {t : ByteArray} (h : B3 w b k n t) : B3 w.drew b k n t := h

theorem isTruth_any (a : Int) (w : World) : Calls Tryz.prog 174 #[.int .i64 a] w fun e w' => e = .returned (.bool (decide (0 ≤ a ∧ a ≤ 2))) ∧ w' = w := by
  by_cases h0 : a = 0
  · subst h0
    go_enter Tryz.func174, Tryz.ntmps174
    go_wp2
    go_ret
    exact ⟨rfl, rfl⟩
  by_cases h1 : a = 1
  · subst h1
    go_enter Tryz.func174, Tryz.ntmps174
    go_wp2
    go_ret
    exact ⟨rfl, rfl⟩
  by_cases h2 : a = 2
  · subst h2
    go_enter Tryz.func174, Tryz.ntmps174
    go_wp2
    go_ret
    exact ⟨rfl, rfl⟩
  have e0 : (a == 0) = false := by simpa using h0
  have e1 : (a == 1) = false := by simpa using h1
  have e2 : (a == 2) = false := by simpa using h2
  rw [show decide (0 ≤ a ∧ a ≤ 2) = false by simp; omega]
  clear h0 h1 h2
  go_enter Tryz.func174, Tryz.ntmps174
  go_wp2
  go_ret
  exact ⟨rfl, rfl⟩
def andG (a b : Int) : Int := if ¬ (0 ≤ a ∧ a ≤ 2) ∨ ¬ (0 ≤ b ∧ b ≤ 2) then 0 else if a = 0 ∨ b = 0 then 0 else if a = 2 ∨ b = 2 then 2 else 1
def notG (a : Int) : Int := if a = 0 then 1 else if a = 2 then 2 else 0
def orG (a b : Int) : Int := if ¬ (0 ≤ a ∧ a ≤ 2) ∨ ¬ (0 ≤ b ∧ b ≤ 2) then 0 else notG (andG (notG a) (notG b))
theorem not_any (a : Int) (w : World) : Calls Tryz.prog 122 #[.int .i64 a] w fun e w' => e = .returned (.int .i64 (notG a)) ∧ w' = w := by
  by_cases h0 : a = 0
  · subst h0
    go_enter Tryz.func122, Tryz.ntmps122
    go_wp2
    go_ret
    exact ⟨rfl, rfl⟩
  by_cases h2 : a = 2
  · subst h2
    go_enter Tryz.func122, Tryz.ntmps122
    go_wp2
    go_ret
    exact ⟨rfl, rfl⟩
  have e0 : (a == 0) = false := by simpa using h0
  have e2 : (a == 2) = false := by simpa using h2
  rw [show notG a = 0 by unfold notG; rw [if_neg h0, if_neg h2]]
  clear h0 h2
  go_enter Tryz.func122, Tryz.ntmps122
  go_wp2
  go_ret
  exact ⟨rfl, rfl⟩
theorem truths {a : Int} (h : 0 ≤ a ∧ a ≤ 2) : a = 0 ∨ a = 1 ∨ a = 2 := by omega
set_option maxHeartbeats 1600000 in
theorem and_any (a b : Int) (w : World) : Calls Tryz.prog 171 #[.int .i64 a, .int .i64 b] w fun e w' => e = .returned (.int .i64 (andG a b)) ∧ w' = w := by
  have HA := hide (fun W => isTruth_any a W)
  have HB := hide (fun W => isTruth_any b W)
  by_cases ha : 0 ≤ a ∧ a ≤ 2
  · by_cases hb : 0 ≤ b ∧ b ≤ 2
    · rw [decide_eq_true ha] at HA
      rw [decide_eq_true hb] at HB
      rcases truths ha with rfl | rfl | rfl <;> rcases truths hb with rfl | rfl | rfl <;>
      · clear ha hb
        go_enter Tryz.func171, Tryz.ntmps171
        go_wp2_with (first | (go_at_call 174; refine (unhide HA _).mono ?_; clear HA; rintro e w1 ⟨rfl, rfl⟩) | (go_at_call 174; refine (unhide HB _).mono ?_; rintro e w1 ⟨rfl, rfl⟩))
        go_ret
        exact ⟨rfl, rfl⟩
    · rw [decide_eq_true ha] at HA
      rw [decide_eq_false hb] at HB
      rw [show andG a b = 0 by unfold andG; rw [if_pos (.inr hb)]]
      clear ha hb
      go_enter Tryz.func171, Tryz.ntmps171
      go_wp2_with (first | (go_at_call 174; refine (unhide HA _).mono ?_; clear HA; rintro e w1 ⟨rfl, rfl⟩) | (go_at_call 174; refine (unhide HB _).mono ?_; rintro e w1 ⟨rfl, rfl⟩))
      go_ret
      exact ⟨rfl, rfl⟩
  · rw [decide_eq_false ha] at HA
    rw [show andG a b = 0 by unfold andG; rw [if_pos (.inl ha)]]
    clear ha
    go_enter Tryz.func171, Tryz.ntmps171
    go_wp2_with (first | (go_at_call 174; refine (unhide HA _).mono ?_; clear HA; rintro e w1 ⟨rfl, rfl⟩))
    go_ret
    exact ⟨rfl, rfl⟩
set_option maxHeartbeats 1600000 in
theorem or_any (a b : Int) (w : World) : Calls Tryz.prog 126 #[.int .i64 a, .int .i64 b] w fun e w' => e = .returned (.int .i64 (orG a b)) ∧ w' = w := by
  have HA := hide (fun W => isTruth_any a W)
  have HB := hide (fun W => isTruth_any b W)
  by_cases ha : 0 ≤ a ∧ a ≤ 2
  · by_cases hb : 0 ≤ b ∧ b ≤ 2
    · rw [decide_eq_true ha] at HA
      rw [decide_eq_true hb] at HB
      rw [show orG a b = notG (andG (notG a) (notG b)) by unfold orG; rw [if_neg (by omega)]]
      have HN := hide (fun x W => not_any x W)
      have HD := hide (fun x y W => and_any x y W)
      clear ha hb
      go_enter Tryz.func126, Tryz.ntmps126
      go_wp2_with (first | (go_at_call 174; refine (unhide HA _).mono ?_; clear HA; rintro e w1 ⟨rfl, rfl⟩) | (go_at_call 174; refine (unhide HB _).mono ?_; rintro e w1 ⟨rfl, rfl⟩) | (go_at_call 122; refine (unhide HN _ _).mono ?_; rintro e w1 ⟨rfl, rfl⟩) | (go_at_call 171; refine (unhide HD _ _ _).mono ?_; rintro e w1 ⟨rfl, rfl⟩))
      go_ret
      exact ⟨rfl, rfl⟩
    · rw [decide_eq_true ha] at HA
      rw [decide_eq_false hb] at HB
      rw [show orG a b = 0 by unfold orG; rw [if_pos (.inr hb)]]
      clear ha hb
      go_enter Tryz.func126, Tryz.ntmps126
      go_wp2_with (first | (go_at_call 174; refine (unhide HA _).mono ?_; clear HA; rintro e w1 ⟨rfl, rfl⟩) | (go_at_call 174; refine (unhide HB _).mono ?_; rintro e w1 ⟨rfl, rfl⟩))
      go_ret
      exact ⟨rfl, rfl⟩
  · rw [decide_eq_false ha] at HA
    rw [show orG a b = 0 by unfold orG; rw [if_pos (.inl ha)]]
    clear ha
    go_enter Tryz.func126, Tryz.ntmps126
    go_wp2_with (first | (go_at_call 174; refine (unhide HA _).mono ?_; clear HA; rintro e w1 ⟨rfl, rfl⟩))
    go_ret
    exact ⟨rfl, rfl⟩
end Go.Proofs.YtehgoioinogmkaaGreatDoor
