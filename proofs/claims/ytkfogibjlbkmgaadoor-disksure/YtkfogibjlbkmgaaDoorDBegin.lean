/- Wrapped classes; what begins a changing call. -/
import Derived.Test.YtkfogibjlbkmgaaDoorDState
import Derived.Test.YtkfogibjlbkmgaaDoorDAs2
namespace Go.Proofs.YtkfogibjlbkmgaaDoor
open Go.RowKit Go.Lib Go.Maps

theorem set_post {w W : World} {t : Addr} {v old : Value} (hb : Below w.heap.size w W) (ht0 : w.cell? t = some old) :
    (W.setCell t v).cell? t = some v ∧ Below t.block w (W.setCell t v) ∧ w.heap.size ≤ (W.setCell t v).heap.size := by
  have hl := lt_of_cell ht0
  refine ⟨World.cell?_setCell_same _ _ _ (u := old) ?_, (hb.mono (Nat.le_of_lt hl)).setCell (Nat.le_refl _) _, by simpa using hb.size⟩
  rw [hb.cell hl]; exact ht0
theorem as_class (b : Nat) (c : Int) (t : Addr) (old : Value) (w : World) (hE : ET w) (he : ErrW w b c) (ht0 : w.cell? t = some old) (hf0 : w.frozen? t = false) :
    Calls Tryd.prog 48 #[evW b, .iface 84 (.pointer (some t))] w fun e w' =>
      e = .returned (.bool true) ∧ w'.cell? t = some (.int .i64 c) ∧ Below t.block w w' ∧ w.heap.size ≤ w'.heap.size := by
  refine (as_C b c t old w hE ht0 hf0 he).mono ?_
  rintro e w' ⟨rfl, W, hb, rfl⟩
  exact ⟨rfl, set_post hb ht0⟩
theorem as_within (b : Nat) (t : Addr) (old : Value) (w : World) (hE : ET w) (ht0 : w.cell? t = some old) (hf0 : w.frozen? t = false) :
    Calls Tryd.prog 48 #[evW b, .iface 98 (.pointer (some t))] w fun e w' =>
      e = .returned (.bool true) ∧ Below t.block w w' ∧ w.heap.size ≤ w'.heap.size := by
  refine (as_P b t old w hE ht0 hf0).mono ?_
  rintro e w' ⟨rfl, W, hb, rfl⟩
  exact ⟨rfl, (set_post hb ht0).2⟩

/-- consistoryhelp.Class of no error. -/
theorem class_nil (w : World) : Calls Tryd.prog 24 #[.nilIface] w fun e w' => e = .returned (.int .i64 0) ∧ w' = w := by
  go_enter Tryd.func24, Tryd.ntmps24
  go_wp2
  go_ret
  exact ⟨rfl, rfl⟩

set_option maxHeartbeats 1600000 in
/-- consistoryhelp.Class of a wrapped class. -/
theorem class_at (b : Nat) (c : Int) (w : World) (hE : ET w) (he : ErrW w b c) :
    Calls Tryd.prog 24 #[evW b] w fun e w' => e = .returned (.int .i64 c) ∧ Below w.heap.size w w' := by
  have hbl := he.lt
  have hE1 := hE.alloc (.cells #[.int .i64 0] 74)
  have he1 := he.alloc (.cells #[.int .i64 0] 74)
  have ht1 : (w.alloc (.cells #[.int .i64 0] 74)).cell? ⟨w.heap.size, 0, none⟩ = some (.int .i64 0) := by simp
  have hf1 : (w.alloc (.cells #[.int .i64 0] 74)).frozen? ⟨w.heap.size, 0, none⟩ = false := by simp
  have hp1 : Hid (∀ w1, Below w.heap.size (w.alloc (.cells #[.int .i64 0] 74)) w1 → w1.cell? ⟨b, 1, none⟩ = some (.iface 74 (.int .i64 c)) ∧ Below w.heap.size w w1) :=
    fun w1 hb => ⟨(hb.cell (p := ⟨b, 1, none⟩) hbl).trans he1, ((Below.refl _ _).alloc (Nat.le_refl _) _).trans hb⟩
  have hAs := hide (as_class b c ⟨w.heap.size, 0, none⟩ _ _ hE1 he1 ht1 hf1)
  clear hE1 he1 ht1 hf1 hE he
  go_enter Tryd.func24, Tryd.ntmps24
  go_wp2_with (first | (go_at_call 48; refine (unhide hAs).mono ?_; rintro e w1 ⟨rfl, hc1, hb1, _⟩; have hq1 := (unhide hp1 w1 hb1).1) | (go_at_call 35; refine (is_placed b c c _ hq1).mono ?_; rintro e w2 ⟨rfl, rfl⟩))
  go_ret
  exact ⟨rfl, (unhide hp1 _ hb1).2⟩

set_option maxHeartbeats 1600000 in
/-- within at a bare class: a new wrap. -/
theorem within_class (s : ByteArray) (c : Int) (w : World) (hE : ET w) :
    Calls Tryd.prog 45 #[.string s, evC c] w fun e w' => ∃ b, e = .returned (evW b) ∧ w.heap.size ≤ b ∧ ErrW w' b c ∧ Below w.heap.size w w' := by
  have hE1 := hE.alloc (.cells #[.pointer none] 97)
  have ht1 : (w.alloc (.cells #[.pointer none] 97)).cell? ⟨w.heap.size, 0, none⟩ = some (.pointer none) := by simp
  have hAs := hide (as_CW c ⟨w.heap.size, 0, none⟩ _ _ hE1 ht1)
  clear hE1 ht1 hE
  go_enter Tryd.func45, Tryd.ntmps45
  go_wp2_with (first | (go_at_call 48; refine (unhide hAs).mono ?_; rintro e w1 ⟨rfl, hb1⟩))
  go_ret
  have hs := hb1.size
  simp at hs
  refine ⟨_, rfl, by omega, ?_, ((((Below.refl _ _).alloc (Nat.le_refl _) _).trans (hb1.mono (by simp))).alloc (by omega) _)⟩
  unfold ErrW
  simp

set_option maxHeartbeats 1600000 in
/-- within at a wrap: it. -/
theorem within_wrap (s : ByteArray) (b : Nat) (w : World) (hE : ET w) :
    Calls Tryd.prog 45 #[.string s, evW b] w fun e w' => e = .returned (evW b) ∧ Below w.heap.size w w' := by
  have hE1 := hE.alloc (.cells #[.pointer none] 97)
  have ht1 : (w.alloc (.cells #[.pointer none] 97)).cell? ⟨w.heap.size, 0, none⟩ = some (.pointer none) := by simp
  have hf1 : (w.alloc (.cells #[.pointer none] 97)).frozen? ⟨w.heap.size, 0, none⟩ = false := by simp
  have hAs := hide (as_within b ⟨w.heap.size, 0, none⟩ _ _ hE1 ht1 hf1)
  clear hE1 ht1 hE hf1
  go_enter Tryd.func45, Tryd.ntmps45
  go_wp2_with (first | (go_at_call 48; refine (unhide hAs).mono ?_; rintro e w1 ⟨rfl, hb1, hs1⟩))
  go_ret
  exact ⟨rfl, ((Below.refl _ _).alloc (Nat.le_refl _) _).trans hb1⟩
end Go.Proofs.YtkfogibjlbkmgaaDoor
