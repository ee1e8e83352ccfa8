/- Contracts of what package wire and the help do with faults: placeOf, shifted, Class. -/
import Derived.Test.YtpepilcdlhkmkaaGreatDoorAs
import Derived.Test.YtpepilcdlhkmkaaGreatDoorJNumsUint
import Derived.Test.YtpepilcdlhkmkaaGreatDoorJDecLenMath
import Derived.Deep.RegionWith
namespace Go.Proofs.YtpepilcdlhkmkaaGreatDoor
open Go.RowKit Go.Extern.Stop Go.Stop Go.Extern Go.Lib

/-- The variable errors.errorType as the program's text lays it. -/
def ET (w : World) : Prop := w.cell? ⟨0, 0, none⟩ = some (.iface 121 (.agg #[.pointer (some ⟨5, 31, none⟩)]))
/-- A placed error in memory: its place, its class. -/
def ErrAt (w : World) (b : Nat) (p c : Int) : Prop := w.cell? ⟨b, 0, none⟩ = some (.int .i64 p) ∧ w.cell? ⟨b, 1, none⟩ = some (.iface 35 (.int .i64 c))
abbrev ev (b : Nat) : Value := .iface 85 (.pointer (some ⟨b, 0, none⟩))

theorem lt_of_cell {w : World} {a : Addr} {v : Value} (h : w.cell? a = some v) : a.block < w.heap.size := by
  rcases Nat.lt_or_ge a.block w.heap.size with h' | h'
  · exact h'
  · simp [World.cell?, Array.getElem?_eq_none h'] at h
theorem set_post {w W : World} {t : Addr} {v old : Value} (hb : Below w.heap.size w W) (ht0 : w.cell? t = some old) :
    (W.setCell t v).cell? t = some v ∧ Below t.block w (W.setCell t v) ∧ w.heap.size ≤ (W.setCell t v).heap.size := by
  have hl := lt_of_cell ht0
  refine ⟨World.cell?_setCell_same _ _ _ (u := old) ?_, (hb.mono (Nat.le_of_lt hl)).setCell (Nat.le_refl _) _, by simpa using hb.size⟩
  rw [hb.cell hl]; exact ht0

theorem ET.lt {w : World} (h : ET w) : 0 < w.heap.size := lt_of_cell h
theorem ET.below {w w' : World} {B : Nat} (h : ET w) (hb : Below B w w') (hB : 0 < B) : ET w' := by
  unfold ET; rw [hb.cell (p := ⟨0, 0, none⟩) hB]; exact h
theorem ET.alloc {w : World} (h : ET w) (o : Obj) : ET (w.alloc o) := by
  unfold ET; rw [World.cell?_alloc_lt _ _ ⟨0, 0, none⟩ h.lt]; exact h
theorem ErrAt.below {w w' : World} {B b : Nat} {p c : Int} (h : ErrAt w b p c) (hb : Below B w w') (hB : b < B) : ErrAt w' b p c :=
  ⟨(hb.cell (p := ⟨b, 0, none⟩) hB).trans h.1, (hb.cell (p := ⟨b, 1, none⟩) hB).trans h.2⟩
theorem ErrAt.lt {w : World} {b : Nat} {p c : Int} (h : ErrAt w b p c) : b < w.heap.size := lt_of_cell h.1
theorem ErrAt.alloc {w : World} {b : Nat} {p c : Int} (h : ErrAt w b p c) (o : Obj) : ErrAt (w.alloc o) b p c :=
  ⟨(World.cell?_alloc_lt _ _ ⟨b, 0, none⟩ h.lt).trans h.1, (World.cell?_alloc_lt _ _ ⟨b, 1, none⟩ h.lt).trans h.2⟩
theorem ErrAt.new (w : World) (p c : Int) : ErrAt (w.alloc (.cells #[.int .i64 p, .iface 35 (.int .i64 c)] 90)) w.heap.size p c := by
  constructor <;> simp
theorem ErrAt.drew {w : World} {b : Nat} {p c : Int} (h : ErrAt w b p c) : ErrAt w.drew b p c := h
theorem ET.drew {w : World} (h : ET w) : ET w.drew := h

theorem as_class (b : Nat) (p c : Int) (t : Addr) (old : Value) (w : World) (hE : ET w) (he : ErrAt w b p c) (ht0 : w.cell? t = some old) (hf0 : w.frozen? t = false) :
    Calls Tryz.prog 20 #[ev b, .iface 65 (.pointer (some t))] w fun e w' =>
      e = .returned (.bool true) ∧ w'.cell? t = some (.int .i64 c) ∧ Below t.block w w' ∧ w.heap.size ≤ w'.heap.size := by
  refine (as_C b c t old w hE ht0 hf0 he.2).mono ?_
  rintro e w' ⟨rfl, W, hb, rfl⟩
  exact ⟨rfl, set_post hb ht0⟩
theorem as_place (b : Nat) (t : Addr) (old : Value) (w : World) (hE : ET w) (ht0 : w.cell? t = some old) (hf0 : w.frozen? t = false) :
    Calls Tryz.prog 20 #[ev b, .iface 86 (.pointer (some t))] w fun e w' =>
      e = .returned (.bool true) ∧ w'.cell? t = some (.pointer (some ⟨b, 0, none⟩)) ∧ Below t.block w w' ∧ w.heap.size ≤ w'.heap.size := by
  refine (as_P b t old w hE ht0 hf0).mono ?_
  rintro e w' ⟨rfl, W, hb, rfl⟩
  exact ⟨rfl, set_post hb ht0⟩

/-- consistoryhelp.Class of no error. -/
theorem class_nil (w : World) : Calls Tryz.prog 10 #[.nilIface] w fun e w' => e = .returned (.int .i64 0) ∧ w' = w := by
  go_enter Tryz.func10, Tryz.ntmps10
  go_wp2
  go_ret
  exact ⟨rfl, rfl⟩

set_option maxHeartbeats 1600000 in
/-- consistoryhelp.Class of a placed error: its class. -/
theorem class_at (b : Nat) (p c : Int) (w : World) (hE : ET w) (he : ErrAt w b p c) :
    Calls Tryz.prog 10 #[ev b] w fun e w' => e = .returned (.int .i64 c) ∧ Below w.heap.size w w' := by
  have hbl := he.lt
  have hE1 := hE.alloc (.cells #[.int .i64 0] 35)
  have he1 := he.alloc (.cells #[.int .i64 0] 35)
  have ht1 : (w.alloc (.cells #[.int .i64 0] 35)).cell? ⟨w.heap.size, 0, none⟩ = some (.int .i64 0) := by simp
  have hf1 : (w.alloc (.cells #[.int .i64 0] 35)).frozen? ⟨w.heap.size, 0, none⟩ = false := by simp
  have hp1 : Hid (∀ w1, Below w.heap.size (w.alloc (.cells #[.int .i64 0] 35)) w1 → w1.cell? ⟨b, 1, none⟩ = some (.iface 35 (.int .i64 c)) ∧ Below w.heap.size w w1) :=
    fun w1 hb => ⟨(hb.cell (p := ⟨b, 1, none⟩) hbl).trans he1.2, ((Below.refl _ _).alloc (Nat.le_refl _) _).trans hb⟩
  have hAs := hide (as_class b p c ⟨w.heap.size, 0, none⟩ _ _ hE1 he1 ht1 hf1)
  clear hE1 he1 ht1 hf1 hE he
  go_enter Tryz.func10, Tryz.ntmps10
  go_wp2_with (first | (go_at_call 20; refine (unhide hAs).mono ?_; rintro e w1 ⟨rfl, hc1, hb1, _⟩; have hq1 := (unhide hp1 w1 hb1).1) | (go_at_call 21; refine (is_placed b c c _ hq1).mono ?_; rintro e w2 ⟨rfl, rfl⟩))
  go_ret
  exact ⟨rfl, (unhide hp1 _ hb1).2⟩

set_option maxHeartbeats 1600000 in
theorem placeOf_at (b : Nat) (p c : Int) (w : World) (hE : ET w) (he : ErrAt w b p c) :
    Calls Tryz.prog 65 #[ev b] w fun e w' => e = .returned (.int .i64 p) ∧ Below w.heap.size w w' := by
  have hbl := he.lt
  have hE1 := hE.alloc (.cells #[.pointer none] 85)
  have he1 := he.alloc (.cells #[.pointer none] 85)
  have ht1 : (w.alloc (.cells #[.pointer none] 85)).cell? ⟨w.heap.size, 0, none⟩ = some (.pointer none) := by simp
  have hf1 : (w.alloc (.cells #[.pointer none] 85)).frozen? ⟨w.heap.size, 0, none⟩ = false := by simp
  have hp1 : Hid (∀ w1, Below w.heap.size (w.alloc (.cells #[.pointer none] 85)) w1 → w1.cell? ⟨b, 0, none⟩ = some (.int .i64 p) ∧ Below w.heap.size w w1) :=
    fun w1 hb => ⟨(hb.cell (p := ⟨b, 0, none⟩) hbl).trans he1.1, ((Below.refl _ _).alloc (Nat.le_refl _) _).trans hb⟩
  have hAs := hide (as_place b ⟨w.heap.size, 0, none⟩ _ _ hE1 ht1 hf1)
  clear hE1 he1 ht1 hf1 hE he
  go_enter Tryz.func65, Tryz.ntmps65
  go_wp2_with (first | (go_at_call 20; refine (unhide hAs).mono ?_; rintro e w1 ⟨rfl, hc1, hb1, _⟩; have hq1 := (unhide hp1 w1 hb1).1))
  go_ret
  exact ⟨rfl, (unhide hp1 _ hb1).2⟩

set_option maxHeartbeats 1600000 in
theorem shifted_at (b : Nat) (p c by' : Int) (w : World) (hE : ET w) (he : ErrAt w b p c) :
    Calls Tryz.prog 83 #[ev b, .int .i64 by'] w fun e w' => ∃ b' p', w.heap.size ≤ b' ∧ e = .returned (ev b') ∧ ErrAt w' b' p' c ∧ Below w.heap.size w w' := by
  have hbl := he.lt
  have hE1 := hE.alloc (.cells #[.int .i64 0] 35)
  have he1 := he.alloc (.cells #[.int .i64 0] 35)
  have ht1 : (w.alloc (.cells #[.int .i64 0] 35)).cell? ⟨w.heap.size, 0, none⟩ = some (.int .i64 0) := by simp
  have hf1 : (w.alloc (.cells #[.int .i64 0] 35)).frozen? ⟨w.heap.size, 0, none⟩ = false := by simp
  have hAs := hide (as_class b p c ⟨w.heap.size, 0, none⟩ _ _ hE1 he1 ht1 hf1)
  clear ht1 hf1
  go_enter Tryz.func83, Tryz.ntmps83
  go_wp2_with (first | (go_at_call 20; refine (unhide hAs).mono ?_; rintro e w1 ⟨rfl, hc1, hb1, hs1⟩))
  clear hAs
  have hE2 := hE1.below hb1 hE.lt
  have he2 := he1.below hb1 hbl
  have hb2 : Below w.heap.size w w1 := ((Below.refl _ _).alloc (Nat.le_refl _) _).trans hb1
  have hs2 : w.heap.size < w1.heap.size := by simp at hs1; omega
  clear hb1 hE1 he1 hE he hs1
  go_region_with (first
    | (go_at_call 65; refine (placeOf_at b p c _ ?_ ?_).mono ?_; exact hE2; exact he2; rintro e w2 ⟨rfl, hb3⟩; have hc2 : w2.cell? ⟨w.heap.size, 0, none⟩ = some (.int .i64 c) := (hb3.cell (p := ⟨w.heap.size, 0, none⟩) hs2).trans hc1)
    | (go_at_call 44; refine (fault_any c _ _).mono ?_; rintro e w3 ⟨rfl, rfl⟩))
  all_goals
    go_wp2
    go_ret
    have hs3 := hb3.size
    simp at hs3
    refine ⟨_, _, by omega, rfl, ErrAt.new _ _ _, ?_⟩
    exact ((hb2.drew).trans (hb3.mono (by simp; omega))).alloc (by omega) _
end Go.Proofs.YtpepilcdlhkmkaaGreatDoor
