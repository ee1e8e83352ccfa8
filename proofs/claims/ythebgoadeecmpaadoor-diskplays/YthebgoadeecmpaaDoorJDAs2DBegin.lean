/- errors.As at a bare class for the target **api.Within, errors.Is at a bare class; and the help's Class of a wrapped class. -/
import Derived.Test.YthebgoadeecmpaaDoorDAs
import Derived.Deep.RegionWith
import Derived.Test.YthebgoadeecmpaaDoorDState
namespace Go.Proofs.YthebgoadeecmpaaDoor
open Go.RowKit Go.Extern.Stop Go.Stop Go.Extern Go.Lib

theorem Tryd.notAssignableCW (w : World) : (ReflectliteType.relation "AssignableTo" ReflectliteType.assignableTo #[.agg #[.pointer (some ⟨1, 70, none⟩)], .iface 109 (.agg #[.pointer (some ⟨1, 93, none⟩)])]).run Tryd.prog w = .ok (.bool false) w := by kernel_rfl

set_option maxHeartbeats 4000000 in
set_option maxRecDepth 100000 in
/-- errors.As(a bare class, **api.Within): false, and nothing is written. -/
theorem as_CW (c : Int) (t : Addr) (old : Value) (w : World) (hg : w.cell? ⟨0, 0, none⟩ = some (.iface 109 (.agg #[.pointer (some ⟨1, 35, none⟩)]))) (ht0 : w.cell? t = some old) :
    Calls Tryd.prog 46 #[.iface 70 (.int .i64 c), .iface 94 (.pointer (some t))] w fun ev w' => ev = .returned (.bool false) ∧ Below w.heap.size w w' := by
  have h6 := @run_callFunc_extern Tryd.prog 54 _ (fun args => ReflectliteValue.unpack (args.getD 0 (.tuple #[]))) Tryd.func54 (by kernel_rfl) (by kernel_rfl) (by kernel_rfl) (by kernel_rfl)
  have h7 := @run_callFunc_extern Tryd.prog 55 _ (ReflectliteValue.methodAny (ReflectliteValue.valueError "reflectlite.Value.Type" 0) (fun t _ _ _ => ReflectliteType.toType t)) Tryd.func55 (by kernel_rfl) (by kernel_rfl) (by kernel_rfl) (by kernel_rfl)
  have h8 := @run_callFunc_extern Tryd.prog 56 _ (ReflectliteValue.method (ReflectliteValue.valueError "reflectlite.Value.IsNil" 0) ReflectliteValue.isNil) Tryd.func56 (by kernel_rfl) (by kernel_rfl) (by kernel_rfl) (by kernel_rfl)
  have h27 := @run_callFunc_extern Tryd.prog 99 _ (ReflectliteType.abiMethod fun t => do pure (.int .u8 (← Rtype.kind t))) Tryd.func99 (by kernel_rfl) (by kernel_rfl) (by kernel_rfl) (by kernel_rfl)
  have h37 := @run_callFunc_extern Tryd.prog 111 _ (ReflectliteType.method ReflectliteType.elem) Tryd.func111 (by kernel_rfl) (by kernel_rfl) (by kernel_rfl) (by kernel_rfl)
  have h38 := @run_callFunc_extern Tryd.prog 112 _ (ReflectliteType.relation "Implements" ReflectliteType.implements_) Tryd.func112 (by kernel_rfl) (by kernel_rfl) (by kernel_rfl) (by kernel_rfl)
  have h10 := @run_callFunc_extern Tryd.prog 50 _ ReflectliteType.typeOf Tryd.func50 (by kernel_rfl) (by kernel_rfl) (by kernel_rfl) (by kernel_rfl)
  have h35 := @run_callFunc_extern Tryd.prog 109 _ (ReflectliteType.relation "AssignableTo" ReflectliteType.assignableTo) Tryd.func109 (by kernel_rfl) (by kernel_rfl) (by kernel_rfl) (by kernel_rfl)
  have tO := Tryd.typeOf_C
  have mA := Tryd.methodAssignableTo
  have a25 := Tryd.notAssignableCW
  have f6 := Tryd.valueOf_P
  have f7 := Tryd.type_P
  have mK := Tryd.methodKind
  have mE := Tryd.methodElem
  have mI := Tryd.methodImplements
  have k27 := Tryd.kindP_P
  have k25 := Tryd.kindE_P
  have e27 := Tryd.elem_P
  have i25 := Tryd.implements_P
  have nE := Tryd.noAsC
  have uE := Tryd.noUnwrapC
  have vE := Tryd.noUnwrapsC
  have n8 := Tryd.isNil_P ⟨w.heap.size, 0, none⟩ t ((w.alloc (.cells #[.pointer (some t)] 94)).alloc (.cells #[.pointer (some ⟨1, 94, none⟩), .pointer (some ⟨w.heap.size, 0, none⟩), .int .u64 150] 100)) (by simp)
  have hlt : 0 < w.heap.size := by
    rcases Nat.lt_or_ge 0 w.heap.size with h | h
    · exact h
    · simp [World.cell?, Array.getElem?_eq_none h] at hg
  have hg2 : ((w.alloc (.cells #[.pointer (some t)] 94)).alloc (.cells #[.pointer (some ⟨1, 94, none⟩), .pointer (some ⟨w.heap.size, 0, none⟩), .int .u64 150] 100)).cell? ⟨0, 0, none⟩ = some (.iface 109 (.agg #[.pointer (some ⟨1, 35, none⟩)])) := by
    rw [World.cell?_alloc_lt _ _ ⟨0, 0, none⟩ (by simp <;> omega), World.cell?_alloc_lt _ _ ⟨0, 0, none⟩ hlt]; exact hg
  have htl : t.block < w.heap.size := by
    rcases Nat.lt_or_ge t.block w.heap.size with h | h
    · exact h
    · simp [World.cell?, Array.getElem?_eq_none h] at ht0
  go_enter Tryd.func46, Tryd.ntmps46
  go_wp2
  refine wp_loop_rounds 1 ?_
  rw [rounds_succ]
  go_wp2
  go_ret
  exact ⟨rfl, by repeat (first | exact Below.refl _ _ | refine Below.alloc ?_ (by first | exact Nat.le_refl _ | (simp; done) | (simp; omega)) _)⟩

set_option maxHeartbeats 4000000 in
/-- errors.Is at a bare class. -/
theorem is_class (c t : Int) (w : World) :
    Calls Tryd.prog 33 #[.iface 70 (.int .i64 c), .iface 70 (.int .i64 t)] w fun e w' => e = .returned (.bool (c == t)) ∧ w' = w := by
  have hTO := @run_callFunc_extern Tryd.prog 50 _ Extern.ReflectliteType.typeOf Tryd.func50 (by kernel_rfl) (by kernel_rfl) (by kernel_rfl) (by kernel_rfl)
  have tT := Tryd.isTypeOfC
  have cT := Tryd.isComparableC
  have mR := Tryd.isMethodComparable
  have nE := Tryd.noIsC
  have uE := Tryd.noUnwrapC
  have vE := Tryd.noUnwrapsC
  have heq := run_eql_iface_int (P := Tryd.prog) (k := .i64) w c t Tryd.underlying35 Tryd.isCompC Tryd.underlying70
  by_cases hct : (c == t) = true
  · go_enter Tryd.func33, Tryd.ntmps33
    go_wp2
    refine wp_loop_rounds 1 ?_
    rw [rounds_succ]
    go_wp2
    go_ret
    exact ⟨by rw [hct]; rfl, rfl⟩
  · have hct' : (c == t) = false := by simpa using hct
    go_enter Tryd.func33, Tryd.ntmps33
    go_wp2
    refine wp_loop_rounds 1 ?_
    rw [rounds_succ]
    go_wp2
    go_ret
    exact ⟨by rw [hct']; rfl, rfl⟩
end Go.Proofs.YthebgoadeecmpaaDoor
/- Wrapped classes; what begins a changing call. -/
namespace Go.Proofs.YthebgoadeecmpaaDoor
open Go.RowKit Go.Lib Go.Maps

theorem set_post {w W : World} {t : Addr} {v old : Value} (hb : Below w.heap.size w W) (ht0 : w.cell? t = some old) :
    (W.setCell t v).cell? t = some v ∧ Below t.block w (W.setCell t v) ∧ w.heap.size ≤ (W.setCell t v).heap.size := by
  have hl := lt_of_cell ht0
  refine ⟨World.cell?_setCell_same _ _ _ (u := old) ?_, (hb.mono (Nat.le_of_lt hl)).setCell (Nat.le_refl _) _, by simpa using hb.size⟩
  rw [hb.cell hl]; exact ht0
theorem as_class (b : Nat) (c : Int) (t : Addr) (old : Value) (w : World) (hE : ET w) (he : ErrW w b c) (ht0 : w.cell? t = some old) (hf0 : w.frozen? t = false) :
    Calls Tryd.prog 46 #[evW b, .iface 80 (.pointer (some t))] w fun e w' =>
      e = .returned (.bool true) ∧ w'.cell? t = some (.int .i64 c) ∧ Below t.block w w' ∧ w.heap.size ≤ w'.heap.size := by
  refine (as_C b c t old w hE ht0 hf0 he).mono ?_
  rintro e w' ⟨rfl, W, hb, rfl⟩
  exact ⟨rfl, set_post hb ht0⟩
theorem as_within (b : Nat) (t : Addr) (old : Value) (w : World) (hE : ET w) (ht0 : w.cell? t = some old) (hf0 : w.frozen? t = false) :
    Calls Tryd.prog 46 #[evW b, .iface 94 (.pointer (some t))] w fun e w' =>
      e = .returned (.bool true) ∧ Below t.block w w' ∧ w.heap.size ≤ w'.heap.size := by
  refine (as_P b t old w hE ht0 hf0).mono ?_
  rintro e w' ⟨rfl, W, hb, rfl⟩
  exact ⟨rfl, (set_post hb ht0).2⟩

/-- consistoryhelp.Class of no error. -/
theorem class_nil (w : World) : Calls Tryd.prog 22 #[.nilIface] w fun e w' => e = .returned (.int .i64 0) ∧ w' = w := by
  go_enter Tryd.func22, Tryd.ntmps22
  go_wp2
  go_ret
  exact ⟨rfl, rfl⟩

set_option maxHeartbeats 1600000 in
/-- consistoryhelp.Class of a wrapped class. -/
theorem class_at (b : Nat) (c : Int) (w : World) (hE : ET w) (he : ErrW w b c) :
    Calls Tryd.prog 22 #[evW b] w fun e w' => e = .returned (.int .i64 c) ∧ Below w.heap.size w w' := by
  have hbl := he.lt
  have hE1 := hE.alloc (.cells #[.int .i64 0] 70)
  have he1 := he.alloc (.cells #[.int .i64 0] 70)
  have ht1 : (w.alloc (.cells #[.int .i64 0] 70)).cell? ⟨w.heap.size, 0, none⟩ = some (.int .i64 0) := by simp
  have hf1 : (w.alloc (.cells #[.int .i64 0] 70)).frozen? ⟨w.heap.size, 0, none⟩ = false := by simp
  have hp1 : Hid (∀ w1, Below w.heap.size (w.alloc (.cells #[.int .i64 0] 70)) w1 → w1.cell? ⟨b, 1, none⟩ = some (.iface 70 (.int .i64 c)) ∧ Below w.heap.size w w1) :=
    fun w1 hb => ⟨(hb.cell (p := ⟨b, 1, none⟩) hbl).trans he1, ((Below.refl _ _).alloc (Nat.le_refl _) _).trans hb⟩
  have hAs := hide (as_class b c ⟨w.heap.size, 0, none⟩ _ _ hE1 he1 ht1 hf1)
  clear hE1 he1 ht1 hf1 hE he
  go_enter Tryd.func22, Tryd.ntmps22
  go_wp2_with (first | (go_at_call 46; refine (unhide hAs).mono ?_; rintro e w1 ⟨rfl, hc1, hb1, _⟩; have hq1 := (unhide hp1 w1 hb1).1) | (go_at_call 33; refine (is_placed b c c _ hq1).mono ?_; rintro e w2 ⟨rfl, rfl⟩))
  go_ret
  exact ⟨rfl, (unhide hp1 _ hb1).2⟩

set_option maxHeartbeats 1600000 in
/-- within at a bare class: a new wrap. -/
theorem within_class (s : ByteArray) (c : Int) (w : World) (hE : ET w) :
    Calls Tryd.prog 43 #[.string s, evC c] w fun e w' => ∃ b, e = .returned (evW b) ∧ w.heap.size ≤ b ∧ ErrW w' b c ∧ Below w.heap.size w w' := by
  have hE1 := hE.alloc (.cells #[.pointer none] 93)
  have ht1 : (w.alloc (.cells #[.pointer none] 93)).cell? ⟨w.heap.size, 0, none⟩ = some (.pointer none) := by simp
  have hAs := hide (as_CW c ⟨w.heap.size, 0, none⟩ _ _ hE1 ht1)
  clear hE1 ht1 hE
  go_enter Tryd.func43, Tryd.ntmps43
  go_wp2_with (first | (go_at_call 46; refine (unhide hAs).mono ?_; rintro e w1 ⟨rfl, hb1⟩))
  go_ret
  have hs := hb1.size
  simp at hs
  refine ⟨_, rfl, by omega, ?_, ((((Below.refl _ _).alloc (Nat.le_refl _) _).trans (hb1.mono (by simp))).alloc (by omega) _)⟩
  unfold ErrW
  simp

set_option maxHeartbeats 1600000 in
/-- within at a wrap: it. -/
theorem within_wrap (s : ByteArray) (b : Nat) (w : World) (hE : ET w) :
    Calls Tryd.prog 43 #[.string s, evW b] w fun e w' => e = .returned (evW b) ∧ Below w.heap.size w w' := by
  have hE1 := hE.alloc (.cells #[.pointer none] 93)
  have ht1 : (w.alloc (.cells #[.pointer none] 93)).cell? ⟨w.heap.size, 0, none⟩ = some (.pointer none) := by simp
  have hf1 : (w.alloc (.cells #[.pointer none] 93)).frozen? ⟨w.heap.size, 0, none⟩ = false := by simp
  have hAs := hide (as_within b ⟨w.heap.size, 0, none⟩ _ _ hE1 ht1 hf1)
  clear hE1 ht1 hE hf1
  go_enter Tryd.func43, Tryd.ntmps43
  go_wp2_with (first | (go_at_call 46; refine (unhide hAs).mono ?_; rintro e w1 ⟨rfl, hb1, hs1⟩))
  go_ret
  exact ⟨rfl, ((Below.refl _ _).alloc (Nat.le_refl _) _).trans hb1⟩
end Go.Proofs.YthebgoadeecmpaaDoor
