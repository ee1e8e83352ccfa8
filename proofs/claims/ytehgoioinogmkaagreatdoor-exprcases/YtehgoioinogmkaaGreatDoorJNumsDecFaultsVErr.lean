/- Contracts of package wire's writers of numbers: what they append. -/
import Derived.Test.YtehgoioinogmkaaGreatDoorProg
import Derived.Test.YtehgoioinogmkaaGreatDoorJPlainLMath2LMath3XLex1XLex2NBigListOpsListOp2ListOp3
import Derived.Test.YtehgoioinogmkaaGreatDoorJErrsAs
import Derived.Deep.RegionWith
namespace Go.Proofs.YtehgoioinogmkaaGreatDoor
open Go.RowKit Go.Lib

theorem Tryz.infoB : (Tryz.prog.info? 5).map (fun i => (i.zero, i.size, i.bytes)) = some (some (.int .u8 0), 1, 1) := by kernel_rfl

set_option maxHeartbeats 1600000 in
set_option maxRecDepth 100000 in
theorem appendUint_any (B m x : Nat) (v : Value) (xs : List Value) (w : World) (hx : x < 18446744073709551616) (hm : m ≤ 1000000000) (hB : B ≤ w.heap.size)
    (hown : w.ownsRow B 5 1 v m xs) :
    Calls Tryz.prog 228 #[v, .int .u64 x] w fun e w' =>
      ∃ v', e = .returned v' ∧ w'.ownsRow B 5 1 v' (m + (uvarint x).length) (xs ++ byteCells (uvarint x)) ∧ Below B w w' ∧ KeepT 5 w w' := by
  obtain ⟨i0, hi, hz0, hz1, hz2⟩ := info_parts Tryz.infoB
  go_enter Tryz.func228, Tryz.ntmps228
  go_wp2
  go_loopw [0, 1] (fun v n wr => ∃ (y : Nat) (done : List UInt8), y ≤ x ∧ n = .int .u64 y ∧ done ++ uvarint y = uvarint x ∧ wr.ownsRow B 5 1 v (m + done.length) (xs ++ byteCells done) ∧ Below B w wr ∧ KeepT 5 w wr)
    (fun _ n _ => (intOf n).toNat)
  case atStart => exact ⟨x, [], Nat.le_refl _, rfl, rfl, by simpa [byteCells] using hown, Below.refl _ _, KeepT.refl _ _⟩
  case round =>
    obtain ⟨y, done, hy, rfl, hd, hown, hnx, hkt⟩ := hrel
    have hdn := uv_done hx hd
    have hsz := hnx.size
    by_cases hge : 128 ≤ y
    · go_wp2_with (first | (at_builtin; refine wpList_append_own _ rfl (.tmp 9) (.tmp 13) 57 rfl B 5 i0 (.int .u8 0) 1 1 Tryz.underlying57 hi hz0 hz1 hz2 rfl (by decide) _ _ _ rfl (hown.alloc _) ⟨wr.heap.size, 0, none⟩ 1 1 [_] rfl rfl (one_new _ _ _) one_cell (by unfold maxLen; omega) (by omega) (by simp; omega) ?_))
      intro v' w1 hown1 hgrow _
      rw [cells_more] at hown1
      have hb1 := (hnx.alloc (by omega) (.cells #[.int .u8 (bits BinOp.or IntKind.u8 ((y : Int) % 256) 128)] 5)).grown hgrow (by simp; omega) (own_block_ge hown)
      have hk1 := hkt.trans ((KeepT.of_alloc wr (.cells #[.int .u8 (bits BinOp.or IntKind.u8 ((y : Int) % 256) 128)] 5)).trans (KeepT.of_grown (hown.alloc _) hgrow))
      have HU : Hid ((done ++ [(y % 128 + 128).toUInt8]) ++ uvarint (y / 128) = uvarint x) := uv_more hge hd
      clear hd hown hgrow hnx hkt
      go_wp2
      go_roundw
      case rel => exact ⟨y / 128, done ++ [(y % 128 + 128).toUInt8], by omega, by go_num, HU.out, by simpa [Nat.add_assoc] using hown1, hb1, hk1⟩
      case measure => simp [intOf]; omega
    · go_wp2_with (first | (at_builtin; refine wpList_append_own _ rfl (.tmp 15) (.tmp 18) 57 rfl B 5 i0 (.int .u8 0) 1 1 Tryz.underlying57 hi hz0 hz1 hz2 rfl (by decide) _ _ _ rfl (hown.alloc _) ⟨wr.heap.size, 0, none⟩ 1 1 [_] rfl rfl (one_new _ _ _) one_cell (by unfold maxLen; omega) (by omega) (by simp; omega) ?_))
      intro v' w1 hown1 hgrow _
      rw [cells_last _ _ _ (Nat.lt_of_not_le hge)] at hown1
      have hb1 := (hnx.alloc (by omega) (.cells #[.int .u8 (y : Int)] 5)).grown hgrow (by simp; omega) (own_block_ge hown)
      have hk1 := hkt.trans ((KeepT.of_alloc wr (.cells #[.int .u8 (y : Int)] 5)).trans (KeepT.of_grown (hown.alloc _) hgrow))
      have HU : Hid (done ++ [y.toUInt8] = uvarint x) := uv_last (by omega) hd
      clear hd hown hgrow hnx hkt
      go_wp2
      go_ret
      refine ⟨v', rfl, ?_, hb1, hk1⟩
      rw [← HU.out]; simpa [Nat.add_assoc] using hown1

theorem fault_any (c p : Int) (w : World) :
    Calls Tryz.prog 227 #[.int .i64 c, .int .i64 p] w fun e w' =>
      e = .returned (.iface 108 (.pointer (some ⟨w.heap.size, 0, none⟩))) ∧ w' = w.alloc (.cells #[.int .i64 p, .iface 102 (.int .i64 c)] 110) := by
  go_enter Tryz.func227, Tryz.ntmps227
  go_wp2
  go_ret
  exact ⟨rfl, rfl⟩

theorem folded_pos (n : Int) (w : World) (h0 : 0 ≤ n) (h1 : n < 9223372036854775808) :
    Calls Tryz.prog 222 #[.int .i64 n] w fun e w' => e = .returned (.int .u64 (zigzag n : Nat)) ∧ w' = w := by
  go_enter Tryz.func222, Tryz.ntmps222
  go_wp2
  go_ret
  exact ⟨ret_int (fold_pos h0 h1), rfl⟩
theorem folded_neg (n : Int) (w : World) (h0 : n < 0) (h1 : -9223372036854775808 ≤ n) :
    Calls Tryz.prog 222 #[.int .i64 n] w fun e w' => e = .returned (.int .u64 (zigzag n : Nat)) ∧ w' = w := by
  go_enter Tryz.func222, Tryz.ntmps222
  go_wp2
  go_ret
  exact ⟨ret_int (fold_neg h0 h1), rfl⟩
theorem folded_any (n : Int) (w : World) (h0 : -9223372036854775808 ≤ n) (h1 : n < 9223372036854775808) :
    Calls Tryz.prog 222 #[.int .i64 n] w fun e w' => e = .returned (.int .u64 (zigzag n : Nat)) ∧ w' = w := by
  by_cases h : 0 ≤ n
  · exact folded_pos n w h h1
  · exact folded_neg n w (by omega) h0

end Go.Proofs.YtehgoioinogmkaaGreatDoor
/- The reader of a number, as a function on bytes; and a value that reads as bytes. -/
namespace Go.Proofs.YtehgoioinogmkaaGreatDoor
open Go.RowKit Go.Lib

end Go.Proofs.YtehgoioinogmkaaGreatDoor
/- Contracts of what package wire and the help do with faults: placeOf, shifted, Class. -/
namespace Go.Proofs.YtehgoioinogmkaaGreatDoor
open Go.RowKit Go.Extern.Stop Go.Stop Go.Extern Go.Lib

/-- The variable errors.errorType as the program's text lays it. -/
def ET (w : World) : Prop := w.cell? ⟨0, 0, none⟩ = some (.iface 218 (.agg #[.pointer (some ⟨2, 33, none⟩)]))
/-- A placed error in memory: its place, its class. -/
def ErrAt (w : World) (b : Nat) (p c : Int) : Prop := w.cell? ⟨b, 0, none⟩ = some (.int .i64 p) ∧ w.cell? ⟨b, 1, none⟩ = some (.iface 102 (.int .i64 c))
abbrev ev (b : Nat) : Value := .iface 108 (.pointer (some ⟨b, 0, none⟩))

theorem lt_of_cell {w : World} {a : Addr} {v : Value} (h : w.cell? a = some v) : a.block < w.heap.size := by
  rcases Nat.lt_or_ge a.block w.heap.size with h' | h'
  · exact h'
  · simp [World.cell?, Array.getElem?_eq_none h'] at h
theorem set_post {w W : World} {t : Addr} {v old : Value} (hb : Below w.heap.size w W) (ht0 : w.cell? t = some old) :
    (W.setCell t v).cell? t = some v ∧ Below t.block w (W.setCell t v) ∧ w.heap.size ≤ (W.setCell t v).heap.size := by
  have hl := lt_of_cell ht0
  refine ⟨World.cell?_setCell_same _ _ _ (u := old) ?_, (hb.mono (Nat.le_of_lt hl)).setCell (Nat.le_refl _) _, by simpa using hb.size⟩
  rw [hb.cell hl]; exact ht0

theorem ET.lt {w : World} (h : ET w) : 0 < w.heap.size := lt_of_cell h
theorem ET.below {w w' : World} {B : Nat} (h : ET w) (hb : Below B w w') (hB : 0 < B) : ET w' := by
  unfold ET; rw [hb.cell (p := ⟨0, 0, none⟩) hB]; exact h
theorem ET.alloc {w : World} (h : ET w) (o : Obj) : ET (w.alloc o) := by
  unfold ET; rw [World.cell?_alloc_lt _ _ ⟨0, 0, none⟩ h.lt]; exact h
theorem ErrAt.below {w w' : World} {B b : Nat} {p c : Int} (h : ErrAt w b p c) (hb : Below B w w') (hB : b < B) : ErrAt w' b p c :=
  ⟨(hb.cell (p := ⟨b, 0, none⟩) hB).trans h.1, (hb.cell (p := ⟨b, 1, none⟩) hB).trans h.2⟩
theorem ErrAt.lt {w : World} {b : Nat} {p c : Int} (h : ErrAt w b p c) : b < w.heap.size := lt_of_cell h.1
theorem ErrAt.alloc {w : World} {b : Nat} {p c : Int} (h : ErrAt w b p c) (o : Obj) : ErrAt (w.alloc o) b p c :=
  ⟨(World.cell?_alloc_lt _ _ ⟨b, 0, none⟩ h.lt).trans h.1, (World.cell?_alloc_lt _ _ ⟨b, 1, none⟩ h.lt).trans h.2⟩
theorem ErrAt.new (w : World) (p c : Int) : ErrAt (w.alloc (.cells #[.int .i64 p, .iface 102 (.int .i64 c)] 110)) w.heap.size p c := by
  constructor <;> simp
theorem ErrAt.drew {w : World} {b : Nat} {p c : Int} (h : ErrAt w b p c) : ErrAt w.drew b p c := h
theorem ET.drew {w : World} (h : ET w) : ET w.drew := h

/-- consistoryhelp.Class of no error. -/
theorem class_nil (w : World) : Calls Tryz.prog 14 #[.nilIface] w fun e w' => e = .returned (.int .i64 0) ∧ w' = w := by
  go_enter Tryz.func14, Tryz.ntmps14
  go_wp2
  go_ret
  exact ⟨rfl, rfl⟩

end Go.Proofs.YtehgoioinogmkaaGreatDoor
/- Errors that are a bare class: errors.As and errors.Is at them, and the help's Class. -/
namespace Go.Proofs.YtehgoioinogmkaaGreatDoor
open Go.RowKit Go.Extern.Stop Go.Stop Go.Extern Go.Lib

set_option maxHeartbeats 4000000 in
set_option maxRecDepth 100000 in
/-- errors.As(a bare class, 104): true, and it is written. -/
theorem as_CC (c : Int) (t : Addr) (old : Value) (w : World) (hg : w.cell? ⟨0, 0, none⟩ = some (.iface 218 (.agg #[.pointer (some ⟨2, 33, none⟩)]))) (ht0 : w.cell? t = some old) (hf0 : w.frozen? t = false) :
    Calls Tryz.prog 34 #[.iface 102 (.int .i64 c), .iface 104 (.pointer (some t))] w fun ev w' => ev = .returned (.bool true) ∧ ∃ W, Below w.heap.size w W ∧ w' = W.setCell t (.int .i64 c) := by
  have h6 := @run_callFunc_extern Tryz.prog 62 _ (fun args => ReflectliteValue.unpack (args.getD 0 (.tuple #[]))) Tryz.func62 (by kernel_rfl) (by kernel_rfl) (by kernel_rfl) (by kernel_rfl)
  have h7 := @run_callFunc_extern Tryz.prog 63 _ (ReflectliteValue.methodAny (ReflectliteValue.valueError "reflectlite.Value.Type" 0) (fun t _ _ _ => ReflectliteType.toType t)) Tryz.func63 (by kernel_rfl) (by kernel_rfl) (by kernel_rfl) (by kernel_rfl)
  have h8 := @run_callFunc_extern Tryz.prog 64 _ (ReflectliteValue.method (ReflectliteValue.valueError "reflectlite.Value.IsNil" 0) ReflectliteValue.isNil) Tryz.func64 (by kernel_rfl) (by kernel_rfl) (by kernel_rfl) (by kernel_rfl)
  have h27 := @run_callFunc_extern Tryz.prog 249 _ (ReflectliteType.abiMethod fun t => do pure (.int .u8 (← Rtype.kind t))) Tryz.func249 (by kernel_rfl) (by kernel_rfl) (by kernel_rfl) (by kernel_rfl)
  have h37 := @run_callFunc_extern Tryz.prog 263 _ (ReflectliteType.method ReflectliteType.elem) Tryz.func263 (by kernel_rfl) (by kernel_rfl) (by kernel_rfl) (by kernel_rfl)
  have h38 := @run_callFunc_extern Tryz.prog 264 _ (ReflectliteType.relation "Implements" ReflectliteType.implements_) Tryz.func264 (by kernel_rfl) (by kernel_rfl) (by kernel_rfl) (by kernel_rfl)
  have h10 := @run_callFunc_extern Tryz.prog 66 _ ReflectliteType.typeOf Tryz.func66 (by kernel_rfl) (by kernel_rfl) (by kernel_rfl) (by kernel_rfl)
  have h35 := @run_callFunc_extern Tryz.prog 261 _ (ReflectliteType.relation "AssignableTo" ReflectliteType.assignableTo) Tryz.func261 (by kernel_rfl) (by kernel_rfl) (by kernel_rfl) (by kernel_rfl)
  have h11 := @run_callFunc_extern Tryz.prog 115 _ (ReflectliteValue.method (ReflectliteValue.valueError "reflectlite.Value.Elem" 0) ReflectliteValue.elem) Tryz.func115 (by kernel_rfl) (by kernel_rfl) (by kernel_rfl) (by kernel_rfl)
  have h12 := @run_callFunc_extern Tryz.prog 116 _ ReflectliteValue.set Tryz.func116 (by kernel_rfl) (by kernel_rfl) (by kernel_rfl) (by kernel_rfl)
  have tO := Tryz.typeOf_C
  have mA := Tryz.methodAssignableTo
  have a25 := Tryz.assignable_C
  have v25 := Tryz.valueOfE_C
  have f6 := Tryz.valueOf_C
  have f7 := Tryz.type_C
  have mK := Tryz.methodKind
  have mE := Tryz.methodElem
  have mI := Tryz.methodImplements
  have k27 := Tryz.kindP_C
  have k25 := Tryz.kindE_C
  have e27 := Tryz.elem_C
  have i25 := Tryz.implements_C
  have n8 := Tryz.isNil_C ⟨w.heap.size, 0, none⟩ t ((w.alloc (.cells #[.pointer (some t)] 104)).alloc (.cells #[.pointer (some ⟨2, 104, none⟩), .pointer (some ⟨w.heap.size, 0, none⟩), .int .u64 150] 155)) (by simp)
  have hlt : 0 < w.heap.size := by
    rcases Nat.lt_or_ge 0 w.heap.size with h | h
    · exact h
    · simp [World.cell?, Array.getElem?_eq_none h] at hg
  have hg2 : ((w.alloc (.cells #[.pointer (some t)] 104)).alloc (.cells #[.pointer (some ⟨2, 104, none⟩), .pointer (some ⟨w.heap.size, 0, none⟩), .int .u64 150] 155)).cell? ⟨0, 0, none⟩ = some (.iface 218 (.agg #[.pointer (some ⟨2, 33, none⟩)])) := by
    rw [World.cell?_alloc_lt _ _ ⟨0, 0, none⟩ (by simp <;> omega), World.cell?_alloc_lt _ _ ⟨0, 0, none⟩ hlt]; exact hg
  have htl : t.block < w.heap.size := by
    rcases Nat.lt_or_ge t.block w.heap.size with h | h
    · exact h
    · simp [World.cell?, Array.getElem?_eq_none h] at ht0
  have el := Tryz.elemV_C ⟨w.heap.size, 0, none⟩ t (((w.alloc (.cells #[.pointer (some t)] 104)).alloc (.cells #[.pointer (some ⟨2, 104, none⟩), .pointer (some ⟨w.heap.size, 0, none⟩), .int .u64 150] 155)).alloc (.cells #[.pointer (some ⟨2, 104, none⟩), .pointer (some ⟨w.heap.size, 0, none⟩), .int .u64 150] 155)) (by rw [World.cell?_alloc_lt _ _ ⟨w.heap.size, 0, none⟩ (by simp <;> omega)]; simp)
  have st := Tryz.set_C t ⟨w.heap.size + 1 + 1 + 1, 0, none⟩ c old ((((w.alloc (.cells #[.pointer (some t)] 104)).alloc (.cells #[.pointer (some ⟨2, 104, none⟩), .pointer (some ⟨w.heap.size, 0, none⟩), .int .u64 150] 155)).alloc (.cells #[.pointer (some ⟨2, 104, none⟩), .pointer (some ⟨w.heap.size, 0, none⟩), .int .u64 150] 155)).alloc (.cells #[(.int .i64 c)] 102))
    (by rw [World.cell?_alloc_at _ _ _ _ (by simp)]; rfl)
    (by rw [World.cell?_alloc_lt _ _ t (by simp <;> omega), World.cell?_alloc_lt _ _ t (by simp <;> omega), World.cell?_alloc_lt _ _ t (by simp <;> omega), World.cell?_alloc_lt _ _ t htl]; exact ht0)
    (by rw [World.frozen?_alloc_old _ _ t (by simp <;> omega), World.frozen?_alloc_old _ _ t (by simp <;> omega), World.frozen?_alloc_old _ _ t (by simp <;> omega), World.frozen?_alloc_old _ _ t (Nat.ne_of_lt htl)]; exact hf0)
  go_enter Tryz.func34, Tryz.ntmps34
  go_wp2
  refine wp_loop_rounds 1 ?_
  rw [rounds_succ]
  go_wp2
  go_ret
  exact ⟨rfl, _, ((((Below.refl _ _).alloc (Nat.le_refl _) _).alloc (by simp) _).alloc (by simp <;> omega) _).alloc (by simp <;> omega) _, rfl⟩
set_option maxHeartbeats 4000000 in
/-- errors.Is at a bare class. -/
theorem is_class (c t : Int) (w : World) :
    Calls Tryz.prog 35 #[.iface 102 (.int .i64 c), .iface 102 (.int .i64 t)] w fun e w' => e = .returned (.bool (c == t)) ∧ w' = w := by
  have hTO := @run_callFunc_extern Tryz.prog 66 _ Extern.ReflectliteType.typeOf Tryz.func66 (by kernel_rfl) (by kernel_rfl) (by kernel_rfl) (by kernel_rfl)
  have tT := Tryz.isTypeOfC
  have cT := Tryz.isComparableC
  have mR := Tryz.isMethodComparable
  have nE := Tryz.noIsC
  have uE := Tryz.noUnwrapC
  have vE := Tryz.noUnwrapsC
  have heq := run_eql_iface_int (P := Tryz.prog) (k := .i64) w c t Tryz.underlying33 Tryz.isCompC Tryz.underlying102
  by_cases hct : (c == t) = true
  · go_enter Tryz.func35, Tryz.ntmps35
    go_wp2
    refine wp_loop_rounds 1 ?_
    rw [rounds_succ]
    go_wp2
    go_ret
    exact ⟨by rw [hct]; rfl, rfl⟩
  · have hct' : (c == t) = false := by simpa using hct
    go_enter Tryz.func35, Tryz.ntmps35
    go_wp2
    refine wp_loop_rounds 1 ?_
    rw [rounds_succ]
    go_wp2
    go_ret
    exact ⟨by rw [hct']; rfl, rfl⟩

/-- An error that is a bare class; of 0 none. -/
def errG (c : Int) : Value := if c = 0 then .nilIface else .iface 102 (.int .i64 c)
theorem errG_nil : errG 0 = .nilIface := rfl
theorem errG_some {c : Int} (h : c ≠ 0) : errG c = .iface 102 (.int .i64 c) := if_neg h

theorem as_bare (c : Int) (t : Addr) (old : Value) (w : World) (hE : ET w) (ht0 : w.cell? t = some old) (hf0 : w.frozen? t = false) :
    Calls Tryz.prog 34 #[.iface 102 (.int .i64 c), .iface 104 (.pointer (some t))] w fun e w' =>
      e = .returned (.bool true) ∧ w'.cell? t = some (.int .i64 c) ∧ Below t.block w w' ∧ w.heap.size ≤ w'.heap.size := by
  refine (as_CC c t old w hE ht0 hf0).mono ?_
  rintro e w' ⟨rfl, W, hb, rfl⟩
  exact ⟨rfl, set_post hb ht0⟩

set_option maxHeartbeats 1600000 in
/-- consistoryhelp.Class of a bare class. -/
theorem class_bare (c : Int) (w : World) (hE : ET w) :
    Calls Tryz.prog 14 #[.iface 102 (.int .i64 c)] w fun e w' => e = .returned (.int .i64 c) ∧ Below w.heap.size w w' := by
  have hE1 := hE.alloc (.cells #[.int .i64 0] 102)
  have ht1 : (w.alloc (.cells #[.int .i64 0] 102)).cell? ⟨w.heap.size, 0, none⟩ = some (.int .i64 0) := by simp
  have hf1 : (w.alloc (.cells #[.int .i64 0] 102)).frozen? ⟨w.heap.size, 0, none⟩ = false := by simp
  have hp1 : Hid (∀ w1, Below w.heap.size (w.alloc (.cells #[.int .i64 0] 102)) w1 → Below w.heap.size w w1) :=
    fun w1 hb => ((Below.refl _ _).alloc (Nat.le_refl _) _).trans hb
  have hAs := hide (as_bare c ⟨w.heap.size, 0, none⟩ _ _ hE1 ht1 hf1)
  clear hE1 ht1 hf1 hE
  go_enter Tryz.func14, Tryz.ntmps14
  go_wp2_with (first | (go_at_call 34; refine (unhide hAs).mono ?_; rintro e w1 ⟨rfl, hc1, hb1, _⟩) | (go_at_call 35; refine (is_class c c _).mono ?_; rintro e w2 ⟨rfl, rfl⟩))
  go_ret
  exact ⟨rfl, unhide hp1 _ hb1⟩
theorem class_g (c : Int) (w : World) (hE : ET w) :
    Calls Tryz.prog 14 #[errG c] w fun e w' => e = .returned (.int .i64 c) ∧ Below w.heap.size w w' := by
  by_cases h : c = 0
  · subst h
    rw [errG_nil]
    refine (class_nil w).mono ?_
    rintro e w' ⟨rfl, rfl⟩
    exact ⟨rfl, Below.refl _ _⟩
  · rw [errG_some h]
    exact class_bare c w hE
end Go.Proofs.YtehgoioinogmkaaGreatDoor
