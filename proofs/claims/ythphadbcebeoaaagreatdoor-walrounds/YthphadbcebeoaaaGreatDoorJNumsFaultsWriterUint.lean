/- Contracts of package wire's writers of numbers: what they append. -/
import Derived.Test.YthphadbcebeoaaaGreatDoorProg
import Derived.Test.YthphadbcebeoaaaGreatDoorJPlainDecDDef
import Derived.Test.YthphadbcebeoaaaGreatDoorJErrsAs
import Derived.Deep.RegionWith
import Derived.Lib.AppendStr
namespace Go.Proofs.YthphadbcebeoaaaGreatDoor
open Go.RowKit Go.Lib

theorem Tryz.infoB : (Tryz.prog.info? 5).map (fun i => (i.zero, i.size, i.bytes)) = some (some (.int .u8 0), 1, 1) := by kernel_rfl

set_option maxHeartbeats 1600000 in
set_option maxRecDepth 100000 in
theorem appendUint_any (B m x : Nat) (v : Value) (xs : List Value) (w : World) (hx : x < 18446744073709551616) (hm : m ≤ 1000000000) (hB : B ≤ w.heap.size)
    (hown : w.ownsRow B 5 1 v m xs) :
    Calls Tryz.prog 97 #[v, .int .u64 x] w fun e w' =>
      ∃ v', e = .returned v' ∧ w'.ownsRow B 5 1 v' (m + (uvarint x).length) (xs ++ byteCells (uvarint x)) ∧ Below B w w' ∧ KeepT 5 w w' := by
  obtain ⟨i0, hi, hz0, hz1, hz2⟩ := info_parts Tryz.infoB
  go_enter Tryz.func97, Tryz.ntmps97
  go_wp2
  go_loopw [0, 1] (fun v n wr => ∃ (y : Nat) (done : List UInt8), y ≤ x ∧ n = .int .u64 y ∧ done ++ uvarint y = uvarint x ∧ wr.ownsRow B 5 1 v (m + done.length) (xs ++ byteCells done) ∧ Below B w wr ∧ KeepT 5 w wr)
    (fun _ n _ => (intOf n).toNat)
  case atStart => exact ⟨x, [], Nat.le_refl _, rfl, rfl, by simpa [byteCells] using hown, Below.refl _ _, KeepT.refl _ _⟩
  case round =>
    obtain ⟨y, done, hy, rfl, hd, hown, hnx, hkt⟩ := hrel
    have hdn := uv_done hx hd
    have hsz := hnx.size
    by_cases hge : 128 ≤ y
    · go_wp2_with (first | (at_builtin; refine wpList_append_own _ rfl (.tmp 9) (.tmp 13) 22 rfl B 5 i0 (.int .u8 0) 1 1 Tryz.underlying22 hi hz0 hz1 hz2 rfl (by decide) _ _ _ rfl (hown.alloc _) ⟨wr.heap.size, 0, none⟩ 1 1 [_] rfl rfl (one_new _ _ _) one_cell (by unfold maxLen; omega) (by omega) (by simp; omega) ?_))
      intro v' w1 hown1 hgrow _
      rw [cells_more] at hown1
      have hb1 := (hnx.alloc (by omega) (.cells #[.int .u8 (bits BinOp.or IntKind.u8 ((y : Int) % 256) 128)] 5)).grown hgrow (by simp; omega) (own_block_ge hown)
      have hk1 := hkt.trans ((KeepT.of_alloc wr (.cells #[.int .u8 (bits BinOp.or IntKind.u8 ((y : Int) % 256) 128)] 5)).trans (KeepT.of_grown (hown.alloc _) hgrow))
      have HU : Hid ((done ++ [(y % 128 + 128).toUInt8]) ++ uvarint (y / 128) = uvarint x) := uv_more hge hd
      clear hd hown hgrow hnx hkt
      go_wp2
      go_roundw
      case rel => exact ⟨y / 128, done ++ [(y % 128 + 128).toUInt8], by omega, by go_num, HU.out, by simpa [Nat.add_assoc] using hown1, hb1, hk1⟩
      case measure => simp [intOf]; omega
    · go_wp2_with (first | (at_builtin; refine wpList_append_own _ rfl (.tmp 15) (.tmp 18) 22 rfl B 5 i0 (.int .u8 0) 1 1 Tryz.underlying22 hi hz0 hz1 hz2 rfl (by decide) _ _ _ rfl (hown.alloc _) ⟨wr.heap.size, 0, none⟩ 1 1 [_] rfl rfl (one_new _ _ _) one_cell (by unfold maxLen; omega) (by omega) (by simp; omega) ?_))
      intro v' w1 hown1 hgrow _
      rw [cells_last _ _ _ (Nat.lt_of_not_le hge)] at hown1
      have hb1 := (hnx.alloc (by omega) (.cells #[.int .u8 (y : Int)] 5)).grown hgrow (by simp; omega) (own_block_ge hown)
      have hk1 := hkt.trans ((KeepT.of_alloc wr (.cells #[.int .u8 (y : Int)] 5)).trans (KeepT.of_grown (hown.alloc _) hgrow))
      have HU : Hid (done ++ [y.toUInt8] = uvarint x) := uv_last (by omega) hd
      clear hd hown hgrow hnx hkt
      go_wp2
      go_ret
      refine ⟨v', rfl, ?_, hb1, hk1⟩
      rw [← HU.out]; simpa [Nat.add_assoc] using hown1

theorem putUint_any (x : Nat) (w : World) (hx : x < 18446744073709551616) :
    Calls Tryz.prog 78 #[.int .u64 x] w fun e w' =>
      ∃ v', e = .returned v' ∧ w'.ownsRow w.heap.size 5 1 v' (uvarint x).length (byteCells (uvarint x)) ∧ Below w.heap.size w w' := by
  go_enter Tryz.func78, Tryz.ntmps78
  go_wp2_with (go_at_call 97; refine (appendUint_any w.heap.size 0 x _ [] _ hx (by omega) (Nat.le_refl _) (World.ownsRow_nil _ _ _ _)).mono ?_; rintro e w' ⟨v', rfl, hown, hb, _⟩)
  go_ret
  exact ⟨v', rfl, by simpa using hown, hb⟩

theorem fault_any (c p : Int) (w : World) :
    Calls Tryz.prog 90 #[.int .i64 c, .int .i64 p] w fun e w' =>
      e = .returned (.iface 112 (.pointer (some ⟨w.heap.size, 0, none⟩))) ∧ w' = w.alloc (.cells #[.int .i64 p, .iface 75 (.int .i64 c)] 116) := by
  go_enter Tryz.func90, Tryz.ntmps90
  go_wp2
  go_ret
  exact ⟨rfl, rfl⟩

end Go.Proofs.YthphadbcebeoaaaGreatDoor
/- Contracts of what package wire and the help do with faults: placeOf, shifted, Class. -/
namespace Go.Proofs.YthphadbcebeoaaaGreatDoor
open Go.RowKit Go.Extern.Stop Go.Stop Go.Extern Go.Lib

/-- The variable errors.errorType as the program's text lays it. -/
def ET (w : World) : Prop := w.cell? ⟨0, 0, none⟩ = some (.iface 149 (.agg #[.pointer (some ⟨2, 31, none⟩)]))
/-- A placed error in memory: its place, its class. -/
def ErrAt (w : World) (b : Nat) (p c : Int) : Prop := w.cell? ⟨b, 0, none⟩ = some (.int .i64 p) ∧ w.cell? ⟨b, 1, none⟩ = some (.iface 75 (.int .i64 c))
abbrev ev (b : Nat) : Value := .iface 112 (.pointer (some ⟨b, 0, none⟩))

theorem lt_of_cell {w : World} {a : Addr} {v : Value} (h : w.cell? a = some v) : a.block < w.heap.size := by
  rcases Nat.lt_or_ge a.block w.heap.size with h' | h'
  · exact h'
  · simp [World.cell?, Array.getElem?_eq_none h'] at h
theorem set_post {w W : World} {t : Addr} {v old : Value} (hb : Below w.heap.size w W) (ht0 : w.cell? t = some old) :
    (W.setCell t v).cell? t = some v ∧ Below t.block w (W.setCell t v) ∧ w.heap.size ≤ (W.setCell t v).heap.size := by
  have hl := lt_of_cell ht0
  refine ⟨World.cell?_setCell_same _ _ _ (u := old) ?_, (hb.mono (Nat.le_of_lt hl)).setCell (Nat.le_refl _) _, by simpa using hb.size⟩
  rw [hb.cell hl]; exact ht0

theorem ET.lt {w : World} (h : ET w) : 0 < w.heap.size := lt_of_cell h
theorem ET.below {w w' : World} {B : Nat} (h : ET w) (hb : Below B w w') (hB : 0 < B) : ET w' := by
  unfold ET; rw [hb.cell (p := ⟨0, 0, none⟩) hB]; exact h
theorem ET.alloc {w : World} (h : ET w) (o : Obj) : ET (w.alloc o) := by
  unfold ET; rw [World.cell?_alloc_lt _ _ ⟨0, 0, none⟩ h.lt]; exact h
theorem ErrAt.below {w w' : World} {B b : Nat} {p c : Int} (h : ErrAt w b p c) (hb : Below B w w') (hB : b < B) : ErrAt w' b p c :=
  ⟨(hb.cell (p := ⟨b, 0, none⟩) hB).trans h.1, (hb.cell (p := ⟨b, 1, none⟩) hB).trans h.2⟩
theorem ErrAt.lt {w : World} {b : Nat} {p c : Int} (h : ErrAt w b p c) : b < w.heap.size := lt_of_cell h.1
theorem ErrAt.alloc {w : World} {b : Nat} {p c : Int} (h : ErrAt w b p c) (o : Obj) : ErrAt (w.alloc o) b p c :=
  ⟨(World.cell?_alloc_lt _ _ ⟨b, 0, none⟩ h.lt).trans h.1, (World.cell?_alloc_lt _ _ ⟨b, 1, none⟩ h.lt).trans h.2⟩
theorem ErrAt.new (w : World) (p c : Int) : ErrAt (w.alloc (.cells #[.int .i64 p, .iface 75 (.int .i64 c)] 116)) w.heap.size p c := by
  constructor <;> simp
theorem ErrAt.drew {w : World} {b : Nat} {p c : Int} (h : ErrAt w b p c) : ErrAt w.drew b p c := h
theorem ET.drew {w : World} (h : ET w) : ET w.drew := h

theorem as_class (b : Nat) (p c : Int) (t : Addr) (old : Value) (w : World) (hE : ET w) (he : ErrAt w b p c) (ht0 : w.cell? t = some old) (hf0 : w.frozen? t = false) :
    Calls Tryz.prog 43 #[ev b, .iface 98 (.pointer (some t))] w fun e w' =>
      e = .returned (.bool true) ∧ w'.cell? t = some (.int .i64 c) ∧ Below t.block w w' ∧ w.heap.size ≤ w'.heap.size := by
  refine (as_C b c t old w hE ht0 hf0 he.2).mono ?_
  rintro e w' ⟨rfl, W, hb, rfl⟩
  exact ⟨rfl, set_post hb ht0⟩
theorem as_place (b : Nat) (t : Addr) (old : Value) (w : World) (hE : ET w) (ht0 : w.cell? t = some old) (hf0 : w.frozen? t = false) :
    Calls Tryz.prog 43 #[ev b, .iface 114 (.pointer (some t))] w fun e w' =>
      e = .returned (.bool true) ∧ w'.cell? t = some (.pointer (some ⟨b, 0, none⟩)) ∧ Below t.block w w' ∧ w.heap.size ≤ w'.heap.size := by
  refine (as_P b t old w hE ht0 hf0).mono ?_
  rintro e w' ⟨rfl, W, hb, rfl⟩
  exact ⟨rfl, set_post hb ht0⟩

/-- consistoryhelp.Class of no error. -/
theorem class_nil (w : World) : Calls Tryz.prog 22 #[.nilIface] w fun e w' => e = .returned (.int .i64 0) ∧ w' = w := by
  go_enter Tryz.func22, Tryz.ntmps22
  go_wp2
  go_ret
  exact ⟨rfl, rfl⟩

set_option maxHeartbeats 1600000 in
/-- consistoryhelp.Class of a placed error: its class. -/
theorem class_at (b : Nat) (p c : Int) (w : World) (hE : ET w) (he : ErrAt w b p c) :
    Calls Tryz.prog 22 #[ev b] w fun e w' => e = .returned (.int .i64 c) ∧ Below w.heap.size w w' := by
  have hbl := he.lt
  have hE1 := hE.alloc (.cells #[.int .i64 0] 75)
  have he1 := he.alloc (.cells #[.int .i64 0] 75)
  have ht1 : (w.alloc (.cells #[.int .i64 0] 75)).cell? ⟨w.heap.size, 0, none⟩ = some (.int .i64 0) := by simp
  have hf1 : (w.alloc (.cells #[.int .i64 0] 75)).frozen? ⟨w.heap.size, 0, none⟩ = false := by simp
  have hp1 : Hid (∀ w1, Below w.heap.size (w.alloc (.cells #[.int .i64 0] 75)) w1 → w1.cell? ⟨b, 1, none⟩ = some (.iface 75 (.int .i64 c)) ∧ Below w.heap.size w w1) :=
    fun w1 hb => ⟨(hb.cell (p := ⟨b, 1, none⟩) hbl).trans he1.2, ((Below.refl _ _).alloc (Nat.le_refl _) _).trans hb⟩
  have hAs := hide (as_class b p c ⟨w.heap.size, 0, none⟩ _ _ hE1 he1 ht1 hf1)
  clear hE1 he1 ht1 hf1 hE he
  go_enter Tryz.func22, Tryz.ntmps22
  go_wp2_with (first | (go_at_call 43; refine (unhide hAs).mono ?_; rintro e w1 ⟨rfl, hc1, hb1, _⟩; have hq1 := (unhide hp1 w1 hb1).1) | (go_at_call 29; refine (is_placed b c c _ hq1).mono ?_; rintro e w2 ⟨rfl, rfl⟩))
  go_ret
  exact ⟨rfl, (unhide hp1 _ hb1).2⟩

set_option maxHeartbeats 1600000 in
theorem placeOf_at (b : Nat) (p c : Int) (w : World) (hE : ET w) (he : ErrAt w b p c) :
    Calls Tryz.prog 141 #[ev b] w fun e w' => e = .returned (.int .i64 p) ∧ Below w.heap.size w w' := by
  have hbl := he.lt
  have hE1 := hE.alloc (.cells #[.pointer none] 112)
  have he1 := he.alloc (.cells #[.pointer none] 112)
  have ht1 : (w.alloc (.cells #[.pointer none] 112)).cell? ⟨w.heap.size, 0, none⟩ = some (.pointer none) := by simp
  have hf1 : (w.alloc (.cells #[.pointer none] 112)).frozen? ⟨w.heap.size, 0, none⟩ = false := by simp
  have hp1 : Hid (∀ w1, Below w.heap.size (w.alloc (.cells #[.pointer none] 112)) w1 → w1.cell? ⟨b, 0, none⟩ = some (.int .i64 p) ∧ Below w.heap.size w w1) :=
    fun w1 hb => ⟨(hb.cell (p := ⟨b, 0, none⟩) hbl).trans he1.1, ((Below.refl _ _).alloc (Nat.le_refl _) _).trans hb⟩
  have hAs := hide (as_place b ⟨w.heap.size, 0, none⟩ _ _ hE1 ht1 hf1)
  clear hE1 he1 ht1 hf1 hE he
  go_enter Tryz.func141, Tryz.ntmps141
  go_wp2_with (first | (go_at_call 43; refine (unhide hAs).mono ?_; rintro e w1 ⟨rfl, hc1, hb1, _⟩; have hq1 := (unhide hp1 w1 hb1).1))
  go_ret
  exact ⟨rfl, (unhide hp1 _ hb1).2⟩

set_option maxHeartbeats 1600000 in
theorem shifted_at (b : Nat) (p c by' : Int) (w : World) (hE : ET w) (he : ErrAt w b p c) :
    Calls Tryz.prog 139 #[ev b, .int .i64 by'] w fun e w' => ∃ b' p', w.heap.size ≤ b' ∧ e = .returned (ev b') ∧ ErrAt w' b' p' c ∧ Below w.heap.size w w' := by
  have hbl := he.lt
  have hE1 := hE.alloc (.cells #[.int .i64 0] 75)
  have he1 := he.alloc (.cells #[.int .i64 0] 75)
  have ht1 : (w.alloc (.cells #[.int .i64 0] 75)).cell? ⟨w.heap.size, 0, none⟩ = some (.int .i64 0) := by simp
  have hf1 : (w.alloc (.cells #[.int .i64 0] 75)).frozen? ⟨w.heap.size, 0, none⟩ = false := by simp
  have hAs := hide (as_class b p c ⟨w.heap.size, 0, none⟩ _ _ hE1 he1 ht1 hf1)
  clear ht1 hf1
  go_enter Tryz.func139, Tryz.ntmps139
  go_wp2_with (first | (go_at_call 43; refine (unhide hAs).mono ?_; rintro e w1 ⟨rfl, hc1, hb1, hs1⟩))
  clear hAs
  have hE2 := hE1.below hb1 hE.lt
  have he2 := he1.below hb1 hbl
  have hb2 : Below w.heap.size w w1 := ((Below.refl _ _).alloc (Nat.le_refl _) _).trans hb1
  have hs2 : w.heap.size < w1.heap.size := by simp at hs1; omega
  clear hb1 hE1 he1 hE he hs1
  go_region_with (first
    | (go_at_call 141; refine (placeOf_at b p c _ ?_ ?_).mono ?_; exact hE2; exact he2; rintro e w2 ⟨rfl, hb3⟩; have hc2 : w2.cell? ⟨w.heap.size, 0, none⟩ = some (.int .i64 c) := (hb3.cell (p := ⟨w.heap.size, 0, none⟩) hs2).trans hc1)
    | (go_at_call 90; refine (fault_any c _ _).mono ?_; rintro e w3 ⟨rfl, rfl⟩))
  all_goals
    go_wp2
    go_ret
    have hs3 := hb3.size
    simp at hs3
    refine ⟨_, _, by omega, rfl, ErrAt.new _ _ _, ?_⟩
    exact ((hb2.drew).trans (hb3.mono (by simp; omega))).alloc (by omega) _
end Go.Proofs.YthphadbcebeoaaaGreatDoor
/- Contracts of package wire's writer: what it has gathered, or that it failed. -/
namespace Go.Proofs.YthphadbcebeoaaaGreatDoor
open Go.RowKit Go.Lib

/-- An int of 64 bits. -/
abbrev I6 : Type := {p : Int // -9223372036854775808 ≤ p ∧ p < 9223372036854775808}
/-- A writer at block p: it has gathered these bytes (in a row of its own), or it has failed with a fault of class 20. -/
def WS (w : World) (p : Nat) (s : Option (List UInt8)) : Prop :=
  w.frozen? ⟨p, 0, none⟩ = false ∧ w.frozen? ⟨p, 1, none⟩ = false ∧
  match s with
  | some l => ∃ v, w.cell? ⟨p, 0, none⟩ = some v ∧ w.cell? ⟨p, 1, none⟩ = some .nilIface ∧ w.ownsRow (p + 1) 5 1 v l.length (byteCells l)
  | none => ∃ (b : Nat) (pl : I6), w.cell? ⟨p, 0, none⟩ = some (.slice none 0 0) ∧ w.cell? ⟨p, 1, none⟩ = some (ev b) ∧ p < b ∧ ErrAt w b pl 20

theorem WS.lt {w : World} {p : Nat} {s : Option (List UInt8)} (h : WS w p s) : p < w.heap.size := by
  cases s with
  | none => obtain ⟨_, _, b, pl, h0, _⟩ := h; exact lt_of_cell h0
  | some l => obtain ⟨_, _, v, h0, _⟩ := h; exact lt_of_cell h0

theorem ne01 (p : Nat) : (⟨p, 0, none⟩ : Addr) ≠ ⟨p, 1, none⟩ := by intro h; injection h; contradiction

theorem WS.more {w w1 : World} {p : Nat} {v v' : Value} {l' : List UInt8} (h1 : w.cell? ⟨p, 0, none⟩ = some v) (h2 : w.cell? ⟨p, 1, none⟩ = some .nilIface) (f1 : w.frozen? ⟨p, 0, none⟩ = false) (f2 : w.frozen? ⟨p, 1, none⟩ = false)
    (hb : Below (p + 1) w w1) (hk : KeepT 5 w w1) (ho : w1.ownsRow (p + 1) 5 1 v' l'.length (byteCells l')) : WS (w1.setCell ⟨p, 0, none⟩ v') p (some l') ∧ Fr 5 p w (w1.setCell ⟨p, 0, none⟩ v') := by
  have c0 : w1.cell? ⟨p, 0, none⟩ = some v := (hb.cell (p := ⟨p, 0, none⟩) (by simp)).trans h1
  have c1 : w1.cell? ⟨p, 1, none⟩ = some .nilIface := (hb.cell (p := ⟨p, 1, none⟩) (by simp)).trans h2
  have g0 : w1.frozen? ⟨p, 0, none⟩ = false := (hb.frozen (p := ⟨p, 0, none⟩) (by simp)).trans f1
  have g1 : w1.frozen? ⟨p, 1, none⟩ = false := (hb.frozen (p := ⟨p, 1, none⟩) (by simp)).trans f2
  refine ⟨⟨by simpa using g0, by simpa using g1, v', World.cell?_setCell_same _ _ _ c0, ?_, ownsRow_setCell_below ho (by simp) _⟩, (Fr.of (hb.mono (by omega)) hk).setCell 0 _⟩
  rw [World.cell?_setCell_other _ _ _ _ (ne01 p)]; exact c1

theorem own_slice {w : World} {B : Nat} {e : TypeId} {sz : Nat} {v : Value} {n : Nat} {xs : List Value} (h : w.ownsRow B e sz v n xs) : ∃ a k, v = .slice a n k := by
  rcases h.2 with ⟨rfl, rfl⟩ | ⟨g, cap, cur, rfl, _⟩
  · exact ⟨none, 0, rfl⟩
  · exact ⟨_, _, rfl⟩
theorem appendUint_s (B m x : Nat) (v : Value) (xs : List Value) (w : World) (hx : x < 18446744073709551616) (hm : m ≤ 1000000000) (hB : B ≤ w.heap.size)
    (hown : w.ownsRow B 5 1 v m xs) :
    Calls Tryz.prog 97 #[v, .int .u64 x] w fun e w' =>
      ∃ a k, e = .returned (.slice a (m + (uvarint x).length) k) ∧ w'.ownsRow B 5 1 (.slice a (m + (uvarint x).length) k) (m + (uvarint x).length) (xs ++ byteCells (uvarint x)) ∧ Below B w w' ∧ KeepT 5 w w' := by
  refine (appendUint_any B m x v xs w hx hm hB hown).mono ?_
  rintro e w' ⟨v', rfl, ho, hb, hk⟩
  obtain ⟨a, k, rfl⟩ := own_slice ho
  exact ⟨a, k, rfl, ho, hb, hk⟩

set_option maxHeartbeats 1600000 in
theorem wnumber_any (p x : Nat) (s : Option (List UInt8)) (w : World) (hx : x < 18446744073709551616) (hw : WS w p s) (hl : ∀ l, s = some l → l.length ≤ 1000000000) :
    Calls Tryz.prog 110 #[.pointer (some ⟨p, 0, none⟩), .int .u64 x] w fun e w' =>
      e = .returned (.tuple #[]) ∧ WS w' p (s.map (· ++ uvarint x)) ∧ Fr 5 p w w' := by
  have hp := hw.lt
  cases s with
  | none =>
    obtain ⟨f0, f1, b, pl, h0, h1, hb, he⟩ := hw
    go_enter Tryz.func110, Tryz.ntmps110
    go_wp2
    go_end0
    exact ⟨rfl, ⟨f0, f1, b, pl, h0, h1, hb, he⟩, Fr.refl _ _ _⟩
  | some l =>
    obtain ⟨f0, f1, v, h0, h1, ho⟩ := hw
    have hl := hl l rfl
    have HA := hide (appendUint_s (p + 1) l.length x v (byteCells l) w hx hl (by omega) ho)
    have HW := hide (fun (w1 : World) (v' : Value) (hb : Below (p + 1) w w1) (hk : KeepT 5 w w1) (ho' : w1.ownsRow (p + 1) 5 1 v' (l ++ uvarint x).length (byteCells (l ++ uvarint x))) => WS.more h0 h1 f0 f1 hb hk ho')
    clear ho
    go_enter Tryz.func110, Tryz.ntmps110
    go_wp2_with (go_at_call 97; refine (unhide HA).mono ?_; rintro e w1 ⟨a1, k1, rfl, ho1, hb1, hk1⟩; have c0 : w1.cell? ⟨p, 0, none⟩ = some v := (hb1.cell (p := ⟨p, 0, none⟩) (Nat.lt_succ_self p)).trans h0; have g0 : w1.frozen? ⟨p, 0, none⟩ = false := (hb1.frozen (p := ⟨p, 0, none⟩) (Nat.lt_succ_self p)).trans f0)
    go_end0
    have R := unhide HW w1 _ hb1 hk1 (by rw [byteCells_append, List.length_append]; exact ho1)
    exact ⟨rfl, R.1, R.2⟩

theorem own_i6 {w : World} {B : Nat} {v : Value} {l : List UInt8} (h : w.ownsRow B 5 1 v l.length (byteCells l)) : -9223372036854775808 ≤ (l.length : Int) ∧ (l.length : Int) < 9223372036854775808 := by
  rcases h.2 with ⟨_, e⟩ | ⟨g, cap, cur, _, _, _, h1, h2, _⟩
  · omega
  · unfold maxLen at h2
    omega

theorem WS.fail {w : World} {p : Nat} {v x : Value} (hp : p < w.heap.size) (h0 : w.cell? ⟨p, 0, none⟩ = some v) (h1 : w.cell? ⟨p, 1, none⟩ = some x) (f0 : w.frozen? ⟨p, 0, none⟩ = false) (f1 : w.frozen? ⟨p, 1, none⟩ = false) (pl : Int) (hpl : -9223372036854775808 ≤ pl ∧ pl < 9223372036854775808) :
    WS (((w.setCell ⟨p, 0, none⟩ (.slice none 0 0)).setCell ⟨p, 1, none⟩ (ev w.heap.size)).alloc (.cells #[.int .i64 pl, .iface 75 (.int .i64 20)] 116)) p none ∧
    Fr 5 p w (((w.setCell ⟨p, 0, none⟩ (.slice none 0 0)).setCell ⟨p, 1, none⟩ (ev w.heap.size)).alloc (.cells #[.int .i64 pl, .iface 75 (.int .i64 20)] 116)) := by
  have e : ((w.setCell ⟨p, 0, none⟩ (.slice none 0 0)).setCell ⟨p, 1, none⟩ (ev w.heap.size)).heap.size = w.heap.size := by simp
  have hE := ErrAt.new ((w.setCell ⟨p, 0, none⟩ (.slice none 0 0)).setCell ⟨p, 1, none⟩ (ev w.heap.size)) pl 20
  rw [e] at hE
  refine ⟨⟨?_, ?_, w.heap.size, ⟨pl, hpl⟩, ?_, ?_, hp, hE⟩, ?_⟩
  · rw [World.frozen?_alloc_old _ _ _ (by simp; omega)]; simpa using f0
  · rw [World.frozen?_alloc_old _ _ _ (by simp; omega)]; simpa using f1
  · rw [World.cell?_alloc_lt _ _ _ (by simpa using hp), World.cell?_setCell_other _ _ _ _ (ne01 p).symm]; exact World.cell?_setCell_same _ _ _ h0
  · rw [World.cell?_alloc_lt _ _ _ (by simpa using hp)]; exact World.cell?_setCell_same _ _ _ ((World.cell?_setCell_other _ _ _ _ (ne01 p)).trans h1)
  · exact (((Fr.refl _ p w).setCell 0 _).setCell 1 _).alloc (by simp; omega) _

set_option maxHeartbeats 1600000 in
theorem wrefuse_any (p : Nat) (s : Option (List UInt8)) (w : World) (hw : WS w p s) :
    Calls Tryz.prog 109 #[.pointer (some ⟨p, 0, none⟩)] w fun e w' => e = .returned (.tuple #[]) ∧ WS w' p none ∧ Fr 5 p w w' := by
  have hp := hw.lt
  cases s with
  | none =>
    obtain ⟨f0, f1, b, pl, h0, h1, hb, he⟩ := hw
    go_enter Tryz.func109, Tryz.ntmps109
    go_wp2
    go_end0
    exact ⟨rfl, ⟨f0, f1, b, pl, h0, h1, hb, he⟩, Fr.refl _ _ _⟩
  | some l =>
    obtain ⟨f0, f1, v, h0, h1, ho⟩ := hw
    obtain ⟨a, k, rfl⟩ := own_slice ho
    have HW := hide (WS.fail hp h0 h1 f0 f1 (l.length : Int) (own_i6 ho))
    clear ho
    have hne : ¬ p = w.heap.size := by omega
    go_enter Tryz.func109, Tryz.ntmps109
    go_wp2_with (go_at_call 90; refine (fault_any 20 _ _).mono ?_; rintro e w1 ⟨rfl, rfl⟩)
    go_end0
    exact ⟨rfl, (unhide HW).1, (unhide HW).2⟩

set_option maxHeartbeats 1600000 in
theorem wbetween_any (p : Nat) (n lo hi : Int) (s : Option (List UInt8)) (w : World) (hlo : -1000 ≤ lo) (hlh : lo ≤ hi) (hhi : hi ≤ 1000000000) (hw : WS w p s) (hl : ∀ l, s = some l → l.length ≤ 1000000000) :
    Calls Tryz.prog 111 #[.pointer (some ⟨p, 0, none⟩), .int .i64 n, .int .i64 lo, .int .i64 hi] w fun e w' =>
      e = .returned (.tuple #[]) ∧ WS w' p (if lo ≤ n ∧ n ≤ hi then s.map (· ++ uvarint (n - lo).toNat) else none) ∧ Fr 5 p w w' := by
  by_cases h1 : n < lo
  · rw [if_neg (by omega)]
    go_enter Tryz.func111, Tryz.ntmps111
    go_wp2_with (go_at_call 109; refine (wrefuse_any p s _ hw).mono ?_; rintro e w1 ⟨rfl, hw1, hb1⟩)
    first | go_end0 | refine bodyPost_ret (results_none rfl _ _ _) rfl ?_
    exact ⟨rfl, hw1, hb1⟩
  · by_cases h2 : hi < n
    · rw [if_neg (by omega)]
      go_enter Tryz.func111, Tryz.ntmps111
      go_wp2_with (go_at_call 109; refine (wrefuse_any p s _ hw).mono ?_; rintro e w1 ⟨rfl, hw1, hb1⟩)
      first | go_end0 | refine bodyPost_ret (results_none rfl _ _ _) rfl ?_
      exact ⟨rfl, hw1, hb1⟩
    · rw [if_pos (by omega)]
      obtain ⟨d, hd⟩ := Int.eq_ofNat_of_zero_le (show 0 ≤ n - lo by omega)
      have HD := hide hd
      have hd2 : d < 18446744073709551616 := by omega
      rw [hd, Int.toNat_natCast]
      clear hd
      go_enter Tryz.func111, Tryz.ntmps111
      go_wp2_with (go_at_call 110; rw [unhide HD]; refine (wnumber_any p d s _ hd2 hw hl).mono ?_; rintro e w1 ⟨rfl, hw1, hb1⟩)
      first | go_end0 | refine bodyPost_ret (results_none rfl _ _ _) rfl ?_
      exact ⟨rfl, hw1, hb1⟩

end Go.Proofs.YthphadbcebeoaaaGreatDoor
/- Contract of wire.Uint: it reads as the plain function does; only a fault makes memory. -/
namespace Go.Proofs.YthphadbcebeoaaaGreatDoor
open Go.RowKit Go.Lib

set_option maxHeartbeats 1600000 in
set_option maxRecDepth 100000 in
theorem uint_row (b off cap : Nat) (l : List UInt8) (w : World) (hl : l.length ≤ maxLen) (hc : ∀ i, i < l.length → w.cell? ⟨b, off + i, none⟩ = some (.int .u8 ((l.getD i 0).toNat : Int))) :
    Calls Tryz.prog 93 #[.slice (some ⟨b, off, none⟩) l.length cap] w fun e w' =>
      UPost 112 75 116 (decU l) w e w' := by
  unfold maxLen at hl
  go_enter Tryz.func93, Tryz.ntmps93
  go_wp2
  go_loop [5, 10] (fun n i => ∃ (k acc : Nat), k ≤ l.length ∧ k ≤ 9 ∧ acc < 2 ^ (7 * k) ∧ i = .int .i64 k ∧ n = .int .u64 acc ∧ decU l = decFrom k acc (l.drop k)) (fun _ i => l.length - (intOf i).toNat)
  case atStart => exact ⟨0, 0, by omega, by omega, by simp, rfl, rfl, rfl⟩
  case round =>
    obtain ⟨k, acc, hk, hk9, hacc, rfl, rfl, hdec⟩ := hrel
    by_cases hlt : k < l.length
    · have hcx := hc k hlt
      rw [drop_at l k hlt] at hdec
      generalize l.getD k 0 = c at *
      have hc256 : (c.toNat : Int) < 256 := by have := c.toNat_lt; omega
      have han := andNot128' c
      have HD : Hid (decU l = decFrom k acc (c :: l.drop (k + 1))) := hdec
      clear hdec hc
      go_wp2_with (go_at_call 90; refine (fault_any 20 _ _).mono ?_; rintro e w' ⟨rfl, rfl⟩)
      · have h9 : (k : Int) = 9 := by assumption
        have h1 : (1 : Int) < (c.toNat : Int) ∨ (((c.toNat : Nat) : Int) == 0) = true := by assumption
        have hk : k = 9 := by omega
        subst hk
        go_ret3
        exact upost_form (c := 20) (k := 9) (by decide) (HD.out.trans (dec_form (by rcases h1 with h | h; · omega
                                                                                    · have := zero_of h; omega)))
      · have h9 : (k : Int) = 9 := by assumption
        have h1 : ((c.toNat : Nat) : Int) ≤ 1 ∧ (((c.toNat : Nat) : Int) == 0) = false := by assumption
        have hz := nonzero_of h1.2
        have hk : k = 9 := by omega
        subst hk
        go_ret3
        exact upost_done (k := 9) (HD.out.trans (dec_done (by omega) (by omega))) (or_walk9 (by omega) hacc)
      · have h9 : (k : Int) = 9 := by assumption
        have hk : k = 9 := by omega
        subst hk
        go_ret3
        exact upost_form (c := 20) (k := 9) (by decide) (HD.out.trans (dec_form (by omega)))
      · have hz := zero_of (c := c) (by assumption)
        go_ret3
        exact upost_form (c := 20) (by decide) (HD.out.trans (dec_form (by omega)))
      · have hz := nonzero_of (c := c) (by assumption)
        go_ret3
        exact upost_done (HD.out.trans (dec_done (by omega) (by omega))) (or_walk hk9 (by omega) hacc)
      · have hz := nonzero_of (c := c) (by assumption)
        have hor := or_walk hk9 (c := c) (by omega) hacc
        have hal := acc_lt (d := c.toNat % 128) (by omega) hacc
        go_round
        case rel => exact ⟨k + 1, _, by omega, by omega, hal, by go_num, congrArg (Value.int .u64) hor, HD.out.trans (dec_more (by omega) (by omega))⟩
        case measure => simp [intOf]; omega
      · go_ret3
        exact upost_done (HD.out.trans (dec_done (by omega) (by omega))) (or_walk hk9 (by omega) hacc)
      · have hor := or_walk hk9 (c := c) (by omega) hacc
        have hal := acc_lt (d := c.toNat % 128) (by omega) hacc
        go_round
        case rel => exact ⟨k + 1, _, by omega, by omega, hal, by go_num, congrArg (Value.int .u64) hor, HD.out.trans (dec_more (by omega) (by omega))⟩
        case measure => simp [intOf]; omega
    · have hd : decU l = (0, 0, 22, l.length) := by
        rw [hdec, List.drop_eq_nil_of_le (by omega)]; simp [decFrom]; omega
      have HD : Hid (decU l = (0, 0, 22, l.length)) := hd; clear hd hdec
      go_wp2_with (go_at_call 90; refine (fault_any 22 _ _).mono ?_; rintro e w' ⟨rfl, rfl⟩)
      go_ret3
      exact upost_form (by decide) HD.out
end Go.Proofs.YthphadbcebeoaaaGreatDoor
