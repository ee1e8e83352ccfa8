/- Contracts of package wire's writers of numbers: what they append. -/
import Derived.Test.YtlmjmhpdpgeplaaGreatDoorProg
import Derived.Test.YtlmjmhpdpgeplaaGreatDoorJPlainHandDecLenMath
import Derived.Test.YtlmjmhpdpgeplaaGreatDoorJAsTAs2
import Derived.Deep.RegionWith
namespace Go.Proofs.YtlmjmhpdpgeplaaGreatDoor
open Go.RowKit Go.Lib

theorem Tryz.infoB : (Tryz.prog.info? 5).map (fun i => (i.zero, i.size, i.bytes)) = some (some (.int .u8 0), 1, 1) := by kernel_rfl

set_option maxHeartbeats 1600000 in
set_option maxRecDepth 100000 in
theorem appendUint_any (B m x : Nat) (v : Value) (xs : List Value) (w : World) (hx : x < 18446744073709551616) (hm : m ≤ 1000000000) (hB : B ≤ w.heap.size)
    (hown : w.ownsRow B 5 1 v m xs) :
    Calls Tryz.prog 44 #[v, .int .u64 x] w fun e w' =>
      ∃ v', e = .returned v' ∧ w'.ownsRow B 5 1 v' (m + (uvarint x).length) (xs ++ byteCells (uvarint x)) ∧ Below B w w' ∧ KeepT 5 w w' := by
  obtain ⟨i0, hi, hz0, hz1, hz2⟩ := info_parts Tryz.infoB
  go_enter Tryz.func44, Tryz.ntmps44
  go_wp2
  go_loopw [0, 1] (fun v n wr => ∃ (y : Nat) (done : List UInt8), y ≤ x ∧ n = .int .u64 y ∧ done ++ uvarint y = uvarint x ∧ wr.ownsRow B 5 1 v (m + done.length) (xs ++ byteCells done) ∧ Below B w wr ∧ KeepT 5 w wr)
    (fun _ n _ => (intOf n).toNat)
  case atStart => exact ⟨x, [], Nat.le_refl _, rfl, rfl, by simpa [byteCells] using hown, Below.refl _ _, KeepT.refl _ _⟩
  case round =>
    obtain ⟨y, done, hy, rfl, hd, hown, hnx, hkt⟩ := hrel
    have hdn := uv_done hx hd
    have hsz := hnx.size
    by_cases hge : 128 ≤ y
    · go_wp2_with (first | (at_builtin; refine wpList_append_own _ rfl (.tmp 9) (.tmp 13) 30 rfl B 5 i0 (.int .u8 0) 1 1 Tryz.underlying30 hi hz0 hz1 hz2 rfl (by decide) _ _ _ rfl (hown.alloc _) ⟨wr.heap.size, 0, none⟩ 1 1 [_] rfl rfl (one_new _ _ _) one_cell (by unfold maxLen; omega) (by omega) (by simp; omega) ?_))
      intro v' w1 hown1 hgrow _
      rw [cells_more] at hown1
      have hb1 := (hnx.alloc (by omega) (.cells #[.int .u8 (bits BinOp.or IntKind.u8 ((y : Int) % 256) 128)] 5)).grown hgrow (by simp; omega) (own_block_ge hown)
      have hk1 := hkt.trans ((KeepT.of_alloc wr (.cells #[.int .u8 (bits BinOp.or IntKind.u8 ((y : Int) % 256) 128)] 5)).trans (KeepT.of_grown (hown.alloc _) hgrow))
      have HU : Hid ((done ++ [(y % 128 + 128).toUInt8]) ++ uvarint (y / 128) = uvarint x) := uv_more hge hd
      clear hd hown hgrow hnx hkt
      go_wp2
      go_roundw
      case rel => exact ⟨y / 128, done ++ [(y % 128 + 128).toUInt8], by omega, by go_num, HU.out, by simpa [Nat.add_assoc] using hown1, hb1, hk1⟩
      case measure => simp [intOf]; omega
    · go_wp2_with (first | (at_builtin; refine wpList_append_own _ rfl (.tmp 15) (.tmp 18) 30 rfl B 5 i0 (.int .u8 0) 1 1 Tryz.underlying30 hi hz0 hz1 hz2 rfl (by decide) _ _ _ rfl (hown.alloc _) ⟨wr.heap.size, 0, none⟩ 1 1 [_] rfl rfl (one_new _ _ _) one_cell (by unfold maxLen; omega) (by omega) (by simp; omega) ?_))
      intro v' w1 hown1 hgrow _
      rw [cells_last _ _ _ (Nat.lt_of_not_le hge)] at hown1
      have hb1 := (hnx.alloc (by omega) (.cells #[.int .u8 (y : Int)] 5)).grown hgrow (by simp; omega) (own_block_ge hown)
      have hk1 := hkt.trans ((KeepT.of_alloc wr (.cells #[.int .u8 (y : Int)] 5)).trans (KeepT.of_grown (hown.alloc _) hgrow))
      have HU : Hid (done ++ [y.toUInt8] = uvarint x) := uv_last (by omega) hd
      clear hd hown hgrow hnx hkt
      go_wp2
      go_ret
      refine ⟨v', rfl, ?_, hb1, hk1⟩
      rw [← HU.out]; simpa [Nat.add_assoc] using hown1

theorem putUint_any (x : Nat) (w : World) (hx : x < 18446744073709551616) :
    Calls Tryz.prog 27 #[.int .u64 x] w fun e w' =>
      ∃ v', e = .returned v' ∧ w'.ownsRow w.heap.size 5 1 v' (uvarint x).length (byteCells (uvarint x)) ∧ Below w.heap.size w w' := by
  go_enter Tryz.func27, Tryz.ntmps27
  go_wp2_with (go_at_call 44; refine (appendUint_any w.heap.size 0 x _ [] _ hx (by omega) (Nat.le_refl _) (World.ownsRow_nil _ _ _ _)).mono ?_; rintro e w' ⟨v', rfl, hown, hb, _⟩)
  go_ret
  exact ⟨v', rfl, by simpa using hown, hb⟩

theorem fault_any (c p : Int) (w : World) :
    Calls Tryz.prog 57 #[.int .i64 c, .int .i64 p] w fun e w' =>
      e = .returned (.iface 98 (.pointer (some ⟨w.heap.size, 0, none⟩))) ∧ w' = w.alloc (.cells #[.int .i64 p, .iface 67 (.int .i64 c)] 102) := by
  go_enter Tryz.func57, Tryz.ntmps57
  go_wp2
  go_ret
  exact ⟨rfl, rfl⟩

end Go.Proofs.YtlmjmhpdpgeplaaGreatDoor
/- Contracts of what package wire and the help do with faults: placeOf, shifted, Class. -/
namespace Go.Proofs.YtlmjmhpdpgeplaaGreatDoor
open Go.RowKit Go.Extern.Stop Go.Stop Go.Extern Go.Lib

/-- The variable errors.errorType as the program's text lays it. -/
def ET (w : World) : Prop := w.cell? ⟨0, 0, none⟩ = some (.iface 115 (.agg #[.pointer (some ⟨5, 48, none⟩)]))
/-- A placed error in memory: its place, its class. -/
def ErrAt (w : World) (b : Nat) (p c : Int) : Prop := w.cell? ⟨b, 0, none⟩ = some (.int .i64 p) ∧ w.cell? ⟨b, 1, none⟩ = some (.iface 67 (.int .i64 c))
abbrev ev (b : Nat) : Value := .iface 98 (.pointer (some ⟨b, 0, none⟩))

theorem lt_of_cell {w : World} {a : Addr} {v : Value} (h : w.cell? a = some v) : a.block < w.heap.size := by
  rcases Nat.lt_or_ge a.block w.heap.size with h' | h'
  · exact h'
  · simp [World.cell?, Array.getElem?_eq_none h'] at h
theorem set_post {w W : World} {t : Addr} {v old : Value} (hb : Below w.heap.size w W) (ht0 : w.cell? t = some old) :
    (W.setCell t v).cell? t = some v ∧ Below t.block w (W.setCell t v) ∧ w.heap.size ≤ (W.setCell t v).heap.size := by
  have hl := lt_of_cell ht0
  refine ⟨World.cell?_setCell_same _ _ _ (u := old) ?_, (hb.mono (Nat.le_of_lt hl)).setCell (Nat.le_refl _) _, by simpa using hb.size⟩
  rw [hb.cell hl]; exact ht0

theorem ET.lt {w : World} (h : ET w) : 0 < w.heap.size := lt_of_cell h
theorem ET.below {w w' : World} {B : Nat} (h : ET w) (hb : Below B w w') (hB : 0 < B) : ET w' := by
  unfold ET; rw [hb.cell (p := ⟨0, 0, none⟩) hB]; exact h
theorem ET.alloc {w : World} (h : ET w) (o : Obj) : ET (w.alloc o) := by
  unfold ET; rw [World.cell?_alloc_lt _ _ ⟨0, 0, none⟩ h.lt]; exact h
theorem ErrAt.below {w w' : World} {B b : Nat} {p c : Int} (h : ErrAt w b p c) (hb : Below B w w') (hB : b < B) : ErrAt w' b p c :=
  ⟨(hb.cell (p := ⟨b, 0, none⟩) hB).trans h.1, (hb.cell (p := ⟨b, 1, none⟩) hB).trans h.2⟩
theorem ErrAt.lt {w : World} {b : Nat} {p c : Int} (h : ErrAt w b p c) : b < w.heap.size := lt_of_cell h.1
theorem ErrAt.alloc {w : World} {b : Nat} {p c : Int} (h : ErrAt w b p c) (o : Obj) : ErrAt (w.alloc o) b p c :=
  ⟨(World.cell?_alloc_lt _ _ ⟨b, 0, none⟩ h.lt).trans h.1, (World.cell?_alloc_lt _ _ ⟨b, 1, none⟩ h.lt).trans h.2⟩
theorem ErrAt.new (w : World) (p c : Int) : ErrAt (w.alloc (.cells #[.int .i64 p, .iface 67 (.int .i64 c)] 102)) w.heap.size p c := by
  constructor <;> simp
theorem ErrAt.drew {w : World} {b : Nat} {p c : Int} (h : ErrAt w b p c) : ErrAt w.drew b p c := h
theorem ET.drew {w : World} (h : ET w) : ET w.drew := h

theorem as_place (b : Nat) (t : Addr) (old : Value) (w : World) (hE : ET w) (ht0 : w.cell? t = some old) (hf0 : w.frozen? t = false) :
    Calls Tryz.prog 47 #[ev b, .iface 100 (.pointer (some t))] w fun e w' =>
      e = .returned (.bool true) ∧ w'.cell? t = some (.pointer (some ⟨b, 0, none⟩)) ∧ Below t.block w w' ∧ w.heap.size ≤ w'.heap.size := by
  refine (as_P b t old w hE ht0 hf0).mono ?_
  rintro e w' ⟨rfl, W, hb, rfl⟩
  exact ⟨rfl, set_post hb ht0⟩

end Go.Proofs.YtlmjmhpdpgeplaaGreatDoor
/- Contract of wire.Uint: it reads as the plain function does; only a fault makes memory. -/
namespace Go.Proofs.YtlmjmhpdpgeplaaGreatDoor
open Go.RowKit Go.Lib

set_option maxHeartbeats 1600000 in
set_option maxRecDepth 100000 in
theorem uint_row (b off cap : Nat) (l : List UInt8) (w : World) (hl : l.length ≤ maxLen) (hc : ∀ i, i < l.length → w.cell? ⟨b, off + i, none⟩ = some (.int .u8 ((l.getD i 0).toNat : Int))) :
    Calls Tryz.prog 45 #[.slice (some ⟨b, off, none⟩) l.length cap] w fun e w' =>
      UPost 98 67 102 (decU l) w e w' := by
  unfold maxLen at hl
  go_enter Tryz.func45, Tryz.ntmps45
  go_wp2
  go_loop [5, 10] (fun n i => ∃ (k acc : Nat), k ≤ l.length ∧ k ≤ 9 ∧ acc < 2 ^ (7 * k) ∧ i = .int .i64 k ∧ n = .int .u64 acc ∧ decU l = decFrom k acc (l.drop k)) (fun _ i => l.length - (intOf i).toNat)
  case atStart => exact ⟨0, 0, by omega, by omega, by simp, rfl, rfl, rfl⟩
  case round =>
    obtain ⟨k, acc, hk, hk9, hacc, rfl, rfl, hdec⟩ := hrel
    by_cases hlt : k < l.length
    · have hcx := hc k hlt
      rw [drop_at l k hlt] at hdec
      generalize l.getD k 0 = c at *
      have hc256 : (c.toNat : Int) < 256 := by have := c.toNat_lt; omega
      have han := andNot128' c
      have HD : Hid (decU l = decFrom k acc (c :: l.drop (k + 1))) := hdec
      clear hdec hc
      go_wp2_with (go_at_call 57; refine (fault_any 20 _ _).mono ?_; rintro e w' ⟨rfl, rfl⟩)
      · have h9 : (k : Int) = 9 := by assumption
        have h1 : (1 : Int) < (c.toNat : Int) ∨ (((c.toNat : Nat) : Int) == 0) = true := by assumption
        have hk : k = 9 := by omega
        subst hk
        go_ret3
        exact upost_form (c := 20) (k := 9) (by decide) (HD.out.trans (dec_form (by rcases h1 with h | h; · omega
                                                                                    · have := zero_of h; omega)))
      · have h9 : (k : Int) = 9 := by assumption
        have h1 : ((c.toNat : Nat) : Int) ≤ 1 ∧ (((c.toNat : Nat) : Int) == 0) = false := by assumption
        have hz := nonzero_of h1.2
        have hk : k = 9 := by omega
        subst hk
        go_ret3
        exact upost_done (k := 9) (HD.out.trans (dec_done (by omega) (by omega))) (or_walk9 (by omega) hacc)
      · have h9 : (k : Int) = 9 := by assumption
        have hk : k = 9 := by omega
        subst hk
        go_ret3
        exact upost_form (c := 20) (k := 9) (by decide) (HD.out.trans (dec_form (by omega)))
      · have hz := zero_of (c := c) (by assumption)
        go_ret3
        exact upost_form (c := 20) (by decide) (HD.out.trans (dec_form (by omega)))
      · have hz := nonzero_of (c := c) (by assumption)
        go_ret3
        exact upost_done (HD.out.trans (dec_done (by omega) (by omega))) (or_walk hk9 (by omega) hacc)
      · have hz := nonzero_of (c := c) (by assumption)
        have hor := or_walk hk9 (c := c) (by omega) hacc
        have hal := acc_lt (d := c.toNat % 128) (by omega) hacc
        go_round
        case rel => exact ⟨k + 1, _, by omega, by omega, hal, by go_num, congrArg (Value.int .u64) hor, HD.out.trans (dec_more (by omega) (by omega))⟩
        case measure => simp [intOf]; omega
      · go_ret3
        exact upost_done (HD.out.trans (dec_done (by omega) (by omega))) (or_walk hk9 (by omega) hacc)
      · have hor := or_walk hk9 (c := c) (by omega) hacc
        have hal := acc_lt (d := c.toNat % 128) (by omega) hacc
        go_round
        case rel => exact ⟨k + 1, _, by omega, by omega, hal, by go_num, congrArg (Value.int .u64) hor, HD.out.trans (dec_more (by omega) (by omega))⟩
        case measure => simp [intOf]; omega
    · have hd : decU l = (0, 0, 22, l.length) := by
        rw [hdec, List.drop_eq_nil_of_le (by omega)]; simp [decFrom]; omega
      have HD : Hid (decU l = (0, 0, 22, l.length)) := hd; clear hd hdec
      go_wp2_with (go_at_call 57; refine (fault_any 22 _ _).mono ?_; rintro e w' ⟨rfl, rfl⟩)
      go_ret3
      exact upost_form (by decide) HD.out
end Go.Proofs.YtlmjmhpdpgeplaaGreatDoor
