/- Contracts of the document's own writers of numbers and texts (the statements' reference), and of wire.PutText. -/
import Derived.Test.YtahcfanmfocljaaDoorVals2
import Derived.Test.YtahcfanmfocljaaDoorKnown
namespace Go.Proofs.YtahcfanmfocljaaDoor
open Go.RowKit Go.Lib

theorem cells_more' (done : List UInt8) (y : Nat) :
    byteCells done ++ [Value.int IntKind.u8 ((y : Int) % 128 + 128)] = byteCells (done ++ [(y % 128 + 128).toUInt8]) := by
  rw [byteCells_snoc done (by omega)]
  have e : ((y : Int) % 128 + 128) = ((y % 128 + 128 : Nat) : Int) := by omega
  rw [e]
theorem cells_last' (done : List UInt8) (y : Nat) (h : y < 128) :
    byteCells done ++ [Value.int IntKind.u8 (y : Int)] = byteCells (done ++ [y.toUInt8]) := by
  rw [byteCells_snoc done (by omega)]

set_option maxHeartbeats 1600000 in
set_option maxRecDepth 100000 in
theorem refPutUint_any (x : Nat) (w : World) (hx : x < 18446744073709551616) :
    Calls Tryd.prog 14 #[.int .u64 x] w fun e w' =>
      ∃ v', e = .returned v' ∧ w'.ownsRow w.heap.size 5 1 v' (uvarint x).length (byteCells (uvarint x)) ∧ Below w.heap.size w w' := by
  obtain ⟨i0, hi, hz0, hz1, hz2⟩ := info_parts Tryd.infoB
  go_enter Tryd.func14, Tryd.ntmps14
  go_wp2
  go_loopw [0, 3] (fun n v wr => ∃ (y : Nat) (done : List UInt8), y ≤ x ∧ n = .int .u64 y ∧ done ++ uvarint y = uvarint x ∧ wr.ownsRow w.heap.size 5 1 v done.length (byteCells done) ∧ Below w.heap.size w wr)
    (fun n _ _ => (intOf n).toNat)
  case atStart => exact ⟨x, [], Nat.le_refl _, rfl, rfl, World.ownsRow_nil _ _ _ _, Below.refl _ _⟩
  case round =>
    obtain ⟨y, done, hy, rfl, hd, hown, hnx⟩ := hrel
    have hdn := uv_done hx hd
    have hsz := hnx.size
    by_cases hge : 128 ≤ y
    · go_wp2_with (first | (at_builtin; refine wpList_append_own _ rfl (.tmp 6) (.tmp 11) 23 rfl w.heap.size 5 i0 (.int .u8 0) 1 1 Tryd.underlying23 hi hz0 hz1 hz2 rfl (by decide) _ _ _ rfl (hown.alloc _) ⟨wr.heap.size, 0, none⟩ 1 1 [_] rfl rfl (one_new _ _ _) one_cell (by unfold maxLen; omega) (by omega) (by simp; omega) ?_))
      intro v' w1 hown1 hgrow _
      rw [cells_more'] at hown1
      have hb1 := (hnx.alloc (by omega) (.cells #[.int .u8 ((y : Int) % 128 + 128)] 5)).grown hgrow (by simp; omega) (own_block_ge hown)
      have HU : Hid ((done ++ [(y % 128 + 128).toUInt8]) ++ uvarint (y / 128) = uvarint x) := uv_more hge hd
      clear hd hown hgrow hnx
      go_wp2
      go_roundw
      case rel => exact ⟨y / 128, done ++ [(y % 128 + 128).toUInt8], by omega, by go_num, HU.out, by simpa using hown1, hb1⟩
      case measure => simp [intOf]; omega
    · go_wp2_with (first | (at_builtin; refine wpList_append_own _ rfl (.tmp 15) (.tmp 18) 23 rfl w.heap.size 5 i0 (.int .u8 0) 1 1 Tryd.underlying23 hi hz0 hz1 hz2 rfl (by decide) _ _ _ rfl (hown.alloc _) ⟨wr.heap.size, 0, none⟩ 1 1 [_] rfl rfl (one_new _ _ _) one_cell (by unfold maxLen; omega) (by omega) (by simp; omega) ?_))
      intro v' w1 hown1 hgrow _
      rw [cells_last' _ _ (Nat.lt_of_not_le hge)] at hown1
      have hb1 := (hnx.alloc (by omega) (.cells #[.int .u8 (y : Int)] 5)).grown hgrow (by simp; omega) (own_block_ge hown)
      have HU : Hid (done ++ [y.toUInt8] = uvarint x) := uv_last (by omega) hd
      clear hd hown hgrow hnx
      go_wp2
      go_ret
      refine ⟨v', rfl, ?_, hb1⟩
      rw [← HU.out]; simpa using hown1

theorem refPutInt_any (n : Int) (w : World) (h0 : -9223372036854775808 ≤ n) (h1 : n < 9223372036854775808) :
    Calls Tryd.prog 15 #[.int .i64 n] w fun e w' =>
      ∃ v', e = .returned v' ∧ w'.ownsRow w.heap.size 5 1 v' (uvarint (zigzag n)).length (byteCells (uvarint (zigzag n))) ∧ Below w.heap.size w w' := by
  have hz := zigzag_lt h0 (by omega : n ≤ 9223372036854775807)
  have HP := hide (fun w => refPutUint_any (zigzag n) w hz)
  by_cases hn : n < 0
  · have e : 2 * -(n + 1) + 1 = ((zigzag n : Nat) : Int) := by unfold zigzag; rw [if_neg (by omega)]; omega
    have HE := hide e
    clear e
    go_enter Tryd.func15, Tryd.ntmps15
    go_wp2_with (first | (go_at_call 14; rw [unhide HE]; refine (unhide HP _).mono ?_; rintro e w' ⟨v', rfl, hown, hb⟩))
    go_ret
    exact ⟨v', rfl, hown, hb⟩
  · have e : 2 * n = ((zigzag n : Nat) : Int) := by unfold zigzag; rw [if_pos (by omega)]; omega
    have HE := hide e
    clear e
    go_enter Tryd.func15, Tryd.ntmps15
    go_wp2_with (first | (go_at_call 14; rw [unhide HE]; refine (unhide HP _).mono ?_; rintro e w' ⟨v', rfl, hown, hb⟩))
    go_ret
    exact ⟨v', rfl, hown, hb⟩

/-- The bytes of a text. -/
def textBytes (t : ByteArray) : List UInt8 := uvarint t.size ++ t.data.toList
theorem textBytes_length (t : ByteArray) : (textBytes t).length = (uvarint t.size).length + t.size := by rw [textBytes, List.length_append, bytes_length]

set_option maxHeartbeats 1600000 in
theorem putText_any (t : ByteArray) (w : World) (ht : t.size ≤ 1000000000) :
    Calls Tryd.prog 12 #[.string t] w fun e w' =>
      ∃ v', e = .returned v' ∧ w'.ownsRow w.heap.size 5 1 v' (textBytes t).length (byteCells (textBytes t)) ∧ Below w.heap.size w w' := by
  obtain ⟨i0, hi, hz0, hz1, hz2⟩ := info_parts Tryd.infoB
  have hu := uvarint_length64 (x := t.size) (by omega)
  have HP := hide (putUint_any t.size w (by omega))
  go_enter Tryd.func12, Tryd.ntmps12
  go_wp2_with (first | (go_at_call 10; refine (unhide HP).mono ?_; rintro e w1 ⟨v1, rfl, ho1, hb1⟩; have hs1 := hb1.size) | (at_builtin; refine wpList_append_own_string _ rfl (.tmp 6) (.tmp 7) 23 9 rfl w.heap.size 5 i0 Tryd.underlying23 Tryd.underlying9 hi hz0 hz1 hz2 _ _ _ rfl ho1 t rfl (by unfold maxLen; omega) (by omega) (by omega) ?_))
  intro v' w2 ho2 hg2 _
  have hb2 := hb1.grown hg2 hs1 (own_block_ge ho1)
  have HO := hide ho2
  clear ho2 hg2 ho1
  go_wp2
  go_ret
  refine ⟨v', rfl, ?_, hb2⟩
  rw [textBytes_length, textBytes, byteCells_append]; exact unhide HO

set_option maxHeartbeats 1600000 in
theorem refPutText_any (t : ByteArray) (w : World) (ht : t.size ≤ 1000000000) :
    Calls Tryd.prog 16 #[.string t] w fun e w' =>
      ∃ v', e = .returned v' ∧ w'.ownsRow w.heap.size 5 1 v' (textBytes t).length (byteCells (textBytes t)) ∧ Below w.heap.size w w' := by
  obtain ⟨i0, hi, hz0, hz1, hz2⟩ := info_parts Tryd.infoB
  have hu := uvarint_length64 (x := t.size) (by omega)
  have HP := hide (refPutUint_any t.size w (by omega))
  go_enter Tryd.func16, Tryd.ntmps16
  go_wp2_with (first | (go_at_call 14; refine (unhide HP).mono ?_; rintro e w1 ⟨v1, rfl, ho1, hb1⟩; have hs1 := hb1.size) | (at_builtin; refine wpList_append_own_string _ rfl (.tmp 6) (.tmp 7) 23 9 rfl w.heap.size 5 i0 Tryd.underlying23 Tryd.underlying9 hi hz0 hz1 hz2 _ _ _ rfl ho1 t rfl (by unfold maxLen; omega) (by omega) (by omega) ?_))
  intro v' w2 ho2 hg2 _
  have hb2 := hb1.grown hg2 hs1 (own_block_ge ho1)
  have HO := hide ho2
  clear ho2 hg2 ho1
  go_wp2
  go_ret
  refine ⟨v', rfl, ?_, hb2⟩
  rw [textBytes_length, textBytes, byteCells_append]; exact unhide HO

/-- consistoryhelp.Bytes at the same bytes. -/
theorem bytes_same (v v' : Value) (B B' : Nat) (l : List UInt8) (w : World) (h : RBp w B v l) (h' : RBp w B' v' l) :
    Calls Tryd.prog 13 #[v, v'] w fun e w' => e = .returned (.bool true) ∧ w' = w := by
  have c1 := conv_any v B l w h
  have c2 := conv_any v' B' l w h'
  clear h h'
  go_enter Tryd.func13, Tryd.ntmps13
  go_wp2
  go_ret
  exact ⟨rfl, rfl⟩
end Go.Proofs.YtahcfanmfocljaaDoor
