/- Contracts of package wire's writers of numbers: what they append. -/
import Derived.Test.YtmahkhpmaenkhaaDoorProg
import Derived.Test.YtmahkhpmaenkhaaDoorJPlainHand
import Derived.Test.YtmahkhpmaenkhaaDoorJDecLenMath
namespace Go.Proofs.YtmahkhpmaenkhaaDoor
open Go.RowKit Go.Lib

theorem Tryd.infoB : (Tryd.prog.info? 5).map (fun i => (i.zero, i.size, i.bytes)) = some (some (.int .u8 0), 1, 1) := by kernel_rfl

set_option maxHeartbeats 1600000 in
set_option maxRecDepth 100000 in
theorem appendUint_any (B m x : Nat) (v : Value) (xs : List Value) (w : World) (hx : x < 18446744073709551616) (hm : m ≤ 1000000000) (hB : B ≤ w.heap.size)
    (hown : w.ownsRow B 5 1 v m xs) :
    Calls Tryd.prog 41 #[v, .int .u64 x] w fun e w' =>
      ∃ v', e = .returned v' ∧ w'.ownsRow B 5 1 v' (m + (uvarint x).length) (xs ++ byteCells (uvarint x)) ∧ Below B w w' ∧ KeepT 5 w w' := by
  obtain ⟨i0, hi, hz0, hz1, hz2⟩ := info_parts Tryd.infoB
  go_enter Tryd.func41, Tryd.ntmps41
  go_wp2
  go_loopw [0, 1] (fun v n wr => ∃ (y : Nat) (done : List UInt8), y ≤ x ∧ n = .int .u64 y ∧ done ++ uvarint y = uvarint x ∧ wr.ownsRow B 5 1 v (m + done.length) (xs ++ byteCells done) ∧ Below B w wr ∧ KeepT 5 w wr)
    (fun _ n _ => (intOf n).toNat)
  case atStart => exact ⟨x, [], Nat.le_refl _, rfl, rfl, by simpa [byteCells] using hown, Below.refl _ _, KeepT.refl _ _⟩
  case round =>
    obtain ⟨y, done, hy, rfl, hd, hown, hnx, hkt⟩ := hrel
    have hdn := uv_done hx hd
    have hsz := hnx.size
    by_cases hge : 128 ≤ y
    · go_wp2_with (first | (at_builtin; refine wpList_append_own _ rfl (.tmp 9) (.tmp 13) 27 rfl B 5 i0 (.int .u8 0) 1 1 Tryd.underlying27 hi hz0 hz1 hz2 rfl (by decide) _ _ _ rfl (hown.alloc _) ⟨wr.heap.size, 0, none⟩ 1 1 [_] rfl rfl (one_new _ _ _) one_cell (by unfold maxLen; omega) (by omega) (by simp; omega) ?_))
      intro v' w1 hown1 hgrow _
      rw [cells_more] at hown1
      have hb1 := (hnx.alloc (by omega) (.cells #[.int .u8 (bits BinOp.or IntKind.u8 ((y : Int) % 256) 128)] 5)).grown hgrow (by simp; omega) (own_block_ge hown)
      have hk1 := hkt.trans ((KeepT.of_alloc wr (.cells #[.int .u8 (bits BinOp.or IntKind.u8 ((y : Int) % 256) 128)] 5)).trans (KeepT.of_grown (hown.alloc _) hgrow))
      have HU : Hid ((done ++ [(y % 128 + 128).toUInt8]) ++ uvarint (y / 128) = uvarint x) := uv_more hge hd
      clear hd hown hgrow hnx hkt
      go_wp2
      go_roundw
      case rel => exact ⟨y / 128, done ++ [(y % 128 + 128).toUInt8], by omega, by go_num, HU.out, by simpa [Nat.add_assoc] using hown1, hb1, hk1⟩
      case measure => simp [intOf]; omega
    · go_wp2_with (first | (at_builtin; refine wpList_append_own _ rfl (.tmp 15) (.tmp 18) 27 rfl B 5 i0 (.int .u8 0) 1 1 Tryd.underlying27 hi hz0 hz1 hz2 rfl (by decide) _ _ _ rfl (hown.alloc _) ⟨wr.heap.size, 0, none⟩ 1 1 [_] rfl rfl (one_new _ _ _) one_cell (by unfold maxLen; omega) (by omega) (by simp; omega) ?_))
      intro v' w1 hown1 hgrow _
      rw [cells_last _ _ _ (Nat.lt_of_not_le hge)] at hown1
      have hb1 := (hnx.alloc (by omega) (.cells #[.int .u8 (y : Int)] 5)).grown hgrow (by simp; omega) (own_block_ge hown)
      have hk1 := hkt.trans ((KeepT.of_alloc wr (.cells #[.int .u8 (y : Int)] 5)).trans (KeepT.of_grown (hown.alloc _) hgrow))
      have HU : Hid (done ++ [y.toUInt8] = uvarint x) := uv_last (by omega) hd
      clear hd hown hgrow hnx hkt
      go_wp2
      go_ret
      refine ⟨v', rfl, ?_, hb1, hk1⟩
      rw [← HU.out]; simpa [Nat.add_assoc] using hown1

theorem putUint_any (x : Nat) (w : World) (hx : x < 18446744073709551616) :
    Calls Tryd.prog 23 #[.int .u64 x] w fun e w' =>
      ∃ v', e = .returned v' ∧ w'.ownsRow w.heap.size 5 1 v' (uvarint x).length (byteCells (uvarint x)) ∧ Below w.heap.size w w' := by
  go_enter Tryd.func23, Tryd.ntmps23
  go_wp2_with (go_at_call 41; refine (appendUint_any w.heap.size 0 x _ [] _ hx (by omega) (Nat.le_refl _) (World.ownsRow_nil _ _ _ _)).mono ?_; rintro e w' ⟨v', rfl, hown, hb, _⟩)
  go_ret
  exact ⟨v', rfl, by simpa using hown, hb⟩

theorem fault_any (c p : Int) (w : World) :
    Calls Tryd.prog 57 #[.int .i64 c, .int .i64 p] w fun e w' =>
      e = .returned (.iface 95 (.pointer (some ⟨w.heap.size, 0, none⟩))) ∧ w' = w.alloc (.cells #[.int .i64 p, .iface 60 (.int .i64 c)] 98) := by
  go_enter Tryd.func57, Tryd.ntmps57
  go_wp2
  go_ret
  exact ⟨rfl, rfl⟩

end Go.Proofs.YtmahkhpmaenkhaaDoor
/- Contract of wire.Uint: it reads as the plain function does; only a fault makes memory. -/
namespace Go.Proofs.YtmahkhpmaenkhaaDoor
open Go.RowKit Go.Lib

set_option maxHeartbeats 1600000 in
set_option maxRecDepth 100000 in
theorem uint_row (b off cap : Nat) (l : List UInt8) (w : World) (hl : l.length ≤ maxLen) (hc : ∀ i, i < l.length → w.cell? ⟨b, off + i, none⟩ = some (.int .u8 ((l.getD i 0).toNat : Int))) :
    Calls Tryd.prog 42 #[.slice (some ⟨b, off, none⟩) l.length cap] w fun e w' =>
      UPost 95 60 98 (decU l) w e w' := by
  unfold maxLen at hl
  go_enter Tryd.func42, Tryd.ntmps42
  go_wp2
  go_loop [5, 10] (fun n i => ∃ (k acc : Nat), k ≤ l.length ∧ k ≤ 9 ∧ acc < 2 ^ (7 * k) ∧ i = .int .i64 k ∧ n = .int .u64 acc ∧ decU l = decFrom k acc (l.drop k)) (fun _ i => l.length - (intOf i).toNat)
  case atStart => exact ⟨0, 0, by omega, by omega, by simp, rfl, rfl, rfl⟩
  case round =>
    obtain ⟨k, acc, hk, hk9, hacc, rfl, rfl, hdec⟩ := hrel
    by_cases hlt : k < l.length
    · have hcx := hc k hlt
      rw [drop_at l k hlt] at hdec
      generalize l.getD k 0 = c at *
      have hc256 : (c.toNat : Int) < 256 := by have := c.toNat_lt; omega
      have han := andNot128' c
      have HD : Hid (decU l = decFrom k acc (c :: l.drop (k + 1))) := hdec
      clear hdec hc
      go_wp2_with (go_at_call 57; refine (fault_any 20 _ _).mono ?_; rintro e w' ⟨rfl, rfl⟩)
      · have h9 : (k : Int) = 9 := by assumption
        have h1 : (1 : Int) < (c.toNat : Int) ∨ (((c.toNat : Nat) : Int) == 0) = true := by assumption
        have hk : k = 9 := by omega
        subst hk
        go_ret3
        exact upost_form (c := 20) (k := 9) (by decide) (HD.out.trans (dec_form (by rcases h1 with h | h; · omega
                                                                                    · have := zero_of h; omega)))
      · have h9 : (k : Int) = 9 := by assumption
        have h1 : ((c.toNat : Nat) : Int) ≤ 1 ∧ (((c.toNat : Nat) : Int) == 0) = false := by assumption
        have hz := nonzero_of h1.2
        have hk : k = 9 := by omega
        subst hk
        go_ret3
        exact upost_done (k := 9) (HD.out.trans (dec_done (by omega) (by omega))) (or_walk9 (by omega) hacc)
      · have h9 : (k : Int) = 9 := by assumption
        have hk : k = 9 := by omega
        subst hk
        go_ret3
        exact upost_form (c := 20) (k := 9) (by decide) (HD.out.trans (dec_form (by omega)))
      · have hz := zero_of (c := c) (by assumption)
        go_ret3
        exact upost_form (c := 20) (by decide) (HD.out.trans (dec_form (by omega)))
      · have hz := nonzero_of (c := c) (by assumption)
        go_ret3
        exact upost_done (HD.out.trans (dec_done (by omega) (by omega))) (or_walk hk9 (by omega) hacc)
      · have hz := nonzero_of (c := c) (by assumption)
        have hor := or_walk hk9 (c := c) (by omega) hacc
        have hal := acc_lt (d := c.toNat % 128) (by omega) hacc
        go_round
        case rel => exact ⟨k + 1, _, by omega, by omega, hal, by go_num, congrArg (Value.int .u64) hor, HD.out.trans (dec_more (by omega) (by omega))⟩
        case measure => simp [intOf]; omega
      · go_ret3
        exact upost_done (HD.out.trans (dec_done (by omega) (by omega))) (or_walk hk9 (by omega) hacc)
      · have hor := or_walk hk9 (c := c) (by omega) hacc
        have hal := acc_lt (d := c.toNat % 128) (by omega) hacc
        go_round
        case rel => exact ⟨k + 1, _, by omega, by omega, hal, by go_num, congrArg (Value.int .u64) hor, HD.out.trans (dec_more (by omega) (by omega))⟩
        case measure => simp [intOf]; omega
    · have hd : decU l = (0, 0, 22, l.length) := by
        rw [hdec, List.drop_eq_nil_of_le (by omega)]; simp [decFrom]; omega
      have HD : Hid (decU l = (0, 0, 22, l.length)) := hd; clear hd hdec
      go_wp2_with (go_at_call 57; refine (fault_any 22 _ _).mono ?_; rintro e w' ⟨rfl, rfl⟩)
      go_ret3
      exact upost_form (by decide) HD.out
end Go.Proofs.YtmahkhpmaenkhaaDoor
