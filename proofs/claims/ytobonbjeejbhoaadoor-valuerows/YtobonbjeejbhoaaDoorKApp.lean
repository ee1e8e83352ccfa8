/- Contracts of value.appendInt, appendKey. -/
import Derived.Test.YtobonbjeejbhoaaDoorNums
import Derived.Test.YtobonbjeejbhoaaDoorKMath
import Derived.Lib.AppendStr
namespace Go.Proofs.YtobonbjeejbhoaaDoor
open Go.RowKit Go.Lib

theorem u8_of {n : Nat} (h : n < 256) : ((n.toUInt8.toNat : Nat) : Int) = (n : Int) := by rw [toUInt8_lt h]
theorem be8_cells {L : Nat} (h : L < 18446744073709551616) : byteCells (beN 8 L) = [.int .u8 ((L : Int) / 72057594037927936), .int .u8 ((L : Int) / 281474976710656 % 256), .int .u8 ((L : Int) / 1099511627776 % 256), .int .u8 ((L : Int) / 4294967296 % 256), .int .u8 ((L : Int) / 16777216 % 256), .int .u8 ((L : Int) / 65536 % 256), .int .u8 ((L : Int) / 256 % 256), .int .u8 ((L : Int) % 256)] := by
  simp only [beN, byteCells, List.map_cons, List.map_nil]
  have e0 : (L / 256 ^ 7) < 256 := by simp only [Nat.reducePow]; omega
  have e1 : (L % 256 ^ 7 / 256 ^ 6) < 256 := by simp only [Nat.reducePow]; omega
  have e2 : (L % 256 ^ 7 % 256 ^ 6 / 256 ^ 5) < 256 := by simp only [Nat.reducePow]; omega
  have e3 : (L % 256 ^ 7 % 256 ^ 6 % 256 ^ 5 / 256 ^ 4) < 256 := by simp only [Nat.reducePow]; omega
  have e4 : (L % 256 ^ 7 % 256 ^ 6 % 256 ^ 5 % 256 ^ 4 / 256 ^ 3) < 256 := by simp only [Nat.reducePow]; omega
  have e5 : (L % 256 ^ 7 % 256 ^ 6 % 256 ^ 5 % 256 ^ 4 % 256 ^ 3 / 256 ^ 2) < 256 := by simp only [Nat.reducePow]; omega
  have e6 : (L % 256 ^ 7 % 256 ^ 6 % 256 ^ 5 % 256 ^ 4 % 256 ^ 3 % 256 ^ 2 / 256 ^ 1) < 256 := by simp only [Nat.reducePow]; omega
  have e7 : (L % 256 ^ 7 % 256 ^ 6 % 256 ^ 5 % 256 ^ 4 % 256 ^ 3 % 256 ^ 2 % 256 ^ 1 / 256 ^ 0) < 256 := by simp only [Nat.reducePow]; omega
  rw [u8_of e0, u8_of e1, u8_of e2, u8_of e3, u8_of e4, u8_of e5, u8_of e6, u8_of e7]
  simp only [Nat.reducePow]
  have f0 : ((L / 72057594037927936 : Nat) : Int) = (L : Int) / 72057594037927936 := by omega
  have f1 : ((L % 72057594037927936 / 281474976710656 : Nat) : Int) = (L : Int) / 281474976710656 % 256 := by omega
  have f2 : ((L % 72057594037927936 % 281474976710656 / 1099511627776 : Nat) : Int) = (L : Int) / 1099511627776 % 256 := by omega
  have f3 : ((L % 72057594037927936 % 281474976710656 % 1099511627776 / 4294967296 : Nat) : Int) = (L : Int) / 4294967296 % 256 := by omega
  have f4 : ((L % 72057594037927936 % 281474976710656 % 1099511627776 % 4294967296 / 16777216 : Nat) : Int) = (L : Int) / 16777216 % 256 := by omega
  have f5 : ((L % 72057594037927936 % 281474976710656 % 1099511627776 % 4294967296 % 16777216 / 65536 : Nat) : Int) = (L : Int) / 65536 % 256 := by omega
  have f6 : ((L % 72057594037927936 % 281474976710656 % 1099511627776 % 4294967296 % 16777216 % 65536 / 256 : Nat) : Int) = (L : Int) / 256 % 256 := by omega
  have f7 : ((L % 72057594037927936 % 281474976710656 % 1099511627776 % 4294967296 % 16777216 % 65536 % 256 / 1 : Nat) : Int) = (L : Int) % 256 := by omega
  rw [f0, f1, f2, f3, f4, f5, f6, f7]

set_option maxHeartbeats 3200000 in
set_option maxRecDepth 100000 in
theorem appendInt_any (B m : Nat) (n : Int) (v : Value) (xs : List Value) (w : World) (hn : -9223372036854775808 ≤ n ∧ n < 9223372036854775808) (hm : m ≤ 1000000000) (hB : B ≤ w.heap.size)
    (hown : w.ownsRow B 5 1 v m xs) :
    Calls Tryd.prog 36 #[v, .int .i64 n] w fun e w' =>
      ∃ v', e = .returned v' ∧ w'.ownsRow B 5 1 v' (m + 8) (xs ++ byteCells (beN 8 (n + 9223372036854775808).toNat)) ∧ Below B w w' := by
  obtain ⟨i0, hi, hz0, hz1, hz2⟩ := info_parts Tryd.infoB
  obtain ⟨L, hL⟩ : ∃ L : Nat, n + 9223372036854775808 = (L : Int) := ⟨(n + 9223372036854775808).toNat, by omega⟩
  have hLb : L < 18446744073709551616 := by omega
  have hw1 : IntKind.u64.wrap (IntKind.u64.wrap n + 9223372036854775808) = (L : Int) := by rw [IntKind.wrap_u64, IntKind.wrap_u64]; omega
  rw [hL, Int.toNat_natCast]
  have HC := hide (be8_cells hLb)
  have hLi : (L : Int) < 18446744073709551616 := by omega
  clear hn hL
  go_enter Tryd.func36, Tryd.ntmps36
  go_wp2
  refine wp_loop_rounds 9 ?_
  rw [rounds_succ]
  go_wp2_with (first | (at_builtin; refine wpList_append_own _ rfl (.tmp 14) (.tmp 19) 23 rfl B 5 i0 (.int .u8 0) 1 1 Tryd.underlying23 hi hz0 hz1 hz2 rfl (by decide) _ _ _ rfl (hown.alloc _) ⟨w.heap.size, 0, none⟩ 1 1 [_] rfl rfl (one_new _ _ _) one_cell (by unfold maxLen; omega) (by omega) (by simp; omega) ?_))
  intro v1 w1 hown1 hg _
  have hb1 : Below B w w1 := ((Below.refl B w).alloc hB _).grown hg (by simp; omega) (own_block_ge hown)
  clear hg hown
  go_wp2
  rw [rounds_succ]
  go_wp2_with (first | (at_builtin; refine wpList_append_own _ rfl (.tmp 14) (.tmp 19) 23 rfl B 5 i0 (.int .u8 0) 1 1 Tryd.underlying23 hi hz0 hz1 hz2 rfl (by decide) _ _ _ rfl (hown1.alloc _) ⟨w1.heap.size, 0, none⟩ 1 1 [_] rfl rfl (one_new _ _ _) one_cell (by unfold maxLen; omega) (by have := hb1.size; omega) (by have := hb1.size; simp; omega) ?_))
  intro v2 w2 hown2 hg _
  have hb2 : Below B w w2 := (hb1.alloc (by have := hb1.size; omega) _).grown hg (by have := hb1.size; simp; omega) (own_block_ge hown1)
  clear hg hown1 hb1
  go_wp2
  rw [rounds_succ]
  go_wp2_with (first | (at_builtin; refine wpList_append_own _ rfl (.tmp 14) (.tmp 19) 23 rfl B 5 i0 (.int .u8 0) 1 1 Tryd.underlying23 hi hz0 hz1 hz2 rfl (by decide) _ _ _ rfl (hown2.alloc _) ⟨w2.heap.size, 0, none⟩ 1 1 [_] rfl rfl (one_new _ _ _) one_cell (by unfold maxLen; omega) (by have := hb2.size; omega) (by have := hb2.size; simp; omega) ?_))
  intro v3 w3 hown3 hg _
  have hb3 : Below B w w3 := (hb2.alloc (by have := hb2.size; omega) _).grown hg (by have := hb2.size; simp; omega) (own_block_ge hown2)
  clear hg hown2 hb2
  go_wp2
  rw [rounds_succ]
  go_wp2_with (first | (at_builtin; refine wpList_append_own _ rfl (.tmp 14) (.tmp 19) 23 rfl B 5 i0 (.int .u8 0) 1 1 Tryd.underlying23 hi hz0 hz1 hz2 rfl (by decide) _ _ _ rfl (hown3.alloc _) ⟨w3.heap.size, 0, none⟩ 1 1 [_] rfl rfl (one_new _ _ _) one_cell (by unfold maxLen; omega) (by have := hb3.size; omega) (by have := hb3.size; simp; omega) ?_))
  intro v4 w4 hown4 hg _
  have hb4 : Below B w w4 := (hb3.alloc (by have := hb3.size; omega) _).grown hg (by have := hb3.size; simp; omega) (own_block_ge hown3)
  clear hg hown3 hb3
  go_wp2
  rw [rounds_succ]
  go_wp2_with (first | (at_builtin; refine wpList_append_own _ rfl (.tmp 14) (.tmp 19) 23 rfl B 5 i0 (.int .u8 0) 1 1 Tryd.underlying23 hi hz0 hz1 hz2 rfl (by decide) _ _ _ rfl (hown4.alloc _) ⟨w4.heap.size, 0, none⟩ 1 1 [_] rfl rfl (one_new _ _ _) one_cell (by unfold maxLen; omega) (by have := hb4.size; omega) (by have := hb4.size; simp; omega) ?_))
  intro v5 w5 hown5 hg _
  have hb5 : Below B w w5 := (hb4.alloc (by have := hb4.size; omega) _).grown hg (by have := hb4.size; simp; omega) (own_block_ge hown4)
  clear hg hown4 hb4
  go_wp2
  rw [rounds_succ]
  go_wp2_with (first | (at_builtin; refine wpList_append_own _ rfl (.tmp 14) (.tmp 19) 23 rfl B 5 i0 (.int .u8 0) 1 1 Tryd.underlying23 hi hz0 hz1 hz2 rfl (by decide) _ _ _ rfl (hown5.alloc _) ⟨w5.heap.size, 0, none⟩ 1 1 [_] rfl rfl (one_new _ _ _) one_cell (by unfold maxLen; omega) (by have := hb5.size; omega) (by have := hb5.size; simp; omega) ?_))
  intro v6 w6 hown6 hg _
  have hb6 : Below B w w6 := (hb5.alloc (by have := hb5.size; omega) _).grown hg (by have := hb5.size; simp; omega) (own_block_ge hown5)
  clear hg hown5 hb5
  go_wp2
  rw [rounds_succ]
  go_wp2_with (first | (at_builtin; refine wpList_append_own _ rfl (.tmp 14) (.tmp 19) 23 rfl B 5 i0 (.int .u8 0) 1 1 Tryd.underlying23 hi hz0 hz1 hz2 rfl (by decide) _ _ _ rfl (hown6.alloc _) ⟨w6.heap.size, 0, none⟩ 1 1 [_] rfl rfl (one_new _ _ _) one_cell (by unfold maxLen; omega) (by have := hb6.size; omega) (by have := hb6.size; simp; omega) ?_))
  intro v7 w7 hown7 hg _
  have hb7 : Below B w w7 := (hb6.alloc (by have := hb6.size; omega) _).grown hg (by have := hb6.size; simp; omega) (own_block_ge hown6)
  clear hg hown6 hb6
  go_wp2
  rw [rounds_succ]
  go_wp2_with (first | (at_builtin; refine wpList_append_own _ rfl (.tmp 14) (.tmp 19) 23 rfl B 5 i0 (.int .u8 0) 1 1 Tryd.underlying23 hi hz0 hz1 hz2 rfl (by decide) _ _ _ rfl (hown7.alloc _) ⟨w7.heap.size, 0, none⟩ 1 1 [_] rfl rfl (one_new _ _ _) one_cell (by unfold maxLen; omega) (by have := hb7.size; omega) (by have := hb7.size; simp; omega) ?_))
  intro v8 w8 hown8 hg _
  have hb8 : Below B w w8 := (hb7.alloc (by have := hb7.size; omega) _).grown hg (by have := hb7.size; simp; omega) (own_block_ge hown7)
  clear hg hown7 hb7
  go_wp2
  rw [rounds_succ]
  go_wp2_with fail
  go_ret
  refine ⟨v8, rfl, ?_, hb8⟩
  rw [unhide HC]
  simpa [List.append_assoc, Nat.add_assoc] using hown8
end Go.Proofs.YtobonbjeejbhoaaDoor
