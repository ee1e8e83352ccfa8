/- Contract of wire.Sum: four bits at a time, by the table. -/
import Derived.Test.YtlmjmhpdpgeplaaGreatDoorJReaderUptoUpto2
import Derived.Lib.EndianBits
import Derived.Test.YtlmjmhpdpgeplaaGreatDoorJPutRowListOfRdMathEntryRdMath2
import Derived.Lib.SlBytesConst
import Derived.Test.YtlmjmhpdpgeplaaGreatDoorJWriterValsRead3TakeTextVRValVals2Vals3Rows2
namespace Go.Proofs.YtlmjmhpdpgeplaaGreatDoor
open Go.RowKit Go.Lib

def tabL : List Nat := [0, 498536548, 997073096, 651767980, 1994146192, 1802195444, 1303535960, 1342533948, 3988292384, 4027552580, 3604390888, 3412177804, 2607071920, 2262029012, 2685067896, 3183342108]
theorem tab_lt (i : Nat) : tabL.getD i 0 < 4294967296 := by
  rcases Nat.lt_or_ge i 16 with h | h
  · have : ∀ j : Fin 16, tabL.getD j.val 0 < 4294967296 := by decide
    exact this ⟨i, h⟩
  · rw [List.getD_eq_getElem?_getD, List.getElem?_eq_none (by simpa [tabL] using h)]; decide
theorem xor32 (a b : Nat) (ha : a < 4294967296) (hb : b < 4294967296) : bits BinOp.xor IntKind.u32 (a : Int) (b : Int) = ((a ^^^ b : Nat) : Int) := by
  have hx : a ^^^ b < 2 ^ 32 := Nat.xor_lt_two_pow (by omega) (by omega)
  have h1 : (BitVec.ofInt 32 (a : Int)).toNat = a := by
    rw [BitVec.ofInt_natCast, BitVec.toNat_ofNat]; exact Nat.mod_eq_of_lt (by omega)
  have h2 : (BitVec.ofInt 32 (b : Int)).toNat = b := by
    rw [BitVec.ofInt_natCast, BitVec.toNat_ofNat]; exact Nat.mod_eq_of_lt (by omega)
  show IntKind.u32.wrap ((BitVec.ofInt 32 (a : Int) ^^^ BitVec.ofInt 32 (b : Int)).toNat : Int) = _
  rw [BitVec.toNat_xor, h1, h2, IntKind.wrap_u32]
  omega
theorem and15 (a : Nat) (ha : a < 4294967296) : bits BinOp.and IntKind.u32 (a : Int) 15 = ((a % 16 : Nat) : Int) := by
  have h := bits_mask .u32 32 (by decide) wraps_u32 4 (by decide) (a : Int) (by omega) (by omega)
  have e : ((2 : Int) ^ 4 - 1) = 15 := by decide
  have e2 : ((2 : Int) ^ 4) = 16 := by decide
  rw [e, e2] at h
  rw [h]; omega
def step4 (s : Nat) : Nat := (s / 16) ^^^ tabL.getD (s % 16) 0
def byteStep (s : Nat) (c : UInt8) : Nat := step4 (step4 (s ^^^ c.toNat))
def crc (l : List UInt8) : Nat := 4294967295 - l.foldl byteStep 4294967295
theorem step4_lt {s : Nat} (h : s < 4294967296) : step4 s < 4294967296 := by
  unfold step4
  exact Nat.xor_lt_two_pow (n := 32) (by omega) (tab_lt _)
theorem xorc_lt {s : Nat} (h : s < 4294967296) (c : UInt8) : s ^^^ c.toNat < 4294967296 := Nat.xor_lt_two_pow (n := 32) h (by have := c.toNat_lt; omega)
theorem byteStep_lt {s : Nat} (h : s < 4294967296) (c : UInt8) : byteStep s c < 4294967296 := step4_lt (step4_lt (xorc_lt h c))
theorem crcs_lt (l : List UInt8) : ∀ s, s < 4294967296 → l.foldl byteStep s < 4294967296 := by
  induction l with
  | nil => intro s h; exact h
  | cons c r ih => intro s h; exact ih _ (byteStep_lt h c)

theorem xor_ones32 (b : Nat) (hb : b < 2 ^ 32) : (2 ^ 32 - 1) ^^^ b = 2 ^ 32 - 1 - b := by
  apply Nat.eq_of_testBit_eq
  intro i
  rw [Nat.testBit_xor, Nat.testBit_two_pow_sub_one, show 2 ^ 32 - 1 - b = 2 ^ 32 - (b + 1) by omega, Nat.testBit_two_pow_sub_succ hb]
  by_cases hi : i < 32
  · simp [hi]
  · have : b.testBit i = false := Nat.testBit_lt_two_pow (Nat.lt_of_lt_of_le hb (Nat.pow_le_pow_right (by decide) (by omega)))
    simp [hi, this]
theorem not32 (q : Nat) (hq : q < 4294967296) : bits BinOp.xor IntKind.u32 IntKind.u32.max (q : Int) = ((4294967295 - q : Nat) : Int) := by
  have e : IntKind.u32.max = ((4294967295 : Nat) : Int) := by decide
  rw [e, xor32 _ q (by decide) hq]
  congr 1
  exact xor_ones32 q hq

end Go.Proofs.YtlmjmhpdpgeplaaGreatDoor
/- Contract of the statements' own look, known: it answers true. -/
namespace Go.Proofs.YtlmjmhpdpgeplaaGreatDoor
open Go.RowKit Go.Lib

theorem row_known : (putVals [⟨2, 5, ⟨#[]⟩⟩, ⟨0, 0, ⟨#[]⟩⟩] (putLen 2 64 (some []))) = some [2, 2, 10, 0] := by
  have u0 : uvarint 0 = [0] := uvarint_small (by decide)
  have u2 : uvarint 2 = [2] := uvarint_small (by decide)
  have u10 : uvarint 10 = [10] := uvarint_small (by decide)
  have hz : zigzag 5 = 10 := by decide
  have m1 : GV.may ⟨2, 5, ⟨#[]⟩⟩ = true := by decide +kernel
  have m2 : GV.may ⟨0, 0, ⟨#[]⟩⟩ = true := by decide +kernel
  simp [putVals, putLen, putVal, m1, m2, GV.bytes, u0, u2, u10, hz]
theorem short_known : (rdRow [2] (.ok 0)).2 = .error 22 := by kernel_rfl
theorem crc_known : crc [49, 50, 51, 52, 53, 54, 55, 56, 57] = 3421780262 := by decide +kernel

theorem rb_own {w : World} {B : Nat} {v : Value} {l : List UInt8} (h : w.ownsRow B 5 1 v l.length (byteCells l)) (hl : l.length ≤ 1000000000000) : RBp w w.heap.size v l := by
  have hh := h
  obtain ⟨h1, ⟨h2, h2'⟩ | ⟨g, cap, cur, h3, h4, h5, h6, h7, h8, h9⟩⟩ := h
  · exact ⟨hl, .inl ⟨h2, List.eq_nil_of_length_eq_zero h2'⟩⟩
  · have hg : g < w.heap.size := by
      rcases Nat.lt_or_ge g w.heap.size with h' | h'
      · exact h'
      · rw [Array.getElem?_eq_none h'] at h5; cases h5
    refine ⟨hl, .inr ⟨g, 0, cap, hg, h6, h7, h3, fun i hi => ?_⟩⟩
    have e2 : (byteCells l)[i]? = some (.int .u8 ((l.getD i 0).toNat : Int)) := by
      simp [byteCells, hi]
    have := hh.cells (g := g) (by rw [h3]; rfl) i _ e2
    have e3 : (⟨g, 0, none⟩ : Addr).add i = ⟨g, 0 + i, none⟩ := by unfold Addr.add; split <;> simp_all
    rw [e3] at this; exact this
theorem rb_later {w w' : World} {B B' : Nat} {v : Value} {l : List UInt8} (h : RBp w B v l) (hb : Below B w w') (hB : B ≤ B') : RBp w' B' v l := by
  obtain ⟨h1, h2 | ⟨b, off, cap, hbB, hc, hm, rfl, hcell⟩⟩ := h
  · exact ⟨h1, .inl h2⟩
  · exact ⟨h1, .inr ⟨b, off, cap, by omega, hc, hm, rfl, fun i hi => (hb.cell (p := ⟨b, off + i, none⟩) hbB).trans (hcell i hi)⟩⟩

end Go.Proofs.YtlmjmhpdpgeplaaGreatDoor
/- Contracts of the document's own writers of numbers and texts (the statements' reference), and of wire.PutText. -/
namespace Go.Proofs.YtlmjmhpdpgeplaaGreatDoor
open Go.RowKit Go.Lib

theorem cells_more' (done : List UInt8) (y : Nat) :
    byteCells done ++ [Value.int IntKind.u8 ((y : Int) % 128 + 128)] = byteCells (done ++ [(y % 128 + 128).toUInt8]) := by
  rw [byteCells_snoc done (by omega)]
  have e : ((y : Int) % 128 + 128) = ((y % 128 + 128 : Nat) : Int) := by omega
  rw [e]
theorem cells_last' (done : List UInt8) (y : Nat) (h : y < 128) :
    byteCells done ++ [Value.int IntKind.u8 (y : Int)] = byteCells (done ++ [y.toUInt8]) := by
  rw [byteCells_snoc done (by omega)]

set_option maxHeartbeats 1600000 in
set_option maxRecDepth 100000 in
theorem refPutUint_any (x : Nat) (w : World) (hx : x < 18446744073709551616) :
    Calls Tryz.prog 28 #[.int .u64 x] w fun e w' =>
      ∃ v', e = .returned v' ∧ w'.ownsRow w.heap.size 5 1 v' (uvarint x).length (byteCells (uvarint x)) ∧ Below w.heap.size w w' := by
  obtain ⟨i0, hi, hz0, hz1, hz2⟩ := info_parts Tryz.infoB
  go_enter Tryz.func28, Tryz.ntmps28
  go_wp2
  go_loopw [0, 3] (fun n v wr => ∃ (y : Nat) (done : List UInt8), y ≤ x ∧ n = .int .u64 y ∧ done ++ uvarint y = uvarint x ∧ wr.ownsRow w.heap.size 5 1 v done.length (byteCells done) ∧ Below w.heap.size w wr)
    (fun n _ _ => (intOf n).toNat)
  case atStart => exact ⟨x, [], Nat.le_refl _, rfl, rfl, World.ownsRow_nil _ _ _ _, Below.refl _ _⟩
  case round =>
    obtain ⟨y, done, hy, rfl, hd, hown, hnx⟩ := hrel
    have hdn := uv_done hx hd
    have hsz := hnx.size
    by_cases hge : 128 ≤ y
    · go_wp2_with (first | (at_builtin; refine wpList_append_own _ rfl (.tmp 6) (.tmp 11) 30 rfl w.heap.size 5 i0 (.int .u8 0) 1 1 Tryz.underlying30 hi hz0 hz1 hz2 rfl (by decide) _ _ _ rfl (hown.alloc _) ⟨wr.heap.size, 0, none⟩ 1 1 [_] rfl rfl (one_new _ _ _) one_cell (by unfold maxLen; omega) (by omega) (by simp; omega) ?_))
      intro v' w1 hown1 hgrow _
      rw [cells_more'] at hown1
      have hb1 := (hnx.alloc (by omega) (.cells #[.int .u8 ((y : Int) % 128 + 128)] 5)).grown hgrow (by simp; omega) (own_block_ge hown)
      have HU : Hid ((done ++ [(y % 128 + 128).toUInt8]) ++ uvarint (y / 128) = uvarint x) := uv_more hge hd
      clear hd hown hgrow hnx
      go_wp2
      go_roundw
      case rel => exact ⟨y / 128, done ++ [(y % 128 + 128).toUInt8], by omega, by go_num, HU.out, by simpa using hown1, hb1⟩
      case measure => simp [intOf]; omega
    · go_wp2_with (first | (at_builtin; refine wpList_append_own _ rfl (.tmp 15) (.tmp 18) 30 rfl w.heap.size 5 i0 (.int .u8 0) 1 1 Tryz.underlying30 hi hz0 hz1 hz2 rfl (by decide) _ _ _ rfl (hown.alloc _) ⟨wr.heap.size, 0, none⟩ 1 1 [_] rfl rfl (one_new _ _ _) one_cell (by unfold maxLen; omega) (by omega) (by simp; omega) ?_))
      intro v' w1 hown1 hgrow _
      rw [cells_last' _ _ (Nat.lt_of_not_le hge)] at hown1
      have hb1 := (hnx.alloc (by omega) (.cells #[.int .u8 (y : Int)] 5)).grown hgrow (by simp; omega) (own_block_ge hown)
      have HU : Hid (done ++ [y.toUInt8] = uvarint x) := uv_last (by omega) hd
      clear hd hown hgrow hnx
      go_wp2
      go_ret
      refine ⟨v', rfl, ?_, hb1⟩
      rw [← HU.out]; simpa using hown1

/-- The bytes of a text. -/
def textBytes (t : ByteArray) : List UInt8 := uvarint t.size ++ t.data.toList
theorem textBytes_length (t : ByteArray) : (textBytes t).length = (uvarint t.size).length + t.size := by rw [textBytes, List.length_append, bytes_length]

set_option maxHeartbeats 1600000 in
theorem refPutText_any (t : ByteArray) (w : World) (ht : t.size ≤ 1000000000) :
    Calls Tryz.prog 29 #[.string t] w fun e w' =>
      ∃ v', e = .returned v' ∧ w'.ownsRow w.heap.size 5 1 v' (textBytes t).length (byteCells (textBytes t)) ∧ Below w.heap.size w w' := by
  obtain ⟨i0, hi, hz0, hz1, hz2⟩ := info_parts Tryz.infoB
  have hu := uvarint_length64 (x := t.size) (by omega)
  have HP := hide (refPutUint_any t.size w (by omega))
  go_enter Tryz.func29, Tryz.ntmps29
  go_wp2_with (first | (go_at_call 28; refine (unhide HP).mono ?_; rintro e w1 ⟨v1, rfl, ho1, hb1⟩; have hs1 := hb1.size) | (at_builtin; refine wpList_append_own_string _ rfl (.tmp 6) (.tmp 7) 30 9 rfl w.heap.size 5 i0 Tryz.underlying30 Tryz.underlying9 hi hz0 hz1 hz2 _ _ _ rfl ho1 t rfl (by unfold maxLen; omega) (by omega) (by omega) ?_))
  intro v' w2 ho2 hg2 _
  have hb2 := hb1.grown hg2 hs1 (own_block_ge ho1)
  have HO := hide ho2
  clear ho2 hg2 ho1
  go_wp2
  go_ret
  refine ⟨v', rfl, ?_, hb2⟩
  rw [textBytes_length, textBytes, byteCells_append]; exact unhide HO

/-- consistoryhelp.Bytes at the same bytes. -/
theorem bytes_same (v v' : Value) (B B' : Nat) (l : List UInt8) (w : World) (h : RBp w B v l) (h' : RBp w B' v' l) :
    Calls Tryz.prog 17 #[v, v'] w fun e w' => e = .returned (.bool true) ∧ w' = w := by
  have c1 := conv_any v B l w h
  have c2 := conv_any v' B' l w h'
  clear h h'
  go_enter Tryz.func17, Tryz.ntmps17
  go_wp2
  go_ret
  exact ⟨rfl, rfl⟩
end Go.Proofs.YtlmjmhpdpgeplaaGreatDoor
