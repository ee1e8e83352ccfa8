/- Contract of wire.Sum: four bits at a time, by the table. -/
import Derived.Test.YtahcfanmfocljaaDoorReader
import Derived.Lib.EndianBits
namespace Go.Proofs.YtahcfanmfocljaaDoor
open Go.RowKit Go.Lib

def tabL : List Nat := [0, 498536548, 997073096, 651767980, 1994146192, 1802195444, 1303535960, 1342533948, 3988292384, 4027552580, 3604390888, 3412177804, 2607071920, 2262029012, 2685067896, 3183342108]
/-- The table wire.sumSteps as the program's text lays it. -/
def ST (w : World) : Prop := ∀ i, i < 16 → w.cell? ⟨0, i, none⟩ = some (.int .u32 ((tabL.getD i 0 : Nat) : Int))
theorem tab_lt (i : Nat) : tabL.getD i 0 < 4294967296 := by
  rcases Nat.lt_or_ge i 16 with h | h
  · have : ∀ j : Fin 16, tabL.getD j.val 0 < 4294967296 := by decide
    exact this ⟨i, h⟩
  · rw [List.getD_eq_getElem?_getD, List.getElem?_eq_none (by simpa [tabL] using h)]; decide
theorem xor32 (a b : Nat) (ha : a < 4294967296) (hb : b < 4294967296) : bits BinOp.xor IntKind.u32 (a : Int) (b : Int) = ((a ^^^ b : Nat) : Int) := by
  have hx : a ^^^ b < 2 ^ 32 := Nat.xor_lt_two_pow (by omega) (by omega)
  have h1 : (BitVec.ofInt 32 (a : Int)).toNat = a := by
    rw [BitVec.ofInt_natCast, BitVec.toNat_ofNat]; exact Nat.mod_eq_of_lt (by omega)
  have h2 : (BitVec.ofInt 32 (b : Int)).toNat = b := by
    rw [BitVec.ofInt_natCast, BitVec.toNat_ofNat]; exact Nat.mod_eq_of_lt (by omega)
  show IntKind.u32.wrap ((BitVec.ofInt 32 (a : Int) ^^^ BitVec.ofInt 32 (b : Int)).toNat : Int) = _
  rw [BitVec.toNat_xor, h1, h2, IntKind.wrap_u32]
  omega
theorem and15 (a : Nat) (ha : a < 4294967296) : bits BinOp.and IntKind.u32 (a : Int) 15 = ((a % 16 : Nat) : Int) := by
  have h := bits_mask .u32 32 (by decide) wraps_u32 4 (by decide) (a : Int) (by omega) (by omega)
  have e : ((2 : Int) ^ 4 - 1) = 15 := by decide
  have e2 : ((2 : Int) ^ 4) = 16 := by decide
  rw [e, e2] at h
  rw [h]; omega
def step4 (s : Nat) : Nat := (s / 16) ^^^ tabL.getD (s % 16) 0
def byteStep (s : Nat) (c : UInt8) : Nat := step4 (step4 (s ^^^ c.toNat))
def crc (l : List UInt8) : Nat := 4294967295 - l.foldl byteStep 4294967295
theorem step4_lt {s : Nat} (h : s < 4294967296) : step4 s < 4294967296 := by
  unfold step4
  exact Nat.xor_lt_two_pow (n := 32) (by omega) (tab_lt _)
theorem xorc_lt {s : Nat} (h : s < 4294967296) (c : UInt8) : s ^^^ c.toNat < 4294967296 := Nat.xor_lt_two_pow (n := 32) h (by have := c.toNat_lt; omega)
theorem byteStep_lt {s : Nat} (h : s < 4294967296) (c : UInt8) : byteStep s c < 4294967296 := step4_lt (step4_lt (xorc_lt h c))
theorem crcs_lt (l : List UInt8) : ∀ s, s < 4294967296 → l.foldl byteStep s < 4294967296 := by
  induction l with
  | nil => intro s h; exact h
  | cons c r ih => intro s h; exact ih _ (byteStep_lt h c)

theorem xor_ones32 (b : Nat) (hb : b < 2 ^ 32) : (2 ^ 32 - 1) ^^^ b = 2 ^ 32 - 1 - b := by
  apply Nat.eq_of_testBit_eq
  intro i
  rw [Nat.testBit_xor, Nat.testBit_two_pow_sub_one, show 2 ^ 32 - 1 - b = 2 ^ 32 - (b + 1) by omega, Nat.testBit_two_pow_sub_succ hb]
  by_cases hi : i < 32
  · simp [hi]
  · have : b.testBit i = false := Nat.testBit_lt_two_pow (Nat.lt_of_lt_of_le hb (Nat.pow_le_pow_right (by decide) (by omega)))
    simp [hi, this]
theorem not32 (q : Nat) (hq : q < 4294967296) : bits BinOp.xor IntKind.u32 IntKind.u32.max (q : Int) = ((4294967295 - q : Nat) : Int) := by
  have e : IntKind.u32.max = ((4294967295 : Nat) : Int) := by decide
  rw [e, xor32 _ q (by decide) hq]
  congr 1
  exact xor_ones32 q hq

set_option maxHeartbeats 1600000 in
set_option maxRecDepth 100000 in
theorem sum_row (b off cap : Nat) (l : List UInt8) (w : World) (hl : l.length ≤ maxLen) (hc : ∀ i, i < l.length → w.cell? ⟨b, off + i, none⟩ = some (.int .u8 ((l.getD i 0).toNat : Int))) (hT : ST w) :
    Calls Tryd.prog 38 #[.slice (some ⟨b, off, none⟩) l.length cap] w fun e w' => e = .returned (.int .u32 ((crc l : Nat) : Int)) ∧ w' = w := by
  unfold maxLen at hl
  go_enter Tryd.func38, Tryd.ntmps38
  go_wp2
  go_loop [3, 8] (fun s i => ∃ k q : Nat, k ≤ l.length ∧ i = .int .i64 k ∧ s = .int .u32 q ∧ q < 4294967296 ∧ q = (l.take k).foldl byteStep 4294967295) (fun _ i => l.length - (intOf i).toNat)
  case atStart => exact ⟨0, 4294967295, by omega, rfl, rfl, by decide, rfl⟩
  case round =>
    obtain ⟨k, q, hk, rfl, rfl, hq, hqe⟩ := hrel
    by_cases hlt : k < l.length
    · have hcx := hc k hlt
      have hq1 : (l.take (k + 1)).foldl byteStep 4294967295 = byteStep q (l.getD k 0) := by
        rw [List.take_add_one, List.getElem?_eq_getElem hlt, Option.toList_some, List.foldl_append, ← hqe]
        simp [List.getD_eq_getElem?_getD, hlt]
      have HQ := hide hq1
      clear hq1
      generalize l.getD k 0 = c at *
      have hc256 : (c.toNat : Int) < 256 := by have := c.toNat_lt; omega
      have hx1 := xorc_lt hq c
      have e1 := xor32 q c.toNat hq (by omega)
      unfold byteStep at HQ
      generalize q ^^^ c.toNat = x1 at *
      have e2 := and15 x1 hx1
      have t1 := hT (x1 % 16) (by omega)
      have hi1 : ((x1 % 16 : Nat) : Int) < 16 := by omega
      have hs1 := step4_lt hx1
      have e3 : bits BinOp.xor IntKind.u32 ((x1 : Int) / 16) ((tabL.getD (x1 % 16) 0 : Nat) : Int) = ((step4 x1 : Nat) : Int) := xor32 (x1 / 16) _ (by omega) (tab_lt _)
      generalize tabL.getD (x1 % 16) 0 = y1 at *
      generalize x1 % 16 = i1 at *
      generalize step4 x1 = s1 at *
      have e4 := and15 s1 hs1
      have t2 := hT (s1 % 16) (by omega)
      have hi2 : ((s1 % 16 : Nat) : Int) < 16 := by omega
      have hs2 := step4_lt hs1
      have e5 : bits BinOp.xor IntKind.u32 ((s1 : Int) / 16) ((tabL.getD (s1 % 16) 0 : Nat) : Int) = ((step4 s1 : Nat) : Int) := xor32 (s1 / 16) _ (by omega) (tab_lt _)
      generalize tabL.getD (s1 % 16) 0 = y2 at *
      generalize s1 % 16 = i2 at *
      generalize step4 s1 = s2 at *
      clear hqe hc hT
      go_wp2
      go_round
      case rel => exact ⟨k + 1, s2, by omega, by go_num, rfl, hs2, (unhide HQ).symm⟩
      case measure => simp [intOf]; omega
    · have e : l.take k = l := List.take_of_length_le (by omega)
      rw [e] at hqe
      have HQ := hide hqe
      clear hqe hc hT
      go_wp2
      go_ret
      exact ⟨ret_int (by rw [not32 q hq, unhide HQ]; rfl), rfl⟩

theorem sum_any (v : Value) (B : Nat) (l : List UInt8) (w : World) (hv : RBp w B v l) (hT : ST w) :
    Calls Tryd.prog 38 #[v] w fun e w' => e = .returned (.int .u32 ((crc l : Nat) : Int)) ∧ w' = w := by
  obtain ⟨hlen, ⟨rfl, rfl⟩ | ⟨b, off, cap, hbB, hcap, hm, rfl, hcell⟩⟩ := hv
  · clear hT
    go_enter Tryd.func38, Tryd.ntmps38
    go_wp2
    refine wp_loop_rounds 1 ?_
    rw [rounds_succ]
    go_wp2
    go_ret
    exact ⟨rfl, rfl⟩
  · exact sum_row b off cap l w (Nat.le_trans hlen (by decide)) hcell hT
end Go.Proofs.YtahcfanmfocljaaDoor
