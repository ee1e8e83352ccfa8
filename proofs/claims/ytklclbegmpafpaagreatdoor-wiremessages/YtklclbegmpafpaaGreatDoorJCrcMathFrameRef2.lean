/- The document's sum, a bit at a time, is the table's, four bits at a time. -/
import Derived.Test.YtklclbegmpafpaaGreatDoorJReaderSum
import Derived.Test.YtklclbegmpafpaaGreatDoorJLawLengthsLawNumbersLaidBytesIn
import Derived.Test.YtklclbegmpafpaaGreatDoorJRows2PutRow
import Derived.Lib.IndexLaws
namespace Go.Proofs.YtklclbegmpafpaaGreatDoor
open Go.RowKit Go.Lib

def bit1 (c : Nat) : Nat := if c % 2 = 1 then (c / 2) ^^^ 3988292384 else c / 2
def bitsN (c : Nat) : Nat → Nat
  | 0 => c
  | n + 1 => bit1 (bitsN c n)
theorem bit1_lt {c : Nat} (h : c < 4294967296) : bit1 c < 4294967296 := by
  unfold bit1
  split
  · exact Nat.xor_lt_two_pow (n := 32) (by omega) (by decide)
  · omega
theorem bitsN_lt {c : Nat} (h : c < 4294967296) (n : Nat) : bitsN c n < 4294967296 := by
  induction n with
  | zero => exact h
  | succ n ih => exact bit1_lt ih
def refByte (s : Nat) (c : UInt8) : Nat := bitsN (s ^^^ c.toNat) 8
theorem mod_bit (n : Nat) : n % 2 = (n.testBit 0).toNat := by
  rw [Nat.testBit_zero]
  rcases Nat.mod_two_eq_zero_or_one n with h | h <;> simp [h]
theorem bit1_xor (a b : Nat) : bit1 (a ^^^ b) = bit1 a ^^^ bit1 b := by
  have h1 : (a ^^^ b) / 2 = a / 2 ^^^ b / 2 := Nat.xor_div_two
  have h2 : (a ^^^ b) % 2 = (a % 2 + b % 2) % 2 := by
    rw [mod_bit (a ^^^ b), Nat.testBit_xor, mod_bit a, mod_bit b]; cases a.testBit 0 <;> cases b.testBit 0 <;> rfl
  unfold bit1
  rw [h1, h2]
  rcases Nat.mod_two_eq_zero_or_one a with ha | ha <;> rcases Nat.mod_two_eq_zero_or_one b with hb | hb
  · rw [if_neg (by omega), if_neg (by omega), if_neg (by omega)]
  · rw [if_pos (by omega), if_neg (by omega), if_pos (by omega), Nat.xor_assoc]
  · rw [if_pos (by omega), if_pos (by omega), if_neg (by omega), Nat.xor_assoc, Nat.xor_assoc, Nat.xor_comm 3988292384]
  · rw [if_neg (by omega), if_pos (by omega), if_pos (by omega), Nat.xor_assoc, Nat.xor_comm 3988292384 (b / 2 ^^^ 3988292384), Nat.xor_assoc, Nat.xor_self, Nat.xor_zero]
theorem bitsN_xor (a b n : Nat) : bitsN (a ^^^ b) n = bitsN a n ^^^ bitsN b n := by
  induction n with
  | zero => rfl
  | succ n ih => simp only [bitsN]; rw [ih, bit1_xor]
theorem bit1_even (x : Nat) : bit1 (2 * x) = x := by
  unfold bit1; rw [if_neg (by omega)]; omega
theorem bitsN_add (c m n : Nat) : bitsN c (m + n) = bitsN (bitsN c m) n := by
  induction n with
  | zero => rfl
  | succ n ih => show bit1 (bitsN c (m + n)) = bit1 _; rw [ih]
theorem bits4_16 (q : Nat) : bitsN (16 * q) 4 = q := by
  show bit1 (bit1 (bit1 (bit1 (16 * q)))) = q
  rw [show 16 * q = 2 * (2 * (2 * (2 * q))) by omega, bit1_even, bit1_even, bit1_even, bit1_even]
theorem bits4_tab (r : Nat) (h : r < 16) : bitsN r 4 = tabL.getD r 0 := by
  have : ∀ i : Fin 16, bitsN i.val 4 = tabL.getD i.val 0 := by decide +kernel
  exact this ⟨r, h⟩
theorem bits4_step (s : Nat) : bitsN s 4 = step4 s := by
  have e : s = (16 * (s / 16)) ^^^ (s % 16) := by
    have h := Nat.two_pow_add_eq_or_of_lt (i := 4) (b := s % 16) (by omega) (s / 16)
    have hd : (2 ^ 4 * (s / 16)) &&& (s % 16) = 0 := by
      apply Nat.eq_of_testBit_eq
      intro i
      rw [Nat.testBit_and, Nat.zero_testBit]
      by_cases hi : i < 4
      · rw [Nat.testBit_two_pow_mul]; simp; omega
      · have : (s % 16).testBit i = false := Nat.testBit_lt_two_pow (Nat.lt_of_lt_of_le (by omega : s % 16 < 2 ^ 4) (Nat.pow_le_pow_right (by decide) (by omega)))
        simp [this]
    have hx : (2 ^ 4 * (s / 16)) ^^^ (s % 16) = (2 ^ 4 * (s / 16)) ||| (s % 16) := by
      apply Nat.eq_of_testBit_eq
      intro i
      have hi := congrArg (fun x => x.testBit i) hd
      simp only [Nat.testBit_and, Nat.zero_testBit] at hi
      rw [Nat.testBit_xor, Nat.testBit_or]
      cases h1 : (2 ^ 4 * (s / 16)).testBit i <;> cases h2 : (s % 16).testBit i <;> simp_all
    have e2 : (16 * (s / 16)) ^^^ (s % 16) = 2 ^ 4 * (s / 16) + s % 16 := by
      rw [h]; exact hx
    rw [e2]; omega
  conv => lhs; rw [e]
  rw [bitsN_xor, bits4_16, bits4_tab _ (by omega)]
  rfl
theorem refByte_eq (s : Nat) (c : UInt8) : refByte s c = byteStep s c := by
  unfold refByte byteStep
  rw [show 8 = 4 + 4 from rfl, bitsN_add, bits4_step, bits4_step]
theorem refFold_eq (l : List UInt8) (s : Nat) : l.foldl refByte s = l.foldl byteStep s := by
  induction l generalizing s with
  | nil => rfl
  | cons c r ih => simp only [List.foldl_cons]; rw [refByte_eq]; exact ih _
end Go.Proofs.YtklclbegmpafpaaGreatDoor
/- Contracts of wire.appendWord and wire.Frame, and of the document's own four, Sum and Frame. -/
namespace Go.Proofs.YtklclbegmpafpaaGreatDoor
open Go.RowKit Go.Lib

/-- A word's bytes, the lowest first. -/
def word4 (n : Nat) : List UInt8 := [(n % 256).toUInt8, (n / 256 % 256).toUInt8, (n / 65536 % 256).toUInt8, (n / 16777216 % 256).toUInt8]
theorem word4_cells (n : Nat) (hn : n < 4294967296) : byteCells (word4 n) = [.int .u8 ((n : Int) % 256), .int .u8 ((n : Int) / 256 % 256), .int .u8 ((n : Int) / 65536 % 256), .int .u8 ((n : Int) / 16777216)] := by
  have e0 : ((n % 256 : Nat) : Int) = (n : Int) % 256 := by omega
  have e1 : ((n / 256 % 256 : Nat) : Int) = (n : Int) / 256 % 256 := by omega
  have e2 : ((n / 65536 % 256 : Nat) : Int) = (n : Int) / 65536 % 256 := by omega
  have e3 : ((n / 16777216 % 256 : Nat) : Int) = (n : Int) / 16777216 := by omega
  simp only [byteCells, word4, List.map_cons, List.map_nil]
  rw [toUInt8_toNat (by omega), toUInt8_toNat (by omega), toUInt8_toNat (by omega), toUInt8_toNat (by omega), e0, e1, e2, e3]
theorem four_new (w : World) (a b c d : Value) (e : TypeId) : ∀ j v, ([a, b, c, d] : List Value)[j]? = some v → (w.alloc (.cells #[a, b, c, d] e)).cell? ((⟨w.heap.size, 0, none⟩ : Addr).add j) = some v := by
  intro j v hj
  match j, hj with
  | 0, hj => simp at hj; subst hj; simp [Addr.add]
  | 1, hj => simp at hj; subst hj; simp [Addr.add]
  | 2, hj => simp at hj; subst hj; simp [Addr.add]
  | 3, hj => simp at hj; subst hj; simp [Addr.add]
theorem four_cell {a b c d : Int} : ∀ u ∈ ([.int .u8 a, .int .u8 b, .int .u8 c, .int .u8 d] : List Value), u.oneCell' = true := by
  intro u hu; simp at hu; rcases hu with rfl | rfl | rfl | rfl <;> rfl

/-- A frame's bytes. -/
def frameBytes (l : List UInt8) : List UInt8 := word4 l.length ++ l ++ word4 (crc (word4 l.length ++ l))
theorem crc_lt (l : List UInt8) : crc l < 4294967296 := by unfold crc; omega
theorem word4_length (n : Nat) : (word4 n).length = 4 := rfl
theorem own_later {w w' : World} {B : Nat} {e : TypeId} {sz : Nat} {v : Value} {n : Nat} {xs : List Value} (h : w.ownsRow B e sz v n xs) (hb : Below w.heap.size w w') : w'.ownsRow B e sz v n xs := by
  obtain ⟨h1, h2 | ⟨g, cap, cur, h3, h4, h5, h6⟩⟩ := h
  · exact ⟨h1, .inl h2⟩
  · have hg : g < w.heap.size := by
      rcases Nat.lt_or_ge g w.heap.size with h' | h'
      · exact h'
      · rw [Array.getElem?_eq_none h'] at h5; cases h5
    exact ⟨h1, .inr ⟨g, cap, cur, h3, h4, (hb.block g hg).trans h5, h6⟩⟩
theorem own_rb3 {w' : World} {v : Value} {B n : Nat} {x : List UInt8} {ys : List Value} (ho : w'.ownsRow B 5 1 v n ys) (hn : n = x.length) (hy : ys = byteCells x) (hl : x.length ≤ 1000000000000) : RBp w' w'.heap.size v x := by
  subst hn; subst hy; exact rb_own ho hl

end Go.Proofs.YtklclbegmpafpaaGreatDoor
/- Contracts of the document's own look at a value and writer of rows, and of the help's Few. -/
namespace Go.Proofs.YtklclbegmpafpaaGreatDoor
open Go.RowKit Go.Lib

theorem indexByte_zero_iff (l : List UInt8) : indexByte l 0 < 0 ↔ ∀ i, i < l.length → l.getD i 0 ≠ 0 := by
  constructor
  · intro h i hi e
    have h1 : indexByte l 0 = -1 := by have := indexByte_ge l 0; omega
    exact indexByte_none h1 i (by rw [List.getElem?_eq_getElem hi]; simp [List.getD_eq_getElem?_getD, hi] at e; rw [e])
  · intro h
    rcases Int.lt_or_le (indexByte l 0) 0 with h1 | h1
    · exact h1
    · obtain ⟨o, ho⟩ := Int.eq_ofNat_of_zero_le h1
      have h2 := (indexByte_some ho).1
      have h3 := (List.getElem?_eq_some_iff.1 h2)
      obtain ⟨h4, h5⟩ := h3
      exact absurd (by simp [List.getD_eq_getElem?_getD, h4, h5]) (h o h4)

theorem ba_getD (t : ByteArray) (k : Nat) (h : k < t.size) : t.data.toList.getD k 0 = t[k] := by
  have h2 : k < t.data.size := h
  show _ = t.data[k]
  simp only [List.getD_eq_getElem?_getD, Array.getElem?_toList, Array.getElem?_eq_getElem h2, Option.getD_some]

set_option maxHeartbeats 1600000 in
theorem plain_any (t : ByteArray) (w : World) (ht : t.size ≤ maxLen) :
    Calls Tryz.prog 72 #[.string t] w fun e w' => e = .returned (.bool (decide (indexByte t.data.toList 0 < 0))) ∧ w' = w := by
  have ht' : (t.size : Int) ≤ 9223372036854775807 := by unfold maxLen at ht; omega
  obtain ⟨m, hm⟩ : ∃ m, m = decide (indexByte t.data.toList 0 < 0) := ⟨_, rfl⟩
  rw [← hm]
  have HM := hide hm
  clear hm ht
  go_enter Tryz.func72, Tryz.ntmps72
  go_wp2
  go_loop [3] (fun i => ∃ k : Nat, k ≤ t.size ∧ i = .int .i64 k ∧ ∀ j, j < k → t.data.toList.getD j 0 ≠ 0) (fun i => t.size - (intOf i).toNat)
  case atStart => exact ⟨0, by omega, rfl, fun j h => by omega⟩
  case round =>
    obtain ⟨k, hk, rfl, hz⟩ := hrel
    have HZ := hide hz
    clear hz
    by_cases hlt : k < t.size
    · have HE := hide (ba_getD t k hlt)
      by_cases h0 : t[k].toNat = 0
      · have h0b : ((t[k].toNat : Int) == 0) = true := by simp [h0]
        have HN : Hid (m = false) := by
          have e := unhide HM
          refine hide (e.trans (decide_eq_false ?_))
          intro h
          refine (indexByte_zero_iff _).1 h k (by simpa using hlt) ?_
          rw [unhide HE]; exact UInt8.toNat_inj.1 h0
        clear h0
        go_wp2
        go_ret
        exact ⟨ret_bool (unhide HN).symm, rfl⟩
      · have h0b : ((t[k].toNat : Int) == 0) = false := beq_eq_false_iff_ne.2 (by omega)
        have HN : Hid (∀ j, j < k + 1 → t.data.toList.getD j 0 ≠ 0) := by
          refine hide (fun j hj => ?_)
          rcases Nat.lt_or_ge j k with h | h
          · exact unhide HZ j h
          · have : j = k := by omega
            subst this
            rw [unhide HE]
            intro hc; rw [hc] at h0; exact h0 rfl
        clear h0 HZ
        go_wp2
        go_round
        case rel => exact ⟨k + 1, by omega, by go_num, unhide HN⟩
        case measure => simp [intOf]; omega
    · have HN : Hid (m = true) := by
        refine hide ((unhide HM).trans (decide_eq_true ?_))
        refine (indexByte_zero_iff _).2 (fun i hi => unhide HZ i ?_)
        have : i < t.size := by simpa using hi
        omega
      go_wp2
      go_ret
      exact ⟨ret_bool (unhide HN).symm, rfl⟩

set_option maxHeartbeats 1600000 in
theorem refIs_any (g : GV) (w : World) (hg : g.ok) :
    Calls Tryz.prog 48 #[g.agg] w fun e w' => e = .returned (.bool g.may) ∧ w' = w.alloc (.cells #[.int .i64 g.kind, .int .i64 g.int, .string g.text] 48) := by
  obtain ⟨k, n, t⟩ := g
  obtain ⟨h1, h2, h3⟩ := hg
  unfold GV.agg
  obtain ⟨m, hm⟩ : ∃ m, m = GV.may ⟨k, n, t⟩ := ⟨_, rfl⟩
  rw [← hm]
  have HM := hide hm
  clear hm
  dsimp only at *
  have HP := hide (fun w => plain_any t w h3)
  have h3' : (t.size : Int) ≤ 9223372036854775807 := by unfold maxLen at h3; omega
  clear h3
  by_cases hk0 : k = 0
  · subst hk0
    by_cases hn : n = 0
    · subst hn
      go_enter Tryz.func48, Tryz.ntmps48
      go_wp2
      go_ret
      exact ⟨ret_bool (by rw [unhide HM]; simp [GV.may]), rfl⟩
    · have hnc : (n == 0) = false := by simp [hn]
      go_enter Tryz.func48, Tryz.ntmps48
      go_wp2
      go_ret
      exact ⟨ret_bool (by rw [unhide HM]; simp [GV.may, hnc]), rfl⟩
  · by_cases hk1 : k = 1
    · subst hk1
      by_cases hn : n = 0
      · subst hn
        go_enter Tryz.func48, Tryz.ntmps48
        go_wp2
        go_ret
        exact ⟨ret_bool (by rw [unhide HM]; simp [GV.may]), rfl⟩
      · have hnc : (n == 0) = false := by simp [hn]
        by_cases hn1 : n = 1
        · subst hn1
          go_enter Tryz.func48, Tryz.ntmps48
          go_wp2
          go_ret
          exact ⟨ret_bool (by rw [unhide HM]; simp [GV.may]), rfl⟩
        · have hne : (n == 1) = false := by simp [hn1]
          go_enter Tryz.func48, Tryz.ntmps48
          go_wp2
          go_ret
          exact ⟨ret_bool (by rw [unhide HM]; simp [GV.may, hnc, hne]), rfl⟩
    · by_cases hk2 : k = 2
      · subst hk2
        go_enter Tryz.func48, Tryz.ntmps48
        go_wp2
        go_ret
        exact ⟨ret_bool (by rw [unhide HM]; simp [GV.may]), rfl⟩
      · by_cases hk3 : k = 3
        · subst hk3
          by_cases hn : n = 0
          · subst hn
            by_cases h40 : t.size ≤ 40
            · go_enter Tryz.func48, Tryz.ntmps48
              go_wp2_with (go_at_call 72; refine (unhide HP _).mono ?_; rintro e w1 ⟨rfl, rfl⟩)
              go_ret
              exact ⟨ret_bool (by rw [unhide HM]; simp [GV.may, h40]), rfl⟩
            · go_enter Tryz.func48, Tryz.ntmps48
              go_wp2
              go_ret
              exact ⟨ret_bool (by rw [unhide HM]; simp [GV.may, h40]), rfl⟩
          · have hnb : (n == 0) = false := by simp [hn]
            go_enter Tryz.func48, Tryz.ntmps48
            go_wp2
            go_ret
            exact ⟨ret_bool (by rw [unhide HM]; simp [GV.may, hnb]), rfl⟩
        · have b0 : (k == 0) = false := by simp [hk0]
          have b1 : (k == 1) = false := by simp [hk1]
          have b2 : (k == 2) = false := by simp [hk2]
          have b3 : (k == 3) = false := by simp [hk3]
          go_enter Tryz.func48, Tryz.ntmps48
          go_wp2
          go_ret
          exact ⟨ret_bool (by rw [unhide HM]; simp [GV.may, b0, b1, b2, b3]), rfl⟩

end Go.Proofs.YtklclbegmpafpaaGreatDoor
