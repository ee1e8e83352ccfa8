/- Contracts of the document's own writers of numbers and texts (the statements' reference), and of wire.PutText. -/
import Derived.Test.YtpminalccnhkjaaGreatDoorJUpto2ValsRead3Vals2Vals3Rows2
import Derived.Test.YtpminalccnhkjaaGreatDoorJKnownLenMathLawLengths
import Derived.Laws.AppendOwnNone
import Derived.Test.YtpminalccnhkjaaGreatDoorJReaderUptoSum
namespace Go.Proofs.YtpminalccnhkjaaGreatDoor
open Go.RowKit Go.Lib

theorem cells_more' (done : List UInt8) (y : Nat) :
    byteCells done ++ [Value.int IntKind.u8 ((y : Int) % 128 + 128)] = byteCells (done ++ [(y % 128 + 128).toUInt8]) := by
  rw [byteCells_snoc done (by omega)]
  have e : ((y : Int) % 128 + 128) = ((y % 128 + 128 : Nat) : Int) := by omega
  rw [e]
theorem cells_last' (done : List UInt8) (y : Nat) (h : y < 128) :
    byteCells done ++ [Value.int IntKind.u8 (y : Int)] = byteCells (done ++ [y.toUInt8]) := by
  rw [byteCells_snoc done (by omega)]

/-- The bytes of a text. -/
def textBytes (t : ByteArray) : List UInt8 := uvarint t.size ++ t.data.toList
theorem textBytes_length (t : ByteArray) : (textBytes t).length = (uvarint t.size).length + t.size := by rw [textBytes, List.length_append, bytes_length]

/-- consistoryhelp.Bytes at the same bytes. -/
theorem bytes_same (v v' : Value) (B B' : Nat) (l : List UInt8) (w : World) (h : RBp w B v l) (h' : RBp w B' v' l) :
    Calls Tryz.prog 13 #[v, v'] w fun e w' => e = .returned (.bool true) ∧ w' = w := by
  have c1 := conv_any v B l w h
  have c2 := conv_any v' B' l w h'
  clear h h'
  go_enter Tryz.func13, Tryz.ntmps13
  go_wp2
  go_ret
  exact ⟨rfl, rfl⟩
end Go.Proofs.YtpminalccnhkjaaGreatDoor
/- Contracts of wire.Int and wire.Text. -/
namespace Go.Proofs.YtpminalccnhkjaaGreatDoor
open Go.RowKit Go.Lib

theorem unzig_zigzag {k : Int} (h0 : -9223372036854775808 ≤ k) (h1 : k < 9223372036854775808) : unzig (zigzag k) = k := by
  unfold unzig zigzag
  by_cases h : 0 ≤ k
  · rw [if_pos h, if_pos (by omega)]; omega
  · rw [if_neg h, if_neg (by omega)]; omega

theorem dec_all (l : List UInt8) : (∃ n k, decU l = (n, k, 0, 0) ∧ n < 18446744073709551616 ∧ k ≤ l.length) ∨ (∃ c q, (c = 20 ∨ c = 22) ∧ decU l = (0, 0, c, q)) := by
  rcases dec_cases l 0 0 (by omega) (by simp) with ⟨n, k, e, g1, g2, g3⟩ | ⟨q, e⟩ | ⟨q, e, g⟩
  · exact .inl ⟨n, k, e, g1, by omega⟩
  · exact .inr ⟨20, q, .inl rfl, e⟩
  · exact .inr ⟨22, q, .inr rfl, e⟩

/-- A slice within bytes. -/
theorem rb_mid {w : World} {B b off cap a n : Nat} {l : List UInt8} (hbB : b < B) (hl : a + n ≤ l.length) (hcap : l.length ≤ cap) (hm : cap ≤ maxLen) (hlen : l.length ≤ 1000000000000)
    (hcell : ∀ i, i < l.length → w.cell? ⟨b, off + i, none⟩ = some (.int .u8 ((l.getD i 0).toNat : Int))) : RBp w B (.slice (some ⟨b, off + a, none⟩) (a + n - a) (cap - a)) ((l.drop a).take n) :=
  rb_take hbB (by omega) (by omega) hcap hm hlen hcell

end Go.Proofs.YtpminalccnhkjaaGreatDoor
/- The walk of the statement WireNumbers: it answers true; nothing old turns. -/
namespace Go.Proofs.YtpminalccnhkjaaGreatDoor
open Go.RowKit Go.Lib

/-- 'append(own, bytes...)', whatever slice the bytes are read of. -/
theorem wpList_append_rb {w : World} {ops : Array Oper} {rest : List Oper} {o : Oper} {a : Act} {Q : Exit → Act → World → Prop} (hgd : o.guard = none) (s x : Operand)
    (ho : o.op = .call { callee := .builtin .append, args := #[s, x], argTypes := #[29, 29] })
    (base : Nat) (v : Value) (n : Nat) (xs : List Value) (hs : a.eval s = v) (hown : w.ownsRow base 5 1 v n xs)
    (B : Nat) (xv : Value) (lx : List UInt8) (hx : a.eval x = xv) (hrb : RBp w B xv lx) (hn : n ≤ 1000000000) (hl : lx.length ≤ 1000000000) (hbase : base ≤ w.heap.size)
    (h : ∀ v' w', w'.ownsRow base 5 1 v' (n + lx.length) (xs ++ byteCells lx) → KeepT 5 w w' → Below base w w' → wpList Tryz.prog ops Q rest (a.put o.dst v') w') : wpList Tryz.prog ops Q (o :: rest) a w := by
  obtain ⟨i0, hi, hz0, hz1, hz2⟩ := info_parts Tryz.infoB
  obtain ⟨hlen, ⟨rfl, rfl⟩ | ⟨b, off, cap, hbB, hcap, hm, rfl, hcell⟩⟩ := hrb
  · refine wpList_append_own_none hgd s x 29 ho base 5 i0 1 Tryz.underlying29 hi v n xs hs hown hx ?_
    exact h v w (by simpa [byteCells] using hown) (KeepT.refl _ _) (Below.refl _ _)
  · refine wpList_append_own w hgd s x 29 ho base 5 i0 (.int .u8 0) 1 1 Tryz.underlying29 hi hz0 hz1 hz2 rfl (by decide) v n xs hs hown ⟨b, off, none⟩ lx.length cap (byteCells lx) hx (by rw [byteCells_length]; omega) ?_ ?_ (by unfold maxLen; omega) (by omega) hbase ?_
    · intro j u hj
      have hjl : j < lx.length := by
        have := (List.getElem?_eq_some_iff.1 hj).1
        rwa [byteCells_length] at this
      have e2 : (byteCells lx)[j]? = some (.int .u8 ((lx.getD j 0).toNat : Int)) := by
        simp [byteCells, hjl]
      have hj2 := Option.some.inj (e2.symm.trans hj)
      rw [← hj2]
      have e3 : (⟨b, off, none⟩ : Addr).add j = ⟨b, off + j, none⟩ := by unfold Addr.add; split <;> simp_all
      rw [e3]; exact hcell j hjl
    · intro u hu
      simp only [byteCells, List.mem_map] at hu
      obtain ⟨c, _, rfl⟩ := hu
      rfl
    · intro v' w' h1 h2 _
      exact h v' w' h1 (KeepT.of_grown hown h2) ((Below.refl _ _).grown h2 hbase (own_block_ge hown))

theorem bt {a b c : World} (h : Below a.heap.size a b) (h' : Below b.heap.size b c) : Below a.heap.size a c := h.trans (h'.mono h.size)
/-- A slice that reads as these bytes, whatever its size. -/
def RBu (w : World) (B : Nat) (v : Value) (l : List UInt8) : Prop :=
  (v = .slice none 0 0 ∧ l = []) ∨ ∃ b off cap, b < B ∧ l.length ≤ cap ∧ cap ≤ maxLen ∧ v = .slice (some ⟨b, off, none⟩) l.length cap ∧ ∀ i, i < l.length → w.cell? ⟨b, off + i, none⟩ = some (.int .u8 ((l.getD i 0).toNat : Int))
theorem RBu.rb {w : World} {B : Nat} {v : Value} {l : List UInt8} (h : RBu w B v l) (hl : l.length ≤ 1000000000000) : RBp w B v l := by
  rcases h with h | ⟨b, off, cap, h1, h2, h3, h4, h5⟩
  · exact ⟨hl, .inl h⟩
  · exact ⟨hl, .inr ⟨b, off, cap, h1, h2, h3, h4, h5⟩⟩
theorem RBu.len {w : World} {B : Nat} {v : Value} {l : List UInt8} (h : RBu w B v l) : ∃ a k, v = .slice a l.length k := by
  rcases h with ⟨rfl, rfl⟩ | ⟨b, off, cap, h1, h2, h3, rfl, h5⟩
  · exact ⟨none, 0, rfl⟩
  · exact ⟨_, _, rfl⟩

theorem text_take (s : ByteArray) (lm : List UInt8) : (⟨(((textBytes s ++ lm).drop (uvarint s.size).length).take s.size).toArray⟩ : ByteArray) = s := by
  have e : ((textBytes s ++ lm).drop (uvarint s.size).length).take s.size = s.data.toList := by
    rw [textBytes, List.append_assoc, List.drop_left, ← bytes_length s, List.take_left]
  rw [e]
theorem dec_text (s : ByteArray) (lm : List UInt8) (hs : s.size < 18446744073709551616) : decU (textBytes s ++ lm) = (s.size, (uvarint s.size).length, 0, 0) := by
  rw [textBytes, List.append_assoc]; exact decU_uv s.size hs _
theorem own_rb2 {w' : World} {v : Value} {B : Nat} {x y : List UInt8} (ho : w'.ownsRow B 5 1 v (0 + x.length + y.length) ([] ++ byteCells x ++ byteCells y)) (hl : x.length + y.length ≤ 1000000000000) : RBp w' w'.heap.size v (x ++ y) := by
  refine rb_own (B := B) ?_ (by simpa using hl)
  rw [byteCells_append, List.length_append]
  simpa using ho
theorem own_rb (x : List UInt8) {w w' : World} {v : Value} (ho : w'.ownsRow w.heap.size 5 1 v x.length (byteCells x)) (hl : x.length ≤ 1000000000000) : ∃ a k, v = .slice a x.length k ∧ RBp w' w'.heap.size (.slice a x.length k) x := by
  obtain ⟨a, k, rfl⟩ := own_slice ho
  exact ⟨a, k, rfl, rb_own ho hl⟩

end Go.Proofs.YtpminalccnhkjaaGreatDoor
/- The document's sum, a bit at a time, is the table's, four bits at a time. -/
namespace Go.Proofs.YtpminalccnhkjaaGreatDoor
open Go.RowKit Go.Lib

def bit1 (c : Nat) : Nat := if c % 2 = 1 then (c / 2) ^^^ 3988292384 else c / 2
def bitsN (c : Nat) : Nat → Nat
  | 0 => c
  | n + 1 => bit1 (bitsN c n)
theorem bit1_lt {c : Nat} (h : c < 4294967296) : bit1 c < 4294967296 := by
  unfold bit1
  split
  · exact Nat.xor_lt_two_pow (n := 32) (by omega) (by decide)
  · omega
theorem bitsN_lt {c : Nat} (h : c < 4294967296) (n : Nat) : bitsN c n < 4294967296 := by
  induction n with
  | zero => exact h
  | succ n ih => exact bit1_lt ih
def refByte (s : Nat) (c : UInt8) : Nat := bitsN (s ^^^ c.toNat) 8
theorem mod_bit (n : Nat) : n % 2 = (n.testBit 0).toNat := by
  rw [Nat.testBit_zero]
  rcases Nat.mod_two_eq_zero_or_one n with h | h <;> simp [h]
theorem bit1_xor (a b : Nat) : bit1 (a ^^^ b) = bit1 a ^^^ bit1 b := by
  have h1 : (a ^^^ b) / 2 = a / 2 ^^^ b / 2 := Nat.xor_div_two
  have h2 : (a ^^^ b) % 2 = (a % 2 + b % 2) % 2 := by
    rw [mod_bit (a ^^^ b), Nat.testBit_xor, mod_bit a, mod_bit b]; cases a.testBit 0 <;> cases b.testBit 0 <;> rfl
  unfold bit1
  rw [h1, h2]
  rcases Nat.mod_two_eq_zero_or_one a with ha | ha <;> rcases Nat.mod_two_eq_zero_or_one b with hb | hb
  · rw [if_neg (by omega), if_neg (by omega), if_neg (by omega)]
  · rw [if_pos (by omega), if_neg (by omega), if_pos (by omega), Nat.xor_assoc]
  · rw [if_pos (by omega), if_pos (by omega), if_neg (by omega), Nat.xor_assoc, Nat.xor_assoc, Nat.xor_comm 3988292384]
  · rw [if_neg (by omega), if_pos (by omega), if_pos (by omega), Nat.xor_assoc, Nat.xor_comm 3988292384 (b / 2 ^^^ 3988292384), Nat.xor_assoc, Nat.xor_self, Nat.xor_zero]
theorem bitsN_xor (a b n : Nat) : bitsN (a ^^^ b) n = bitsN a n ^^^ bitsN b n := by
  induction n with
  | zero => rfl
  | succ n ih => simp only [bitsN]; rw [ih, bit1_xor]
theorem bit1_even (x : Nat) : bit1 (2 * x) = x := by
  unfold bit1; rw [if_neg (by omega)]; omega
theorem bitsN_add (c m n : Nat) : bitsN c (m + n) = bitsN (bitsN c m) n := by
  induction n with
  | zero => rfl
  | succ n ih => show bit1 (bitsN c (m + n)) = bit1 _; rw [ih]
theorem bits4_16 (q : Nat) : bitsN (16 * q) 4 = q := by
  show bit1 (bit1 (bit1 (bit1 (16 * q)))) = q
  rw [show 16 * q = 2 * (2 * (2 * (2 * q))) by omega, bit1_even, bit1_even, bit1_even, bit1_even]
theorem bits4_tab (r : Nat) (h : r < 16) : bitsN r 4 = tabL.getD r 0 := by
  have : ∀ i : Fin 16, bitsN i.val 4 = tabL.getD i.val 0 := by decide +kernel
  exact this ⟨r, h⟩
theorem bits4_step (s : Nat) : bitsN s 4 = step4 s := by
  have e : s = (16 * (s / 16)) ^^^ (s % 16) := by
    have h := Nat.two_pow_add_eq_or_of_lt (i := 4) (b := s % 16) (by omega) (s / 16)
    have hd : (2 ^ 4 * (s / 16)) &&& (s % 16) = 0 := by
      apply Nat.eq_of_testBit_eq
      intro i
      rw [Nat.testBit_and, Nat.zero_testBit]
      by_cases hi : i < 4
      · rw [Nat.testBit_two_pow_mul]; simp; omega
      · have : (s % 16).testBit i = false := Nat.testBit_lt_two_pow (Nat.lt_of_lt_of_le (by omega : s % 16 < 2 ^ 4) (Nat.pow_le_pow_right (by decide) (by omega)))
        simp [this]
    have hx : (2 ^ 4 * (s / 16)) ^^^ (s % 16) = (2 ^ 4 * (s / 16)) ||| (s % 16) := by
      apply Nat.eq_of_testBit_eq
      intro i
      have hi := congrArg (fun x => x.testBit i) hd
      simp only [Nat.testBit_and, Nat.zero_testBit] at hi
      rw [Nat.testBit_xor, Nat.testBit_or]
      cases h1 : (2 ^ 4 * (s / 16)).testBit i <;> cases h2 : (s % 16).testBit i <;> simp_all
    have e2 : (16 * (s / 16)) ^^^ (s % 16) = 2 ^ 4 * (s / 16) + s % 16 := by
      rw [h]; exact hx
    rw [e2]; omega
  conv => lhs; rw [e]
  rw [bitsN_xor, bits4_16, bits4_tab _ (by omega)]
  rfl
theorem refByte_eq (s : Nat) (c : UInt8) : refByte s c = byteStep s c := by
  unfold refByte byteStep
  rw [show 8 = 4 + 4 from rfl, bitsN_add, bits4_step, bits4_step]
theorem refFold_eq (l : List UInt8) (s : Nat) : l.foldl refByte s = l.foldl byteStep s := by
  induction l generalizing s with
  | nil => rfl
  | cons c r ih => simp only [List.foldl_cons]; rw [refByte_eq]; exact ih _
end Go.Proofs.YtpminalccnhkjaaGreatDoor
/- Contracts of wire.appendWord and wire.Frame, and of the document's own four, Sum and Frame. -/
namespace Go.Proofs.YtpminalccnhkjaaGreatDoor
open Go.RowKit Go.Lib

/-- A word's bytes, the lowest first. -/
def word4 (n : Nat) : List UInt8 := [(n % 256).toUInt8, (n / 256 % 256).toUInt8, (n / 65536 % 256).toUInt8, (n / 16777216 % 256).toUInt8]
theorem word4_cells (n : Nat) (hn : n < 4294967296) : byteCells (word4 n) = [.int .u8 ((n : Int) % 256), .int .u8 ((n : Int) / 256 % 256), .int .u8 ((n : Int) / 65536 % 256), .int .u8 ((n : Int) / 16777216)] := by
  have e0 : ((n % 256 : Nat) : Int) = (n : Int) % 256 := by omega
  have e1 : ((n / 256 % 256 : Nat) : Int) = (n : Int) / 256 % 256 := by omega
  have e2 : ((n / 65536 % 256 : Nat) : Int) = (n : Int) / 65536 % 256 := by omega
  have e3 : ((n / 16777216 % 256 : Nat) : Int) = (n : Int) / 16777216 := by omega
  simp only [byteCells, word4, List.map_cons, List.map_nil]
  rw [toUInt8_toNat (by omega), toUInt8_toNat (by omega), toUInt8_toNat (by omega), toUInt8_toNat (by omega), e0, e1, e2, e3]
theorem four_new (w : World) (a b c d : Value) (e : TypeId) : ∀ j v, ([a, b, c, d] : List Value)[j]? = some v → (w.alloc (.cells #[a, b, c, d] e)).cell? ((⟨w.heap.size, 0, none⟩ : Addr).add j) = some v := by
  intro j v hj
  match j, hj with
  | 0, hj => simp at hj; subst hj; simp [Addr.add]
  | 1, hj => simp at hj; subst hj; simp [Addr.add]
  | 2, hj => simp at hj; subst hj; simp [Addr.add]
  | 3, hj => simp at hj; subst hj; simp [Addr.add]
theorem four_cell {a b c d : Int} : ∀ u ∈ ([.int .u8 a, .int .u8 b, .int .u8 c, .int .u8 d] : List Value), u.oneCell' = true := by
  intro u hu; simp at hu; rcases hu with rfl | rfl | rfl | rfl <;> rfl

set_option maxHeartbeats 1600000 in
theorem appendWord_any (B m n : Nat) (v : Value) (xs : List Value) (w : World) (hn : n < 4294967296) (hm : m ≤ 1000000000) (hB : B ≤ w.heap.size) (hown : w.ownsRow B 5 1 v m xs) :
    Calls Tryz.prog 61 #[v, .int .u32 n] w fun e w' =>
      ∃ v', e = .returned v' ∧ w'.ownsRow B 5 1 v' (m + 4) (xs ++ byteCells (word4 n)) ∧ Below B w w' := by
  obtain ⟨i0, hi, hz0, hz1, hz2⟩ := info_parts Tryz.infoB
  rw [word4_cells n hn]
  have hn' : (n : Int) < 4294967296 := by omega
  go_enter Tryz.func61, Tryz.ntmps61
  go_wp2_with (first | (at_builtin; refine wpList_append_own _ rfl (.tmp 5) (.tmp 17) 29 rfl B 5 i0 (.int .u8 0) 1 1 Tryz.underlying29 hi hz0 hz1 hz2 rfl (by decide) _ _ _ rfl (hown.alloc _) ⟨w.heap.size, 0, none⟩ 4 4 [_, _, _, _] rfl rfl (four_new _ _ _ _ _ _) four_cell (by unfold maxLen; omega) (by omega) (by simp; omega) ?_))
  intro v' w1 hown1 hgrow _
  have hb1 := ((Below.refl B w).alloc hB _).grown hgrow (by simp; omega) (own_block_ge hown)
  have HO := hide hown1
  clear hown1 hgrow hown
  go_wp2
  go_ret
  exact ⟨v', rfl, unhide HO, hb1⟩

/-- A frame's bytes. -/
def frameBytes (l : List UInt8) : List UInt8 := word4 l.length ++ l ++ word4 (crc (word4 l.length ++ l))
theorem crc_lt (l : List UInt8) : crc l < 4294967296 := by unfold crc; omega
theorem word4_length (n : Nat) : (word4 n).length = 4 := rfl
theorem own_later {w w' : World} {B : Nat} {e : TypeId} {sz : Nat} {v : Value} {n : Nat} {xs : List Value} (h : w.ownsRow B e sz v n xs) (hb : Below w.heap.size w w') : w'.ownsRow B e sz v n xs := by
  obtain ⟨h1, h2 | ⟨g, cap, cur, h3, h4, h5, h6⟩⟩ := h
  · exact ⟨h1, .inl h2⟩
  · have hg : g < w.heap.size := by
      rcases Nat.lt_or_ge g w.heap.size with h' | h'
      · exact h'
      · rw [Array.getElem?_eq_none h'] at h5; cases h5
    exact ⟨h1, .inr ⟨g, cap, cur, h3, h4, (hb.block g hg).trans h5, h6⟩⟩
theorem own_rb3 {w' : World} {v : Value} {B n : Nat} {x : List UInt8} {ys : List Value} (ho : w'.ownsRow B 5 1 v n ys) (hn : n = x.length) (hy : ys = byteCells x) (hl : x.length ≤ 1000000000000) : RBp w' w'.heap.size v x := by
  subst hn; subst hy; exact rb_own ho hl

set_option maxHeartbeats 3200000 in
theorem frame_ok (v : Value) (l : List UInt8) (w : World) (hv : RBp w w.heap.size v l) (hl : l.length ≤ 262144) (hT : ST w) :
    Calls Tryz.prog 46 #[v] w fun e w' => ∃ a k, e = .returned (.tuple #[.slice a (frameBytes l).length k, .nilIface]) ∧ RBp w' w'.heap.size (.slice a (frameBytes l).length k) (frameBytes l) ∧ Below w.heap.size w w' := by
  obtain ⟨i0, hi, hz0, hz1, hz2⟩ := info_parts Tryz.infoB
  have hl' : ¬ ((262144 : Int) < (l.length : Int)) := by omega
  have hfl : (frameBytes l).length = 0 + 4 + l.length + 4 := by simp [frameBytes, word4_length]; omega
  obtain ⟨ad, kk, rfl⟩ := rb_len hv
  have HV := hide hv
  have HT := hide hT
  have hcl := crc_lt (word4 l.length ++ l)
  have HF := hide hfl
  clear hv hT hfl
  go_enter Tryz.func46, Tryz.ntmps46
  go_wp2_with (first
    | (at_make; refine wpList_make_own _ rfl _ _ 29 rfl w.heap.size 5 i0 (.int .u8 0) 1 Tryz.underlying29 hi hz0 hz1 _ _ _ (l.length + 8) rfl rfl (by omega) (by rw [hz2]; omega) (by unfold maxLen; omega) (Nat.le_refl _) ?_; intro w1 ho1 hg1; have hb1 := (Below.refl w.heap.size w).grown hg1 (Nat.le_refl _) (by intro k h; cases h); have z1 := hb1.size; clear hg1)
    | (go_at_call 61; refine (appendWord_any w.heap.size 0 l.length _ [] _ (by omega) (by omega) z1 ho1).mono ?_; rintro e w2 ⟨v2, rfl, ho2, hb2⟩; have c2 := hb1.trans hb2; have z2 := c2.size; clear ho1)
    | (at_builtin; refine wpList_append_rb rfl (.tmp 18) (.tmp 19) rfl w.heap.size _ _ _ rfl ho2 _ _ l rfl (rb_later (unhide HV) c2 (Nat.le_refl _)) (by omega) (by omega) z2 ?_; intro v3 w3 ho3 _ hb3; have c3 := c2.trans hb3; have z3 := c3.size; clear ho2)
    | (go_at_call 62; refine (sum_any _ _ (word4 l.length ++ l) _ (own_rb3 ho3 (by simp [word4_length]) (by simp [byteCells_append]) (by simp [word4_length]; omega)) ((unhide HT).below c3 (unhide HT).lt)).mono ?_; rintro e w3 ⟨rfl, rfl⟩)
    | (go_at_call 61; refine (appendWord_any w.heap.size _ (crc (word4 l.length ++ l)) _ _ _ hcl (by omega) z3 ho3).mono ?_; rintro e w4 ⟨v4, rfl, ho4, hb4⟩; have c4 := c3.trans hb4; obtain ⟨a4, k4, rfl⟩ := own_slice ho4; clear ho3))
  go_ret2
  have e1 := unhide HF
  rw [e1]
  refine ⟨a4, k4, rfl, own_rb3 ho4 e1.symm (by simp [frameBytes, byteCells_append]) (by omega), c4⟩

end Go.Proofs.YtpminalccnhkjaaGreatDoor
