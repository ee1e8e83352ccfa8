/- The document's sum, a bit at a time, is the table's, four bits at a time. -/
import Derived.Test.YthphadbcebeoaaaGreatDoorJReaderUptoSum
import Derived.Test.YthphadbcebeoaaaGreatDoorJRef1IntTextLawNumbersLaidBytesIn
import Derived.Test.YthphadbcebeoaaaGreatDoorJVals3Rows2PutRowListOfKnownLenMathLawLengths
import Derived.Lib.IndexLaws
import Derived.Test.YthphadbcebeoaaaGreatDoorEntry
import Derived.Deep.RegionHeld3
import Derived.Deep.DrawnRows
namespace Go.Proofs.YthphadbcebeoaaaGreatDoor
open Go.RowKit Go.Lib

def bit1 (c : Nat) : Nat := if c % 2 = 1 then (c / 2) ^^^ 3988292384 else c / 2
def bitsN (c : Nat) : Nat → Nat
  | 0 => c
  | n + 1 => bit1 (bitsN c n)
theorem bit1_lt {c : Nat} (h : c < 4294967296) : bit1 c < 4294967296 := by
  unfold bit1
  split
  · exact Nat.xor_lt_two_pow (n := 32) (by omega) (by decide)
  · omega
theorem bitsN_lt {c : Nat} (h : c < 4294967296) (n : Nat) : bitsN c n < 4294967296 := by
  induction n with
  | zero => exact h
  | succ n ih => exact bit1_lt ih
def refByte (s : Nat) (c : UInt8) : Nat := bitsN (s ^^^ c.toNat) 8
theorem mod_bit (n : Nat) : n % 2 = (n.testBit 0).toNat := by
  rw [Nat.testBit_zero]
  rcases Nat.mod_two_eq_zero_or_one n with h | h <;> simp [h]
theorem bit1_xor (a b : Nat) : bit1 (a ^^^ b) = bit1 a ^^^ bit1 b := by
  have h1 : (a ^^^ b) / 2 = a / 2 ^^^ b / 2 := Nat.xor_div_two
  have h2 : (a ^^^ b) % 2 = (a % 2 + b % 2) % 2 := by
    rw [mod_bit (a ^^^ b), Nat.testBit_xor, mod_bit a, mod_bit b]; cases a.testBit 0 <;> cases b.testBit 0 <;> rfl
  unfold bit1
  rw [h1, h2]
  rcases Nat.mod_two_eq_zero_or_one a with ha | ha <;> rcases Nat.mod_two_eq_zero_or_one b with hb | hb
  · rw [if_neg (by omega), if_neg (by omega), if_neg (by omega)]
  · rw [if_pos (by omega), if_neg (by omega), if_pos (by omega), Nat.xor_assoc]
  · rw [if_pos (by omega), if_pos (by omega), if_neg (by omega), Nat.xor_assoc, Nat.xor_assoc, Nat.xor_comm 3988292384]
  · rw [if_neg (by omega), if_pos (by omega), if_pos (by omega), Nat.xor_assoc, Nat.xor_comm 3988292384 (b / 2 ^^^ 3988292384), Nat.xor_assoc, Nat.xor_self, Nat.xor_zero]
theorem bitsN_xor (a b n : Nat) : bitsN (a ^^^ b) n = bitsN a n ^^^ bitsN b n := by
  induction n with
  | zero => rfl
  | succ n ih => simp only [bitsN]; rw [ih, bit1_xor]
theorem bit1_even (x : Nat) : bit1 (2 * x) = x := by
  unfold bit1; rw [if_neg (by omega)]; omega
theorem bitsN_add (c m n : Nat) : bitsN c (m + n) = bitsN (bitsN c m) n := by
  induction n with
  | zero => rfl
  | succ n ih => show bit1 (bitsN c (m + n)) = bit1 _; rw [ih]
theorem bits4_16 (q : Nat) : bitsN (16 * q) 4 = q := by
  show bit1 (bit1 (bit1 (bit1 (16 * q)))) = q
  rw [show 16 * q = 2 * (2 * (2 * (2 * q))) by omega, bit1_even, bit1_even, bit1_even, bit1_even]
theorem bits4_tab (r : Nat) (h : r < 16) : bitsN r 4 = tabL.getD r 0 := by
  have : ∀ i : Fin 16, bitsN i.val 4 = tabL.getD i.val 0 := by decide +kernel
  exact this ⟨r, h⟩
theorem bits4_step (s : Nat) : bitsN s 4 = step4 s := by
  have e : s = (16 * (s / 16)) ^^^ (s % 16) := by
    have h := Nat.two_pow_add_eq_or_of_lt (i := 4) (b := s % 16) (by omega) (s / 16)
    have hd : (2 ^ 4 * (s / 16)) &&& (s % 16) = 0 := by
      apply Nat.eq_of_testBit_eq
      intro i
      rw [Nat.testBit_and, Nat.zero_testBit]
      by_cases hi : i < 4
      · rw [Nat.testBit_two_pow_mul]; simp; omega
      · have : (s % 16).testBit i = false := Nat.testBit_lt_two_pow (Nat.lt_of_lt_of_le (by omega : s % 16 < 2 ^ 4) (Nat.pow_le_pow_right (by decide) (by omega)))
        simp [this]
    have hx : (2 ^ 4 * (s / 16)) ^^^ (s % 16) = (2 ^ 4 * (s / 16)) ||| (s % 16) := by
      apply Nat.eq_of_testBit_eq
      intro i
      have hi := congrArg (fun x => x.testBit i) hd
      simp only [Nat.testBit_and, Nat.zero_testBit] at hi
      rw [Nat.testBit_xor, Nat.testBit_or]
      cases h1 : (2 ^ 4 * (s / 16)).testBit i <;> cases h2 : (s % 16).testBit i <;> simp_all
    have e2 : (16 * (s / 16)) ^^^ (s % 16) = 2 ^ 4 * (s / 16) + s % 16 := by
      rw [h]; exact hx
    rw [e2]; omega
  conv => lhs; rw [e]
  rw [bitsN_xor, bits4_16, bits4_tab _ (by omega)]
  rfl
theorem refByte_eq (s : Nat) (c : UInt8) : refByte s c = byteStep s c := by
  unfold refByte byteStep
  rw [show 8 = 4 + 4 from rfl, bitsN_add, bits4_step, bits4_step]
theorem refFold_eq (l : List UInt8) (s : Nat) : l.foldl refByte s = l.foldl byteStep s := by
  induction l generalizing s with
  | nil => rfl
  | cons c r ih => simp only [List.foldl_cons]; rw [refByte_eq]; exact ih _
end Go.Proofs.YthphadbcebeoaaaGreatDoor
/- Contracts of wire.appendWord and wire.Frame, and of the document's own four, Sum and Frame. -/
namespace Go.Proofs.YthphadbcebeoaaaGreatDoor
open Go.RowKit Go.Lib

/-- A word's bytes, the lowest first. -/
def word4 (n : Nat) : List UInt8 := [(n % 256).toUInt8, (n / 256 % 256).toUInt8, (n / 65536 % 256).toUInt8, (n / 16777216 % 256).toUInt8]
theorem word4_cells (n : Nat) (hn : n < 4294967296) : byteCells (word4 n) = [.int .u8 ((n : Int) % 256), .int .u8 ((n : Int) / 256 % 256), .int .u8 ((n : Int) / 65536 % 256), .int .u8 ((n : Int) / 16777216)] := by
  have e0 : ((n % 256 : Nat) : Int) = (n : Int) % 256 := by omega
  have e1 : ((n / 256 % 256 : Nat) : Int) = (n : Int) / 256 % 256 := by omega
  have e2 : ((n / 65536 % 256 : Nat) : Int) = (n : Int) / 65536 % 256 := by omega
  have e3 : ((n / 16777216 % 256 : Nat) : Int) = (n : Int) / 16777216 := by omega
  simp only [byteCells, word4, List.map_cons, List.map_nil]
  rw [toUInt8_toNat (by omega), toUInt8_toNat (by omega), toUInt8_toNat (by omega), toUInt8_toNat (by omega), e0, e1, e2, e3]
theorem four_new (w : World) (a b c d : Value) (e : TypeId) : ∀ j v, ([a, b, c, d] : List Value)[j]? = some v → (w.alloc (.cells #[a, b, c, d] e)).cell? ((⟨w.heap.size, 0, none⟩ : Addr).add j) = some v := by
  intro j v hj
  match j, hj with
  | 0, hj => simp at hj; subst hj; simp [Addr.add]
  | 1, hj => simp at hj; subst hj; simp [Addr.add]
  | 2, hj => simp at hj; subst hj; simp [Addr.add]
  | 3, hj => simp at hj; subst hj; simp [Addr.add]
theorem four_cell {a b c d : Int} : ∀ u ∈ ([.int .u8 a, .int .u8 b, .int .u8 c, .int .u8 d] : List Value), u.oneCell' = true := by
  intro u hu; simp at hu; rcases hu with rfl | rfl | rfl | rfl <;> rfl

set_option maxHeartbeats 1600000 in
theorem appendWord_any (B m n : Nat) (v : Value) (xs : List Value) (w : World) (hn : n < 4294967296) (hm : m ≤ 1000000000) (hB : B ≤ w.heap.size) (hown : w.ownsRow B 5 1 v m xs) :
    Calls Tryz.prog 100 #[v, .int .u32 n] w fun e w' =>
      ∃ v', e = .returned v' ∧ w'.ownsRow B 5 1 v' (m + 4) (xs ++ byteCells (word4 n)) ∧ Below B w w' := by
  obtain ⟨i0, hi, hz0, hz1, hz2⟩ := info_parts Tryz.infoB
  rw [word4_cells n hn]
  have hn' : (n : Int) < 4294967296 := by omega
  go_enter Tryz.func100, Tryz.ntmps100
  go_wp2_with (first | (at_builtin; refine wpList_append_own _ rfl (.tmp 5) (.tmp 17) 22 rfl B 5 i0 (.int .u8 0) 1 1 Tryz.underlying22 hi hz0 hz1 hz2 rfl (by decide) _ _ _ rfl (hown.alloc _) ⟨w.heap.size, 0, none⟩ 4 4 [_, _, _, _] rfl rfl (four_new _ _ _ _ _ _) four_cell (by unfold maxLen; omega) (by omega) (by simp; omega) ?_))
  intro v' w1 hown1 hgrow _
  have hb1 := ((Below.refl B w).alloc hB _).grown hgrow (by simp; omega) (own_block_ge hown)
  have HO := hide hown1
  clear hown1 hgrow hown
  go_wp2
  go_ret
  exact ⟨v', rfl, unhide HO, hb1⟩

/-- A frame's bytes. -/
def frameBytes (l : List UInt8) : List UInt8 := word4 l.length ++ l ++ word4 (crc (word4 l.length ++ l))
theorem crc_lt (l : List UInt8) : crc l < 4294967296 := by unfold crc; omega
theorem word4_length (n : Nat) : (word4 n).length = 4 := rfl
theorem own_later {w w' : World} {B : Nat} {e : TypeId} {sz : Nat} {v : Value} {n : Nat} {xs : List Value} (h : w.ownsRow B e sz v n xs) (hb : Below w.heap.size w w') : w'.ownsRow B e sz v n xs := by
  obtain ⟨h1, h2 | ⟨g, cap, cur, h3, h4, h5, h6⟩⟩ := h
  · exact ⟨h1, .inl h2⟩
  · have hg : g < w.heap.size := by
      rcases Nat.lt_or_ge g w.heap.size with h' | h'
      · exact h'
      · rw [Array.getElem?_eq_none h'] at h5; cases h5
    exact ⟨h1, .inr ⟨g, cap, cur, h3, h4, (hb.block g hg).trans h5, h6⟩⟩
theorem own_rb3 {w' : World} {v : Value} {B n : Nat} {x : List UInt8} {ys : List Value} (ho : w'.ownsRow B 5 1 v n ys) (hn : n = x.length) (hy : ys = byteCells x) (hl : x.length ≤ 1000000000000) : RBp w' w'.heap.size v x := by
  subst hn; subst hy; exact rb_own ho hl

set_option maxHeartbeats 3200000 in
theorem frame_ok (v : Value) (l : List UInt8) (w : World) (hv : RBp w w.heap.size v l) (hl : l.length ≤ 262144) (hT : ST w) :
    Calls Tryz.prog 80 #[v] w fun e w' => ∃ a k, e = .returned (.tuple #[.slice a (frameBytes l).length k, .nilIface]) ∧ RBp w' w'.heap.size (.slice a (frameBytes l).length k) (frameBytes l) ∧ Below w.heap.size w w' := by
  obtain ⟨i0, hi, hz0, hz1, hz2⟩ := info_parts Tryz.infoB
  have hl' : ¬ ((262144 : Int) < (l.length : Int)) := by omega
  have hfl : (frameBytes l).length = 0 + 4 + l.length + 4 := by simp [frameBytes, word4_length]; omega
  obtain ⟨ad, kk, rfl⟩ := rb_len hv
  have HV := hide hv
  have HT := hide hT
  have hcl := crc_lt (word4 l.length ++ l)
  have HF := hide hfl
  clear hv hT hfl
  go_enter Tryz.func80, Tryz.ntmps80
  go_wp2_with (first
    | (at_make; refine wpList_make_own _ rfl _ _ 22 rfl w.heap.size 5 i0 (.int .u8 0) 1 Tryz.underlying22 hi hz0 hz1 _ _ _ (l.length + 8) rfl rfl (by omega) (by rw [hz2]; omega) (by unfold maxLen; omega) (Nat.le_refl _) ?_; intro w1 ho1 hg1; have hb1 := (Below.refl w.heap.size w).grown hg1 (Nat.le_refl _) (by intro k h; cases h); have z1 := hb1.size; clear hg1)
    | (go_at_call 100; refine (appendWord_any w.heap.size 0 l.length _ [] _ (by omega) (by omega) z1 ho1).mono ?_; rintro e w2 ⟨v2, rfl, ho2, hb2⟩; have c2 := hb1.trans hb2; have z2 := c2.size; clear ho1)
    | (at_builtin; refine wpList_append_rb rfl (.tmp 18) (.tmp 19) rfl w.heap.size _ _ _ rfl ho2 _ _ l rfl (rb_later (unhide HV) c2 (Nat.le_refl _)) (by omega) (by omega) z2 ?_; intro v3 w3 ho3 _ hb3; have c3 := c2.trans hb3; have z3 := c3.size; clear ho2)
    | (go_at_call 92; refine (sum_any _ _ (word4 l.length ++ l) _ (own_rb3 ho3 (by simp [word4_length]) (by simp [byteCells_append]) (by simp [word4_length]; omega)) ((unhide HT).below c3 (unhide HT).lt)).mono ?_; rintro e w3 ⟨rfl, rfl⟩)
    | (go_at_call 100; refine (appendWord_any w.heap.size _ (crc (word4 l.length ++ l)) _ _ _ hcl (by omega) z3 ho3).mono ?_; rintro e w4 ⟨v4, rfl, ho4, hb4⟩; have c4 := c3.trans hb4; obtain ⟨a4, k4, rfl⟩ := own_slice ho4; clear ho3))
  go_ret2
  have e1 := unhide HF
  rw [e1]
  refine ⟨a4, k4, rfl, own_rb3 ho4 e1.symm (by simp [frameBytes, byteCells_append]) (by omega), c4⟩

end Go.Proofs.YthphadbcebeoaaaGreatDoor
/- Contracts of the document's own look at a value and writer of rows, and of the help's Few. -/
namespace Go.Proofs.YthphadbcebeoaaaGreatDoor
open Go.RowKit Go.Lib

theorem indexByte_zero_iff (l : List UInt8) : indexByte l 0 < 0 ↔ ∀ i, i < l.length → l.getD i 0 ≠ 0 := by
  constructor
  · intro h i hi e
    have h1 : indexByte l 0 = -1 := by have := indexByte_ge l 0; omega
    exact indexByte_none h1 i (by rw [List.getElem?_eq_getElem hi]; simp [List.getD_eq_getElem?_getD, hi] at e; rw [e])
  · intro h
    rcases Int.lt_or_le (indexByte l 0) 0 with h1 | h1
    · exact h1
    · obtain ⟨o, ho⟩ := Int.eq_ofNat_of_zero_le h1
      have h2 := (indexByte_some ho).1
      have h3 := (List.getElem?_eq_some_iff.1 h2)
      obtain ⟨h4, h5⟩ := h3
      exact absurd (by simp [List.getD_eq_getElem?_getD, h4, h5]) (h o h4)

theorem ba_getD (t : ByteArray) (k : Nat) (h : k < t.size) : t.data.toList.getD k 0 = t[k] := by
  have h2 : k < t.data.size := h
  show _ = t.data[k]
  simp only [List.getD_eq_getElem?_getD, Array.getElem?_toList, Array.getElem?_eq_getElem h2, Option.getD_some]

end Go.Proofs.YthphadbcebeoaaaGreatDoor
/- Contracts of the document's own writer of rows. -/
namespace Go.Proofs.YthphadbcebeoaaaGreatDoor
open Go.RowKit Go.Lib

theorem putVals_step {gs : List GV} {s0 : Option (List UInt8)} {k : Nat} {g : GV} {l : List UInt8} (h : gs[k]? = some g) (hm : g.may = true) (hl : putVals (gs.take k) s0 = some l) : putVals (gs.take (k + 1)) s0 = some (l ++ g.bytes) := by
  rw [putVals_snoc gs s0 k g h, hl, putVal, if_pos hm]; rfl
theorem putVals_stop {gs : List GV} {s0 : Option (List UInt8)} {k : Nat} {g : GV} (h : gs[k]? = some g) (hm : g.may = false) : putVals gs s0 = none := by
  rw [putVals_split gs s0 (k + 1), putVals_snoc gs s0 k g h, putVal, if_neg (by simp [hm]), putVals_none]
/-- What the document's writers of rows and entries tell. -/
def RefPost (s : Option (List UInt8)) (w : World) (e : Ending) (w' : World) : Prop :=
  match s with
  | some l => ∃ a k, e = .returned (.tuple #[.slice a l.length k, .int .i64 0]) ∧ RBp w' w'.heap.size (.slice a l.length k) l ∧ Below w.heap.size w w'
  | none => e = .returned (.tuple #[.slice none 0 0, .int .i64 20]) ∧ Below w.heap.size w w'

theorem rb_one (w : World) (k : Nat) (hk : k < 128) : RBp (w.alloc (.cells #[.int .u8 (k : Int)] 5)) (w.heap.size + 1) (.slice (some ⟨w.heap.size, 0, none⟩) 1 1) (uvarint k) := by
  rw [uvarint_small hk]
  refine ⟨by simp, .inr ⟨w.heap.size, 0, 1, by omega, by simp, by unfold maxLen; omega, by simp, ?_⟩⟩
  intro i hi
  have h0 : i = 0 := by simp at hi; exact hi
  subst h0
  simp
  have : k % 256 = k := by omega
  omega
theorem own_join {w' : World} {v : Value} {B n : Nat} {x : List UInt8} {ys : List Value} (ho : w'.ownsRow B 5 1 v n ys) (hn : n = x.length) (hy : ys = byteCells x) : w'.ownsRow B 5 1 v x.length (byteCells x) := by
  subst hn; subst hy; exact ho

end Go.Proofs.YthphadbcebeoaaaGreatDoor
/- Appending bytes at a step of a region that draws its order; the document's own writer of entries, what it refuses; Few. -/
namespace Go.Proofs.YthphadbcebeoaaaGreatDoor
open Go.RowKit Go.Lib
attribute [local go_sem ↓] Go.wp_at_zero Go.wp_at_succ

theorem step_append_rb {w : World} {ops : Array Oper} {o : Oper} {a : Act} {K : Act → World → Prop} {Q : Exit → Act → World → Prop} {E : Prop} (hgd : o.guard = none) (s x : Operand)
    (ho : o.op = .call { callee := .builtin .append, args := #[s, x], argTypes := #[22, 22] })
    (base : Nat) (v : Value) (l : List UInt8) (hs : a.eval s = v) (hown : w.ownsRow base 5 1 v l.length (byteCells l))
    (B : Nat) (xv : Value) (lx : List UInt8) (hx : a.eval x = xv) (hrb : RBp w B xv lx) (hne : 0 < lx.length) (hn : l.length ≤ 1000000000) (hl : lx.length ≤ 1000000000) (hbase : base ≤ w.heap.size)
    (h : ∀ v' w', w'.ownsRow base 5 1 v' (l ++ lx).length (byteCells (l ++ lx)) → Below base w w' → K (a.put o.dst v') w') :
    if Region.wanted o (yielded ops a.tmps) = true then Oper.wp Tryz.prog o a w K Q else E := by
  have hw : Region.wanted o (yielded ops a.tmps) = true := by simp [Region.wanted, hgd]
  rw [if_pos hw]
  obtain ⟨i0, hi, hz0, hz1, hz2⟩ := info_parts Tryz.infoB
  obtain ⟨hlen, ⟨rfl, rfl⟩ | ⟨b, off, cap, hbB, hcap, hm, rfl, hcell⟩⟩ := hrb
  · simp at hne
  · refine wp_append_own w s x 22 ho base 5 i0 (.int .u8 0) 1 1 Tryz.underlying22 hi hz0 hz1 hz2 rfl (by decide) v l.length (byteCells l) hs hown ⟨b, off, none⟩ lx.length cap (byteCells lx) hx (by rw [byteCells_length]; omega) ?_ ?_ (by unfold maxLen; omega) (by omega) hbase ?_
    · intro j u hj
      have hjl : j < lx.length := by
        have := (List.getElem?_eq_some_iff.1 hj).1
        rwa [byteCells_length] at this
      have e2 : (byteCells lx)[j]? = some (.int .u8 ((lx.getD j 0).toNat : Int)) := by
        simp [byteCells, hjl]
      have hj2 := Option.some.inj (e2.symm.trans hj)
      rw [← hj2]
      have e3 : (⟨b, off, none⟩ : Addr).add j = ⟨b, off + j, none⟩ := by unfold Addr.add; split <;> simp_all
      rw [e3]; exact hcell j hjl
    · intro u hu
      simp only [byteCells, List.mem_map] at hu
      obtain ⟨c, _, rfl⟩ := hu
      rfl
    · intro v' w' h1 h2 _
      refine h v' w' ?_ ((Below.refl _ _).grown h2 hbase (own_block_ge hown))
      rw [List.length_append, byteCells_append]; exact h1

/-- A Boolean is told. -/
def IsBool (e : Ending) : Prop := ∃ m, e = .returned (.bool m)
theorem putVals_long {gs : List GV} (h : 64 < gs.length) : putVals gs (putLen gs.length 64 (some [])) = none := by
  rw [putLen, if_neg (by omega), putVals_none]
end Go.Proofs.YthphadbcebeoaaaGreatDoor
/- Contract of the document's own writer of entries. -/
namespace Go.Proofs.YthphadbcebeoaaaGreatDoor
open Go.RowKit Go.Lib
attribute [local go_sem ↓] Go.wp_at_zero Go.wp_at_succ

theorem putEnt_no {g : GE} (h : g.may = false) : putEnt g (some []) = none := by rw [putEnt, if_neg (by simp [h])]
theorem putEnt_yes {g : GE} (h : g.may = true) : putEnt g (some []) = some g.bytes := by rw [putEnt, if_pos h]; rfl

set_option maxHeartbeats 1600000 in
theorem refPutEntry_no (g : GE) (w : World) (hg : g.ok) (hm : g.may = false) :
    Calls Tryz.prog 41 #[g.agg] w fun e w' => RefPost none w e w' := by
  obtain ⟨te, k, c, q, t⟩ := g
  obtain ⟨h1, h2, h3, h4⟩ := hg
  unfold GE.agg GE.cells
  dsimp only at *
  have h4' : (t.size : Int) ≤ 9223372036854775807 := by unfold maxLen at h4; omega
  clear h4
  by_cases hk0 : k = 0
  · subst hk0
    by_cases h20 : t.size ≤ 2000
    · have h20' : ¬ ((2000 : Int) < (t.size : Int)) := by omega
      by_cases hc : c = 0
      · subst hc
        by_cases hq : q = 0
        · subst hq
          cases hE : t.toList.isEmpty with
          | true =>
            exfalso
            simp [GE.may, hE, h20] at hm
          | false =>
            clear hm
            go_enter Tryz.func41, Tryz.ntmps41
            go_wp2
            go_ret2
            exact ⟨rfl, (Below.refl _ _).alloc (Nat.le_refl _) _⟩
        · have hb : ((q : Int) != 0) = true := by rw [bne_iff_ne]; omega
          clear hm
          go_enter Tryz.func41, Tryz.ntmps41
          go_wp2
          go_ret2
          exact ⟨rfl, (Below.refl _ _).alloc (Nat.le_refl _) _⟩
      · have hb : ((c : Int) != 0) = true := by rw [bne_iff_ne]; omega
        clear hm
        go_enter Tryz.func41, Tryz.ntmps41
        go_wp2
        go_ret2
        exact ⟨rfl, (Below.refl _ _).alloc (Nat.le_refl _) _⟩
    · have h20' : (2000 : Int) < (t.size : Int) := by omega
      clear hm
      by_cases hc : c = 0
      · subst hc
        by_cases hq : q = 0
        · subst hq
          cases hE : t.toList.isEmpty with
          | true => exact absurd (isEmpty_size t hE) (by omega)
          | false =>
            go_enter Tryz.func41, Tryz.ntmps41
            go_wp2
            go_ret2
            exact ⟨rfl, (Below.refl _ _).alloc (Nat.le_refl _) _⟩
        · have hb : ((q : Int) != 0) = true := by rw [bne_iff_ne]; omega
          go_enter Tryz.func41, Tryz.ntmps41
          go_wp2
          go_ret2
          exact ⟨rfl, (Below.refl _ _).alloc (Nat.le_refl _) _⟩
      · have hb : ((c : Int) != 0) = true := by rw [bne_iff_ne]; omega
        go_enter Tryz.func41, Tryz.ntmps41
        go_wp2
        go_ret2
        exact ⟨rfl, (Below.refl _ _).alloc (Nat.le_refl _) _⟩
  · have b0 : (k == 0) = false := by simp [hk0]
    have n0 : (k != 0) = true := by rw [bne_iff_ne]; exact hk0
    by_cases hk1 : k = 1
    · subst hk1
      have h20' : (2000 : Int) < (t.size : Int) := by simp [GE.may] at hm; omega
      clear hm b0 n0 hk0
      go_enter Tryz.func41, Tryz.ntmps41
      go_wp2
      go_ret2
      exact ⟨rfl, (Below.refl _ _).alloc (Nat.le_refl _) _⟩
    · have n1 : (k != 1) = true := by rw [bne_iff_ne]; exact hk1
      clear hm
      go_enter Tryz.func41, Tryz.ntmps41
      go_wp2
      go_ret2
      exact ⟨rfl, (Below.refl _ _).alloc (Nat.le_refl _) _⟩

end Go.Proofs.YthphadbcebeoaaaGreatDoor
