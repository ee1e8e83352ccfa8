/- The walk of the statement WireNumbers: it answers true; nothing old turns. -/
import Derived.Test.YtahpfhnekmilmaaGreatDoorJSumKnownRef1IntTextLawLengths
import Derived.Laws.AppendOwnNone
import Derived.Test.YtahpfhnekmilmaaGreatDoorRows
import Derived.ProofKit
import Derived.LaidMore
import Derived.LaidHandle
import Derived.LaidLaws
import Derived.Lib.LaidTab
import Derived.OpenShut
import Derived.Stop.Joined
import Derived.ShutString
import Derived.ChangeOld
import Derived.Below
namespace Go.Proofs.YtahpfhnekmilmaaGreatDoor
open Go.RowKit Go.Lib

/-- 'append(own, bytes...)', whatever slice the bytes are read of. -/
theorem wpList_append_rb {w : World} {ops : Array Oper} {rest : List Oper} {o : Oper} {a : Act} {Q : Exit → Act → World → Prop} (hgd : o.guard = none) (s x : Operand)
    (ho : o.op = .call { callee := .builtin .append, args := #[s, x], argTypes := #[34, 34] })
    (base : Nat) (v : Value) (n : Nat) (xs : List Value) (hs : a.eval s = v) (hown : w.ownsRow base 5 1 v n xs)
    (B : Nat) (xv : Value) (lx : List UInt8) (hx : a.eval x = xv) (hrb : RBp w B xv lx) (hn : n ≤ 1000000000) (hl : lx.length ≤ 1000000000) (hbase : base ≤ w.heap.size)
    (h : ∀ v' w', w'.ownsRow base 5 1 v' (n + lx.length) (xs ++ byteCells lx) → KeepT 5 w w' → Below base w w' → wpList Tryz.prog ops Q rest (a.put o.dst v') w') : wpList Tryz.prog ops Q (o :: rest) a w := by
  obtain ⟨i0, hi, hz0, hz1, hz2⟩ := info_parts Tryz.infoB
  obtain ⟨hlen, ⟨rfl, rfl⟩ | ⟨b, off, cap, hbB, hcap, hm, rfl, hcell⟩⟩ := hrb
  · refine wpList_append_own_none hgd s x 34 ho base 5 i0 1 Tryz.underlying34 hi v n xs hs hown hx ?_
    exact h v w (by simpa [byteCells] using hown) (KeepT.refl _ _) (Below.refl _ _)
  · refine wpList_append_own w hgd s x 34 ho base 5 i0 (.int .u8 0) 1 1 Tryz.underlying34 hi hz0 hz1 hz2 rfl (by decide) v n xs hs hown ⟨b, off, none⟩ lx.length cap (byteCells lx) hx (by rw [byteCells_length]; omega) ?_ ?_ (by unfold maxLen; omega) (by omega) hbase ?_
    · intro j u hj
      have hjl : j < lx.length := by
        have := (List.getElem?_eq_some_iff.1 hj).1
        rwa [byteCells_length] at this
      have e2 : (byteCells lx)[j]? = some (.int .u8 ((lx.getD j 0).toNat : Int)) := by
        simp [byteCells, hjl]
      have hj2 := Option.some.inj (e2.symm.trans hj)
      rw [← hj2]
      have e3 : (⟨b, off, none⟩ : Addr).add j = ⟨b, off + j, none⟩ := by unfold Addr.add; split <;> simp_all
      rw [e3]; exact hcell j hjl
    · intro u hu
      simp only [byteCells, List.mem_map] at hu
      obtain ⟨c, _, rfl⟩ := hu
      rfl
    · intro v' w' h1 h2 _
      exact h v' w' h1 (KeepT.of_grown hown h2) ((Below.refl _ _).grown h2 hbase (own_block_ge hown))

theorem bt {a b c : World} (h : Below a.heap.size a b) (h' : Below b.heap.size b c) : Below a.heap.size a c := h.trans (h'.mono h.size)
/-- A slice that reads as these bytes, whatever its size. -/
def RBu (w : World) (B : Nat) (v : Value) (l : List UInt8) : Prop :=
  (v = .slice none 0 0 ∧ l = []) ∨ ∃ b off cap, b < B ∧ l.length ≤ cap ∧ cap ≤ maxLen ∧ v = .slice (some ⟨b, off, none⟩) l.length cap ∧ ∀ i, i < l.length → w.cell? ⟨b, off + i, none⟩ = some (.int .u8 ((l.getD i 0).toNat : Int))
theorem RBu.rb {w : World} {B : Nat} {v : Value} {l : List UInt8} (h : RBu w B v l) (hl : l.length ≤ 1000000000000) : RBp w B v l := by
  rcases h with h | ⟨b, off, cap, h1, h2, h3, h4, h5⟩
  · exact ⟨hl, .inl h⟩
  · exact ⟨hl, .inr ⟨b, off, cap, h1, h2, h3, h4, h5⟩⟩
theorem RBu.len {w : World} {B : Nat} {v : Value} {l : List UInt8} (h : RBu w B v l) : ∃ a k, v = .slice a l.length k := by
  rcases h with ⟨rfl, rfl⟩ | ⟨b, off, cap, h1, h2, h3, rfl, h5⟩
  · exact ⟨none, 0, rfl⟩
  · exact ⟨_, _, rfl⟩

theorem text_take (s : ByteArray) (lm : List UInt8) : (⟨(((textBytes s ++ lm).drop (uvarint s.size).length).take s.size).toArray⟩ : ByteArray) = s := by
  have e : ((textBytes s ++ lm).drop (uvarint s.size).length).take s.size = s.data.toList := by
    rw [textBytes, List.append_assoc, List.drop_left, ← bytes_length s, List.take_left]
  rw [e]
theorem dec_text (s : ByteArray) (lm : List UInt8) (hs : s.size < 18446744073709551616) : decU (textBytes s ++ lm) = (s.size, (uvarint s.size).length, 0, 0) := by
  rw [textBytes, List.append_assoc]; exact decU_uv s.size hs _
theorem own_rb2 {w' : World} {v : Value} {B : Nat} {x y : List UInt8} (ho : w'.ownsRow B 5 1 v (0 + x.length + y.length) ([] ++ byteCells x ++ byteCells y)) (hl : x.length + y.length ≤ 1000000000000) : RBp w' w'.heap.size v (x ++ y) := by
  refine rb_own (B := B) ?_ (by simpa using hl)
  rw [byteCells_append, List.length_append]
  simpa using ho
theorem own_rb (x : List UInt8) {w w' : World} {v : Value} (ho : w'.ownsRow w.heap.size 5 1 v x.length (byteCells x)) (hl : x.length ≤ 1000000000000) : ∃ a k, v = .slice a x.length k ∧ RBp w' w'.heap.size (.slice a x.length k) x := by
  obtain ⟨a, k, rfl⟩ := own_slice ho
  exact ⟨a, k, rfl, rb_own ho hl⟩

end Go.Proofs.YtahpfhnekmilmaaGreatDoor
/- The document's sum, a bit at a time, is the table's, four bits at a time. -/
namespace Go.Proofs.YtahpfhnekmilmaaGreatDoor
open Go.RowKit Go.Lib

def bit1 (c : Nat) : Nat := if c % 2 = 1 then (c / 2) ^^^ 3988292384 else c / 2
def bitsN (c : Nat) : Nat → Nat
  | 0 => c
  | n + 1 => bit1 (bitsN c n)
theorem bit1_lt {c : Nat} (h : c < 4294967296) : bit1 c < 4294967296 := by
  unfold bit1
  split
  · exact Nat.xor_lt_two_pow (n := 32) (by omega) (by decide)
  · omega
theorem bitsN_lt {c : Nat} (h : c < 4294967296) (n : Nat) : bitsN c n < 4294967296 := by
  induction n with
  | zero => exact h
  | succ n ih => exact bit1_lt ih
def refByte (s : Nat) (c : UInt8) : Nat := bitsN (s ^^^ c.toNat) 8
theorem mod_bit (n : Nat) : n % 2 = (n.testBit 0).toNat := by
  rw [Nat.testBit_zero]
  rcases Nat.mod_two_eq_zero_or_one n with h | h <;> simp [h]
theorem bit1_xor (a b : Nat) : bit1 (a ^^^ b) = bit1 a ^^^ bit1 b := by
  have h1 : (a ^^^ b) / 2 = a / 2 ^^^ b / 2 := Nat.xor_div_two
  have h2 : (a ^^^ b) % 2 = (a % 2 + b % 2) % 2 := by
    rw [mod_bit (a ^^^ b), Nat.testBit_xor, mod_bit a, mod_bit b]; cases a.testBit 0 <;> cases b.testBit 0 <;> rfl
  unfold bit1
  rw [h1, h2]
  rcases Nat.mod_two_eq_zero_or_one a with ha | ha <;> rcases Nat.mod_two_eq_zero_or_one b with hb | hb
  · rw [if_neg (by omega), if_neg (by omega), if_neg (by omega)]
  · rw [if_pos (by omega), if_neg (by omega), if_pos (by omega), Nat.xor_assoc]
  · rw [if_pos (by omega), if_pos (by omega), if_neg (by omega), Nat.xor_assoc, Nat.xor_assoc, Nat.xor_comm 3988292384]
  · rw [if_neg (by omega), if_pos (by omega), if_pos (by omega), Nat.xor_assoc, Nat.xor_comm 3988292384 (b / 2 ^^^ 3988292384), Nat.xor_assoc, Nat.xor_self, Nat.xor_zero]
theorem bitsN_xor (a b n : Nat) : bitsN (a ^^^ b) n = bitsN a n ^^^ bitsN b n := by
  induction n with
  | zero => rfl
  | succ n ih => simp only [bitsN]; rw [ih, bit1_xor]
theorem bit1_even (x : Nat) : bit1 (2 * x) = x := by
  unfold bit1; rw [if_neg (by omega)]; omega
theorem bitsN_add (c m n : Nat) : bitsN c (m + n) = bitsN (bitsN c m) n := by
  induction n with
  | zero => rfl
  | succ n ih => show bit1 (bitsN c (m + n)) = bit1 _; rw [ih]
theorem bits4_16 (q : Nat) : bitsN (16 * q) 4 = q := by
  show bit1 (bit1 (bit1 (bit1 (16 * q)))) = q
  rw [show 16 * q = 2 * (2 * (2 * (2 * q))) by omega, bit1_even, bit1_even, bit1_even, bit1_even]
theorem bits4_tab (r : Nat) (h : r < 16) : bitsN r 4 = tabL.getD r 0 := by
  have : ∀ i : Fin 16, bitsN i.val 4 = tabL.getD i.val 0 := by decide +kernel
  exact this ⟨r, h⟩
theorem bits4_step (s : Nat) : bitsN s 4 = step4 s := by
  have e : s = (16 * (s / 16)) ^^^ (s % 16) := by
    have h := Nat.two_pow_add_eq_or_of_lt (i := 4) (b := s % 16) (by omega) (s / 16)
    have hd : (2 ^ 4 * (s / 16)) &&& (s % 16) = 0 := by
      apply Nat.eq_of_testBit_eq
      intro i
      rw [Nat.testBit_and, Nat.zero_testBit]
      by_cases hi : i < 4
      · rw [Nat.testBit_two_pow_mul]; simp; omega
      · have : (s % 16).testBit i = false := Nat.testBit_lt_two_pow (Nat.lt_of_lt_of_le (by omega : s % 16 < 2 ^ 4) (Nat.pow_le_pow_right (by decide) (by omega)))
        simp [this]
    have hx : (2 ^ 4 * (s / 16)) ^^^ (s % 16) = (2 ^ 4 * (s / 16)) ||| (s % 16) := by
      apply Nat.eq_of_testBit_eq
      intro i
      have hi := congrArg (fun x => x.testBit i) hd
      simp only [Nat.testBit_and, Nat.zero_testBit] at hi
      rw [Nat.testBit_xor, Nat.testBit_or]
      cases h1 : (2 ^ 4 * (s / 16)).testBit i <;> cases h2 : (s % 16).testBit i <;> simp_all
    have e2 : (16 * (s / 16)) ^^^ (s % 16) = 2 ^ 4 * (s / 16) + s % 16 := by
      rw [h]; exact hx
    rw [e2]; omega
  conv => lhs; rw [e]
  rw [bitsN_xor, bits4_16, bits4_tab _ (by omega)]
  rfl
theorem refByte_eq (s : Nat) (c : UInt8) : refByte s c = byteStep s c := by
  unfold refByte byteStep
  rw [show 8 = 4 + 4 from rfl, bitsN_add, bits4_step, bits4_step]
theorem refFold_eq (l : List UInt8) (s : Nat) : l.foldl refByte s = l.foldl byteStep s := by
  induction l generalizing s with
  | nil => rfl
  | cons c r ih => simp only [List.foldl_cons]; rw [refByte_eq]; exact ih _
end Go.Proofs.YtahpfhnekmilmaaGreatDoor
/- Contracts of wire.appendWord and wire.Frame, and of the document's own four, Sum and Frame. -/
namespace Go.Proofs.YtahpfhnekmilmaaGreatDoor
open Go.RowKit Go.Lib

/-- A word's bytes, the lowest first. -/
def word4 (n : Nat) : List UInt8 := [(n % 256).toUInt8, (n / 256 % 256).toUInt8, (n / 65536 % 256).toUInt8, (n / 16777216 % 256).toUInt8]
theorem word4_cells (n : Nat) (hn : n < 4294967296) : byteCells (word4 n) = [.int .u8 ((n : Int) % 256), .int .u8 ((n : Int) / 256 % 256), .int .u8 ((n : Int) / 65536 % 256), .int .u8 ((n : Int) / 16777216)] := by
  have e0 : ((n % 256 : Nat) : Int) = (n : Int) % 256 := by omega
  have e1 : ((n / 256 % 256 : Nat) : Int) = (n : Int) / 256 % 256 := by omega
  have e2 : ((n / 65536 % 256 : Nat) : Int) = (n : Int) / 65536 % 256 := by omega
  have e3 : ((n / 16777216 % 256 : Nat) : Int) = (n : Int) / 16777216 := by omega
  simp only [byteCells, word4, List.map_cons, List.map_nil]
  rw [toUInt8_toNat (by omega), toUInt8_toNat (by omega), toUInt8_toNat (by omega), toUInt8_toNat (by omega), e0, e1, e2, e3]
theorem four_new (w : World) (a b c d : Value) (e : TypeId) : ∀ j v, ([a, b, c, d] : List Value)[j]? = some v → (w.alloc (.cells #[a, b, c, d] e)).cell? ((⟨w.heap.size, 0, none⟩ : Addr).add j) = some v := by
  intro j v hj
  match j, hj with
  | 0, hj => simp at hj; subst hj; simp [Addr.add]
  | 1, hj => simp at hj; subst hj; simp [Addr.add]
  | 2, hj => simp at hj; subst hj; simp [Addr.add]
  | 3, hj => simp at hj; subst hj; simp [Addr.add]
theorem four_cell {a b c d : Int} : ∀ u ∈ ([.int .u8 a, .int .u8 b, .int .u8 c, .int .u8 d] : List Value), u.oneCell' = true := by
  intro u hu; simp at hu; rcases hu with rfl | rfl | rfl | rfl <;> rfl

/-- A frame's bytes. -/
def frameBytes (l : List UInt8) : List UInt8 := word4 l.length ++ l ++ word4 (crc (word4 l.length ++ l))
theorem crc_lt (l : List UInt8) : crc l < 4294967296 := by unfold crc; omega
theorem word4_length (n : Nat) : (word4 n).length = 4 := rfl
theorem own_later {w w' : World} {B : Nat} {e : TypeId} {sz : Nat} {v : Value} {n : Nat} {xs : List Value} (h : w.ownsRow B e sz v n xs) (hb : Below w.heap.size w w') : w'.ownsRow B e sz v n xs := by
  obtain ⟨h1, h2 | ⟨g, cap, cur, h3, h4, h5, h6⟩⟩ := h
  · exact ⟨h1, .inl h2⟩
  · have hg : g < w.heap.size := by
      rcases Nat.lt_or_ge g w.heap.size with h' | h'
      · exact h'
      · rw [Array.getElem?_eq_none h'] at h5; cases h5
    exact ⟨h1, .inr ⟨g, cap, cur, h3, h4, (hb.block g hg).trans h5, h6⟩⟩
theorem own_rb3 {w' : World} {v : Value} {B n : Nat} {x : List UInt8} {ys : List Value} (ho : w'.ownsRow B 5 1 v n ys) (hn : n = x.length) (hy : ys = byteCells x) (hl : x.length ≤ 1000000000000) : RBp w' w'.heap.size v x := by
  subst hn; subst hy; exact rb_own ho hl

end Go.Proofs.YtahpfhnekmilmaaGreatDoor
/- From the row's condition on the listed variables to the facts that the walks ask. -/
namespace Go.Proofs.YtahpfhnekmilmaaGreatDoor
open Go.ChangeShapes Go.WideShapes Go.RowKit Go.Lib

theorem Tryz.own : ownKnob Tryz.prog.godebug = none := by kernel_rfl
theorem Tryz.et : Tryz.prog.globalNamed "errors.errorType" = some 0 := by kernel_rfl
theorem Tryz.rt : (Tryz.prog.cutTypes.find? (·.1 == "internal/reflectlite.rtype")).map (·.2) = some 118 := by kernel_rfl
theorem Tryz.oneRow : ((List.range 204).filter fun t => Tryz.prog.rowNamed t [101, 114, 114, 111, 114]) = [31] := by kernel_rfl
theorem Tryz.size : Tryz.prog.types.size = 204 := by kernel_rfl

end Go.Proofs.YtahpfhnekmilmaaGreatDoor
/- Bytes that come in as an argument, as the walks ask for them. -/
namespace Go.Proofs.YtahpfhnekmilmaaGreatDoor
open Go.ChangeShapes Go.WideShapes Go.ChangeAt Go.RowKit Go.Lib

theorem Tryz.laidOut : laidOutB Tryz.prog = true := by kernel_rfl

set_option maxRecDepth 100000 in
/-- The address of a slice that came in is plain, and of a block that is there. -/
theorem slice_addr {W : World} {base : Nat} {a : Addr} {len cap : Nat} (h : Value.okWide Tryz.prog W .any base 34 (.slice (some a) len cap)) : a.spot = none ∧ a.block < W.heap.size := by
  simp only [Value.okWide, Tryz.underlying34, Cell.okWide, Cell.ok] at h
  obtain ⟨_, _, _, h2, row, cells, h3, _⟩ := h
  refine ⟨h2, ?_⟩
  rcases Nat.lt_or_ge a.block W.heap.size with h' | h'
  · exact h'
  · simp [World.shape?, Array.getElem?_eq_none h'] at h3

set_option maxRecDepth 100000 in
/-- Bytes that came in, as the walks ask for them. -/
theorem bytes_in {H : Type} {enc : TypeId × Value → H} {W : World} {base b0 : Nat} {hd : Bool} {a : Option Addr} {len cap : Nat} {d : DataW H} {ps : List MemPlace}
    (hv : Value.okWide Tryz.prog W .any base 34 (.slice a len cap)) (hT : DataW.Trod enc Tryz.prog W b0 (fun _ => true) hd 34 (.slice a len cap) d ps) :
    ∃ l : List UInt8, l.length = len ∧ len ≤ maxLen ∧ RBu W W.heap.size (.slice a len cap) l := by
  obtain ⟨fuel, hf⟩ := hT
  rcases open_ints Tryz.underlying34 Tryz.underlying5 (by kernel_rfl) hf with ⟨hcs, _⟩ | ⟨x, l, c, zs, hcs, _, hl, hm, hz, _, hcell, hwz⟩
  · simp [Value.cells] at hcs
    obtain ⟨rfl, rfl, rfl⟩ := hcs
    exact ⟨[], rfl, Nat.zero_le _, .inl ⟨rfl, rfl⟩⟩
  · simp [Value.cells] at hcs
    obtain ⟨rfl, rfl, rfl⟩ := hcs
    obtain ⟨hs, hb⟩ := slice_addr hv
    obtain ⟨b, off, spot⟩ := x
    simp only at hs
    subst hs
    have hzl : zs.length = cap := by simpa using hz
    have hlen : ((zs.take len).map fun z => z.toNat.toUInt8).length = len := by simp; omega
    refine ⟨(zs.take len).map fun z => z.toNat.toUInt8, hlen, by omega, .inr ⟨b, off, cap, hb, by omega, hm, by rw [hlen], fun i hi => ?_⟩⟩
    have hi' : i < zs.length := by omega
    have hil : i < len := by omega
    have h1 := hcell i hi'
    rw [Go.WideShapes.add_plain] at h1
    rw [h1]
    have hw := hwz zs[i] (List.getElem_mem hi')
    have hbd := bounds_u8 hw
    have e : ((zs.take len).map fun z => z.toNat.toUInt8).getD i 0 = zs[i].toNat.toUInt8 := by
      simp [List.getD_eq_getElem?_getD, hil, hi']
    have e2 : zs.getD i 0 = zs[i] := by simp [hi']
    rw [e, e2, toUInt8_toNat (by omega)]
    congr 2
    omega

end Go.Proofs.YtahpfhnekmilmaaGreatDoor
