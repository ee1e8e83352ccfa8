/- The walk of the statement WireNumbers: it answers true; nothing old turns. -/
import Derived.Test.YtpepilcdlhkmkaaGreatDoorJSumKnownRef1IntTextLawLengths
import Derived.Laws.AppendOwnNone
import Derived.Test.YtpepilcdlhkmkaaGreatDoorRows
import Derived.ProofKit
import Derived.LaidMore
import Derived.LaidHandle
import Derived.LaidLaws
import Derived.Lib.LaidTab
import Derived.OpenShut
import Derived.Stop.Joined
import Derived.ShutString
import Derived.ChangeOld
import Derived.Below
namespace Go.Proofs.YtpepilcdlhkmkaaGreatDoor
open Go.RowKit Go.Lib

/-- 'append(own, bytes...)', whatever slice the bytes are read of. -/
theorem wpList_append_rb {w : World} {ops : Array Oper} {rest : List Oper} {o : Oper} {a : Act} {Q : Exit → Act → World → Prop} (hgd : o.guard = none) (s x : Operand)
    (ho : o.op = .call { callee := .builtin .append, args := #[s, x], argTypes := #[34, 34] })
    (base : Nat) (v : Value) (n : Nat) (xs : List Value) (hs : a.eval s = v) (hown : w.ownsRow base 5 1 v n xs)
    (B : Nat) (xv : Value) (lx : List UInt8) (hx : a.eval x = xv) (hrb : RBp w B xv lx) (hn : n ≤ 1000000000) (hl : lx.length ≤ 1000000000) (hbase : base ≤ w.heap.size)
    (h : ∀ v' w', w'.ownsRow base 5 1 v' (n + lx.length) (xs ++ byteCells lx) → KeepT 5 w w' → Below base w w' → wpList Tryz.prog ops Q rest (a.put o.dst v') w') : wpList Tryz.prog ops Q (o :: rest) a w := by
  obtain ⟨i0, hi, hz0, hz1, hz2⟩ := info_parts Tryz.infoB
  obtain ⟨hlen, ⟨rfl, rfl⟩ | ⟨b, off, cap, hbB, hcap, hm, rfl, hcell⟩⟩ := hrb
  · refine wpList_append_own_none hgd s x 34 ho base 5 i0 1 Tryz.underlying34 hi v n xs hs hown hx ?_
    exact h v w (by simpa [byteCells] using hown) (KeepT.refl _ _) (Below.refl _ _)
  · refine wpList_append_own w hgd s x 34 ho base 5 i0 (.int .u8 0) 1 1 Tryz.underlying34 hi hz0 hz1 hz2 rfl (by decide) v n xs hs hown ⟨b, off, none⟩ lx.length cap (byteCells lx) hx (by rw [byteCells_length]; omega) ?_ ?_ (by unfold maxLen; omega) (by omega) hbase ?_
    · intro j u hj
      have hjl : j < lx.length := by
        have := (List.getElem?_eq_some_iff.1 hj).1
        rwa [byteCells_length] at this
      have e2 : (byteCells lx)[j]? = some (.int .u8 ((lx.getD j 0).toNat : Int)) := by
        simp [byteCells, hjl]
      have hj2 := Option.some.inj (e2.symm.trans hj)
      rw [← hj2]
      have e3 : (⟨b, off, none⟩ : Addr).add j = ⟨b, off + j, none⟩ := by unfold Addr.add; split <;> simp_all
      rw [e3]; exact hcell j hjl
    · intro u hu
      simp only [byteCells, List.mem_map] at hu
      obtain ⟨c, _, rfl⟩ := hu
      rfl
    · intro v' w' h1 h2 _
      exact h v' w' h1 (KeepT.of_grown hown h2) ((Below.refl _ _).grown h2 hbase (own_block_ge hown))

theorem bt {a b c : World} (h : Below a.heap.size a b) (h' : Below b.heap.size b c) : Below a.heap.size a c := h.trans (h'.mono h.size)
/-- A slice that reads as these bytes, whatever its size. -/
def RBu (w : World) (B : Nat) (v : Value) (l : List UInt8) : Prop :=
  (v = .slice none 0 0 ∧ l = []) ∨ ∃ b off cap, b < B ∧ l.length ≤ cap ∧ cap ≤ maxLen ∧ v = .slice (some ⟨b, off, none⟩) l.length cap ∧ ∀ i, i < l.length → w.cell? ⟨b, off + i, none⟩ = some (.int .u8 ((l.getD i 0).toNat : Int))
theorem RBu.rb {w : World} {B : Nat} {v : Value} {l : List UInt8} (h : RBu w B v l) (hl : l.length ≤ 1000000000000) : RBp w B v l := by
  rcases h with h | ⟨b, off, cap, h1, h2, h3, h4, h5⟩
  · exact ⟨hl, .inl h⟩
  · exact ⟨hl, .inr ⟨b, off, cap, h1, h2, h3, h4, h5⟩⟩
theorem RBu.len {w : World} {B : Nat} {v : Value} {l : List UInt8} (h : RBu w B v l) : ∃ a k, v = .slice a l.length k := by
  rcases h with ⟨rfl, rfl⟩ | ⟨b, off, cap, h1, h2, h3, rfl, h5⟩
  · exact ⟨none, 0, rfl⟩
  · exact ⟨_, _, rfl⟩

theorem text_take (s : ByteArray) (lm : List UInt8) : (⟨(((textBytes s ++ lm).drop (uvarint s.size).length).take s.size).toArray⟩ : ByteArray) = s := by
  have e : ((textBytes s ++ lm).drop (uvarint s.size).length).take s.size = s.data.toList := by
    rw [textBytes, List.append_assoc, List.drop_left, ← bytes_length s, List.take_left]
  rw [e]
theorem dec_text (s : ByteArray) (lm : List UInt8) (hs : s.size < 18446744073709551616) : decU (textBytes s ++ lm) = (s.size, (uvarint s.size).length, 0, 0) := by
  rw [textBytes, List.append_assoc]; exact decU_uv s.size hs _
theorem own_rb2 {w' : World} {v : Value} {B : Nat} {x y : List UInt8} (ho : w'.ownsRow B 5 1 v (0 + x.length + y.length) ([] ++ byteCells x ++ byteCells y)) (hl : x.length + y.length ≤ 1000000000000) : RBp w' w'.heap.size v (x ++ y) := by
  refine rb_own (B := B) ?_ (by simpa using hl)
  rw [byteCells_append, List.length_append]
  simpa using ho
theorem own_rb (x : List UInt8) {w w' : World} {v : Value} (ho : w'.ownsRow w.heap.size 5 1 v x.length (byteCells x)) (hl : x.length ≤ 1000000000000) : ∃ a k, v = .slice a x.length k ∧ RBp w' w'.heap.size (.slice a x.length k) x := by
  obtain ⟨a, k, rfl⟩ := own_slice ho
  exact ⟨a, k, rfl, rb_own ho hl⟩

end Go.Proofs.YtpepilcdlhkmkaaGreatDoor
/- From the row's condition on the listed variables to the facts that the walks ask. -/
namespace Go.Proofs.YtpepilcdlhkmkaaGreatDoor
open Go.ChangeShapes Go.WideShapes Go.RowKit Go.Lib

theorem Tryz.own : ownKnob Tryz.prog.godebug = none := by kernel_rfl
theorem Tryz.et : Tryz.prog.globalNamed "errors.errorType" = some 0 := by kernel_rfl
theorem Tryz.rt : (Tryz.prog.cutTypes.find? (·.1 == "internal/reflectlite.rtype")).map (·.2) = some 121 := by kernel_rfl
theorem Tryz.oneRow : ((List.range 207).filter fun t => Tryz.prog.rowNamed t [101, 114, 114, 111, 114]) = [31] := by kernel_rfl
theorem Tryz.size : Tryz.prog.types.size = 207 := by kernel_rfl

end Go.Proofs.YtpepilcdlhkmkaaGreatDoor
/- Bytes that come in as an argument, as the walks ask for them. -/
namespace Go.Proofs.YtpepilcdlhkmkaaGreatDoor
open Go.ChangeShapes Go.WideShapes Go.ChangeAt Go.RowKit Go.Lib

theorem Tryz.laidOut : laidOutB Tryz.prog = true := by kernel_rfl

set_option maxRecDepth 100000 in
/-- The address of a slice that came in is plain, and of a block that is there. -/
theorem slice_addr {W : World} {base : Nat} {a : Addr} {len cap : Nat} (h : Value.okWide Tryz.prog W .any base 34 (.slice (some a) len cap)) : a.spot = none ∧ a.block < W.heap.size := by
  simp only [Value.okWide, Tryz.underlying34, Cell.okWide, Cell.ok] at h
  obtain ⟨_, _, _, h2, row, cells, h3, _⟩ := h
  refine ⟨h2, ?_⟩
  rcases Nat.lt_or_ge a.block W.heap.size with h' | h'
  · exact h'
  · simp [World.shape?, Array.getElem?_eq_none h'] at h3

set_option maxRecDepth 100000 in
/-- Bytes that came in, as the walks ask for them. -/
theorem bytes_in {H : Type} {enc : TypeId × Value → H} {W : World} {base b0 : Nat} {hd : Bool} {a : Option Addr} {len cap : Nat} {d : DataW H} {ps : List MemPlace}
    (hv : Value.okWide Tryz.prog W .any base 34 (.slice a len cap)) (hT : DataW.Trod enc Tryz.prog W b0 (fun _ => true) hd 34 (.slice a len cap) d ps) :
    ∃ l : List UInt8, l.length = len ∧ len ≤ maxLen ∧ RBu W W.heap.size (.slice a len cap) l := by
  obtain ⟨fuel, hf⟩ := hT
  rcases open_ints Tryz.underlying34 Tryz.underlying5 (by kernel_rfl) hf with ⟨hcs, _⟩ | ⟨x, l, c, zs, hcs, _, hl, hm, hz, _, hcell, hwz⟩
  · simp [Value.cells] at hcs
    obtain ⟨rfl, rfl, rfl⟩ := hcs
    exact ⟨[], rfl, Nat.zero_le _, .inl ⟨rfl, rfl⟩⟩
  · simp [Value.cells] at hcs
    obtain ⟨rfl, rfl, rfl⟩ := hcs
    obtain ⟨hs, hb⟩ := slice_addr hv
    obtain ⟨b, off, spot⟩ := x
    simp only at hs
    subst hs
    have hzl : zs.length = cap := by simpa using hz
    have hlen : ((zs.take len).map fun z => z.toNat.toUInt8).length = len := by simp; omega
    refine ⟨(zs.take len).map fun z => z.toNat.toUInt8, hlen, by omega, .inr ⟨b, off, cap, hb, by omega, hm, by rw [hlen], fun i hi => ?_⟩⟩
    have hi' : i < zs.length := by omega
    have hil : i < len := by omega
    have h1 := hcell i hi'
    rw [Go.WideShapes.add_plain] at h1
    rw [h1]
    have hw := hwz zs[i] (List.getElem_mem hi')
    have hbd := bounds_u8 hw
    have e : ((zs.take len).map fun z => z.toNat.toUInt8).getD i 0 = zs[i].toNat.toUInt8 := by
      simp [List.getD_eq_getElem?_getD, hil, hi']
    have e2 : zs.getD i 0 = zs[i] := by simp [hi']
    rw [e, e2, toUInt8_toNat (by omega)]
    congr 2
    omega

end Go.Proofs.YtpepilcdlhkmkaaGreatDoor
