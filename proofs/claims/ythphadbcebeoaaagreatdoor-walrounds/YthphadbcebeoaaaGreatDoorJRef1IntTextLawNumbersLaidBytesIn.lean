/- Contracts of the document's own writers of numbers and texts (the statements' reference), and of wire.PutText. -/
import Derived.Test.YthphadbcebeoaaaGreatDoorJValsVals2Read3TakeTextVRVal
import Derived.Test.YthphadbcebeoaaaGreatDoorJVals3Rows2PutRowListOfKnownLenMathLawLengths
import Derived.Laws.AppendOwnNone
import Derived.Test.YthphadbcebeoaaaGreatDoorRows
import Derived.ProofKit
import Derived.LaidMore
import Derived.LaidHandle
import Derived.LaidLaws
import Derived.Lib.LaidTab
import Derived.OpenShut
import Derived.Stop.Joined
import Derived.ShutString
import Derived.ChangeOld
import Derived.Below
namespace Go.Proofs.YthphadbcebeoaaaGreatDoor
open Go.RowKit Go.Lib

theorem cells_more' (done : List UInt8) (y : Nat) :
    byteCells done ++ [Value.int IntKind.u8 ((y : Int) % 128 + 128)] = byteCells (done ++ [(y % 128 + 128).toUInt8]) := by
  rw [byteCells_snoc done (by omega)]
  have e : ((y : Int) % 128 + 128) = ((y % 128 + 128 : Nat) : Int) := by omega
  rw [e]
theorem cells_last' (done : List UInt8) (y : Nat) (h : y < 128) :
    byteCells done ++ [Value.int IntKind.u8 (y : Int)] = byteCells (done ++ [y.toUInt8]) := by
  rw [byteCells_snoc done (by omega)]

set_option maxHeartbeats 1600000 in
set_option maxRecDepth 100000 in
theorem refPutUint_any (x : Nat) (w : World) (hx : x < 18446744073709551616) :
    Calls Tryz.prog 64 #[.int .u64 x] w fun e w' =>
      ∃ v', e = .returned v' ∧ w'.ownsRow w.heap.size 5 1 v' (uvarint x).length (byteCells (uvarint x)) ∧ Below w.heap.size w w' := by
  obtain ⟨i0, hi, hz0, hz1, hz2⟩ := info_parts Tryz.infoB
  go_enter Tryz.func64, Tryz.ntmps64
  go_wp2
  go_loopw [0, 3] (fun n v wr => ∃ (y : Nat) (done : List UInt8), y ≤ x ∧ n = .int .u64 y ∧ done ++ uvarint y = uvarint x ∧ wr.ownsRow w.heap.size 5 1 v done.length (byteCells done) ∧ Below w.heap.size w wr)
    (fun n _ _ => (intOf n).toNat)
  case atStart => exact ⟨x, [], Nat.le_refl _, rfl, rfl, World.ownsRow_nil _ _ _ _, Below.refl _ _⟩
  case round =>
    obtain ⟨y, done, hy, rfl, hd, hown, hnx⟩ := hrel
    have hdn := uv_done hx hd
    have hsz := hnx.size
    by_cases hge : 128 ≤ y
    · go_wp2_with (first | (at_builtin; refine wpList_append_own _ rfl (.tmp 6) (.tmp 11) 22 rfl w.heap.size 5 i0 (.int .u8 0) 1 1 Tryz.underlying22 hi hz0 hz1 hz2 rfl (by decide) _ _ _ rfl (hown.alloc _) ⟨wr.heap.size, 0, none⟩ 1 1 [_] rfl rfl (one_new _ _ _) one_cell (by unfold maxLen; omega) (by omega) (by simp; omega) ?_))
      intro v' w1 hown1 hgrow _
      rw [cells_more'] at hown1
      have hb1 := (hnx.alloc (by omega) (.cells #[.int .u8 ((y : Int) % 128 + 128)] 5)).grown hgrow (by simp; omega) (own_block_ge hown)
      have HU : Hid ((done ++ [(y % 128 + 128).toUInt8]) ++ uvarint (y / 128) = uvarint x) := uv_more hge hd
      clear hd hown hgrow hnx
      go_wp2
      go_roundw
      case rel => exact ⟨y / 128, done ++ [(y % 128 + 128).toUInt8], by omega, by go_num, HU.out, by simpa using hown1, hb1⟩
      case measure => simp [intOf]; omega
    · go_wp2_with (first | (at_builtin; refine wpList_append_own _ rfl (.tmp 15) (.tmp 18) 22 rfl w.heap.size 5 i0 (.int .u8 0) 1 1 Tryz.underlying22 hi hz0 hz1 hz2 rfl (by decide) _ _ _ rfl (hown.alloc _) ⟨wr.heap.size, 0, none⟩ 1 1 [_] rfl rfl (one_new _ _ _) one_cell (by unfold maxLen; omega) (by omega) (by simp; omega) ?_))
      intro v' w1 hown1 hgrow _
      rw [cells_last' _ _ (Nat.lt_of_not_le hge)] at hown1
      have hb1 := (hnx.alloc (by omega) (.cells #[.int .u8 (y : Int)] 5)).grown hgrow (by simp; omega) (own_block_ge hown)
      have HU : Hid (done ++ [y.toUInt8] = uvarint x) := uv_last (by omega) hd
      clear hd hown hgrow hnx
      go_wp2
      go_ret
      refine ⟨v', rfl, ?_, hb1⟩
      rw [← HU.out]; simpa using hown1

/-- The bytes of a text. -/
def textBytes (t : ByteArray) : List UInt8 := uvarint t.size ++ t.data.toList
theorem textBytes_length (t : ByteArray) : (textBytes t).length = (uvarint t.size).length + t.size := by rw [textBytes, List.length_append, bytes_length]

set_option maxHeartbeats 1600000 in
theorem refPutText_any (t : ByteArray) (w : World) (ht : t.size ≤ 1000000000) :
    Calls Tryz.prog 65 #[.string t] w fun e w' =>
      ∃ v', e = .returned v' ∧ w'.ownsRow w.heap.size 5 1 v' (textBytes t).length (byteCells (textBytes t)) ∧ Below w.heap.size w w' := by
  obtain ⟨i0, hi, hz0, hz1, hz2⟩ := info_parts Tryz.infoB
  have hu := uvarint_length64 (x := t.size) (by omega)
  have HP := hide (refPutUint_any t.size w (by omega))
  go_enter Tryz.func65, Tryz.ntmps65
  go_wp2_with (first | (go_at_call 64; refine (unhide HP).mono ?_; rintro e w1 ⟨v1, rfl, ho1, hb1⟩; have hs1 := hb1.size) | (at_builtin; refine wpList_append_own_string _ rfl (.tmp 6) (.tmp 7) 22 9 rfl w.heap.size 5 i0 Tryz.underlying22 Tryz.underlying9 hi hz0 hz1 hz2 _ _ _ rfl ho1 t rfl (by unfold maxLen; omega) (by omega) (by omega) ?_))
  intro v' w2 ho2 hg2 _
  have hb2 := hb1.grown hg2 hs1 (own_block_ge ho1)
  have HO := hide ho2
  clear ho2 hg2 ho1
  go_wp2
  go_ret
  refine ⟨v', rfl, ?_, hb2⟩
  rw [textBytes_length, textBytes, byteCells_append]; exact unhide HO

end Go.Proofs.YthphadbcebeoaaaGreatDoor
/- Contracts of wire.Int and wire.Text. -/
namespace Go.Proofs.YthphadbcebeoaaaGreatDoor
open Go.RowKit Go.Lib

theorem unzig_zigzag {k : Int} (h0 : -9223372036854775808 ≤ k) (h1 : k < 9223372036854775808) : unzig (zigzag k) = k := by
  unfold unzig zigzag
  by_cases h : 0 ≤ k
  · rw [if_pos h, if_pos (by omega)]; omega
  · rw [if_neg h, if_neg (by omega)]; omega

theorem dec_all (l : List UInt8) : (∃ n k, decU l = (n, k, 0, 0) ∧ n < 18446744073709551616 ∧ k ≤ l.length) ∨ (∃ c q, (c = 20 ∨ c = 22) ∧ decU l = (0, 0, c, q)) := by
  rcases dec_cases l 0 0 (by omega) (by simp) with ⟨n, k, e, g1, g2, g3⟩ | ⟨q, e⟩ | ⟨q, e, g⟩
  · exact .inl ⟨n, k, e, g1, by omega⟩
  · exact .inr ⟨20, q, .inl rfl, e⟩
  · exact .inr ⟨22, q, .inr rfl, e⟩

/-- A slice within bytes. -/
theorem rb_mid {w : World} {B b off cap a n : Nat} {l : List UInt8} (hbB : b < B) (hl : a + n ≤ l.length) (hcap : l.length ≤ cap) (hm : cap ≤ maxLen) (hlen : l.length ≤ 1000000000000)
    (hcell : ∀ i, i < l.length → w.cell? ⟨b, off + i, none⟩ = some (.int .u8 ((l.getD i 0).toNat : Int))) : RBp w B (.slice (some ⟨b, off + a, none⟩) (a + n - a) (cap - a)) ((l.drop a).take n) :=
  rb_take hbB (by omega) (by omega) hcap hm hlen hcell

end Go.Proofs.YthphadbcebeoaaaGreatDoor
/- The walk of the statement WireNumbers: it answers true; nothing old turns. -/
namespace Go.Proofs.YthphadbcebeoaaaGreatDoor
open Go.RowKit Go.Lib

/-- 'append(own, bytes...)', whatever slice the bytes are read of. -/
theorem wpList_append_rb {w : World} {ops : Array Oper} {rest : List Oper} {o : Oper} {a : Act} {Q : Exit → Act → World → Prop} (hgd : o.guard = none) (s x : Operand)
    (ho : o.op = .call { callee := .builtin .append, args := #[s, x], argTypes := #[22, 22] })
    (base : Nat) (v : Value) (n : Nat) (xs : List Value) (hs : a.eval s = v) (hown : w.ownsRow base 5 1 v n xs)
    (B : Nat) (xv : Value) (lx : List UInt8) (hx : a.eval x = xv) (hrb : RBp w B xv lx) (hn : n ≤ 1000000000) (hl : lx.length ≤ 1000000000) (hbase : base ≤ w.heap.size)
    (h : ∀ v' w', w'.ownsRow base 5 1 v' (n + lx.length) (xs ++ byteCells lx) → KeepT 5 w w' → Below base w w' → wpList Tryz.prog ops Q rest (a.put o.dst v') w') : wpList Tryz.prog ops Q (o :: rest) a w := by
  obtain ⟨i0, hi, hz0, hz1, hz2⟩ := info_parts Tryz.infoB
  obtain ⟨hlen, ⟨rfl, rfl⟩ | ⟨b, off, cap, hbB, hcap, hm, rfl, hcell⟩⟩ := hrb
  · refine wpList_append_own_none hgd s x 22 ho base 5 i0 1 Tryz.underlying22 hi v n xs hs hown hx ?_
    exact h v w (by simpa [byteCells] using hown) (KeepT.refl _ _) (Below.refl _ _)
  · refine wpList_append_own w hgd s x 22 ho base 5 i0 (.int .u8 0) 1 1 Tryz.underlying22 hi hz0 hz1 hz2 rfl (by decide) v n xs hs hown ⟨b, off, none⟩ lx.length cap (byteCells lx) hx (by rw [byteCells_length]; omega) ?_ ?_ (by unfold maxLen; omega) (by omega) hbase ?_
    · intro j u hj
      have hjl : j < lx.length := by
        have := (List.getElem?_eq_some_iff.1 hj).1
        rwa [byteCells_length] at this
      have e2 : (byteCells lx)[j]? = some (.int .u8 ((lx.getD j 0).toNat : Int)) := by
        simp [byteCells, hjl]
      have hj2 := Option.some.inj (e2.symm.trans hj)
      rw [← hj2]
      have e3 : (⟨b, off, none⟩ : Addr).add j = ⟨b, off + j, none⟩ := by unfold Addr.add; split <;> simp_all
      rw [e3]; exact hcell j hjl
    · intro u hu
      simp only [byteCells, List.mem_map] at hu
      obtain ⟨c, _, rfl⟩ := hu
      rfl
    · intro v' w' h1 h2 _
      exact h v' w' h1 (KeepT.of_grown hown h2) ((Below.refl _ _).grown h2 hbase (own_block_ge hown))

theorem bt {a b c : World} (h : Below a.heap.size a b) (h' : Below b.heap.size b c) : Below a.heap.size a c := h.trans (h'.mono h.size)
/-- A slice that reads as these bytes, whatever its size. -/
def RBu (w : World) (B : Nat) (v : Value) (l : List UInt8) : Prop :=
  (v = .slice none 0 0 ∧ l = []) ∨ ∃ b off cap, b < B ∧ l.length ≤ cap ∧ cap ≤ maxLen ∧ v = .slice (some ⟨b, off, none⟩) l.length cap ∧ ∀ i, i < l.length → w.cell? ⟨b, off + i, none⟩ = some (.int .u8 ((l.getD i 0).toNat : Int))
theorem RBu.rb {w : World} {B : Nat} {v : Value} {l : List UInt8} (h : RBu w B v l) (hl : l.length ≤ 1000000000000) : RBp w B v l := by
  rcases h with h | ⟨b, off, cap, h1, h2, h3, h4, h5⟩
  · exact ⟨hl, .inl h⟩
  · exact ⟨hl, .inr ⟨b, off, cap, h1, h2, h3, h4, h5⟩⟩
theorem RBu.len {w : World} {B : Nat} {v : Value} {l : List UInt8} (h : RBu w B v l) : ∃ a k, v = .slice a l.length k := by
  rcases h with ⟨rfl, rfl⟩ | ⟨b, off, cap, h1, h2, h3, rfl, h5⟩
  · exact ⟨none, 0, rfl⟩
  · exact ⟨_, _, rfl⟩

theorem text_take (s : ByteArray) (lm : List UInt8) : (⟨(((textBytes s ++ lm).drop (uvarint s.size).length).take s.size).toArray⟩ : ByteArray) = s := by
  have e : ((textBytes s ++ lm).drop (uvarint s.size).length).take s.size = s.data.toList := by
    rw [textBytes, List.append_assoc, List.drop_left, ← bytes_length s, List.take_left]
  rw [e]
theorem dec_text (s : ByteArray) (lm : List UInt8) (hs : s.size < 18446744073709551616) : decU (textBytes s ++ lm) = (s.size, (uvarint s.size).length, 0, 0) := by
  rw [textBytes, List.append_assoc]; exact decU_uv s.size hs _
theorem own_rb2 {w' : World} {v : Value} {B : Nat} {x y : List UInt8} (ho : w'.ownsRow B 5 1 v (0 + x.length + y.length) ([] ++ byteCells x ++ byteCells y)) (hl : x.length + y.length ≤ 1000000000000) : RBp w' w'.heap.size v (x ++ y) := by
  refine rb_own (B := B) ?_ (by simpa using hl)
  rw [byteCells_append, List.length_append]
  simpa using ho
theorem own_rb (x : List UInt8) {w w' : World} {v : Value} (ho : w'.ownsRow w.heap.size 5 1 v x.length (byteCells x)) (hl : x.length ≤ 1000000000000) : ∃ a k, v = .slice a x.length k ∧ RBp w' w'.heap.size (.slice a x.length k) x := by
  obtain ⟨a, k, rfl⟩ := own_slice ho
  exact ⟨a, k, rfl, rb_own ho hl⟩

end Go.Proofs.YthphadbcebeoaaaGreatDoor
/- From the row's condition on the listed variables to the facts that the walks ask. -/
namespace Go.Proofs.YthphadbcebeoaaaGreatDoor
open Go.ChangeShapes Go.WideShapes Go.RowKit Go.Lib

abbrev laid2 : List (String × DataW Unit) := [("errors.errorType", Rows.laid_errors_errorType), ("consistory/wire.sumSteps", Rows.laid_consistory_wire_sumSteps)]
theorem Tryz.own : ownKnob Tryz.prog.godebug = none := by kernel_rfl
theorem Tryz.et : Tryz.prog.globalNamed "errors.errorType" = some 0 := by kernel_rfl
theorem Tryz.ss : Tryz.prog.globalNamed "consistory/wire.sumSteps" = some 1 := by kernel_rfl
theorem Tryz.ssT : (Tryz.prog.globals[1]?).map (·.type) = some 191 := by kernel_rfl
theorem Tryz.rt : (Tryz.prog.cutTypes.find? (·.1 == "internal/reflectlite.rtype")).map (·.2) = some 149 := by kernel_rfl
theorem Tryz.oneRow : ((List.range 254).filter fun t => Tryz.prog.rowNamed t [101, 114, 114, 111, 114]) = [31] := by kernel_rfl
theorem Tryz.size : Tryz.prog.types.size = 254 := by kernel_rfl

theorem handle_of_laid {W : World} (h : laidMetH Tryz.prog laid2 W) : ET W := by
  have h' : laidMet Tryz.prog [("consistory/wire.sumSteps", Rows.laid_consistory_wire_sumSteps)] W ∧ handlesMet Tryz.prog [("errors.errorType", Rows.laid_errors_errorType)] W := h
  obtain ⟨name, u, ty, e1, e2, e3, e4, e5⟩ := h'.2 _ (List.mem_singleton.2 rfl)
  have en : name = [101, 114, 114, 111, 114] := (Option.some.inj e1).symm
  subst en
  obtain rfl := Option.some.inj (Tryz.rt.symm.trans e2)
  have hm : ty ∈ (List.range 254).filter fun t => Tryz.prog.rowNamed t [101, 114, 114, 111, 114] := List.mem_filter.2 ⟨List.mem_range.2 (by rw [← Tryz.size]; exact e3), e4⟩
  rw [Tryz.oneRow] at hm
  obtain rfl := List.mem_singleton.1 hm
  have hh : typeHandle Tryz.prog 31 = .pointer (some ⟨2, 31, none⟩) := by kernel_rfl
  rw [hh] at e5
  unfold ET
  simpa using World.var?_cell Tryz.et e5 0
theorem table_of_laid {W : World} (h : laidMetH Tryz.prog laid2 W) : ST W := by
  have h' : laidMet Tryz.prog [("consistory/wire.sumSteps", tabData .u32 (tabL.map fun (n : Nat) => (n : Int)))] W ∧ handlesMet Tryz.prog [("errors.errorType", Rows.laid_errors_errorType)] W := h
  have ht := tabIs_of_head Tryz.ss Tryz.ssT Tryz.underlying191 Tryz.underlying172 (by kernel_rfl) (by kernel_rfl) h'.1
  intro i hi
  have := World.var?_cell Tryz.ss ht i
  simp only [List.map_map] at this
  have e : ((tabL.map ((fun z => Value.int .u32 z) ∘ fun (n : Nat) => (n : Int))).toArray)[i]? = some (.int .u32 ((tabL.getD i 0 : Nat) : Int)) := by
    have hl : i < tabL.length := by simpa [tabL] using hi
    simp [hl]
  rw [e] at this
  exact this
/-- The door's own heap meets the condition. -/
theorem door_met (os : Os) (args : Array Value) : laidMetH Tryz.prog laid2 ((World.doorLaid Tryz.prog 400 os).forCall (fun _ _ => 0) ⟨#[], args, []⟩).memory :=
  laidMetH_of_parts3 (fuel := 8) (laidMet_of_run' 8 (by kernel_rfl) (by kernel_rfl)) (by kernel_rfl) (by kernel_rfl)
end Go.Proofs.YthphadbcebeoaaaGreatDoor
/- Bytes that come in as an argument, as the walks ask for them. -/
namespace Go.Proofs.YthphadbcebeoaaaGreatDoor
open Go.ChangeShapes Go.WideShapes Go.ChangeAt Go.RowKit Go.Lib

theorem Tryz.laidOut : laidOutB Tryz.prog = true := by kernel_rfl

set_option maxRecDepth 100000 in
/-- The address of a slice that came in is plain, and of a block that is there. -/
theorem slice_addr {W : World} {base : Nat} {a : Addr} {len cap : Nat} (h : Value.okWide Tryz.prog W .any base 22 (.slice (some a) len cap)) : a.spot = none ∧ a.block < W.heap.size := by
  simp only [Value.okWide, Tryz.underlying22, Cell.okWide, Cell.ok] at h
  obtain ⟨_, _, _, h2, row, cells, h3, _⟩ := h
  refine ⟨h2, ?_⟩
  rcases Nat.lt_or_ge a.block W.heap.size with h' | h'
  · exact h'
  · simp [World.shape?, Array.getElem?_eq_none h'] at h3

set_option maxRecDepth 100000 in
/-- Bytes that came in, as the walks ask for them. -/
theorem bytes_in {H : Type} {enc : TypeId × Value → H} {W : World} {base b0 : Nat} {hd : Bool} {a : Option Addr} {len cap : Nat} {d : DataW H} {ps : List MemPlace}
    (hv : Value.okWide Tryz.prog W .any base 22 (.slice a len cap)) (hT : DataW.Trod enc Tryz.prog W b0 (fun _ => true) hd 22 (.slice a len cap) d ps) :
    ∃ l : List UInt8, l.length = len ∧ len ≤ maxLen ∧ RBu W W.heap.size (.slice a len cap) l := by
  obtain ⟨fuel, hf⟩ := hT
  rcases open_ints Tryz.underlying22 Tryz.underlying5 (by kernel_rfl) hf with ⟨hcs, _⟩ | ⟨x, l, c, zs, hcs, _, hl, hm, hz, _, hcell, hwz⟩
  · simp [Value.cells] at hcs
    obtain ⟨rfl, rfl, rfl⟩ := hcs
    exact ⟨[], rfl, Nat.zero_le _, .inl ⟨rfl, rfl⟩⟩
  · simp [Value.cells] at hcs
    obtain ⟨rfl, rfl, rfl⟩ := hcs
    obtain ⟨hs, hb⟩ := slice_addr hv
    obtain ⟨b, off, spot⟩ := x
    simp only at hs
    subst hs
    have hzl : zs.length = cap := by simpa using hz
    have hlen : ((zs.take len).map fun z => z.toNat.toUInt8).length = len := by simp; omega
    refine ⟨(zs.take len).map fun z => z.toNat.toUInt8, hlen, by omega, .inr ⟨b, off, cap, hb, by omega, hm, by rw [hlen], fun i hi => ?_⟩⟩
    have hi' : i < zs.length := by omega
    have hil : i < len := by omega
    have h1 := hcell i hi'
    rw [Go.WideShapes.add_plain] at h1
    rw [h1]
    have hw := hwz zs[i] (List.getElem_mem hi')
    have hbd := bounds_u8 hw
    have e : ((zs.take len).map fun z => z.toNat.toUInt8).getD i 0 = zs[i].toNat.toUInt8 := by
      simp [List.getD_eq_getElem?_getD, hil, hi']
    have e2 : zs.getD i 0 = zs[i] := by simp [hi']
    rw [e, e2, toUInt8_toNat (by omega)]
    congr 2
    omega

end Go.Proofs.YthphadbcebeoaaaGreatDoor
