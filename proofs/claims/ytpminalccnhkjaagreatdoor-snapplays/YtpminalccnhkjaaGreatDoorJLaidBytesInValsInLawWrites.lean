/- From the row's condition on the listed variables to the facts that the walks ask. -/
import Derived.Test.YtpminalccnhkjaaGreatDoorRows
import Derived.Test.YtpminalccnhkjaaGreatDoorJKnownLenMathLawLengths
import Derived.ProofKit
import Derived.LaidMore
import Derived.LaidHandle
import Derived.LaidLaws
import Derived.Lib.LaidTab
import Derived.OpenShut
import Derived.Stop.Joined
import Derived.Test.YtpminalccnhkjaaGreatDoorJRef1IntTextLawNumbersCrcMathFrame
import Derived.ShutString
import Derived.ChangeOld
import Derived.Below
import Derived.Test.YtpminalccnhkjaaGreatDoorJJointRdAllRefRowREntry
import Derived.Deep.Strs
namespace Go.Proofs.YtpminalccnhkjaaGreatDoor
open Go.ChangeShapes Go.WideShapes Go.RowKit Go.Lib

abbrev laid2 : List (String × DataW Unit) := [("errors.errorType", Rows.laid_errors_errorType), ("consistory/wire.sumSteps", Rows.laid_consistory_wire_sumSteps)]
theorem Tryz.own : ownKnob Tryz.prog.godebug = none := by kernel_rfl
theorem Tryz.et : Tryz.prog.globalNamed "errors.errorType" = some 0 := by kernel_rfl
theorem Tryz.ss : Tryz.prog.globalNamed "consistory/wire.sumSteps" = some 1 := by kernel_rfl
theorem Tryz.ssT : (Tryz.prog.globals[1]?).map (·.type) = some 157 := by kernel_rfl
theorem Tryz.rt : (Tryz.prog.cutTypes.find? (·.1 == "internal/reflectlite.rtype")).map (·.2) = some 129 := by kernel_rfl
theorem Tryz.oneRow : ((List.range 204).filter fun t => Tryz.prog.rowNamed t [101, 114, 114, 111, 114]) = [27] := by kernel_rfl
theorem Tryz.size : Tryz.prog.types.size = 204 := by kernel_rfl

theorem handle_of_laid {W : World} (h : laidMetH Tryz.prog laid2 W) : ET W := by
  have h' : laidMet Tryz.prog [("consistory/wire.sumSteps", Rows.laid_consistory_wire_sumSteps)] W ∧ handlesMet Tryz.prog [("errors.errorType", Rows.laid_errors_errorType)] W := h
  obtain ⟨name, u, ty, e1, e2, e3, e4, e5⟩ := h'.2 _ (List.mem_singleton.2 rfl)
  have en : name = [101, 114, 114, 111, 114] := (Option.some.inj e1).symm
  subst en
  obtain rfl := Option.some.inj (Tryz.rt.symm.trans e2)
  have hm : ty ∈ (List.range 204).filter fun t => Tryz.prog.rowNamed t [101, 114, 114, 111, 114] := List.mem_filter.2 ⟨List.mem_range.2 (by rw [← Tryz.size]; exact e3), e4⟩
  rw [Tryz.oneRow] at hm
  obtain rfl := List.mem_singleton.1 hm
  have hh : typeHandle Tryz.prog 27 = .pointer (some ⟨2, 27, none⟩) := by kernel_rfl
  rw [hh] at e5
  unfold ET
  simpa using World.var?_cell Tryz.et e5 0
theorem table_of_laid {W : World} (h : laidMetH Tryz.prog laid2 W) : ST W := by
  have h' : laidMet Tryz.prog [("consistory/wire.sumSteps", tabData .u32 (tabL.map fun (n : Nat) => (n : Int)))] W ∧ handlesMet Tryz.prog [("errors.errorType", Rows.laid_errors_errorType)] W := h
  have ht := tabIs_of_head Tryz.ss Tryz.ssT Tryz.underlying157 Tryz.underlying143 (by kernel_rfl) (by kernel_rfl) h'.1
  intro i hi
  have := World.var?_cell Tryz.ss ht i
  simp only [List.map_map] at this
  have e : ((tabL.map ((fun z => Value.int .u32 z) ∘ fun (n : Nat) => (n : Int))).toArray)[i]? = some (.int .u32 ((tabL.getD i 0 : Nat) : Int)) := by
    have hl : i < tabL.length := by simpa [tabL] using hi
    simp [hl]
  rw [e] at this
  exact this
/-- The door's own heap meets the condition. -/
theorem door_met (os : Os) (args : Array Value) : laidMetH Tryz.prog laid2 ((World.doorLaid Tryz.prog 400 os).forCall (fun _ _ => 0) ⟨#[], args, []⟩).memory :=
  laidMetH_of_parts3 (fuel := 8) (laidMet_of_run' 8 (by kernel_rfl) (by kernel_rfl)) (by kernel_rfl) (by kernel_rfl)
end Go.Proofs.YtpminalccnhkjaaGreatDoor
/- Bytes that come in as an argument, as the walks ask for them. -/
namespace Go.Proofs.YtpminalccnhkjaaGreatDoor
open Go.ChangeShapes Go.WideShapes Go.ChangeAt Go.RowKit Go.Lib

theorem Tryz.laidOut : laidOutB Tryz.prog = true := by kernel_rfl

set_option maxRecDepth 100000 in
/-- The address of a slice that came in is plain, and of a block that is there. -/
theorem slice_addr {W : World} {base : Nat} {a : Addr} {len cap : Nat} (h : Value.okWide Tryz.prog W .any base 29 (.slice (some a) len cap)) : a.spot = none ∧ a.block < W.heap.size := by
  simp only [Value.okWide, Tryz.underlying29, Cell.okWide, Cell.ok] at h
  obtain ⟨_, _, _, h2, row, cells, h3, _⟩ := h
  refine ⟨h2, ?_⟩
  rcases Nat.lt_or_ge a.block W.heap.size with h' | h'
  · exact h'
  · simp [World.shape?, Array.getElem?_eq_none h'] at h3

set_option maxRecDepth 100000 in
/-- Bytes that came in, as the walks ask for them. -/
theorem bytes_in {H : Type} {enc : TypeId × Value → H} {W : World} {base b0 : Nat} {hd : Bool} {a : Option Addr} {len cap : Nat} {d : DataW H} {ps : List MemPlace}
    (hv : Value.okWide Tryz.prog W .any base 29 (.slice a len cap)) (hT : DataW.Trod enc Tryz.prog W b0 (fun _ => true) hd 29 (.slice a len cap) d ps) :
    ∃ l : List UInt8, l.length = len ∧ len ≤ maxLen ∧ RBu W W.heap.size (.slice a len cap) l := by
  obtain ⟨fuel, hf⟩ := hT
  rcases open_ints Tryz.underlying29 Tryz.underlying5 (by kernel_rfl) hf with ⟨hcs, _⟩ | ⟨x, l, c, zs, hcs, _, hl, hm, hz, _, hcell, hwz⟩
  · simp [Value.cells] at hcs
    obtain ⟨rfl, rfl, rfl⟩ := hcs
    exact ⟨[], rfl, Nat.zero_le _, .inl ⟨rfl, rfl⟩⟩
  · simp [Value.cells] at hcs
    obtain ⟨rfl, rfl, rfl⟩ := hcs
    obtain ⟨hs, hb⟩ := slice_addr hv
    obtain ⟨b, off, spot⟩ := x
    simp only at hs
    subst hs
    have hzl : zs.length = cap := by simpa using hz
    have hlen : ((zs.take len).map fun z => z.toNat.toUInt8).length = len := by simp; omega
    refine ⟨(zs.take len).map fun z => z.toNat.toUInt8, hlen, by omega, .inr ⟨b, off, cap, hb, by omega, hm, by rw [hlen], fun i hi => ?_⟩⟩
    have hi' : i < zs.length := by omega
    have hil : i < len := by omega
    have h1 := hcell i hi'
    rw [Go.WideShapes.add_plain] at h1
    rw [h1]
    have hw := hwz zs[i] (List.getElem_mem hi')
    have hbd := bounds_u8 hw
    have e : ((zs.take len).map fun z => z.toNat.toUInt8).getD i 0 = zs[i].toNat.toUInt8 := by
      simp [List.getD_eq_getElem?_getD, hil, hi']
    have e2 : zs.getD i 0 = zs[i] := by simp [hi']
    rw [e, e2, toUInt8_toNat (by omega)]
    congr 2
    omega

end Go.Proofs.YtpminalccnhkjaaGreatDoor
/- Rows of values and entries that come in as arguments, as the walks ask for them. -/
namespace Go.Proofs.YtpminalccnhkjaaGreatDoor
open Go.ChangeShapes Go.WideShapes Go.ChangeAt Go.RowKit Go.Lib

theorem list_of {α : Type} (Q : Nat → α → Prop) : ∀ n, (∀ i, i < n → ∃ g, Q i g) → ∃ gs : List α, gs.length = n ∧ ∀ i g, gs[i]? = some g → Q i g := by
  intro n
  induction n with
  | zero => intro _; exact ⟨[], rfl, fun i g h => by simp at h⟩
  | succ n ih =>
    intro h
    obtain ⟨gs, hl, hg⟩ := ih fun i hi => h i (by omega)
    obtain ⟨g, hq⟩ := h n (by omega)
    refine ⟨gs ++ [g], by simp [hl], fun i x hx => ?_⟩
    rcases Nat.lt_trichotomy i n with hi | hi | hi
    · rw [List.getElem?_append_left (by omega)] at hx; exact hg i x hx
    · subst hi
      rw [List.getElem?_append_right (by omega), hl] at hx
      simp at hx; subst hx; exact hq
    · rw [List.getElem?_eq_none (by simp; omega)] at hx; cases hx
theorem list3 {α : Type} {cs : List α} (h : cs.length = 3) : ∃ a b c, cs = [a, b, c] := by
  match cs, h with
  | [a, b, c], _ => exact ⟨a, b, c, rfl⟩
theorem array5 {α : Type} {cs : Array α} (h : cs.size = 5) : ∃ a b c d e, cs = #[a, b, c, d, e] := by
  obtain ⟨l⟩ := cs
  match l, h with
  | [a, b, c, d, e], _ => exact ⟨a, b, c, d, e, rfl⟩

/-- A row of values, whatever its length. -/
def RVu (w : World) (B : Nat) (v : Value) (gs : List GV) : Prop :=
  gs.length ≤ maxLen ∧ (∀ g ∈ gs, g.ok) ∧ ((v = .slice none 0 0 ∧ gs = []) ∨
    ∃ b off cap, b < B ∧ v = .slice (some ⟨b, off, none⟩) gs.length cap ∧ ∀ i g, gs[i]? = some g → w.cell? ⟨b, off + i * 3, none⟩ = some (.int .i64 g.kind) ∧ w.cell? ⟨b, off + i * 3 + 1, none⟩ = some (.int .i64 g.int) ∧ w.cell? ⟨b, off + i * 3 + 2, none⟩ = some (.string g.text))
theorem RVu.rv {w : World} {B : Nat} {v : Value} {gs : List GV} (h : RVu w B v gs) (hl : gs.length ≤ 1000) : RV w B v gs := ⟨by omega, h.2.1, h.2.2⟩

theorem RVu.later {w w' : World} {B B' : Nat} {v : Value} {gs : List GV} (h : RVu w B v gs) (hb : Below B w w') (hB : B ≤ B') : RVu w' B' v gs := by
  obtain ⟨h1, h2, h3 | ⟨b, off, cap, hbB, rfl, hc⟩⟩ := h
  · exact ⟨h1, h2, .inl h3⟩
  · refine ⟨h1, h2, .inr ⟨b, off, cap, by omega, rfl, fun i g hg => ?_⟩⟩
    obtain ⟨c0, c1, c2⟩ := hc i g hg
    exact ⟨(hb.cell (p := ⟨b, off + i * 3, none⟩) hbB).trans c0, (hb.cell (p := ⟨b, off + i * 3 + 1, none⟩) hbB).trans c1, (hb.cell (p := ⟨b, off + i * 3 + 2, none⟩) hbB).trans c2⟩

theorem Tryz.cells9 : Tryz.prog.cellsOf 9 = 1 := by kernel_rfl
theorem Tryz.cells2 : Tryz.prog.cellsOf 2 = 1 := by kernel_rfl
theorem Tryz.cells32 : Tryz.prog.cellsOf 32 = 1 := by kernel_rfl
theorem Tryz.cells3 : Tryz.prog.cellsOf 3 = 1 := by kernel_rfl

section
variable {H : Type} {enc : TypeId × Value → H} {W : World} {base : Nat} {sp : Nat → Bool} {hd : Bool}

theorem trod_struct5 {P : Program} {t : TypeId} {f0 f1 f2 f3 f4 : Field} {fuel : Nat} {cs : List Value} {x : DataW H × List MemPlace} (ht : P.underlying t = some (.struct #[f0, f1, f2, f3, f4])) (h : DataW.trod enc P W base sp hd fuel t cs = some x) :
    ∃ y0 y1 y2 y3 y4 n, cs.length = P.cellsOf t ∧ DataW.trod enc P W base sp hd n f0.type ((cs.drop f0.offset).take (P.cellsOf f0.type)) = some y0 ∧ DataW.trod enc P W base sp hd n f1.type ((cs.drop f1.offset).take (P.cellsOf f1.type)) = some y1 ∧
      DataW.trod enc P W base sp hd n f2.type ((cs.drop f2.offset).take (P.cellsOf f2.type)) = some y2 ∧ DataW.trod enc P W base sp hd n f3.type ((cs.drop f3.offset).take (P.cellsOf f3.type)) = some y3 ∧
      DataW.trod enc P W base sp hd n f4.type ((cs.drop f4.offset).take (P.cellsOf f4.type)) = some y4 := by
  obtain ⟨xs, n, _, rfl, hl, hlen, hf⟩ := DataW.trod_struct ht h
  match xs, hlen with
  | [y0, y1, y2, y3, y4], _ => exact ⟨y0, y1, y2, y3, y4, n, hl, by simpa using hf 0 f0 rfl, by simpa using hf 1 f1 rfl, by simpa using hf 2 f2 rfl, by simpa using hf 3 f3 rfl, by simpa using hf 4 f4 rfl⟩

end
end Go.Proofs.YtpminalccnhkjaaGreatDoor
/- The walk of the statement WireWrites: it answers true; nothing old turns. -/
namespace Go.Proofs.YtpminalccnhkjaaGreatDoor
open Go.RowKit Go.Lib

theorem ET.later {w w' : World} (h : ET w) (hb : Below w.heap.size w w') : ET w' := h.below hb h.lt
theorem ST.later {w w' : World} (h : ST w) (hb : Below w.heap.size w w') : ST w' := h.below hb h.lt

end Go.Proofs.YtpminalccnhkjaaGreatDoor
