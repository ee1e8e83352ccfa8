/- Contracts of the statements' helps: Num, known, Few. -/
import Derived.Test.YtehgoioinogmkaaGreatDoorVSum3
import Derived.Test.YtehgoioinogmkaaGreatDoorVTest2
import Derived.Test.YtehgoioinogmkaaGreatDoorJNumsDecFaultsVErr
import Derived.Laws.BytesArg
import Derived.Lib.IndexLaws
import Derived.Lib.BytesEntry
import Derived.Lib.EndianBits
import Derived.Test.YtehgoioinogmkaaGreatDoorJPlainLMath2LMath3XLex1XLex2
import Derived.Deep.RegionHeld3
import Derived.OwnWalk
import Derived.Deep.CutRange
import Derived.Deep.CutBlock
import Derived.Deep.MidRow
import Derived.Test.YtehgoioinogmkaaGreatDoorJVOrdVIsVTest
import Derived.Test.YtehgoioinogmkaaGreatDoorJPutRowVCmpVBl
import Derived.Test.YtehgoioinogmkaaGreatDoorRows
import Derived.ProofKit
import Derived.LaidMore
import Derived.LaidHandle
import Derived.LaidLaws
import Derived.OpenShut
import Derived.Stop.Joined
namespace Go.Proofs.YtehgoioinogmkaaGreatDoor
open Go.RowKit Go.Lib

end Go.Proofs.YtehgoioinogmkaaGreatDoor
/- Slices of bytes that are read: string(bytes), bytes.IndexByte. -/
namespace Go.Proofs.YtehgoioinogmkaaGreatDoor
open Go.RowKit Go.Lib

/-- A slice's value that reads as these bytes, in blocks below B. -/
def RBp (w : World) (B : Nat) (v : Value) (l : List UInt8) : Prop :=
  l.length ≤ 1000000000000 ∧ ((v = .slice none 0 0 ∧ l = []) ∨
    ∃ b off cap, b < B ∧ l.length ≤ cap ∧ cap ≤ maxLen ∧ v = .slice (some ⟨b, off, none⟩) l.length cap ∧ ∀ i, i < l.length → w.cell? ⟨b, off + i, none⟩ = some (.int .u8 ((l.getD i 0).toNat : Int)))
theorem RBp.below {w w' : World} {B B' : Nat} {v : Value} {l : List UInt8} (h : RBp w B v l) (hb : Below B' w w') (hB : B ≤ B') : RBp w' B v l := by
  obtain ⟨h1, h2 | ⟨b, off, cap, hbB, hc, hm, rfl, hcell⟩⟩ := h
  · exact ⟨h1, .inl h2⟩
  · exact ⟨h1, .inr ⟨b, off, cap, hbB, hc, hm, rfl, fun i hi => (hb.cell (p := ⟨b, off + i, none⟩) (Nat.lt_of_lt_of_le hbB hB)).trans (hcell i hi)⟩⟩

theorem nums_eq (l : List UInt8) : strOfNums (l.map fun c => (c.toNat : Int)) = ⟨l.toArray⟩ := by
  apply ByteArray.ext
  apply Array.ext'
  have e : ((fun n : Int => UInt8.ofNat n.toNat) ∘ fun c : UInt8 => (c.toNat : Int)) = id := by funext c; simp
  rw [strOfNums_data, List.map_map, e, List.map_id]
theorem conv_any (v : Value) (B : Nat) (l : List UInt8) (w : World) (hv : RBp w B v l) : (convert 57 9 v).run Tryz.prog w = .ok (.string ⟨l.toArray⟩) w := by
  obtain ⟨hlen, ⟨rfl, rfl⟩ | ⟨b, off, cap, hbB, hcap, hm, rfl, hcell⟩⟩ := hv
  · exact run_convert_bytes_nil w _ _ Tryz.underlying57 Tryz.underlying5 0 0 _ Tryz.underlying9
  · have h := run_convert_bytes_arg (P := Tryz.prog) w 57 5 Tryz.underlying57 Tryz.underlying5 b off l.length cap (l.map fun c => (c.toNat : Int)) (by simp) (fun i hi => by
      rw [hcell i hi]; simp [hi]) 9 Tryz.underlying9
    rw [h, nums_eq]

theorem rb_own {w : World} {B : Nat} {v : Value} {l : List UInt8} (h : w.ownsRow B 5 1 v l.length (byteCells l)) (hl : l.length ≤ 1000000000000) : RBp w w.heap.size v l := by
  have hh := h
  obtain ⟨h1, ⟨h2, h2'⟩ | ⟨g, cap, cur, h3, h4, h5, h6, h7, h8, h9⟩⟩ := h
  · exact ⟨hl, .inl ⟨h2, List.eq_nil_of_length_eq_zero h2'⟩⟩
  · have hg : g < w.heap.size := by
      rcases Nat.lt_or_ge g w.heap.size with h' | h'
      · exact h'
      · rw [Array.getElem?_eq_none h'] at h5; cases h5
    refine ⟨hl, .inr ⟨g, 0, cap, hg, h6, h7, h3, fun i hi => ?_⟩⟩
    have e2 : (byteCells l)[i]? = some (.int .u8 ((l.getD i 0).toNat : Int)) := by
      simp [byteCells, hi]
    have := hh.cells (g := g) (by rw [h3]; rfl) i _ e2
    have e3 : (⟨g, 0, none⟩ : Addr).add i = ⟨g, 0 + i, none⟩ := by unfold Addr.add; split <;> simp_all
    rw [e3] at this; exact this
end Go.Proofs.YtehgoioinogmkaaGreatDoor
/- A region that draws its order, taken by hand: a read's value goes to its slot. -/
namespace Go.Proofs.YtehgoioinogmkaaGreatDoor
open Go.RowKit Go.Lib

/-- Take number i first: its value goes to slot d. -/
theorem hand_to {P : Program} {ops : Array Oper} {Q : Exit → Act → World → Prop} {md : Region.Mode} {S : World → Prop} {i d : Nat} {oi : Oper} {v : Value} {fuel : Nat} {listed : Array Bool} {a : Act} {w : World} (hi : ops[i]? = some oi) (hd : oi.dst = some d)
    (hs : Region.noSelect ops = true) (hf : Region.free md ops listed i = true) (hr : (Region.ready md ops listed).contains i = true)
    (hQ : ∀ c a w, Q (.panic c) (a.put (some d) v) w → Q (.panic c) a w) (hy : YieldsIf P ops S oi v a) (hS : S w)
    (h : wpAnyH P md ops Q S fuel (listed.setIfInBounds i true) (a.put (some d) v) w) : wpAnyH P md ops Q S (fuel + 1) listed a w := by
  rw [← hd] at hQ h
  exact wpAnyH_take hi hs hf hr hQ hy hS h
end Go.Proofs.YtehgoioinogmkaaGreatDoor
/- Plain facts on blocks: they serve the proofs about the document's lexer, parser and what follows. -/
namespace Go.Proofs.YtehgoioinogmkaaGreatDoor
open Go.RowKit Go.Lib

theorem blkX {w w' : World} {b : Nat} {o : Obj} (h : w.heap[b]? = some o) (hb : Below w.heap.size w w') : w'.heap[b]? = some o := (hb.block b (Array.getElem?_eq_some_iff.1 h).1).trans h
theorem ltX {w : World} {b : Nat} {o : Obj} (h : w.heap[b]? = some o) : b < w.heap.size := (Array.getElem?_eq_some_iff.1 h).1
theorem cellX {w : World} {b : Nat} {cur : Array Value} {T : TypeId} (h : w.heap[b]? = some (.cells cur T (0, 0))) (i : Nat) : w.cell? ⟨b, i, none⟩ = cur[i]? := by
  rw [World.cell?]
  simp [h]
theorem frzX {w : World} {b : Nat} {cur : Array Value} {T : TypeId} (h : w.heap[b]? = some (.cells cur T (0, 0))) (i : Nat) : w.frozen? ⟨b, i, none⟩ = false := by
  simp [World.frozen?, h]
theorem setX {w : World} {p : Nat} {cur : Array Value} {T : TypeId} (h : w.heap[p]? = some (.cells cur T (0, 0))) (i : Nat) (v : Value) : (w.setCell ⟨p, i, none⟩ v).heap[p]? = some (.cells (cur.setIfInBounds i v) T (0, 0)) := by
  simp only [World.setCell]
  rw [Array.getElem?_modify, if_pos rfl, h]
  rfl
theorem trX {w a b : World} (h : Below w.heap.size w a) (hb : Below a.heap.size a b) : Below w.heap.size w b := h.trans (hb.mono h.size)
theorem alX {w a : World} (h : Below w.heap.size w a) (o : Obj) : Below w.heap.size w (a.alloc o) := h.alloc h.size o
theorem res1X {fn : Func} {p : Tmp} {ty : TypeId} (h : fn.results = #[.cell p ty]) (tmps : Array Value) (P : Program) (w : World) :
    (results fn tmps).run P w = ((asAddr (tmps.getD p undef)).run P w).andThen fun a w₁ => (loadVar ty a).run P w₁ := by
  simp only [results, h]
  simp [Sem.run_bind, Result.andThen]
/-- Nothing but block p turns, of what is there; new blocks may come. -/
structure FrX (p : Nat) (w w' : World) : Prop where
  os : w'.os = w.os
  tape : w'.tape = w.tape
  output : w'.output = w.output
  size : w.heap.size ≤ w'.heap.size
  blk : ∀ k, k < w.heap.size → k ≠ p → w'.heap[k]? = w.heap[k]?
theorem FrX.refl (p : Nat) (w : World) : FrX p w w := ⟨rfl, rfl, rfl, Nat.le_refl _, fun _ _ _ => rfl⟩
theorem FrX.trans {p : Nat} {a b c : World} (h : FrX p a b) (k : FrX p b c) : FrX p a c :=
  ⟨k.os.trans h.os, k.tape.trans h.tape, k.output.trans h.output, Nat.le_trans h.size k.size, fun i hi hp => (k.blk i (Nat.lt_of_lt_of_le hi h.size) hp).trans (h.blk i hi hp)⟩
theorem FrX.of_below {p : Nat} {w w' : World} (h : Below w.heap.size w w') : FrX p w w' := ⟨h.os, h.tape, h.output, h.size, fun k hk _ => h.block k hk⟩
theorem FrX.set {p : Nat} {a w : World} (h : FrX p a w) (i : Nat) (v : Value) : FrX p a (w.setCell ⟨p, i, none⟩ v) :=
  ⟨h.os, h.tape, h.output, by simpa using h.size, fun k hk hp => (Below.heap_setCell w ⟨p, i, none⟩ v k hp).trans (h.blk k hk hp)⟩
theorem FrX.alloc {p : Nat} {a w : World} (h : FrX p a w) (o : Obj) : FrX p a (w.alloc o) :=
  ⟨h.os, h.tape, h.output, by have := h.size; simp; omega, fun k hk hp => (Below.heap_alloc w o k (Nat.lt_of_lt_of_le hk h.size)).trans (h.blk k hk hp)⟩
/-- A block below p's new part. -/
theorem FrX.setNew {p b : Nat} {a w : World} (h : FrX p a w) (hb : a.heap.size ≤ b) (i : Nat) (v : Value) : FrX p a (w.setCell ⟨b, i, none⟩ v) :=
  ⟨h.os, h.tape, h.output, by simpa using h.size, fun k hk hp => (Below.heap_setCell w ⟨b, i, none⟩ v k (by show k ≠ b; omega)).trans (h.blk k hk hp)⟩
theorem FrX.keep {p b : Nat} {o : Obj} {w w' : World} (h : FrX p w w') (hb : w.heap[b]? = some o) (hp : b ≠ p) : w'.heap[b]? = some o := (h.blk b (ltX hb) hp).trans hb
/-- Where p itself is new. -/
theorem FrX.below {p : Nat} {w0 w w' : World} (h : FrX p w w') (h0 : Below w0.heap.size w0 w) (hp : w0.heap.size ≤ p) : Below w0.heap.size w0 w' :=
  ⟨h.os.trans h0.os, h.tape.trans h0.tape, h.output.trans h0.output, Nat.le_trans h0.size h.size, fun k hk => (h.blk k (Nat.lt_of_lt_of_le hk h0.size) (by omega)).trans (h0.block k hk)⟩
end Go.Proofs.YtehgoioinogmkaaGreatDoor
/- Contracts of the document's own look at a value, order and Compare. -/
namespace Go.Proofs.YtehgoioinogmkaaGreatDoor
open Go.RowKit Go.Lib

theorem indexByte_zero_iff (l : List UInt8) : indexByte l 0 < 0 ↔ ∀ i, i < l.length → l.getD i 0 ≠ 0 := by
  constructor
  · intro h i hi e
    have h1 : indexByte l 0 = -1 := by have := indexByte_ge l 0; omega
    exact indexByte_none h1 i (by rw [List.getElem?_eq_getElem hi]; simp [List.getD_eq_getElem?_getD, hi] at e; rw [e])
  · intro h
    rcases Int.lt_or_le (indexByte l 0) 0 with h1 | h1
    · exact h1
    · obtain ⟨o, ho⟩ := Int.eq_ofNat_of_zero_le h1
      have h2 := (indexByte_some ho).1
      have h3 := (List.getElem?_eq_some_iff.1 h2)
      obtain ⟨h4, h5⟩ := h3
      exact absurd (by simp [List.getD_eq_getElem?_getD, h4, h5]) (h o h4)

theorem ba_getD (t : ByteArray) (k : Nat) (h : k < t.size) : t.data.toList.getD k 0 = t[k] := by
  have h2 : k < t.data.size := h
  show _ = t.data[k]
  simp only [List.getD_eq_getElem?_getD, Array.getElem?_toList, Array.getElem?_eq_getElem h2, Option.getD_some]

set_option maxHeartbeats 1600000 in
theorem plain_any (t : ByteArray) (w : World) (ht : t.size ≤ maxLen) :
    Calls Tryz.prog 76 #[.string t] w fun e w' => e = .returned (.bool (decide (indexByte t.data.toList 0 < 0))) ∧ w' = w := by
  have ht' : (t.size : Int) ≤ 9223372036854775807 := by unfold maxLen at ht; omega
  obtain ⟨m, hm⟩ : ∃ m, m = decide (indexByte t.data.toList 0 < 0) := ⟨_, rfl⟩
  rw [← hm]
  have HM := hide hm
  clear hm ht
  go_enter Tryz.func76, Tryz.ntmps76
  go_wp2
  go_loop [3] (fun i => ∃ k : Nat, k ≤ t.size ∧ i = .int .i64 k ∧ ∀ j, j < k → t.data.toList.getD j 0 ≠ 0) (fun i => t.size - (intOf i).toNat)
  case atStart => exact ⟨0, by omega, rfl, fun j h => by omega⟩
  case round =>
    obtain ⟨k, hk, rfl, hz⟩ := hrel
    have HZ := hide hz
    clear hz
    by_cases hlt : k < t.size
    · have HE := hide (ba_getD t k hlt)
      by_cases h0 : t[k].toNat = 0
      · have h0b : ((t[k].toNat : Int) == 0) = true := by simp [h0]
        have HN : Hid (m = false) := by
          have e := unhide HM
          refine hide (e.trans (decide_eq_false ?_))
          intro h
          refine (indexByte_zero_iff _).1 h k (by simpa using hlt) ?_
          rw [unhide HE]; exact UInt8.toNat_inj.1 h0
        clear h0
        go_wp2
        go_ret
        exact ⟨ret_bool (unhide HN).symm, rfl⟩
      · have h0b : ((t[k].toNat : Int) == 0) = false := beq_eq_false_iff_ne.2 (by omega)
        have HN : Hid (∀ j, j < k + 1 → t.data.toList.getD j 0 ≠ 0) := by
          refine hide (fun j hj => ?_)
          rcases Nat.lt_or_ge j k with h | h
          · exact unhide HZ j h
          · have : j = k := by omega
            subst this
            rw [unhide HE]
            intro hc; rw [hc] at h0; exact h0 rfl
        clear h0 HZ
        go_wp2
        go_round
        case rel => exact ⟨k + 1, by omega, by go_num, unhide HN⟩
        case measure => simp [intOf]; omega
    · have HN : Hid (m = true) := by
        refine hide ((unhide HM).trans (decide_eq_true ?_))
        refine (indexByte_zero_iff _).2 (fun i hi => unhide HZ i ?_)
        have : i < t.size := by simpa using hi
        omega
      go_wp2
      go_ret
      exact ⟨ret_bool (unhide HN).symm, rfl⟩

set_option maxHeartbeats 1600000 in
theorem refIs_any (g : GV) (w : World) (hg : g.ok) :
    Calls Tryz.prog 39 #[g.agg] w fun e w' => e = .returned (.bool g.may) ∧ w' = w.alloc (.cells #[.int .i64 g.kind, .int .i64 g.int, .string g.text] 26) := by
  obtain ⟨k, n, t⟩ := g
  obtain ⟨h1, h2, h3⟩ := hg
  unfold GV.agg
  obtain ⟨m, hm⟩ : ∃ m, m = GV.may ⟨k, n, t⟩ := ⟨_, rfl⟩
  rw [← hm]
  have HM := hide hm
  clear hm
  dsimp only at *
  have HP := hide (fun w => plain_any t w h3)
  have h3' : (t.size : Int) ≤ 9223372036854775807 := by unfold maxLen at h3; omega
  clear h3
  by_cases hk0 : k = 0
  · subst hk0
    by_cases hn : n = 0
    · subst hn
      go_enter Tryz.func39, Tryz.ntmps39
      go_wp2
      go_ret
      exact ⟨ret_bool (by rw [unhide HM]; simp [GV.may]), rfl⟩
    · have hnc : (n == 0) = false := by simp [hn]
      go_enter Tryz.func39, Tryz.ntmps39
      go_wp2
      go_ret
      exact ⟨ret_bool (by rw [unhide HM]; simp [GV.may, hnc]), rfl⟩
  · by_cases hk1 : k = 1
    · subst hk1
      by_cases hn : n = 0
      · subst hn
        go_enter Tryz.func39, Tryz.ntmps39
        go_wp2
        go_ret
        exact ⟨ret_bool (by rw [unhide HM]; simp [GV.may]), rfl⟩
      · have hnc : (n == 0) = false := by simp [hn]
        by_cases hn1 : n = 1
        · subst hn1
          go_enter Tryz.func39, Tryz.ntmps39
          go_wp2
          go_ret
          exact ⟨ret_bool (by rw [unhide HM]; simp [GV.may]), rfl⟩
        · have hne : (n == 1) = false := by simp [hn1]
          go_enter Tryz.func39, Tryz.ntmps39
          go_wp2
          go_ret
          exact ⟨ret_bool (by rw [unhide HM]; simp [GV.may, hnc, hne]), rfl⟩
    · by_cases hk2 : k = 2
      · subst hk2
        go_enter Tryz.func39, Tryz.ntmps39
        go_wp2
        go_ret
        exact ⟨ret_bool (by rw [unhide HM]; simp [GV.may]), rfl⟩
      · by_cases hk3 : k = 3
        · subst hk3
          by_cases hn : n = 0
          · subst hn
            by_cases h40 : t.size ≤ 40
            · go_enter Tryz.func39, Tryz.ntmps39
              go_wp2_with (go_at_call 76; refine (unhide HP _).mono ?_; rintro e w1 ⟨rfl, rfl⟩)
              go_ret
              exact ⟨ret_bool (by rw [unhide HM]; simp [GV.may, h40]), rfl⟩
            · go_enter Tryz.func39, Tryz.ntmps39
              go_wp2
              go_ret
              exact ⟨ret_bool (by rw [unhide HM]; simp [GV.may, h40]), rfl⟩
          · have hnb : (n == 0) = false := by simp [hn]
            go_enter Tryz.func39, Tryz.ntmps39
            go_wp2
            go_ret
            exact ⟨ret_bool (by rw [unhide HM]; simp [GV.may, hnb]), rfl⟩
        · have b0 : (k == 0) = false := by simp [hk0]
          have b1 : (k == 1) = false := by simp [hk1]
          have b2 : (k == 2) = false := by simp [hk2]
          have b3 : (k == 3) = false := by simp [hk3]
          go_enter Tryz.func39, Tryz.ntmps39
          go_wp2
          go_ret
          exact ⟨ret_bool (by rw [unhide HM]; simp [GV.may, b0, b1, b2, b3]), rfl⟩


theorem str_gtr (a b : ByteArray) (W : World) : Sem.run Tryz.prog (binOp BinOp.gtr 9 (.string a) (.string b)) W = .ok (.bool (!Op.bytesLess a.toList b.toList && !(a.toList == b.toList))) W := by
  simp [binOp, go_sem, Op.stringOp]
end Go.Proofs.YtehgoioinogmkaaGreatDoor
/- From the row's condition on the listed variable to the fact that the walks ask. -/
namespace Go.Proofs.YtehgoioinogmkaaGreatDoor
open Go.ChangeShapes Go.WideShapes Go.RowKit Go.Lib

abbrev laid1 : List (String × DataW Unit) := [("errors.errorType", Rows.laid_errors_errorType)]
theorem Tryz.own : ownKnob Tryz.prog.godebug = none := by kernel_rfl
theorem Tryz.et : Tryz.prog.globalNamed "errors.errorType" = some 0 := by kernel_rfl
theorem Tryz.rt : (Tryz.prog.cutTypes.find? (·.1 == "internal/reflectlite.rtype")).map (·.2) = some 218 := by kernel_rfl
theorem Tryz.oneRow : ((List.range 350).filter fun t => Tryz.prog.rowNamed t [101, 114, 114, 111, 114]) = [33] := by kernel_rfl
theorem Tryz.size : Tryz.prog.types.size = 350 := by kernel_rfl

theorem handle_of_laid {W : World} (h : laidMetH Tryz.prog laid1 W) : ET W := by
  have h' : laidMet Tryz.prog [] W ∧ handlesMet Tryz.prog [("errors.errorType", Rows.laid_errors_errorType)] W := h
  obtain ⟨name, u, ty, e1, e2, e3, e4, e5⟩ := h'.2 _ (List.mem_singleton.2 rfl)
  have en : name = [101, 114, 114, 111, 114] := (Option.some.inj e1).symm
  subst en
  obtain rfl := Option.some.inj (Tryz.rt.symm.trans e2)
  have hm : ty ∈ (List.range 350).filter fun t => Tryz.prog.rowNamed t [101, 114, 114, 111, 114] := List.mem_filter.2 ⟨List.mem_range.2 (by rw [← Tryz.size]; exact e3), e4⟩
  rw [Tryz.oneRow] at hm
  obtain rfl := List.mem_singleton.1 hm
  have hh : typeHandle Tryz.prog 33 = .pointer (some ⟨2, 33, none⟩) := by kernel_rfl
  rw [hh] at e5
  unfold ET
  simpa using World.var?_cell Tryz.et e5 0
/-- The door's own heap meets the condition. -/
theorem door_met (os : Os) (args : Array Value) : laidMetH Tryz.prog laid1 ((World.doorLaid Tryz.prog 400 os).forCall (fun _ _ => 0) ⟨#[], args, []⟩).memory :=
  laidMetH_of_parts3 (fuel := 8) (laidMet_of_run' 8 (by kernel_rfl) (by kernel_rfl)) (by kernel_rfl) (by kernel_rfl)
end Go.Proofs.YtehgoioinogmkaaGreatDoor
