/- Contracts of the document's own look at a value and writer of rows, and of the help's Few. -/
import Derived.Test.YtahpfhnekmilmaaGreatDoorJLawNumbersCrcMathFrameLaidBytesIn
import Derived.Test.YtahpfhnekmilmaaGreatDoorJRows2PutRow
import Derived.Lib.IndexLaws
import Derived.Test.YtahpfhnekmilmaaGreatDoorEntry
import Derived.Deep.RegionHeld3
import Derived.Deep.DrawnRows
namespace Go.Proofs.YtahpfhnekmilmaaGreatDoor
open Go.RowKit Go.Lib

theorem indexByte_zero_iff (l : List UInt8) : indexByte l 0 < 0 ↔ ∀ i, i < l.length → l.getD i 0 ≠ 0 := by
  constructor
  · intro h i hi e
    have h1 : indexByte l 0 = -1 := by have := indexByte_ge l 0; omega
    exact indexByte_none h1 i (by rw [List.getElem?_eq_getElem hi]; simp [List.getD_eq_getElem?_getD, hi] at e; rw [e])
  · intro h
    rcases Int.lt_or_le (indexByte l 0) 0 with h1 | h1
    · exact h1
    · obtain ⟨o, ho⟩ := Int.eq_ofNat_of_zero_le h1
      have h2 := (indexByte_some ho).1
      have h3 := (List.getElem?_eq_some_iff.1 h2)
      obtain ⟨h4, h5⟩ := h3
      exact absurd (by simp [List.getD_eq_getElem?_getD, h4, h5]) (h o h4)

theorem ba_getD (t : ByteArray) (k : Nat) (h : k < t.size) : t.data.toList.getD k 0 = t[k] := by
  have h2 : k < t.data.size := h
  show _ = t.data[k]
  simp only [List.getD_eq_getElem?_getD, Array.getElem?_toList, Array.getElem?_eq_getElem h2, Option.getD_some]

end Go.Proofs.YtahpfhnekmilmaaGreatDoor
/- Contracts of the document's own writer of rows. -/
namespace Go.Proofs.YtahpfhnekmilmaaGreatDoor
open Go.RowKit Go.Lib

theorem putVals_step {gs : List GV} {s0 : Option (List UInt8)} {k : Nat} {g : GV} {l : List UInt8} (h : gs[k]? = some g) (hm : g.may = true) (hl : putVals (gs.take k) s0 = some l) : putVals (gs.take (k + 1)) s0 = some (l ++ g.bytes) := by
  rw [putVals_snoc gs s0 k g h, hl, putVal, if_pos hm]; rfl
theorem putVals_stop {gs : List GV} {s0 : Option (List UInt8)} {k : Nat} {g : GV} (h : gs[k]? = some g) (hm : g.may = false) : putVals gs s0 = none := by
  rw [putVals_split gs s0 (k + 1), putVals_snoc gs s0 k g h, putVal, if_neg (by simp [hm]), putVals_none]
/-- What the document's writers of rows and entries tell. -/
def RefPost (s : Option (List UInt8)) (w : World) (e : Ending) (w' : World) : Prop :=
  match s with
  | some l => ∃ a k, e = .returned (.tuple #[.slice a l.length k, .int .i64 0]) ∧ RBp w' w'.heap.size (.slice a l.length k) l ∧ Below w.heap.size w w'
  | none => e = .returned (.tuple #[.slice none 0 0, .int .i64 20]) ∧ Below w.heap.size w w'

theorem rb_one (w : World) (k : Nat) (hk : k < 128) : RBp (w.alloc (.cells #[.int .u8 (k : Int)] 5)) (w.heap.size + 1) (.slice (some ⟨w.heap.size, 0, none⟩) 1 1) (uvarint k) := by
  rw [uvarint_small hk]
  refine ⟨by simp, .inr ⟨w.heap.size, 0, 1, by omega, by simp, by unfold maxLen; omega, by simp, ?_⟩⟩
  intro i hi
  have h0 : i = 0 := by simp at hi; exact hi
  subst h0
  simp
  have : k % 256 = k := by omega
  omega
theorem own_join {w' : World} {v : Value} {B n : Nat} {x : List UInt8} {ys : List Value} (ho : w'.ownsRow B 5 1 v n ys) (hn : n = x.length) (hy : ys = byteCells x) : w'.ownsRow B 5 1 v x.length (byteCells x) := by
  subst hn; subst hy; exact ho

end Go.Proofs.YtahpfhnekmilmaaGreatDoor
/- Appending bytes at a step of a region that draws its order; the document's own writer of entries, what it refuses; Few. -/
namespace Go.Proofs.YtahpfhnekmilmaaGreatDoor
open Go.RowKit Go.Lib
attribute [local go_sem ↓] Go.wp_at_zero Go.wp_at_succ

theorem step_append_rb {w : World} {ops : Array Oper} {o : Oper} {a : Act} {K : Act → World → Prop} {Q : Exit → Act → World → Prop} {E : Prop} (hgd : o.guard = none) (s x : Operand)
    (ho : o.op = .call { callee := .builtin .append, args := #[s, x], argTypes := #[34, 34] })
    (base : Nat) (v : Value) (l : List UInt8) (hs : a.eval s = v) (hown : w.ownsRow base 5 1 v l.length (byteCells l))
    (B : Nat) (xv : Value) (lx : List UInt8) (hx : a.eval x = xv) (hrb : RBp w B xv lx) (hne : 0 < lx.length) (hn : l.length ≤ 1000000000) (hl : lx.length ≤ 1000000000) (hbase : base ≤ w.heap.size)
    (h : ∀ v' w', w'.ownsRow base 5 1 v' (l ++ lx).length (byteCells (l ++ lx)) → Below base w w' → K (a.put o.dst v') w') :
    if Region.wanted o (yielded ops a.tmps) = true then Oper.wp Tryz.prog o a w K Q else E := by
  have hw : Region.wanted o (yielded ops a.tmps) = true := by simp [Region.wanted, hgd]
  rw [if_pos hw]
  obtain ⟨i0, hi, hz0, hz1, hz2⟩ := info_parts Tryz.infoB
  obtain ⟨hlen, ⟨rfl, rfl⟩ | ⟨b, off, cap, hbB, hcap, hm, rfl, hcell⟩⟩ := hrb
  · simp at hne
  · refine wp_append_own w s x 34 ho base 5 i0 (.int .u8 0) 1 1 Tryz.underlying34 hi hz0 hz1 hz2 rfl (by decide) v l.length (byteCells l) hs hown ⟨b, off, none⟩ lx.length cap (byteCells lx) hx (by rw [byteCells_length]; omega) ?_ ?_ (by unfold maxLen; omega) (by omega) hbase ?_
    · intro j u hj
      have hjl : j < lx.length := by
        have := (List.getElem?_eq_some_iff.1 hj).1
        rwa [byteCells_length] at this
      have e2 : (byteCells lx)[j]? = some (.int .u8 ((lx.getD j 0).toNat : Int)) := by
        simp [byteCells, hjl]
      have hj2 := Option.some.inj (e2.symm.trans hj)
      rw [← hj2]
      have e3 : (⟨b, off, none⟩ : Addr).add j = ⟨b, off + j, none⟩ := by unfold Addr.add; split <;> simp_all
      rw [e3]; exact hcell j hjl
    · intro u hu
      simp only [byteCells, List.mem_map] at hu
      obtain ⟨c, _, rfl⟩ := hu
      rfl
    · intro v' w' h1 h2 _
      refine h v' w' ?_ ((Below.refl _ _).grown h2 hbase (own_block_ge hown))
      rw [List.length_append, byteCells_append]; exact h1

/-- A Boolean is told. -/
def IsBool (e : Ending) : Prop := ∃ m, e = .returned (.bool m)
theorem putVals_long {gs : List GV} (h : 64 < gs.length) : putVals gs (putLen gs.length 64 (some [])) = none := by
  rw [putLen, if_neg (by omega), putVals_none]
end Go.Proofs.YtahpfhnekmilmaaGreatDoor
/- Contract of the document's own writer of entries. -/
namespace Go.Proofs.YtahpfhnekmilmaaGreatDoor
open Go.RowKit Go.Lib
attribute [local go_sem ↓] Go.wp_at_zero Go.wp_at_succ

theorem putEnt_no {g : GE} (h : g.may = false) : putEnt g (some []) = none := by rw [putEnt, if_neg (by simp [h])]
theorem putEnt_yes {g : GE} (h : g.may = true) : putEnt g (some []) = some g.bytes := by rw [putEnt, if_pos h]; rfl

end Go.Proofs.YtahpfhnekmilmaaGreatDoor
/- Contract of the document's own writer of entries, what it writes. -/
namespace Go.Proofs.YtahpfhnekmilmaaGreatDoor
open Go.RowKit Go.Lib
attribute [local go_sem ↓] Go.wp_at_zero Go.wp_at_succ

/-- An entry's cells in block b. -/
def C5 (w : World) (b te : Nat) (k : Int) (c q : Nat) (t : ByteArray) : Prop :=
  w.cell? ⟨b, 0, none⟩ = some (.int .u64 te) ∧ w.cell? ⟨b, 1, none⟩ = some (.int .i64 k) ∧ w.cell? ⟨b, 2, none⟩ = some (.int .u64 c) ∧ w.cell? ⟨b, 3, none⟩ = some (.int .u64 q) ∧ w.cell? ⟨b, 4, none⟩ = some (.string t)
abbrev oneE (w : World) (te : Nat) (k : Int) (c q : Nat) (t : ByteArray) : World := w.alloc (.cells #[.int .u64 te, .int .i64 k, .int .u64 c, .int .u64 q, .string t] 74)
theorem C5.new (w : World) (te : Nat) (k : Int) (c q : Nat) (t : ByteArray) : C5 (oneE w te k c q t) w.heap.size te k c q t := by
  unfold C5 oneE; simp
theorem C5.below {w w' : World} {b B te : Nat} {k : Int} {c q : Nat} {t : ByteArray} (h : C5 w b te k c q t) (hb : Below B w w') (hB : b < B) : C5 w' b te k c q t :=
  ⟨(hb.cell (p := ⟨b, 0, none⟩) hB).trans h.1, (hb.cell (p := ⟨b, 1, none⟩) hB).trans h.2.1, (hb.cell (p := ⟨b, 2, none⟩) hB).trans h.2.2.1, (hb.cell (p := ⟨b, 3, none⟩) hB).trans h.2.2.2.1, (hb.cell (p := ⟨b, 4, none⟩) hB).trans h.2.2.2.2⟩
theorem alloc_le {B : Nat} {w : World} (o : Obj) (h : B ≤ w.heap.size) : B ≤ (w.alloc o).heap.size := by simp; omega
theorem below_alloc {B : Nat} {w : World} (o : Obj) (h : B ≤ w.heap.size) : Below B w (w.alloc o) := (Below.refl _ _).alloc h _

/-- What stands behind the term's bytes. -/
def EP (w W : World) (te : Nat) (k : Int) (c q : Nat) (t : ByteArray) (kn : Nat) (v' : Value) (w' : World) : Prop :=
  w'.ownsRow (w.heap.size + 1) 5 1 v' (uvarint te).length (byteCells (uvarint te)) ∧ C5 w' w.heap.size te k c q t ∧ Below w.heap.size w w' ∧ w.heap.size + 1 ≤ w'.heap.size ∧
    (W = ((oneE w te k c q t).alloc (.cells #[.int .u8 (kn : Int)] 5)).drew → RBp w' (w.heap.size + 2) (.slice (some ⟨w.heap.size + 1, 0, none⟩) 1 1) (uvarint kn))
theorem uvarint_gt (x : Nat) : 0 < (uvarint x).length := uvarint_pos x

end Go.Proofs.YtahpfhnekmilmaaGreatDoor
/- Contract of the document's own writer of entries, a command; the whole. -/
namespace Go.Proofs.YtahpfhnekmilmaaGreatDoor
open Go.RowKit Go.Lib
attribute [local go_sem ↓] Go.wp_at_zero Go.wp_at_succ

/-- What stands while a command is written: its bytes so far. -/
def EQ (w : World) (te : Nat) (k : Int) (c q : Nat) (t : ByteArray) (l : List UInt8) (v : Value) (W : World) : Prop :=
  W.ownsRow (w.heap.size + 1) 5 1 v l.length (byteCells l) ∧ C5 W w.heap.size te k c q t ∧ Below w.heap.size w W ∧ w.heap.size + 1 ≤ W.heap.size
theorem EQ.later {w W w' : World} {te : Nat} {k : Int} {c q : Nat} {t : ByteArray} {l : List UInt8} {v : Value} (h : EQ w te k c q t l v W) (hb : Below W.heap.size W w') : EQ w te k c q t l v w' :=
  ⟨own_later h.1 hb, h.2.1.below hb h.2.2.2, h.2.2.1.trans (hb.mono (by have := h.2.2.2; omega)), Nat.le_trans h.2.2.2 hb.size⟩
theorem EQ.drew {w W : World} {te : Nat} {k : Int} {c q : Nat} {t : ByteArray} {l : List UInt8} {v : Value} (h : EQ w te k c q t l v W) : EQ w te k c q t l v W.drew := h.later (Below.refl _ _).drew
theorem step_append_eq {w W : World} {te : Nat} {k : Int} {c q : Nat} {t : ByteArray} {l : List UInt8} {v : Value} {ops : Array Oper} {o : Oper} {a : Act} {K : Act → World → Prop} {Q : Exit → Act → World → Prop} {E : Prop} (hgd : o.guard = none) (s x : Operand)
    (ho : o.op = .call { callee := .builtin .append, args := #[s, x], argTypes := #[34, 34] })
    (hs : a.eval s = v) (h0 : EQ w te k c q t l v W)
    (B : Nat) (xv : Value) (lx : List UInt8) (hx : a.eval x = xv) (hrb : RBp W B xv lx) (hne : 0 < lx.length) (hn : l.length ≤ 1000000000) (hl : lx.length ≤ 1000000000)
    (h : ∀ v' w', EQ w te k c q t (l ++ lx) v' w' → K (a.put o.dst v') w') :
    if Region.wanted o (yielded ops a.tmps) = true then Oper.wp Tryz.prog o a W K Q else E :=
  step_append_rb hgd s x ho (w.heap.size + 1) v l hs h0.1 B xv lx hx hrb hne hn hl h0.2.2.2 fun v' w' h1 h2 =>
    h v' w' ⟨h1, h0.2.1.below h2 (Nat.lt_succ_self _), h0.2.2.1.trans (h2.mono (Nat.le_succ _)), Nat.le_trans h0.2.2.2 h2.size⟩
theorem textBytes_gt (t : ByteArray) : 0 < (textBytes t).length := by rw [textBytes_length]; have := uvarint_pos t.size; omega

end Go.Proofs.YtahpfhnekmilmaaGreatDoor
