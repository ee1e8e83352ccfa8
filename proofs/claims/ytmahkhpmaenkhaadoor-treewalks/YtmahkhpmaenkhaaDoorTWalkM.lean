/- Numbers as keys in order; an array of truths: they serve TreeWalks. -/
import Derived.Test.YtmahkhpmaenkhaaDoorTOne
namespace Go.Proofs.YtmahkhpmaenkhaaDoor
open Go.RowKit Go.Lib

theorem kN_lt {i j : Nat} (hi : i < 65536) (hj : j < 65536) : kc (kN i) (kN j) < 0 ↔ i < j := by
  have e : kc (kN i) (kN j) = first0 (compareInt ((nb1 i).toNat : Int) ((nb1 j).toNat : Int)) (first0 (compareInt ((nb0 i).toNat : Int) ((nb0 j).toNat : Int)) 0) := by
    show compareBytes [nb1 i, nb0 i] [nb1 j, nb0 j] = _
    rw [cb_cons, cb_cons]; rfl
  rw [e, nb1_nat hi, nb1_nat hj, nb0_nat, nb0_nat]
  unfold compareInt first0
  repeat' split <;> omega
theorem kN_behind {i j : Nat} (hi : i < 65536) (hj : j < 65536) : kc (kN i) (behindK (kN j)) < 0 ↔ i < j + 1 := by
  have e : kc (kN i) (behindK (kN j)) = first0 (compareInt ((nb1 i).toNat : Int) ((nb1 j).toNat : Int)) (first0 (compareInt ((nb0 i).toNat : Int) ((nb0 j).toNat : Int)) (-1)) := by
    show compareBytes [nb1 i, nb0 i] [nb1 j, nb0 j, 0] = _
    rw [cb_cons, cb_cons]; rfl
  rw [e, nb1_nat hi, nb1_nat hj, nb0_nat, nb0_nat]
  unfold compareInt first0
  repeat' split <;> omega
/-- An item of a number. -/
def itW (j : Nat) : It := (kN j, ⟨#[1]⟩)
/-- The tree has just those numbers of which it is so. -/
def WInv (hs : Nat → Bool) (F : List It) : Prop := Srt F ∧ ∀ z, z ∈ F ↔ ∃ j, j < 1024 ∧ hs j = true ∧ z = itW j
def upd (hs : Nat → Bool) (k : Nat) (b : Bool) (i : Nat) : Bool := if i = k then b else hs i
theorem upd_at (hs : Nat → Bool) (k : Nat) (b : Bool) : upd hs k b k = b := if_pos rfl
theorem upd_ne {hs : Nat → Bool} {k i : Nat} {b : Bool} (h : i ≠ k) : upd hs k b i = hs i := if_neg h
theorem WInv.nil : WInv (fun _ => false) [] := ⟨List.Pairwise.nil, fun z => by simp⟩
theorem WInv.has {hs : Nat → Bool} {F : List It} {k : Nat} (h : WInv hs F) (hk : k < 1024) : hasL (kN k) F = hs k := by
  cases hh : hs k
  · refine hasL_no (fun y hy he => ?_)
    obtain ⟨j, hj, hjs, rfl⟩ := (h.2 y).1 hy
    have : j = k := itN_eq (by omega) (by omega) he
    rw [this, hh] at hjs
    cases hjs
  · exact List.any_eq_true.2 ⟨itW k, (h.2 _).2 ⟨k, hk, hh, rfl⟩, by show (kc (kN k) (kN k) == 0) = true; rw [kc_self]; rfl⟩
theorem WInv.put {hs : Nat → Bool} {F : List It} {k : Nat} (h : WInv hs F) (hk : k < 1024) : WInv (upd hs k true) (insL (itW k) F) := by
  refine ⟨insL_srt h.1, fun z => ?_⟩
  rw [mem_ins h.1, h.2]
  constructor
  · rintro (rfl | ⟨⟨j, hj, hjs, rfl⟩, hne⟩)
    · exact ⟨k, hk, upd_at _ _ _, rfl⟩
    · refine ⟨j, hj, ?_, rfl⟩
      have : j ≠ k := fun e => hne (by rw [e]; exact kc_self _)
      rw [upd_ne this]; exact hjs
  · rintro ⟨j, hj, hjs, rfl⟩
    by_cases e : j = k
    · exact .inl (by rw [e])
    · rw [upd_ne e] at hjs
      exact .inr ⟨⟨j, hj, hjs, rfl⟩, fun he => e (itN_eq (by omega) (by omega) he)⟩
theorem WInv.del {hs : Nat → Bool} {F : List It} {k : Nat} (h : WInv hs F) (hk : k < 1024) : WInv (upd hs k false) (delL (kN k) F) := by
  refine ⟨delL_srt h.1, fun z => ?_⟩
  rw [mem_del h.1, h.2]
  constructor
  · rintro ⟨⟨j, hj, hjs, rfl⟩, hne⟩
    have : j ≠ k := fun e => hne (by rw [e]; exact kc_self _)
    exact ⟨j, hj, by rw [upd_ne this]; exact hjs, rfl⟩
  · rintro ⟨j, hj, hjs, rfl⟩
    by_cases e : j = k
    · rw [e, upd_at] at hjs; cases hjs
    · rw [upd_ne e] at hjs
      exact ⟨⟨j, hj, hjs, rfl⟩, fun he => e (itN_eq (by omega) (by omega) he)⟩
/-- Where a cursor stands: ahead of the numbers from lo on. -/
def FrS (fr : ByteArray) (lo : Nat) : Prop := ∀ i, i < 1024 → (kc (kN i) fr < 0 ↔ i < lo)
theorem frs_at {f : Nat} (hf : f < 1024) : FrS (kN f) f := fun i hi => kN_lt (by omega) (by omega)
theorem frs_behind {j : Nat} (hj : j < 1024) : FrS (behindK (kN j)) (j + 1) := fun i hi => kN_behind (by omega) (by omega)
theorem WInv.next {hs : Nat → Bool} {F : List It} {fr : ByteArray} {lo : Nat} {x : It} (h : WInv hs F) (hf : FrS fr lo) (hx : leastL fr F = some x) : ∃ j, j < 1024 ∧ lo ≤ j ∧ hs j = true ∧ x = itW j ∧ ∀ i, lo ≤ i → i < j → hs i = false := by
  obtain ⟨j, hj, hjs, rfl⟩ := (h.2 x).1 (List.mem_of_find?_eq_some hx)
  have h0 : 0 ≤ kc (itW j).1 fr := by have := List.find?_some hx; simpa using this
  replace h0 : 0 ≤ kc (kN j) fr := h0
  have hlo : lo ≤ j := by
    rcases Nat.lt_or_ge j lo with h' | h'
    · have := (hf j hj).2 h'; omega
    · exact h'
  refine ⟨j, hj, hlo, hjs, rfl, fun i h1 h2 => ?_⟩
  cases hi : hs i
  · rfl
  · exfalso
    have hm : itW i ∈ F := (h.2 _).2 ⟨i, by omega, hi, rfl⟩
    obtain ⟨A, B, hFe, hA⟩ : ∃ A B, F = A ++ itW j :: B ∧ ∀ y ∈ A, ¬ 0 ≤ kc y.1 fr := by
      obtain ⟨_, A, B, e1, e2⟩ := List.find?_eq_some_iff_append.1 hx
      exact ⟨A, B, e1, fun y hy => by simpa using e2 y hy⟩
    have hi0 : ¬ kc (kN i) fr < 0 := fun hl => by have := (hf i (by omega)).1 hl; omega
    rw [hFe] at hm
    rcases List.mem_append.1 hm with hm | hm
    · exact hA _ hm (by show 0 ≤ kc (kN i) fr; omega)
    · have hs' := h.1
      rw [hFe] at hs'
      rcases List.mem_cons.1 hm with e | hm
      · have : kN i = kN j := congrArg Prod.fst e
        have := kN_inj (by omega) (by omega) this
        omega
      · have h3 : kc (kN j) (kN i) < 0 := (List.pairwise_cons.1 (List.pairwise_append.1 hs').2.1).1 _ hm
        have := (kN_lt (i := j) (j := i) (by omega) (by omega)).1 h3
        omega
theorem WInv.none {hs : Nat → Bool} {F : List It} {fr : ByteArray} {lo : Nat} (h : WInv hs F) (hf : FrS fr lo) (hx : leastL fr F = none) : ∀ i, lo ≤ i → i < 1024 → hs i = false := fun i h1 h2 => by
  cases hi : hs i
  · rfl
  · exfalso
    have := leastL_none.1 hx (itW i) ((h.2 _).2 ⟨i, h2, hi, rfl⟩)
    have := (hf i h2).1 this
    omega
theorem WInv.sml {hs : Nat → Bool} {F : List It} (h : WInv hs F) : ∀ y ∈ F, y.1.size ≤ 1000000 := fun y hy => by
  obtain ⟨j, _, _, rfl⟩ := (h.2 y).1 hy
  show (kN j).size ≤ _
  rw [kN_size]; omega
/-- The array of truths. -/
def hsC (hs : Nat → Bool) : List Value := (List.range 1024).map fun i => .bool (hs i)
def HV (w : World) (b : Nat) (hs : Nat → Bool) : Prop := w.heap[b]? = some (.cells (hsC hs).toArray 39 (0, 0))
theorem hsC_at (hs : Nat → Bool) {k : Nat} (hk : k < 1024) : (hsC hs).toArray[k]? = some (.bool (hs k)) := by
  unfold hsC
  simp [hk]
theorem HV.cell {w : World} {b k : Nat} {hs : Nat → Bool} (h : HV w b hs) (hk : k < 1024) : w.cell? ⟨b, k, none⟩ = some (.bool (hs k)) := (cellB2 h k).trans (hsC_at hs hk)
theorem hs_set (n k : Nat) (hs : Nat → Bool) (v : Bool) : ((List.range n).map fun i => Value.bool (hs i)).set k (.bool v) = (List.range n).map fun i => Value.bool (upd hs k v i) := by
  apply List.ext_getElem?
  intro i
  rw [List.getElem?_set, List.getElem?_map, List.getElem?_map]
  by_cases hi : i < n
  · rw [List.getElem?_range hi]
    by_cases e : k = i
    · subst e
      simp [hi, upd_at]
    · rw [if_neg e, Option.map_some, Option.map_some, upd_ne (fun h => e h.symm)]
  · rw [List.getElem?_eq_none (l := List.range n) (by simpa using hi)]
    by_cases e : k = i
    · subst e
      simp [hi]
    · rw [if_neg e]; rfl
theorem hsC_set (hs : Nat → Bool) (k : Nat) (v : Bool) : (hsC hs).toArray.setIfInBounds k (.bool v) = (hsC (upd hs k v)).toArray := by
  rw [List.setIfInBounds_toArray]
  unfold hsC
  rw [hs_set]
theorem HV.set {w : World} {b k : Nat} {hs : Nat → Bool} (h : HV w b hs) (v : Bool) : HV (w.setCell ⟨b, k, none⟩ (.bool v)) b (upd hs k v) := by
  refine (heap_set_at h k (.bool v)).trans ?_
  rw [hsC_set]
theorem Tryd.zeroH : (Tryd.prog.info? 39).map (fun i => (i.zero, i.size)) = some (some (.agg (hsC fun _ => false).toArray), 1024) := by kernel_rfl
theorem wp_alloc_1024 {P : Program} {op : Oper} {a : Act} {w : World} {K : Act → World → Prop} {Q : Exit → Act → World → Prop} (ty : TypeId) (ho : op.op = .alloc ty) (cs : Array Value) (hz : ∀ w, (zeroValue ty).run P w = .ok (.agg cs) w)
    (h : K (a.put op.dst (.pointer (some ⟨w.heap.size, 0, none⟩))) (w.alloc (.cells cs ty))) : op.wp P a w K Q := by
  unfold Oper.wp execOp
  simp only [ho, Instr.alloc, Sem.run_bind, hz, Sem.run_pure, Result.andThen_ok, newVar, newRow, run_newObj_alloc, Value.cells]
  exact h
theorem wpList_alloc_1024 {P : Program} {ops : Array Oper} {rest : List Oper} {op : Oper} {a : Act} {w : World} {Q : Exit → Act → World → Prop} (hgd : op.guard = none) (ty : TypeId) (ho : op.op = .alloc ty) (cs : Array Value) (hz : ∀ w, (zeroValue ty).run P w = .ok (.agg cs) w)
    (h : wpList P ops Q rest (a.put op.dst (.pointer (some ⟨w.heap.size, 0, none⟩))) (w.alloc (.cells cs ty))) : wpList P ops Q (op :: rest) a w :=
  wpList_plain hgd fun _ hK => wp_alloc_1024 ty ho cs hz (hK _ _ h)
end Go.Proofs.YtmahkhpmaenkhaaDoor
