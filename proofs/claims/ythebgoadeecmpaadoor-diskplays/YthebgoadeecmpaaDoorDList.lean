/- List: the names, rising. strings.Clone. -/
import Derived.Test.YthebgoadeecmpaaDoorDUsed
import Derived.Test.YthebgoadeecmpaaDoorShelf
namespace Go.Proofs.YthebgoadeecmpaaDoor
open Go.RowKit Go.Lib Go.Maps Go.Sort Go.Shelf

theorem bb_lt : ∀ {a b : List UInt8}, bytesBefore a b = true → a < b
  | [], _ :: _, _ => List.Lex.nil
  | x :: r, y :: s, h => by
    simp only [bytesBefore, Bool.or_eq_true, decide_eq_true_eq, Bool.and_eq_true, beq_iff_eq] at h
    rcases h with h | ⟨rfl, h⟩
    · exact List.Lex.rel h
    · exact List.Lex.cons (bb_lt h)
theorem sorted_names {L : List Ent} (h : Rising L) {ss : List (List UInt8)} (hp : ss.Perm (L.map (·.name))) : ss.mergeSort (fun x y => decide (x ≤ y)) = L.map (·.name) := by
  have e : ss.mergeSort leB = (L.map (·.name)).mergeSort leB := mergeSort_of_perm hp
  have e2 : (L.map (·.name)).mergeSort leB = L.map (·.name) := by
    refine List.mergeSort_of_pairwise ?_
    rw [List.pairwise_map]
    exact h.imp fun hab => decide_eq_true (List.le_of_lt (bb_lt hab))
  exact e.trans e2

theorem clone_any (s : ByteArray) (w : World) (hs : s.size ≤ 281474976710656) : Calls Tryd.prog 61 #[.string s] w fun e w' => e = .returned (.string s) ∧ Below w.heap.size w w' :=
  AnyPu.stringslite_Clone Tryd.clone s w hs
theorem sclone_any (s : ByteArray) (w : World) (hs : s.size ≤ 281474976710656) : Calls Tryd.prog 52 #[.string s] w fun e w' => e = .returned (.string s) ∧ Below w.heap.size w w' := by
  have H := hide (clone_any s w hs)
  go_enter Tryd.func52, Tryd.ntmps52
  go_wp2_with (first | (go_at_call 61; refine (unhide H).mono ?_; rintro e w1 ⟨rfl, hb1⟩))
  go_ret
  exact ⟨rfl, hb1⟩

theorem Tryd.sorts (m : Nat) : AnyZ.SortsIn Tryd.prog Tryd.sorted_ren Fence.wide m :=
  ⟨fun blk off cap ss W hH hblk hsz => callsIn_wide.2 (AnyM.slices_Sort_string Tryd.sort blk off cap ss W hH hblk hsz),
   fun p cap W => callsIn_wide.2 (AnyM.slices_Sort_string_none Tryd.sort p cap W)⟩
theorem keys_call (mb : Option Nat) (W : World) : CallsIn Fence.wide 5 Tryd.prog 48 #[.map mb] W fun e w' =>
    e = .returned (.func (.func 60) #[] #[.pointer (some ⟨W.heap.size, 0, none⟩)]) ∧ w' = W.alloc (.cells #[.map mb] 63) :=
  AnyZ.keys_in Tryd.keys Fence.wide 5 trivial rfl mb W

/-- What slices.Sorted tells of a map's keys. -/
def SortedOf (w : World) (ks : List (List UInt8)) (e : Ending) (w' : World) : Prop :=
  ∃ (v : Value) (ss : List (List UInt8)), e = .returned v ∧ ss.Perm ks ∧ w'.ownsRow w.heap.size 9 1 v ss.length ((ss.mergeSort (fun x y => decide (x ≤ y))).map encStr) ∧ Below w.heap.size w w'
set_option maxHeartbeats 1000000 in
theorem sorted_some (b nn : Nat) (D0 : DataW Nat) (w : World) (hown : w.ownsMap Tryd.prog 9 RP b nn D0) (hn : Maps.size D0 ≤ 1000) :
    CallsIn Fence.wide 5 Tryd.prog 47 #[.func (.func 60) #[] #[.pointer (some ⟨w.heap.size, 0, none⟩)]] (w.alloc (.cells #[.map (some b)] 63))
      (SortedOf (w.alloc (.cells #[.map (some b)] 63)) (strKeys D0)) := by
  have hbl := hown.lt
  have hseq : SeqGives Fence.wide 2 Tryd.prog 60 #[.pointer (some ⟨w.heap.size, 0, none⟩)] encStr (fun ss => ss.Perm (strKeys D0)) (Maps.size D0) (w.alloc (.cells #[.map (some b)] 63)) :=
    AnyZ.keys_gives (ρ := Tryd.keys_ren) { Tryd.keys with } Fence.wide _ trivial rfl (by omega) w.heap.size b nn D0 _ (by simp) (by simp) (hown.alloc _)
  refine (AnyZ.sorted_in Tryd.sorted Fence.wide 5 trivial trivial trivial trivial rfl (by omega) (Tryd.sorts _) (enters_of Tryd.func59 (by kernel_rfl) rfl) 60 #[.pointer (some ⟨w.heap.size, 0, none⟩)] trivial (enters_of Tryd.func60 (by kernel_rfl) rfl) _ _ (by unfold maxLen; omega) (by omega) _ hseq).mono ?_
  rintro e w' ⟨v, ss, he, hp, hr, _, hb⟩
  exact ⟨v, ss, he, hp, hr, hb⟩
set_option maxHeartbeats 1000000 in
theorem sorted_none (w : World) :
    CallsIn Fence.wide 5 Tryd.prog 47 #[.func (.func 60) #[] #[.pointer (some ⟨w.heap.size, 0, none⟩)]] (w.alloc (.cells #[.map none] 63))
      (SortedOf (w.alloc (.cells #[.map none] 63)) []) := by
  have hseq : SeqGives Fence.wide 2 Tryd.prog 60 #[.pointer (some ⟨w.heap.size, 0, none⟩)] encStr (fun ss : List (List UInt8) => ss = []) 0 (w.alloc (.cells #[.map none] 63)) :=
    AnyZ.keys_gives_nil (ρ := Tryd.keys_ren) { Tryd.keys with } Fence.wide _ trivial rfl w.heap.size _ (by simp) (by simp)
  refine (AnyZ.sorted_in Tryd.sorted Fence.wide 5 trivial trivial trivial trivial rfl (by omega) (Tryd.sorts _) (enters_of Tryd.func59 (by kernel_rfl) rfl) 60 #[.pointer (some ⟨w.heap.size, 0, none⟩)] trivial (enters_of Tryd.func60 (by kernel_rfl) rfl) _ 0 (Nat.zero_le _) (by omega) _ hseq).mono ?_
  rintro e w' ⟨v, ss, he, hp, hr, _, hb⟩
  exact ⟨v, ss, he, by rw [hp], hr, hb⟩

set_option maxHeartbeats 1600000 in
theorem list_any {w : World} {p : Nat} {S : St} {mb : Option Nat} {L : List Ent} {O : Nat → Prop} (h : DK w p S mb L O) :
    Calls Tryd.prog 24 #[.pointer (some ⟨p, 0, none⟩)] w fun e w' => ∃ v, e = .returned v ∧ w'.ownsRow w.heap.size 9 1 v L.length ((L.map (·.name)).map encStr) ∧ Below w.heap.size w w' := by
  obtain ⟨_, c1, _⟩ := h.cells
  have hS : Hid (CallsIn Fence.wide 5 Tryd.prog 47 #[.func (.func 60) #[] #[.pointer (some ⟨w.heap.size, 0, none⟩)]] (w.alloc (.cells #[.map mb] 63))
      (SortedOf (w.alloc (.cells #[.map mb] 63)) (L.map (·.name)))) := by
    cases mb with
    | none => rw [h.none rfl]; exact sorted_none w
    | some b =>
      have := sorted_some b L.length (DL L) w (h.some b rfl) (by rw [size_DL]; have := h.few; omega)
      rw [strKeys_DL] at this
      exact this
  have hris := h.rising
  clear h
  refine (callsIn_wide (n := 6)).1 ?_
  have hfK : Fence.wide.fn 48 := trivial
  have hfS : Fence.wide.fn 47 := trivial
  refine callsIn_of_wp Tryd.func24 rfl trivial ?_ rfl
  simp only [Tryd.ntmps24, List.size_toArray, List.length_cons, List.length_nil, Nat.reduceAdd, Nat.reduceSub, Array.replicate_succ, Array.replicate_zero, List.push_toArray, List.append_toArray, List.nil_append, List.cons_append]
  gi_wp2_with (first
    | (gi_at_call 48; refine (keys_call _ _).mono ?_; rintro e w' ⟨rfl, rfl⟩)
    | (gi_at_call 47; refine (unhide hS).mono ?_; rintro e w' ⟨v, ss, rfl, hP, hrow, hb⟩))
  go_ret
  have hl : ss.length = L.length := by rw [hP.length_eq]; simp
  rw [sorted_names hris hP, hl] at hrow
  exact ⟨v, rfl, ownsRow_base_a hrow (by simp), ((Below.refl _ w).alloc (Nat.le_refl _) _).trans (hb.mono (by simp))⟩
end Go.Proofs.YthebgoadeecmpaaDoor
