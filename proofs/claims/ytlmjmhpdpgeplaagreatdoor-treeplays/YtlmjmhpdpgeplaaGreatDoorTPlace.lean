/- Where a key stands in a tree, without the program's calls. -/
import Derived.Test.YtlmjmhpdpgeplaaGreatDoorTFind
import Derived.Test.YtlmjmhpdpgeplaaGreatDoorTFlat
namespace Go.Proofs.YtlmjmhpdpgeplaaGreatDoor
open Go.RowKit Go.Lib

theorem weave_sub : ∀ (its : List It) (L : List (List It)), its.Sublist (weave its L)
  | its, [] => by rw [weave_nil]; exact List.Sublist.refl _
  | [], _ :: _ => List.nil_sublist _
  | x :: xs, k :: ks => by rw [weave_cons]; exact ((weave_sub xs ks).cons_cons x).trans (List.sublist_append_right _ _)
theorem its_sub {d : Nat} (t : BT (d + 1)) : t.its.Sublist (flat d t) := by
  cases d with
  | zero => exact List.Sublist.refl _
  | succ d => exact weave_sub _ _
theorem srt_its {d : Nat} {t : BT (d + 1)} (h : Srt (flat d t)) : Srt t.its := List.Pairwise.sublist (its_sub t) h
theorem wpre_last : ∀ (a : List It) (c : List (List It)) (x : It), a.length + 1 = c.length → ∃ l, wpre (a ++ [x]) c = l ++ [x]
  | [], [k], x, _ => ⟨k, by simp [wpre]⟩
  | [], [], _, h => by simp at h
  | [], _ :: _ :: _, _, h => by simp at h
  | _ :: _, [], _, h => by simp at h
  | y :: a, k :: c, x, h => by
    obtain ⟨l, e⟩ := wpre_last a c x (by simpa using h)
    exact ⟨k ++ y :: l, by simp only [List.cons_append, wpre, e]; simp⟩
/-- A place among rising items, new or taken: the list with the item. -/
theorem ins_list {its : List It} {x : It} {i : Nat} (hp : PlaceAt its x.1 i) : insL x its = if hereB its x.1 i = true then its.take i ++ x :: its.drop (i + 1) else its.take i ++ x :: its.drop i := by
  obtain ⟨h1, h2, h3⟩ := hp
  have hl : ∀ y ∈ its.take i, kc y.1 x.1 < 0 := fun y hy => by
    obtain ⟨t, ht⟩ := List.getElem?_of_mem hy
    rw [List.getElem?_take] at ht
    split at ht
    · exact h2 t y ht (by assumption)
    · cases ht
  conv => lhs; rw [← List.take_append_drop i its]
  rw [insL_left _ hl]
  cases hx : its[i]? with
  | none =>
    have hd : its.drop i = [] := List.drop_eq_nil_of_le (by rw [List.getElem?_eq_none_iff] at hx; exact hx)
    have hh : hereB its x.1 i = false := by unfold hereB; rw [hx]
    rw [hh, hd]; simp [insL]
  | some y =>
    obtain ⟨q1, q2⟩ := List.getElem?_eq_some_iff.1 hx
    have hd : its.drop i = y :: its.drop (i + 1) := by rw [List.drop_eq_getElem_cons q1, q2]
    have hh : hereB its x.1 i = decide (kc y.1 x.1 = 0) := by unfold hereB; rw [hx]
    have h0 := h3 i y hx (Nat.le_refl _)
    rw [hd, hh, insL, if_neg (by omega)]
    by_cases he : kc y.1 x.1 = 0
    · simp [he]
    · simp [he]
theorem has_list {its : List It} {k : ByteArray} {i : Nat} (hp : PlaceAt its k i) (hs : Srt its) : hasL k its = hereB its k i := by
  obtain ⟨h1, h2, h3⟩ := hp
  cases hx : its[i]? with
  | none =>
    have hh : hereB its k i = false := by unfold hereB; rw [hx]
    rw [hh]
    refine hasL_no (fun y hy => ?_)
    obtain ⟨t, ht⟩ := List.getElem?_of_mem hy
    have := h2 t y ht (by have := (List.getElem?_eq_some_iff.1 ht).1; rw [List.getElem?_eq_none_iff] at hx; omega)
    omega
  | some y =>
    have hh : hereB its k i = decide (kc y.1 k = 0) := by unfold hereB; rw [hx]
    rw [hh]
    by_cases he : kc y.1 k = 0
    · have : hasL k its = true := List.any_eq_true.2 ⟨y, List.mem_of_getElem? hx, by simp [he]⟩
      rw [this]; simp [he]
    · have : hasL k its = false := hasL_no (fun z hz => by
        obtain ⟨t, ht⟩ := List.getElem?_of_mem hz
        rcases Nat.lt_trichotomy t i with h | h | h
        · have := h2 t z ht h; omega
        · subst h; rw [hx] at ht; cases ht; exact he
        · have h4 := srt_lt hs hx ht h
          have h5 := h3 i y hx (Nat.le_refl _)
          have h6 : kc k y.1 ≤ 0 := by have := kc_cmp.anti k y.1; omega
          have h7 := kc_cmp.lt2 h6 h4
          have := kc_cmp.anti z.1 k
          omega)
      rw [this]; simp [he]
/-- A key's place in an inner node: what stands ahead of the kid there, the kid, what stands behind it. -/
theorem place_split {d i : Nat} {its : List It} {kids : List (BT (d + 1))} {key : ByteArray} {k : BT (d + 1)} (hn : kids.length = its.length + 1) (hs : Srt (flat (d + 1) (BT.mk its kids))) (hp : PlaceAt its key i) (hk : kids[i]? = some k) :
    ∃ A B, flat (d + 1) (BT.mk its kids) = A ++ flat d k ++ B ∧ (∀ k', flat (d + 1) (BT.mk its (kids.take i ++ k' :: kids.drop (i + 1))) = A ++ flat d k' ++ B) ∧ (∀ y ∈ A, kc y.1 key < 0) ∧ (i = its.length ∧ B = [] ∨ ∃ y B', its[i]? = some y ∧ B = y :: B' ∧ ∀ x, flat (d + 1) (BT.mk (its.take i ++ x :: its.drop (i + 1)) kids) = A ++ flat d k ++ x :: B') := by
  obtain ⟨h1, h2, h3⟩ := hp
  obtain ⟨A, B, e1, e2, e3, e4⟩ := flat_around (t := BT.mk its kids) hn hk
  simp only [BT.its_mk, BT.kids_mk] at e2 e3 e4
  refine ⟨A, B, e1, e4, ?_, ?_⟩
  · intro y hy
    rcases Nat.eq_zero_or_pos i with rfl | hi
    · rw [e2] at hy; simp [wpre] at hy
    · have hx : its[i - 1]? = some (its[i - 1]'(by omega)) := List.getElem?_eq_getElem _
      generalize its[i - 1]'(by omega) = x at hx
      have hlt := h2 (i - 1) x hx (by omega)
      have hta : its.take i = its.take (i - 1) ++ [x] := by
        rw [show i = (i - 1) + 1 by omega, List.take_add_one, hx]; rfl
      obtain ⟨l, hl⟩ := wpre_last (its.take (i - 1)) ((kids.take i).map (flat d)) x (by simp; omega)
      rw [e2, hta, hl] at hy
      rw [e1, e2, hta, hl] at hs
      rcases List.mem_append.1 hy with h | h
      · have h5 := (List.pairwise_append.1 (List.pairwise_append.1 (List.pairwise_append.1 hs).1).1).2.2 y h x (List.mem_singleton.2 rfl)
        exact kc_lt_trans h5 hlt
      · rw [List.mem_singleton.1 h]; exact hlt
  · rcases Nat.lt_or_ge i its.length with hi | hi
    · right
      have hx : its[i]? = some its[i] := List.getElem?_eq_getElem hi
      have hd : its.drop i = its[i] :: its.drop (i + 1) := List.drop_eq_getElem_cons hi
      refine ⟨its[i], weave (its.drop (i + 1)) ((kids.drop (i + 1)).map (flat d)), hx, ?_, fun x => ?_⟩
      · rw [e3, hd]; rfl
      · have hn2 : kids.length = (its.take i ++ x :: its.drop (i + 1)).length + 1 := by simp; omega
        obtain ⟨A2, B2, f1, f2, f3, _⟩ := flat_around (t := BT.mk (its.take i ++ x :: its.drop (i + 1)) kids) hn2 hk
        simp only [BT.its_mk, BT.kids_mk] at f2 f3
        have hta : (its.take i ++ x :: its.drop (i + 1)).take i = its.take i := by rw [List.take_append_of_le_length (by simp; omega), List.take_take]; congr 1; omega
        have htd : (its.take i ++ x :: its.drop (i + 1)).drop i = x :: its.drop (i + 1) := by rw [List.drop_append, List.length_take, List.drop_eq_nil_of_le (by simp; omega), show i - min i its.length = 0 by omega]; rfl
        rw [hta] at f2
        rw [htd] at f3
        rw [f1, f2, f3, ← e2]; rfl
    · left
      refine ⟨by omega, ?_⟩
      rw [e3, List.drop_eq_nil_of_le hi]; rfl
/-- Put among what stands in a kid. -/
theorem ins_mid {A K B : List It} {x : It} (hA : ∀ y ∈ A, kc y.1 x.1 < 0) (hB : ∀ y ∈ B, kc x.1 y.1 < 0) : insL x (A ++ K ++ B) = A ++ insL x K ++ B := by
  rw [insL_right _ hB, insL_left _ hA]
theorem has_mid {A K B : List It} {k : ByteArray} (hA : ∀ y ∈ A, kc y.1 k < 0) (hB : ∀ y ∈ B, kc k y.1 < 0) : hasL k (A ++ K ++ B) = hasL k K := by
  rw [hasL_append, hasL_append, hasL_no (l := A) (fun y hy => by have := hA y hy; omega), hasL_no (l := B) (fun y hy => by have := hB y hy; have := kc_cmp.anti y.1 k; omega)]; simp
end Go.Proofs.YtlmjmhpdpgeplaaGreatDoor
