/- Orders on texts, and trees of lists of items, without the program: they serve the proofs about package btree. -/
import Derived.Lib.Small
import Derived.Lib.Bytealg
import Derived.Test.YtlmjmhpdpgeplaaGreatDoorJPlainHandDecLenMath
namespace Go.Proofs.YtlmjmhpdpgeplaaGreatDoor
open Go.RowKit Go.Lib

/-- A way to compare: -1, 0, 1; 0 of equals alone; turned round it is the opposite; it is an order. -/
structure IsCmp {α : Type} (f : α → α → Int) : Prop where
  range : ∀ x y, f x y = -1 ∨ f x y = 0 ∨ f x y = 1
  anti : ∀ x y, f x y = - f y x
  eq : ∀ x y, f x y = 0 → x = y
  trans : ∀ x y z, f x y ≤ 0 → f y z ≤ 0 → f x z ≤ 0

theorem IsCmp.self {α : Type} {f : α → α → Int} (h : IsCmp f) (x : α) : f x x = 0 := by have := h.anti x x; omega
theorem IsCmp.lt1 {α : Type} {f : α → α → Int} (h : IsCmp f) {x y z : α} (h1 : f x y < 0) (h2 : f y z ≤ 0) : f x z < 0 := by
  have h3 := h.trans x y z (by omega) h2
  rcases Int.lt_or_eq_of_le h3 with h4 | h4
  · exact h4
  · obtain rfl := h.eq _ _ h4
    have := h.anti x y
    omega
theorem IsCmp.lt2 {α : Type} {f : α → α → Int} (h : IsCmp f) {x y z : α} (h1 : f x y ≤ 0) (h2 : f y z < 0) : f x z < 0 := by
  have h3 := h.trans x y z h1 (by omega)
  rcases Int.lt_or_eq_of_le h3 with h4 | h4
  · exact h4
  · obtain rfl := h.eq _ _ h4
    have := h.anti x y
    omega

def first0 (a b : Int) : Int := if a = 0 then b else a
theorem first0_ne {a b : Int} (h : a ≠ 0) : first0 a b = a := if_neg h
theorem first0_eq (b : Int) : first0 0 b = b := if_pos rfl

theorem IsCmp.lex {α β : Type} {f : α → α → Int} {g : β → β → Int} (hf : IsCmp f) (hg : IsCmp g) : IsCmp fun (x y : α × β) => first0 (f x.1 y.1) (g x.2 y.2) where
  range x y := by
    have h1 := hf.range x.1 y.1
    have h2 := hg.range x.2 y.2
    unfold first0
    split <;> omega
  anti x y := by
    have h1 := hf.anti x.1 y.1
    have h2 := hg.anti x.2 y.2
    unfold first0
    split <;> split <;> omega
  eq x y h := by
    unfold first0 at h
    split at h
    · rename_i h1
      exact Prod.ext (hf.eq _ _ h1) (hg.eq _ _ h)
    · exact absurd h (by assumption)
  trans x y z h1 h2 := by
    unfold first0 at h1 h2 ⊢
    have ht := hf.trans x.1 y.1 z.1
    have hl := hf.lt1 (x := x.1) (y := y.1) (z := z.1)
    have hr := hf.lt2 (x := x.1) (y := y.1) (z := z.1)
    have hs := hg.trans x.2 y.2 z.2
    split at h1 <;> split at h2 <;> split <;> omega

theorem compareInt_cmp : IsCmp compareInt where
  range x y := by unfold compareInt; repeat' split <;> omega
  anti x y := by unfold compareInt; repeat' split <;> omega
  eq x y h := by unfold compareInt at h; (repeat' split at h) <;> omega
  trans x y z h1 h2 := by unfold compareInt at *; (repeat' split at h1) <;> (repeat' split at h2) <;> (repeat' split) <;> omega

theorem u8_lt (a b : UInt8) : a < b ↔ a.toNat < b.toNat := UInt8.lt_iff_toNat_lt
theorem u8_eq {a b : UInt8} (h : a.toNat = b.toNat) : a = b := UInt8.toNat_inj.1 h
theorem cb_cons (a b : UInt8) (xs ys : List UInt8) : compareBytes (a :: xs) (b :: ys) = first0 (compareInt a.toNat b.toNat) (compareBytes xs ys) := by
  show (if a < b then (-1 : Int) else if b < a then 1 else compareBytes xs ys) = _
  unfold compareInt first0
  simp only [u8_lt]
  repeat' split <;> first | rfl | omega
theorem cb_range : ∀ x y : List UInt8, compareBytes x y = -1 ∨ compareBytes x y = 0 ∨ compareBytes x y = 1
  | [], [] => .inr (.inl rfl)
  | [], _ :: _ => .inl rfl
  | _ :: _, [] => .inr (.inr rfl)
  | a :: xs, b :: ys => by
    have ih := cb_range xs ys
    have h := compareInt_cmp.range (a.toNat : Int) b.toNat
    rw [cb_cons]; unfold first0; split <;> omega
theorem cb_anti : ∀ x y : List UInt8, compareBytes x y = - compareBytes y x
  | [], [] => rfl
  | [], _ :: _ => rfl
  | _ :: _, [] => rfl
  | a :: xs, b :: ys => by
    have ih := cb_anti xs ys
    have h := compareInt_cmp.anti (a.toNat : Int) b.toNat
    rw [cb_cons, cb_cons]; unfold first0; repeat' split <;> omega
theorem cb_eq : ∀ x y : List UInt8, compareBytes x y = 0 → x = y
  | [], [], _ => rfl
  | [], _ :: _, h => by simp [compareBytes] at h
  | _ :: _, [], h => by simp [compareBytes] at h
  | a :: xs, b :: ys, h => by
    have ih := cb_eq xs ys
    rw [cb_cons] at h
    unfold first0 at h
    split at h
    · rename_i h1
      have := compareInt_cmp.eq _ _ h1
      rw [ih h, u8_eq (a := a) (b := b) (by omega)]
    · exact absurd h (by assumption)
theorem cb_trans : ∀ x y z : List UInt8, compareBytes x y ≤ 0 → compareBytes y z ≤ 0 → compareBytes x z ≤ 0
  | [], _, [], _, _ => by simp [compareBytes]
  | [], _, _ :: _, _, _ => by simp [compareBytes]
  | _ :: _, [], _, h, _ => by simp [compareBytes] at h
  | _ :: _, _ :: _, [], _, h => by simp [compareBytes] at h
  | a :: xs, b :: ys, c :: zs, h1, h2 => by
    have ih := cb_trans xs ys zs
    rw [cb_cons] at h1 h2 ⊢
    unfold first0 at h1 h2 ⊢
    have ht := compareInt_cmp.trans (a.toNat : Int) b.toNat c.toNat
    have hl := compareInt_cmp.lt1 (x := (a.toNat : Int)) (y := b.toNat) (z := c.toNat)
    have hr := compareInt_cmp.lt2 (x := (a.toNat : Int)) (y := b.toNat) (z := c.toNat)
    split at h1 <;> split at h2 <;> split <;> omega
theorem compareBytes_cmp : IsCmp compareBytes := ⟨cb_range, cb_anti, cb_eq, cb_trans⟩
theorem text_ext {a b : ByteArray} (h : a.data.toList = b.data.toList) : a = b := by
  cases a; cases b; simp_all [Array.toList_inj]
theorem compareText_cmp : IsCmp fun (a b : ByteArray) => compareBytes a.data.toList b.data.toList :=
  ⟨fun _ _ => cb_range _ _, fun _ _ => cb_anti _ _, fun _ _ h => text_ext (cb_eq _ _ h), fun _ _ _ => cb_trans _ _ _⟩


/-- An item: a key, a value. -/
abbrev It : Type := ByteArray × ByteArray
def kc (a b : ByteArray) : Int := compareBytes a.data.toList b.data.toList
theorem kc_cmp : IsCmp kc := compareText_cmp
theorem kc_lt_trans {a b c : ByteArray} (h1 : kc a b < 0) (h2 : kc b c < 0) : kc a c < 0 := kc_cmp.lt1 h1 (by omega)
theorem kc_flip {a b : ByteArray} : kc a b < 0 ↔ 0 < kc b a := by have := kc_cmp.anti a b; omega
theorem kc_eq {a b : ByteArray} (h : kc a b = 0) : a = b := kc_cmp.eq _ _ h
theorem kc_self (a : ByteArray) : kc a a = 0 := kc_cmp.self a
def Srt (l : List It) : Prop := l.Pairwise fun x y => kc x.1 y.1 < 0
def insL (x : It) : List It → List It
  | [] => [x]
  | y :: l => if kc y.1 x.1 < 0 then y :: insL x l else if kc y.1 x.1 = 0 then x :: l else x :: y :: l
def delL (k : ByteArray) : List It → List It
  | [] => []
  | y :: l => if kc y.1 k < 0 then y :: delL k l else if kc y.1 k = 0 then l else y :: l
def hasL (k : ByteArray) (l : List It) : Bool := l.any fun y => kc y.1 k == 0
def leastL (k : ByteArray) (l : List It) : Option It := l.find? fun y => decide (0 ≤ kc y.1 k)
theorem insL_left {x : It} {a : List It} (l : List It) (h : ∀ y ∈ a, kc y.1 x.1 < 0) : insL x (a ++ l) = a ++ insL x l := by
  induction a with
  | nil => rfl
  | cons y a ih => rw [List.cons_append, insL, if_pos (h y (by simp)), ih fun z hz => h z (by simp [hz])]; rfl
theorem insL_right {x : It} {b : List It} (l : List It) (h : ∀ y ∈ b, kc x.1 y.1 < 0) : insL x (l ++ b) = insL x l ++ b := by
  induction l with
  | nil =>
    cases b with
    | nil => rfl
    | cons y b =>
      have := kc_flip.1 (h y (by simp))
      simp only [List.nil_append, insL]; rw [if_neg (by omega), if_neg (by omega)]; rfl
  | cons y l ih =>
    rw [List.cons_append, insL, insL, ih]
    split
    · rfl
    · split <;> rfl
theorem delL_left {k : ByteArray} {a : List It} (l : List It) (h : ∀ y ∈ a, kc y.1 k < 0) : delL k (a ++ l) = a ++ delL k l := by
  induction a with
  | nil => rfl
  | cons y a ih => rw [List.cons_append, delL, if_pos (h y (by simp)), ih fun z hz => h z (by simp [hz])]; rfl
theorem delL_right {k : ByteArray} {b : List It} (l : List It) (h : ∀ y ∈ b, kc k y.1 < 0) : delL k (l ++ b) = delL k l ++ b := by
  induction l with
  | nil =>
    cases b with
    | nil => rfl
    | cons y b =>
      have := kc_flip.1 (h y (by simp))
      simp only [List.nil_append, delL]; rw [if_neg (by omega), if_neg (by omega)]
  | cons y l ih =>
    rw [List.cons_append, delL, delL, ih]
    split
    · rfl
    · split <;> rfl
theorem leastL_left {k : ByteArray} {a : List It} (l : List It) (h : ∀ y ∈ a, kc y.1 k < 0) : leastL k (a ++ l) = leastL k l := by
  induction a with
  | nil => rfl
  | cons y a ih =>
    have h1 := h y (by simp)
    have e : leastL k (y :: (a ++ l)) = leastL k (a ++ l) := List.find?_cons_of_neg (by simp; omega)
    rw [List.cons_append, e, ih fun z hz => h z (by simp [hz])]
theorem leastL_none {k : ByteArray} {a : List It} : leastL k a = none ↔ ∀ y ∈ a, kc y.1 k < 0 := by
  unfold leastL
  rw [List.find?_eq_none]
  constructor
  · intro h y hy; have := h y hy; simp at this; omega
  · intro h y hy; have := h y hy; simp; omega
theorem leastL_some_left {k : ByteArray} {a : List It} {x : It} (l : List It) (h : leastL k a = some x) : leastL k (a ++ l) = some x := by
  unfold leastL at *
  rw [List.find?_append, h]; rfl
theorem hasL_append (k : ByteArray) (a b : List It) : hasL k (a ++ b) = (hasL k a || hasL k b) := by simp [hasL]
theorem hasL_cons (k : ByteArray) (y : It) (b : List It) : hasL k (y :: b) = (kc y.1 k == 0 || hasL k b) := by simp [hasL]
theorem hasL_no {k : ByteArray} {l : List It} (h : ∀ y ∈ l, kc y.1 k ≠ 0) : hasL k l = false := by
  unfold hasL
  rw [List.any_eq_false]
  intro y hy
  simpa using h y hy
theorem delL_no {k : ByteArray} {l : List It} (h : hasL k l = false) : delL k l = l := by
  induction l with
  | nil => rfl
  | cons y l ih =>
    rw [hasL_cons, Bool.or_eq_false_iff] at h
    have h1 : kc y.1 k ≠ 0 := by simpa using h.1
    simp only [delL]
    split
    · rw [ih h.2]
    · rfl
theorem insL_mem {x y : It} {l : List It} (h : y ∈ insL x l) : y = x ∨ y ∈ l := by
  induction l with
  | nil => left; simpa [insL] using h
  | cons z l ih =>
    rw [insL] at h
    split at h
    · rcases List.mem_cons.1 h with rfl | h
      · simp
      · rcases ih h with h | h <;> simp [h]
    · split at h
      · rcases List.mem_cons.1 h with h | h <;> simp [h]
      · rcases List.mem_cons.1 h with h | h
        · simp [h]
        · rcases List.mem_cons.1 h with h | h <;> simp [h]
theorem insL_srt {x : It} {l : List It} (h : Srt l) : Srt (insL x l) := by
  induction l with
  | nil => simp [insL, Srt]
  | cons z l ih =>
    obtain ⟨h1, h2⟩ := List.pairwise_cons.1 h
    rw [insL]
    split
    · rename_i hz
      refine List.pairwise_cons.2 ⟨fun y hy => ?_, ih h2⟩
      rcases insL_mem hy with rfl | hy
      · exact hz
      · exact h1 y hy
    · rename_i hz
      split
      · rename_i he
        have e := kc_eq he
        exact List.pairwise_cons.2 ⟨fun y hy => by rw [← e]; exact h1 y hy, h2⟩
      · have hx : kc x.1 z.1 < 0 := kc_flip.2 (by omega)
        exact List.pairwise_cons.2 ⟨fun y hy => (List.mem_cons.1 hy).elim (fun e => by rw [e]; exact hx) (fun hy => kc_lt_trans hx (h1 y hy)), h⟩
theorem delL_sub {k : ByteArray} : ∀ l : List It, (delL k l).Sublist l
  | [] => List.Sublist.refl _
  | y :: l => by
    rw [delL]
    split
    · exact (delL_sub l).cons_cons y
    · split
      · exact List.sublist_cons_self _ _
      · exact List.Sublist.refl _
theorem delL_srt {k : ByteArray} {l : List It} (h : Srt l) : Srt (delL k l) := List.Pairwise.sublist (delL_sub l) h
theorem ins_has {x : It} {l : List It} (h : hasL x.1 l = false) : (insL x l).length = l.length + 1 := by
  induction l with
  | nil => rfl
  | cons y l ih =>
    rw [hasL_cons, Bool.or_eq_false_iff] at h
    have h1 : kc y.1 x.1 ≠ 0 := by simpa using h.1
    rw [insL]
    split
    · rw [List.length_cons, ih h.2, List.length_cons]
    · rfl
theorem ins_had {x : It} {l : List It} (hs : Srt l) (h : hasL x.1 l = true) : (insL x l).length = l.length := by
  induction l with
  | nil => simp [hasL] at h
  | cons y l ih =>
    obtain ⟨h1, h2⟩ := List.pairwise_cons.1 hs
    rw [hasL_cons, Bool.or_eq_true] at h
    rw [insL]
    split
    · rename_i hl
      rcases h with h | h
      · have : kc y.1 x.1 = 0 := by simpa using h
        omega
      · rw [List.length_cons, ih h2 h, List.length_cons]
    · rename_i hl
      rcases h with h | h
      · have : kc y.1 x.1 = 0 := by simpa using h
        rw [if_pos this]; rfl
      · exfalso
        obtain ⟨z, hz, e⟩ := List.any_eq_true.1 h
        have e := kc_eq (by simpa using e : kc z.1 x.1 = 0)
        have := h1 z hz
        rw [e] at this
        omega
theorem del_had {k : ByteArray} {l : List It} (hs : Srt l) (h : hasL k l = true) : (delL k l).length + 1 = l.length := by
  induction l with
  | nil => simp [hasL] at h
  | cons y l ih =>
    obtain ⟨h1, h2⟩ := List.pairwise_cons.1 hs
    rw [hasL_cons, Bool.or_eq_true] at h
    rw [delL]
    split
    · rename_i hl
      rcases h with h | h
      · have : kc y.1 k = 0 := by simpa using h
        omega
      · rw [List.length_cons, ih h2 h, List.length_cons]
    · rename_i hl
      rcases h with h | h
      · have : kc y.1 k = 0 := by simpa using h
        rw [if_pos this]; rfl
      · exfalso
        obtain ⟨z, hz, e⟩ := List.any_eq_true.1 h
        have e := kc_eq (by simpa using e : kc z.1 k = 0)
        have := h1 z hz
        rw [e] at this
        omega
end Go.Proofs.YtlmjmhpdpgeplaaGreatDoor
