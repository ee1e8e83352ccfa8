/- Orders on values, without the program: they serve the proofs about package value. -/
import Derived.Test.YtjmkoceiepcphaaGreatDoorPutRow
import Derived.Lib.Small
namespace Go.Proofs.YtjmkoceiepcphaaGreatDoor
open Go.RowKit Go.Lib

/-- A way to compare: -1, 0, 1; 0 of equals alone; turned round it is the opposite; it is an order. -/
structure IsCmp {α : Type} (f : α → α → Int) : Prop where
  range : ∀ x y, f x y = -1 ∨ f x y = 0 ∨ f x y = 1
  anti : ∀ x y, f x y = - f y x
  eq : ∀ x y, f x y = 0 → x = y
  trans : ∀ x y z, f x y ≤ 0 → f y z ≤ 0 → f x z ≤ 0

theorem IsCmp.self {α : Type} {f : α → α → Int} (h : IsCmp f) (x : α) : f x x = 0 := by have := h.anti x x; omega
theorem IsCmp.lt1 {α : Type} {f : α → α → Int} (h : IsCmp f) {x y z : α} (h1 : f x y < 0) (h2 : f y z ≤ 0) : f x z < 0 := by
  have h3 := h.trans x y z (by omega) h2
  rcases Int.lt_or_eq_of_le h3 with h4 | h4
  · exact h4
  · obtain rfl := h.eq _ _ h4
    have := h.anti x y
    omega
theorem IsCmp.lt2 {α : Type} {f : α → α → Int} (h : IsCmp f) {x y z : α} (h1 : f x y ≤ 0) (h2 : f y z < 0) : f x z < 0 := by
  have h3 := h.trans x y z h1 (by omega)
  rcases Int.lt_or_eq_of_le h3 with h4 | h4
  · exact h4
  · obtain rfl := h.eq _ _ h4
    have := h.anti x y
    omega

def first0 (a b : Int) : Int := if a = 0 then b else a
theorem first0_ne {a b : Int} (h : a ≠ 0) : first0 a b = a := if_neg h
theorem first0_eq (b : Int) : first0 0 b = b := if_pos rfl

theorem IsCmp.lex {α β : Type} {f : α → α → Int} {g : β → β → Int} (hf : IsCmp f) (hg : IsCmp g) : IsCmp fun (x y : α × β) => first0 (f x.1 y.1) (g x.2 y.2) where
  range x y := by
    have h1 := hf.range x.1 y.1
    have h2 := hg.range x.2 y.2
    unfold first0
    split <;> omega
  anti x y := by
    have h1 := hf.anti x.1 y.1
    have h2 := hg.anti x.2 y.2
    unfold first0
    split <;> split <;> omega
  eq x y h := by
    unfold first0 at h
    split at h
    · rename_i h1
      exact Prod.ext (hf.eq _ _ h1) (hg.eq _ _ h)
    · exact absurd h (by assumption)
  trans x y z h1 h2 := by
    unfold first0 at h1 h2 ⊢
    have ht := hf.trans x.1 y.1 z.1
    have hl := hf.lt1 (x := x.1) (y := y.1) (z := z.1)
    have hr := hf.lt2 (x := x.1) (y := y.1) (z := z.1)
    have hs := hg.trans x.2 y.2 z.2
    split at h1 <;> split at h2 <;> split <;> omega

theorem compareInt_cmp : IsCmp compareInt where
  range x y := by unfold compareInt; repeat' split <;> omega
  anti x y := by unfold compareInt; repeat' split <;> omega
  eq x y h := by unfold compareInt at h; (repeat' split at h) <;> omega
  trans x y z h1 h2 := by unfold compareInt at *; (repeat' split at h1) <;> (repeat' split at h2) <;> (repeat' split) <;> omega

theorem u8_lt (a b : UInt8) : a < b ↔ a.toNat < b.toNat := UInt8.lt_iff_toNat_lt
theorem u8_eq {a b : UInt8} (h : a.toNat = b.toNat) : a = b := UInt8.toNat_inj.1 h
theorem cb_cons (a b : UInt8) (xs ys : List UInt8) : compareBytes (a :: xs) (b :: ys) = first0 (compareInt a.toNat b.toNat) (compareBytes xs ys) := by
  show (if a < b then (-1 : Int) else if b < a then 1 else compareBytes xs ys) = _
  unfold compareInt first0
  simp only [u8_lt]
  repeat' split <;> first | rfl | omega
theorem cb_range : ∀ x y : List UInt8, compareBytes x y = -1 ∨ compareBytes x y = 0 ∨ compareBytes x y = 1
  | [], [] => .inr (.inl rfl)
  | [], _ :: _ => .inl rfl
  | _ :: _, [] => .inr (.inr rfl)
  | a :: xs, b :: ys => by
    have ih := cb_range xs ys
    have h := compareInt_cmp.range (a.toNat : Int) b.toNat
    rw [cb_cons]; unfold first0; split <;> omega
theorem cb_anti : ∀ x y : List UInt8, compareBytes x y = - compareBytes y x
  | [], [] => rfl
  | [], _ :: _ => rfl
  | _ :: _, [] => rfl
  | a :: xs, b :: ys => by
    have ih := cb_anti xs ys
    have h := compareInt_cmp.anti (a.toNat : Int) b.toNat
    rw [cb_cons, cb_cons]; unfold first0; repeat' split <;> omega
theorem cb_eq : ∀ x y : List UInt8, compareBytes x y = 0 → x = y
  | [], [], _ => rfl
  | [], _ :: _, h => by simp [compareBytes] at h
  | _ :: _, [], h => by simp [compareBytes] at h
  | a :: xs, b :: ys, h => by
    have ih := cb_eq xs ys
    rw [cb_cons] at h
    unfold first0 at h
    split at h
    · rename_i h1
      have := compareInt_cmp.eq _ _ h1
      rw [ih h, u8_eq (a := a) (b := b) (by omega)]
    · exact absurd h (by assumption)
theorem cb_trans : ∀ x y z : List UInt8, compareBytes x y ≤ 0 → compareBytes y z ≤ 0 → compareBytes x z ≤ 0
  | [], _, [], _, _ => by simp [compareBytes]
  | [], _, _ :: _, _, _ => by simp [compareBytes]
  | _ :: _, [], _, h, _ => by simp [compareBytes] at h
  | _ :: _, _ :: _, [], _, h => by simp [compareBytes] at h
  | a :: xs, b :: ys, c :: zs, h1, h2 => by
    have ih := cb_trans xs ys zs
    rw [cb_cons] at h1 h2 ⊢
    unfold first0 at h1 h2 ⊢
    have ht := compareInt_cmp.trans (a.toNat : Int) b.toNat c.toNat
    have hl := compareInt_cmp.lt1 (x := (a.toNat : Int)) (y := b.toNat) (z := c.toNat)
    have hr := compareInt_cmp.lt2 (x := (a.toNat : Int)) (y := b.toNat) (z := c.toNat)
    split at h1 <;> split at h2 <;> split <;> omega
theorem compareBytes_cmp : IsCmp compareBytes := ⟨cb_range, cb_anti, cb_eq, cb_trans⟩
theorem text_ext {a b : ByteArray} (h : a.data.toList = b.data.toList) : a = b := by
  cases a; cases b; simp_all [Array.toList_inj]
theorem compareText_cmp : IsCmp fun (a b : ByteArray) => compareBytes a.data.toList b.data.toList :=
  ⟨fun _ _ => cb_range _ _, fun _ _ => cb_anti _ _, fun _ _ h => text_ext (cb_eq _ _ h), fun _ _ _ => cb_trans _ _ _⟩

/-- How two values that may be stand to one another (P6.1). -/
def cmpG (a b : GV) : Int := first0 (compareInt a.kind b.kind) (first0 (compareInt a.int b.int) (compareBytes a.text.data.toList b.text.data.toList))
theorem cmpG_cmp : IsCmp cmpG := by
  have h := (compareInt_cmp.lex (compareInt_cmp.lex compareText_cmp))
  refine ⟨fun x y => h.range (x.kind, x.int, x.text) (y.kind, y.int, y.text), fun x y => h.anti (x.kind, x.int, x.text) (y.kind, y.int, y.text), fun x y e => ?_, fun x y z => h.trans (x.kind, x.int, x.text) (y.kind, y.int, y.text) (z.kind, z.int, z.text)⟩
  have := h.eq (x.kind, x.int, x.text) (y.kind, y.int, y.text) e
  obtain ⟨k, n, t⟩ := x
  obtain ⟨k', n', t'⟩ := y
  simp at this
  obtain ⟨rfl, rfl, rfl⟩ := this
  rfl
def nullG : GV := ⟨0, 0, ⟨#[]⟩⟩
def soundG (g : GV) : GV := if g.may then g else nullG
def compareG (a b : GV) : Int := cmpG (soundG a) (soundG b)
theorem compareG_range (a b : GV) : compareG a b = -1 ∨ compareG a b = 0 ∨ compareG a b = 1 := cmpG_cmp.range _ _
theorem compareG_anti (a b : GV) : compareG a b = - compareG b a := cmpG_cmp.anti _ _
theorem compareG_self (a : GV) : compareG a a = 0 := cmpG_cmp.self _
theorem compareG_trans (a b c : GV) (h1 : compareG a b ≤ 0) (h2 : compareG b c ≤ 0) : compareG a c ≤ 0 := cmpG_cmp.trans _ _ _ h1 h2

/-- Whether an operator asks for that order. -/
def holdsG (op order : Int) : Bool :=
  if op = 9 then decide (0 < order) else if op = 7 then decide (order < 0) else if op = 10 then decide (0 ≤ order) else if op = 8 then decide (order ≤ 0) else if op = 5 then decide (order = 0) else decide (order ≠ 0)
/-- What Test tells: a truth, a class (P6.2). -/
def testG (op : Int) (a b : GV) : Int × Int :=
  if op < 5 ∨ 10 < op ∨ a.may = false ∨ b.may = false then (0, 20)
  else if a.kind = 0 ∨ b.kind = 0 then (2, 0)
  else if a.kind ≠ b.kind then (0, 4)
  else if holdsG op (cmpG a b) then (1, 0) else (0, 0)
end Go.Proofs.YtjmkoceiepcphaaGreatDoor
