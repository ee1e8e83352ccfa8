/- Texts compare by their bytes. -/
import Derived.Test.YtjmkoceiepcphaaGreatDoorVCmp
namespace Go.Proofs.YtjmkoceiepcphaaGreatDoor
open Go.RowKit Go.Lib

theorem bl_cmp : ∀ a b : List UInt8, Op.bytesLess a b = decide (compareBytes a b < 0)
  | [], [] => rfl
  | [], _ :: _ => rfl
  | _ :: _, [] => rfl
  | a :: x, b :: y => by
    have ih := bl_cmp x y
    show (decide (a < b) || (a == b && Op.bytesLess x y)) = _
    rw [ih]
    show _ = decide ((if a < b then (-1 : Int) else if b < a then 1 else compareBytes x y) < 0)
    by_cases h : a < b
    · simp [h]
    · by_cases h' : b < a
      · have hne : a ≠ b := fun e => by subst e; exact absurd h' (UInt8.lt_irrefl a)
        simp [h, h', hne]
      · have he : a = b := by
          rw [u8_lt] at h h'
          exact u8_eq (by omega)
        subst he
        simp [h]
end Go.Proofs.YtjmkoceiepcphaaGreatDoor
