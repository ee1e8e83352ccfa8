/- Contracts of the reader's between, number, take, text and value. -/
import Derived.Test.YtahcfanmfocljaaDoorUpto2
import Derived.Test.YtahcfanmfocljaaDoorVals
import Derived.Lib.BytesEntry
namespace Go.Proofs.YtahcfanmfocljaaDoor
open Go.RowKit Go.Lib

theorem rdUp_le {l : List UInt8} {most a : Nat} {s : Except Nat Nat} (h : (rdUp l most s).2 = .ok a) : (rdUp l most s).1 ≤ most := by
  cases s with
  | error c => simp [rdUp] at h
  | ok b =>
    unfold rdUp at h ⊢
    dsimp only at h ⊢
    by_cases h1 : (decU (l.drop b)).2.2.1 = 0
    · by_cases h2 : (decU (l.drop b)).1 ≤ most
      · simp [h1, h2]
      · simp [h1, h2] at h
    · rw [if_neg h1] at h; split at h <;> cases h

def rdBetween (l : List UInt8) (lo hi : Int) (s : Except Nat Nat) : Int × Except Nat Nat :=
  match (rdUp l (hi - lo).toNat s).2 with
  | .ok a => (lo + (rdUp l (hi - lo).toNat s).1, .ok a)
  | .error c => (0, .error c)

theorem RS.cells_ok {w : World} {p a : Nat} {l : List UInt8} (h : RS w p l (.ok a)) : w.cell? ⟨p, 1, none⟩ = some (.int .i64 (a : Int)) ∧ w.cell? ⟨p, 2, none⟩ = some .nilIface ∧ a ≤ l.length := by
  obtain ⟨_, _, _, _, _, h0, h1, h2⟩ := h; exact ⟨h1, h2, h0⟩
theorem RS.cells_err {w : World} {p c : Nat} {l : List UInt8} (h : RS w p l (.error c)) : ∃ b, w.cell? ⟨p, 2, none⟩ = some (ev b) := by
  obtain ⟨_, _, _, _, _, a, b, pl, _, _, h2, _⟩ := h; exact ⟨b, h2⟩

set_option maxHeartbeats 1600000 in
theorem rbetween_any (p : Nat) (lo hi : Int) (l : List UInt8) (s : Except Nat Nat) (w : World) (h : RS w p l s) (hlo : -1000 ≤ lo) (hlh : lo ≤ hi) (hhi : hi ≤ 1000000000) :
    Calls Tryd.prog 69 #[.pointer (some ⟨p, 0, none⟩), .int .i64 lo, .int .i64 hi] w fun e w' =>
      e = .returned (.int .i64 (rdBetween l lo hi s).1) ∧ RS w' p l (rdBetween l lo hi s).2 ∧ Fq p w w' := by
  obtain ⟨d, hd⟩ := Int.eq_ofNat_of_zero_le (show 0 ≤ hi - lo by omega)
  have hd2 : (d : Int) ≤ 1000001000 := by omega
  have HD := hide hd
  have HU := hide (upTo_any p d l s w h)
  unfold rdBetween
  rw [hd, Int.toNat_natCast]
  clear hd h
  cases hr : (rdUp l d s).2 with
  | ok a =>
    have hle := rdUp_le hr
    rw [hr] at HU
    generalize (rdUp l d s).1 = n at *
    have hn : (n : Int) ≤ 1000001000 := by omega
    clear hr hle
    go_enter Tryd.func69, Tryd.ntmps69
    go_wp2_with (go_at_call 81; rw [unhide HD]; refine (unhide HU).mono ?_; rintro e w1 ⟨rfl, hr1, hf1⟩; obtain ⟨k1, k2, k3⟩ := hr1.cells_ok)
    go_ret
    exact ⟨rfl, hr1, hf1⟩
  | error c =>
    rw [hr] at HU
    generalize (rdUp l d s).1 = n at *
    clear hr
    go_enter Tryd.func69, Tryd.ntmps69
    go_wp2_with (go_at_call 81; rw [unhide HD]; refine (unhide HU).mono ?_; rintro e w1 ⟨rfl, hr1, hf1⟩; obtain ⟨b1, k2⟩ := hr1.cells_err)
    go_ret
    exact ⟨rfl, hr1, hf1⟩

theorem rnumber_any (p : Nat) (l : List UInt8) (s : Except Nat Nat) (w : World) (h : RS w p l s) :
    Calls Tryd.prog 68 #[.pointer (some ⟨p, 0, none⟩)] w fun e w' =>
      e = .returned (.int .u64 ((rdUp l 18446744073709551615 s).1 : Int)) ∧ RS w' p l (rdUp l 18446744073709551615 s).2 ∧ Fq p w w' := by
  have HU := hide (upTo_any p 18446744073709551615 l s w h)
  generalize rdUp l 18446744073709551615 s = r at *
  clear h
  go_enter Tryd.func68, Tryd.ntmps68
  go_wp2_with (go_at_call 81; refine (unhide HU).mono ?_; rintro e w1 ⟨rfl, hr1, hf1⟩)
  go_ret
  exact ⟨rfl, hr1, hf1⟩

/-- Taking n bytes. -/
def rdTake (l : List UInt8) (n : Nat) : Except Nat Nat → List UInt8 × Except Nat Nat
  | .error c => ([], .error c)
  | .ok a => if n ≤ l.length - a then ((l.drop a).take n, .ok (a + n)) else ([], .error 22)
end Go.Proofs.YtahcfanmfocljaaDoor
