/- An error wrapped with the place that a node met it at. -/
import Derived.Test.YtlmjmhpdpgeplaaGreatDoorTErr
import Derived.Test.YtlmjmhpdpgeplaaGreatDoorTShelf
import Derived.Test.YtlmjmhpdpgeplaaGreatDoorTVar
namespace Go.Proofs.YtlmjmhpdpgeplaaGreatDoor
open Go.RowKit Go.Lib Go.Proofs

theorem dec2 : ∀ i : Fin 100, (decDigits i.val).length ≤ 100 := by
  intro i
  rw [decDigits_length]
  obtain ⟨i, hi⟩ := i
  show nDigits i ≤ 100
  unfold nDigits
  split
  · omega
  · rw [nDigits_small (by omega)]; omega
theorem itoa_small (i : Nat) (hi : i < 100) (w : World) : Calls Tryz.prog 56 #[.int .i64 (i : Int)] w fun e w' => ∃ s : ByteArray, e = .returned (.string s) ∧ s.size ≤ 100 ∧ w' = w := by
  have h : Calls Tryz.prog 56 #[.int .i64 (i : Int)] w fun e w' => e = .returned (.string ⟨(decDigits i).toArray⟩) ∧ w' = w := Any.strconv_Itoa_small Tryz.lays171 i hi w
  refine h.mono ?_
  rintro e w' ⟨rfl, rfl⟩
  refine ⟨_, rfl, ?_, rfl⟩
  show (decDigits i).toArray.size ≤ 100
  rw [List.size_toArray]
  exact dec2 ⟨i, hi⟩
set_option maxHeartbeats 1600000 in
theorem wrapped_t {c : Int} {n : Nat} {v : Value} {w : World} (i : Nat) (hi : i < 100) (hv : Chn w c n v) :
    Calls Tryz.prog 40 #[v, .int .i64 (i : Int)] w fun e w' => ∃ T x, e = .returned (.iface T x) ∧ Chn w' c (n + 1) (.iface T x) ∧ Below w.heap.size w w' := by
  have HI := hide (fun W : World => itoa_small i hi W)
  have HV := hide hv
  obtain ⟨T, x, rfl⟩ := hv.iface
  clear hv
  go_enter Tryz.func40, Tryz.ntmps40
  go_wp2_with (go_at_call 56; refine (unhide HI _).mono ?_; rintro e w1 ⟨s, rfl, hs, rfl⟩)
  go_ret
  have hb : Below w1.heap.size w1 (w1.alloc (.cells #[.string (⟨#[112, 108, 97, 99, 101, 32]⟩ ++ s), .iface T x] 113)) := (Below.refl _ _).alloc (Nat.le_refl _) _
  exact ⟨_, _, rfl, ⟨_, w1.heap.size, _, .inl rfl, rfl, by simp, by simp, (unhide HV).below hb⟩, hb⟩
end Go.Proofs.YtlmjmhpdpgeplaaGreatDoor
