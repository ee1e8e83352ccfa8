/- Contract of wire.Uint: it reads as the plain function does; only a fault makes memory. -/
import Derived.Test.YtahcfanmfocljaaDoorNums
import Derived.Test.YtahcfanmfocljaaDoorDec
namespace Go.Proofs.YtahcfanmfocljaaDoor
open Go.RowKit Go.Lib

set_option maxHeartbeats 1600000 in
set_option maxRecDepth 100000 in
theorem uint_row (b off cap : Nat) (l : List UInt8) (w : World) (hl : l.length ≤ maxLen) (hc : ∀ i, i < l.length → w.cell? ⟨b, off + i, none⟩ = some (.int .u8 ((l.getD i 0).toNat : Int))) :
    Calls Tryd.prog 17 #[.slice (some ⟨b, off, none⟩) l.length cap] w fun e w' =>
      UPost 108 85 110 (decU l) w e w' := by
  unfold maxLen at hl
  go_enter Tryd.func17, Tryd.ntmps17
  go_wp2
  go_loop [5, 10] (fun n i => ∃ (k acc : Nat), k ≤ l.length ∧ k ≤ 9 ∧ acc < 2 ^ (7 * k) ∧ i = .int .i64 k ∧ n = .int .u64 acc ∧ decU l = decFrom k acc (l.drop k)) (fun _ i => l.length - (intOf i).toNat)
  case atStart => exact ⟨0, 0, by omega, by omega, by simp, rfl, rfl, rfl⟩
  case round =>
    obtain ⟨k, acc, hk, hk9, hacc, rfl, rfl, hdec⟩ := hrel
    by_cases hlt : k < l.length
    · have hcx := hc k hlt
      rw [drop_at l k hlt] at hdec
      generalize l.getD k 0 = c at *
      have hc256 : (c.toNat : Int) < 256 := by have := c.toNat_lt; omega
      have han := andNot128' c
      have HD : Hid (decU l = decFrom k acc (c :: l.drop (k + 1))) := hdec
      clear hdec hc
      go_wp2_with (go_at_call 43; refine (fault_any 20 _ _).mono ?_; rintro e w' ⟨rfl, rfl⟩)
      · have h9 : (k : Int) = 9 := by assumption
        have h1 : (1 : Int) < (c.toNat : Int) ∨ (((c.toNat : Nat) : Int) == 0) = true := by assumption
        have hk : k = 9 := by omega
        subst hk
        go_ret3
        exact upost_form (c := 20) (k := 9) (by decide) (HD.out.trans (dec_form (by rcases h1 with h | h; · omega
                                                                                    · have := zero_of h; omega)))
      · have h9 : (k : Int) = 9 := by assumption
        have h1 : ((c.toNat : Nat) : Int) ≤ 1 ∧ (((c.toNat : Nat) : Int) == 0) = false := by assumption
        have hz := nonzero_of h1.2
        have hk : k = 9 := by omega
        subst hk
        go_ret3
        exact upost_done (k := 9) (HD.out.trans (dec_done (by omega) (by omega))) (or_walk9 (by omega) hacc)
      · have h9 : (k : Int) = 9 := by assumption
        have hk : k = 9 := by omega
        subst hk
        go_ret3
        exact upost_form (c := 20) (k := 9) (by decide) (HD.out.trans (dec_form (by omega)))
      · have hz := zero_of (c := c) (by assumption)
        go_ret3
        exact upost_form (c := 20) (by decide) (HD.out.trans (dec_form (by omega)))
      · have hz := nonzero_of (c := c) (by assumption)
        go_ret3
        exact upost_done (HD.out.trans (dec_done (by omega) (by omega))) (or_walk hk9 (by omega) hacc)
      · have hz := nonzero_of (c := c) (by assumption)
        have hor := or_walk hk9 (c := c) (by omega) hacc
        have hal := acc_lt (d := c.toNat % 128) (by omega) hacc
        go_round
        case rel => exact ⟨k + 1, _, by omega, by omega, hal, by go_num, congrArg (Value.int .u64) hor, HD.out.trans (dec_more (by omega) (by omega))⟩
        case measure => simp [intOf]; omega
      · go_ret3
        exact upost_done (HD.out.trans (dec_done (by omega) (by omega))) (or_walk hk9 (by omega) hacc)
      · have hor := or_walk hk9 (c := c) (by omega) hacc
        have hal := acc_lt (d := c.toNat % 128) (by omega) hacc
        go_round
        case rel => exact ⟨k + 1, _, by omega, by omega, hal, by go_num, congrArg (Value.int .u64) hor, HD.out.trans (dec_more (by omega) (by omega))⟩
        case measure => simp [intOf]; omega
    · have hd : decU l = (0, 0, 22, l.length) := by
        rw [hdec, List.drop_eq_nil_of_le (by omega)]; simp [decFrom]; omega
      have HD : Hid (decU l = (0, 0, 22, l.length)) := hd; clear hd hdec
      go_wp2_with (go_at_call 43; refine (fault_any 22 _ _).mono ?_; rintro e w' ⟨rfl, rfl⟩)
      go_ret3
      exact upost_form (by decide) HD.out
end Go.Proofs.YtahcfanmfocljaaDoor
