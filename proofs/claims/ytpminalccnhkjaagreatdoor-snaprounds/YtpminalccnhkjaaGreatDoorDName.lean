/- Names of files. -/
import Derived.Test.YtpminalccnhkjaaGreatDoorDState
import Derived.Deep.RegionWith
namespace Go.Proofs.YtpminalccnhkjaaGreatDoor.Dk
open Go.RowKit Go.Lib Go.Maps

/-- May a byte be in a name? -/
def okB (c : UInt8) : Bool := (97 ≤ c.toNat ∧ c.toNat ≤ 122) || (48 ≤ c.toNat ∧ c.toNat ≤ 57) || c.toNat == 46 || c.toNat == 45 || c.toNat == 95
/-- May these bytes be a name? -/
def okN (l : List UInt8) : Bool := decide (l ≠ [] ∧ l.length ≤ 40) && l.all okB

set_option maxHeartbeats 1600000 in
theorem nameByte_any (c : UInt8) (w : World) : Calls Tryz.prog 57 #[.int .u8 (c.toNat : Int)] w fun e w' => e = .returned (.bool (okB c)) ∧ w' = w := by
  unfold okB
  generalize c.toNat = n
  by_cases h1 : (97 : Int) ≤ (n : Int) <;> by_cases h2 : (n : Int) ≤ 122 <;> by_cases h3 : (48 : Int) ≤ (n : Int) <;> by_cases h4 : (n : Int) ≤ 57 <;> first | (exfalso; omega) | skip
  all_goals
    go_enter Tryz.func57, Tryz.ntmps57
    go_wp2
    all_goals
      go_ret
      refine ⟨congrArg Ending.returned (congrArg Value.bool (?_ : (_ : Bool) = _)), rfl⟩
      rw [Bool.eq_iff_iff]
      first | (simp; omega) | (simp; done) | (simp <;> omega)

theorem okN_no {l : List UInt8} (h : l = [] ∨ 40 < l.length) : okN l = false := by
  unfold okN
  have : ¬ (l ≠ [] ∧ l.length ≤ 40) := by rintro ⟨h1, h2⟩; rcases h with h | h; exact h1 h; omega
  simp only [decide_eq_false this, Bool.false_and]

set_option maxHeartbeats 3200000 in
theorem nameMayBe_any (s : ByteArray) (w : World) (hs : s.size ≤ maxLen) : Calls Tryz.prog 42 #[.string s] w fun e w' => e = .returned (.bool (okN s.data.toList)) ∧ w' = w := by
  have hsz : s.data.toList.length = s.size := by rw [Array.length_toList]; rfl
  by_cases h0 : s = ByteArray.empty
  · subst h0
    go_enter Tryz.func42, Tryz.ntmps42
    go_wp2
    go_ret
    refine ⟨?_, rfl⟩
    have : okN ByteArray.empty.data.toList = false := okN_no (.inl rfl)
    rw [this]; rfl
  · have hne : ¬ s.toList = [] := by
      have e1 := decide_eq_emptyBytes s
      rw [decide_eq_false h0] at e1
      intro e2
      rw [e2] at e1
      cases e1
    have hie : s.toList.isEmpty = false := by
      rw [← decide_eq_emptyBytes s]; exact decide_eq_false h0
    by_cases h40 : (40 : Int) < (s.size : Int)
    · go_enter Tryz.func42, Tryz.ntmps42
      go_wp2
      go_ret
      refine ⟨?_, rfl⟩
      rw [okN_no (.inr (by omega))]; rfl
    · go_enter Tryz.func42, Tryz.ntmps42
      go_wp2
      go_loopw [13] (fun i wr => ∃ k : Nat, k ≤ s.size ∧ i = .int .i64 k ∧ wr = w ∧ Hid ((s.data.toList.take k).all okB = true)) (fun i _ => s.size - (intOf i).toNat)
      case atStart => exact ⟨0, by omega, rfl, rfl, rfl⟩
      case round =>
        obtain ⟨k, hk, rfl, rfl, hall⟩ := hrel
        by_cases hlt : k < s.size
        · have hki : (k : Int) < (s.size : Int) := by omega
          have hk0 : (0 : Int) ≤ (k : Int) := by omega
          have HB := hide (nameByte_any s[k] wr)
          have hkl : k < s.data.toList.length := by rw [hsz]; exact hlt
          have htake : Hid (s.data.toList.take (k + 1) = s.data.toList.take k ++ [s[k]]) := by
            have := List.take_succ_eq_append_getElem (l := s.data.toList) hkl
            rw [this]; rfl
          have hmem : Hid (s[k] ∈ s.data.toList) := List.getElem_mem (l := s.data.toList) hkl
          by_cases hok : okB s[k] = true
          · rw [hok] at HB
            go_wp2_with (first | (go_at_call 57; refine (unhide HB).mono ?_; rintro e w1 ⟨rfl, rfl⟩))
            go_roundw
            case rel =>
              refine ⟨k + 1, by omega, by go_num, (by first | rfl | trivial), ?_⟩
              have h1 := unhide hall
              have h2 := unhide htake
              show (s.data.toList.take (k + 1)).all okB = true
              rw [h2, List.all_append, h1]
              simp [hok]
            case measure => simp [intOf]; omega
          · have hok' : okB s[k] = false := by simpa using hok
            rw [hok'] at HB
            go_wp2_with (first | (go_at_call 57; refine (unhide HB).mono ?_; rintro e w1 ⟨rfl, rfl⟩))
            go_ret
            refine ⟨?_, rfl⟩
            have : okN s.data.toList = false := by
              unfold okN
              have : s.data.toList.all okB = false := by
                rw [List.all_eq_false]
                exact ⟨_, unhide hmem, by simpa using hok⟩
              rw [this, Bool.and_false]
            rw [this]; rfl
        · have hki : ¬ ((k : Int) < (s.size : Int)) := by omega
          go_wp2
          go_ret
          refine ⟨?_, rfl⟩
          have h1 := unhide hall
          have hke : k = s.data.toList.length := by omega
          rw [hke, List.take_length] at h1
          have : okN s.data.toList = true := by
            unfold okN
            rw [h1, Bool.and_true]
            refine decide_eq_true ⟨?_, by omega⟩
            intro e
            have e2 := congrArg List.length e
            rw [hsz] at e2
            exact h0 (ByteArray.ext (Array.eq_empty_of_size_eq_zero e2))
          rw [this]; rfl
end Go.Proofs.YtpminalccnhkjaaGreatDoor.Dk
