/- The document's disk: named, List, New. -/
import Derived.Test.YthebgoadeecmpaaDoorJQUsedQCopyQAdd
namespace Go.Proofs.YthebgoadeecmpaaDoor
open Go.RowKit Go.Lib Go.Maps Go.WideMaps

set_option maxHeartbeats 6400000 in
set_option maxRecDepth 100000 in
theorem named_any (s : ByteArray) (w : World) (hs : s.size ≤ maxLen) : Calls Tryd.prog 39 #[.string s] w fun e w' => e = .returned (.bool (okN s.data.toList)) ∧ w' = w := by
  have hsz : s.data.toList.length = s.size := by rw [Array.length_toList]; rfl
  have hsm : (s.size : Int) ≤ 9223372036854775807 := by unfold maxLen at hs; omega
  by_cases h0 : s.size = 0
  · have h0' : (s.size : Int) < 1 := by omega
    have hno : okN s.data.toList = false := okN_no (.inl (List.eq_nil_of_length_eq_zero (by omega)))
    rw [hno]
    clear h0
    go_enter Tryd.func39, Tryd.ntmps39
    go_wp2
    go_ret
    exact ⟨rfl, rfl⟩
  by_cases h40 : (40 : Int) < (s.size : Int)
  · have h0' : ¬ (s.size : Int) < 1 := by omega
    have hno : okN s.data.toList = false := okN_no (.inr (by omega))
    rw [hno]
    clear h0
    go_enter Tryd.func39, Tryd.ntmps39
    go_wp2
    go_ret
    exact ⟨rfl, rfl⟩
  have h0' : ¬ (s.size : Int) < 1 := by omega
  clear h0
  go_enter Tryd.func39, Tryd.ntmps39
  go_wp2
  go_loopw [3] (fun i wr => ∃ k : Nat, k ≤ s.size ∧ i = .int .i64 k ∧ wr = w ∧ Hid ((s.data.toList.take k).all okB = true)) (fun i _ => s.size - (intOf i).toNat)
  case atStart => exact ⟨0, by omega, rfl, rfl, rfl⟩
  case round =>
    obtain ⟨k, hk, rfl, rfl, hall⟩ := hrel
    by_cases hlt : k < s.size
    · have hki : (k : Int) < (s.size : Int) := by omega
      have hk0 : (0 : Int) ≤ (k : Int) := by omega
      have hkl : k < s.data.toList.length := by rw [hsz]; exact hlt
      have htake : Hid (s.data.toList.take (k + 1) = s.data.toList.take k ++ [s[k]]) := by
        have := List.take_succ_eq_append_getElem (l := s.data.toList) hkl
        rw [this]; rfl
      have hmem : Hid (s[k] ∈ s.data.toList) := List.getElem_mem (l := s.data.toList) hkl
      have hyes : Hid (okB s[k] = true → (s.data.toList.take (k + 1)).all okB = true) := fun hok => by
        rw [unhide htake, List.all_append, unhide hall]
        simp [hok]
      have hnot : Hid (okB s[k] = false → okN s.data.toList = false) := fun hok => by
        unfold okN
        have : s.data.toList.all okB = false := by
          rw [List.all_eq_false]
          exact ⟨_, unhide hmem, by simpa using hok⟩
        rw [this, Bool.and_false]
      obtain ⟨c, hc⟩ : ∃ c : Nat, s[k].toNat = c := ⟨_, rfl⟩
      have hokc : okB s[k] = ((97 ≤ c ∧ c ≤ 122) || (48 ≤ c ∧ c ≤ 57) || c == 46 || c == 45 || c == 95) := by unfold okB; rw [hc]
      clear htake hmem hall
      by_cases hok : okB s[k] = true
      · have HY := hide (unhide hyes hok)
        have hor : (97 ≤ c ∧ c ≤ 122) ∨ (48 ≤ c ∧ c ≤ 57) ∨ c = 46 ∨ c = 45 ∨ c = 95 := by
          rw [hok] at hokc
          simp at hokc
          omega
        clear hokc hok hyes hnot
        rcases hor with ⟨h1, h2⟩ | ⟨h1, h2⟩ | h1 | h1 | h1
        · have e1 : ((c : Int) < 97) = False := eq_false (by omega)
          have e2 : ((122 : Int) < (c : Int)) = False := eq_false (by omega)
          go_wp2
          go_roundw
          case rel => exact ⟨k + 1, by omega, by go_num, (by first | rfl | trivial), unhide HY⟩
          case measure => simp [intOf]; omega
        · have e1 : ((c : Int) < 48) = False := eq_false (by omega)
          have e2 : ((57 : Int) < (c : Int)) = False := eq_false (by omega)
          go_wp2
          go_roundw
          case rel => exact ⟨k + 1, by omega, by go_num, (by first | rfl | trivial), unhide HY⟩
          case measure => simp [intOf]; omega
        all_goals
          subst h1
          go_wp2
          go_roundw
          case rel => exact ⟨k + 1, by omega, by go_num, (by first | rfl | trivial), unhide HY⟩
          case measure => simp [intOf]; omega
      · have hok' : okB s[k] = false := by simpa using hok
        have HNO := hide (unhide hnot hok')
        have hor : (c < 97 ∨ 122 < c) ∧ (c < 48 ∨ 57 < c) ∧ c ≠ 46 ∧ c ≠ 45 ∧ c ≠ 95 := by
          rw [hok'] at hokc
          simp at hokc
          omega
        obtain ⟨g1, g2, g3, g4, g5⟩ := hor
        have e3 : ((c : Int) != 46) = true := by simp; omega
        have e4 : ((c : Int) != 45) = true := by simp; omega
        have e5 : ((c : Int) != 95) = true := by simp; omega
        clear hokc hok hyes hnot hok'
        rcases g1 with g1 | g1 <;> rcases g2 with g2 | g2
        · have e1 : (c : Int) < 97 := by omega
          have e2 : (c : Int) < 48 := by omega
          go_wp2
          go_ret
          exact ⟨by rw [unhide HNO]; rfl, rfl⟩
        · have e1 : (c : Int) < 97 := by omega
          have e2 : (57 : Int) < (c : Int) := by omega
          go_wp2
          go_ret
          exact ⟨by rw [unhide HNO]; rfl, rfl⟩
        · omega
        · have e1 : (122 : Int) < (c : Int) := by omega
          have e2 : (57 : Int) < (c : Int) := by omega
          go_wp2
          go_ret
          exact ⟨by rw [unhide HNO]; rfl, rfl⟩
    · have hki : ¬ ((k : Int) < (s.size : Int)) := by omega
      have hyes : okN s.data.toList = true := by
        have h1 := unhide hall
        have hke : k = s.data.toList.length := by omega
        rw [hke, List.take_length] at h1
        unfold okN
        rw [h1, Bool.and_true]
        refine decide_eq_true ⟨?_, by omega⟩
        intro e
        have e2 := congrArg List.length e
        rw [hsz] at e2
        have e3 : s.size = 0 := e2
        omega
      have HY := hide hyes
      clear hyes
      go_wp2
      go_ret
      exact ⟨by rw [unhide HY]; rfl, rfl⟩
end Go.Proofs.YthebgoadeecmpaaDoor
