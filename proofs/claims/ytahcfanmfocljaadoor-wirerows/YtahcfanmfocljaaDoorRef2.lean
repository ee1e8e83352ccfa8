/- Contracts of the document's own look at a value and writer of rows, and of the help's Few. -/
import Derived.Test.YtahcfanmfocljaaDoorFrame
import Derived.Test.YtahcfanmfocljaaDoorRows2
import Derived.Lib.IndexLaws
namespace Go.Proofs.YtahcfanmfocljaaDoor
open Go.RowKit Go.Lib

theorem indexByte_zero_iff (l : List UInt8) : indexByte l 0 < 0 ↔ ∀ i, i < l.length → l.getD i 0 ≠ 0 := by
  constructor
  · intro h i hi e
    have h1 : indexByte l 0 = -1 := by have := indexByte_ge l 0; omega
    exact indexByte_none h1 i (by rw [List.getElem?_eq_getElem hi]; simp [List.getD_eq_getElem?_getD, hi] at e; rw [e])
  · intro h
    rcases Int.lt_or_le (indexByte l 0) 0 with h1 | h1
    · exact h1
    · obtain ⟨o, ho⟩ := Int.eq_ofNat_of_zero_le h1
      have h2 := (indexByte_some ho).1
      have h3 := (List.getElem?_eq_some_iff.1 h2)
      obtain ⟨h4, h5⟩ := h3
      exact absurd (by simp [List.getD_eq_getElem?_getD, h4, h5]) (h o h4)

theorem ba_getD (t : ByteArray) (k : Nat) (h : k < t.size) : t.data.toList.getD k 0 = t[k] := by
  have h2 : k < t.data.size := h
  show _ = t.data[k]
  simp only [List.getD_eq_getElem?_getD, Array.getElem?_toList, Array.getElem?_eq_getElem h2, Option.getD_some]

set_option maxHeartbeats 1600000 in
theorem plain_any (t : ByteArray) (w : World) (ht : t.size ≤ maxLen) :
    Calls Tryd.prog 67 #[.string t] w fun e w' => e = .returned (.bool (decide (indexByte t.data.toList 0 < 0))) ∧ w' = w := by
  have ht' : (t.size : Int) ≤ 9223372036854775807 := by unfold maxLen at ht; omega
  obtain ⟨m, hm⟩ : ∃ m, m = decide (indexByte t.data.toList 0 < 0) := ⟨_, rfl⟩
  rw [← hm]
  have HM := hide hm
  clear hm ht
  go_enter Tryd.func67, Tryd.ntmps67
  go_wp2
  go_loop [3] (fun i => ∃ k : Nat, k ≤ t.size ∧ i = .int .i64 k ∧ ∀ j, j < k → t.data.toList.getD j 0 ≠ 0) (fun i => t.size - (intOf i).toNat)
  case atStart => exact ⟨0, by omega, rfl, fun j h => by omega⟩
  case round =>
    obtain ⟨k, hk, rfl, hz⟩ := hrel
    have HZ := hide hz
    clear hz
    by_cases hlt : k < t.size
    · have HE := hide (ba_getD t k hlt)
      by_cases h0 : t[k].toNat = 0
      · have h0b : ((t[k].toNat : Int) == 0) = true := by simp [h0]
        have HN : Hid (m = false) := by
          have e := unhide HM
          refine hide (e.trans (decide_eq_false ?_))
          intro h
          refine (indexByte_zero_iff _).1 h k (by simpa using hlt) ?_
          rw [unhide HE]; exact UInt8.toNat_inj.1 h0
        clear h0
        go_wp2
        go_ret
        exact ⟨ret_bool (unhide HN).symm, rfl⟩
      · have h0b : ((t[k].toNat : Int) == 0) = false := beq_eq_false_iff_ne.2 (by omega)
        have HN : Hid (∀ j, j < k + 1 → t.data.toList.getD j 0 ≠ 0) := by
          refine hide (fun j hj => ?_)
          rcases Nat.lt_or_ge j k with h | h
          · exact unhide HZ j h
          · have : j = k := by omega
            subst this
            rw [unhide HE]
            intro hc; rw [hc] at h0; exact h0 rfl
        clear h0 HZ
        go_wp2
        go_round
        case rel => exact ⟨k + 1, by omega, by go_num, unhide HN⟩
        case measure => simp [intOf]; omega
    · have HN : Hid (m = true) := by
        refine hide ((unhide HM).trans (decide_eq_true ?_))
        refine (indexByte_zero_iff _).2 (fun i hi => unhide HZ i ?_)
        have : i < t.size := by simpa using hi
        omega
      go_wp2
      go_ret
      exact ⟨ret_bool (unhide HN).symm, rfl⟩

set_option maxHeartbeats 1600000 in
theorem refIs_any (g : GV) (w : World) (hg : g.ok) :
    Calls Tryd.prog 56 #[g.agg] w fun e w' => e = .returned (.bool g.may) ∧ w' = w.alloc (.cells #[.int .i64 g.kind, .int .i64 g.int, .string g.text] 81) := by
  obtain ⟨k, n, t⟩ := g
  obtain ⟨h1, h2, h3⟩ := hg
  unfold GV.agg
  obtain ⟨m, hm⟩ : ∃ m, m = GV.may ⟨k, n, t⟩ := ⟨_, rfl⟩
  rw [← hm]
  have HM := hide hm
  clear hm
  dsimp only at *
  have HP := hide (fun w => plain_any t w h3)
  have h3' : (t.size : Int) ≤ 9223372036854775807 := by unfold maxLen at h3; omega
  clear h3
  by_cases hk0 : k = 0
  · subst hk0
    by_cases hn : n = 0
    · subst hn
      go_enter Tryd.func56, Tryd.ntmps56
      go_wp2
      go_ret
      exact ⟨ret_bool (by rw [unhide HM]; simp [GV.may]), rfl⟩
    · have hnc : (n == 0) = false := by simp [hn]
      go_enter Tryd.func56, Tryd.ntmps56
      go_wp2
      go_ret
      exact ⟨ret_bool (by rw [unhide HM]; simp [GV.may, hnc]), rfl⟩
  · by_cases hk1 : k = 1
    · subst hk1
      by_cases hn : n = 0
      · subst hn
        go_enter Tryd.func56, Tryd.ntmps56
        go_wp2
        go_ret
        exact ⟨ret_bool (by rw [unhide HM]; simp [GV.may]), rfl⟩
      · have hnc : (n == 0) = false := by simp [hn]
        by_cases hn1 : n = 1
        · subst hn1
          go_enter Tryd.func56, Tryd.ntmps56
          go_wp2
          go_ret
          exact ⟨ret_bool (by rw [unhide HM]; simp [GV.may]), rfl⟩
        · have hne : (n == 1) = false := by simp [hn1]
          go_enter Tryd.func56, Tryd.ntmps56
          go_wp2
          go_ret
          exact ⟨ret_bool (by rw [unhide HM]; simp [GV.may, hnc, hne]), rfl⟩
    · by_cases hk2 : k = 2
      · subst hk2
        go_enter Tryd.func56, Tryd.ntmps56
        go_wp2
        go_ret
        exact ⟨ret_bool (by rw [unhide HM]; simp [GV.may]), rfl⟩
      · by_cases hk3 : k = 3
        · subst hk3
          by_cases hn : n = 0
          · subst hn
            by_cases h40 : t.size ≤ 40
            · go_enter Tryd.func56, Tryd.ntmps56
              go_wp2_with (go_at_call 67; refine (unhide HP _).mono ?_; rintro e w1 ⟨rfl, rfl⟩)
              go_ret
              exact ⟨ret_bool (by rw [unhide HM]; simp [GV.may, h40]), rfl⟩
            · go_enter Tryd.func56, Tryd.ntmps56
              go_wp2
              go_ret
              exact ⟨ret_bool (by rw [unhide HM]; simp [GV.may, h40]), rfl⟩
          · have hnb : (n == 0) = false := by simp [hn]
            go_enter Tryd.func56, Tryd.ntmps56
            go_wp2
            go_ret
            exact ⟨ret_bool (by rw [unhide HM]; simp [GV.may, hnb]), rfl⟩
        · have b0 : (k == 0) = false := by simp [hk0]
          have b1 : (k == 1) = false := by simp [hk1]
          have b2 : (k == 2) = false := by simp [hk2]
          have b3 : (k == 3) = false := by simp [hk3]
          go_enter Tryd.func56, Tryd.ntmps56
          go_wp2
          go_ret
          exact ⟨ret_bool (by rw [unhide HM]; simp [GV.may, b0, b1, b2, b3]), rfl⟩

end Go.Proofs.YtahcfanmfocljaaDoor
