/- Contracts of package wire's writer of values. -/
import Derived.Test.YtjmkoceiepcphaaGreatDoorWriter
import Derived.Lib.Bytealg
namespace Go.Proofs.YtjmkoceiepcphaaGreatDoor
open Go.RowKit Go.Lib

/-- An api.Value. -/
structure GV where
  kind : Int
  int : Int
  text : ByteArray
def GV.agg (g : GV) : Value := .agg #[.int .i64 g.kind, .int .i64 g.int, .string g.text]
def GV.ok (g : GV) : Prop := -9223372036854775808 ≤ g.int ∧ g.int < 9223372036854775808 ∧ g.text.size ≤ maxLen
/-- It may be (P1.2). -/
def GV.may (g : GV) : Bool :=
  (g.kind == 0 && g.int == 0 && g.text.toList.isEmpty) || (g.kind == 1 && (g.int == 0 || g.int == 1) && g.text.toList.isEmpty) || (g.kind == 2 && g.text.toList.isEmpty) ||
  (g.kind == 3 && g.int == 0 && g.text.size ≤ 40 && indexByte g.text.data.toList 0 < 0)
/-- Its bytes. -/
def GV.bytes (g : GV) : List UInt8 :=
  uvarint g.kind.toNat ++ (if g.kind = 1 then uvarint g.int.toNat else if g.kind = 2 then uvarint (zigzag g.int) else if g.kind = 3 then uvarint g.text.size ++ g.text.data.toList else [])

theorem ret_bool {a b : Bool} (h : a = b) : Ending.returned (.bool a) = .returned (.bool b) := by rw [h]
theorem indexByte_any (s : ByteArray) (w : World) :
    Calls Tryz.prog 86 #[.string s, .int .u8 0] w fun e w' => e = .returned (.int .i64 (indexByte s.data.toList 0)) ∧ w' = w := by
  have h := @run_callFunc_extern Tryz.prog 97 _ Extern.BytealgIndexByte.indexByte Tryz.func97 (by kernel_rfl) (by kernel_rfl) (by kernel_rfl) (by kernel_rfl)
  have h2 := run_indexByteString (P := Tryz.prog) s 0
  go_enter Tryz.func86, Tryz.ntmps86
  go_wp2
  go_ret
  exact ⟨rfl, rfl⟩

set_option maxHeartbeats 1600000 in
theorem mayBe_any (g : GV) (w : World) (hg : g.ok) :
    Calls Tryz.prog 68 #[g.agg] w fun e w' => e = .returned (.bool g.may) ∧ w' = w.alloc (.cells #[.int .i64 g.kind, .int .i64 g.int, .string g.text] 23) := by
  obtain ⟨k, n, t⟩ := g
  obtain ⟨h1, h2, h3⟩ := hg
  unfold GV.agg
  obtain ⟨m, hm⟩ : ∃ m, m = GV.may ⟨k, n, t⟩ := ⟨_, rfl⟩
  rw [← hm]
  have HM := hide hm
  clear hm
  dsimp only at *
  unfold maxLen at h3
  by_cases hk0 : k = 0
  · subst hk0
    by_cases hn : n = 0
    · subst hn
      go_enter Tryz.func68, Tryz.ntmps68
      go_wp2
      go_ret
      exact ⟨ret_bool (by rw [unhide HM]; simp [GV.may]), rfl⟩
    · have hnb : (n != 0) = true := by simp [hn]
      have hnc : (n == 0) = false := by simp [hn]
      go_enter Tryz.func68, Tryz.ntmps68
      go_wp2
      go_ret
      exact ⟨ret_bool (by rw [unhide HM]; simp [GV.may, hnc]), rfl⟩
  · by_cases hk1 : k = 1
    · subst hk1
      by_cases hn : n = 0
      · subst hn
        go_enter Tryz.func68, Tryz.ntmps68
        go_wp2
        go_ret
        exact ⟨ret_bool (by rw [unhide HM]; simp [GV.may]), rfl⟩
      · by_cases hn1 : n = 1
        · subst hn1
          go_enter Tryz.func68, Tryz.ntmps68
          go_wp2
          go_ret
          exact ⟨ret_bool (by rw [unhide HM]; simp [GV.may]), rfl⟩
        · have hnb : (n != 0) = true := by simp [hn]
          have hnc : (n != 1) = true := by simp [hn1]
          have hnd : (n == 0) = false := by simp [hn]
          have hne : (n == 1) = false := by simp [hn1]
          go_enter Tryz.func68, Tryz.ntmps68
          go_wp2
          go_ret
          exact ⟨ret_bool (by rw [unhide HM]; simp [GV.may, hnd, hne]), rfl⟩
    · by_cases hk2 : k = 2
      · subst hk2
        go_enter Tryz.func68, Tryz.ntmps68
        go_wp2
        go_ret
        exact ⟨ret_bool (by rw [unhide HM]; simp [GV.may]), rfl⟩
      · by_cases hk3 : k = 3
        · subst hk3
          by_cases hn : n = 0
          · subst hn
            by_cases h40 : t.size ≤ 40
            · go_enter Tryz.func68, Tryz.ntmps68
              go_wp2_with (go_at_call 86; refine (indexByte_any t _).mono ?_; rintro e w1 ⟨rfl, rfl⟩)
              go_ret
              exact ⟨ret_bool (by rw [unhide HM]; simp [GV.may, h40]), rfl⟩
            · go_enter Tryz.func68, Tryz.ntmps68
              go_wp2
              go_ret
              exact ⟨ret_bool (by rw [unhide HM]; simp [GV.may, h40]), rfl⟩
          · have hnb : (n == 0) = false := by simp [hn]
            go_enter Tryz.func68, Tryz.ntmps68
            go_wp2
            go_ret
            exact ⟨ret_bool (by rw [unhide HM]; simp [GV.may, hnb]), rfl⟩
        · have b0 : (k == 0) = false := by simp [hk0]
          have b1 : (k == 1) = false := by simp [hk1]
          have b2 : (k == 2) = false := by simp [hk2]
          have b3 : (k == 3) = false := by simp [hk3]
          go_enter Tryz.func68, Tryz.ntmps68
          go_wp2
          go_ret
          exact ⟨ret_bool (by rw [unhide HM]; simp [GV.may, b0, b1, b2, b3]), rfl⟩
end Go.Proofs.YtjmkoceiepcphaaGreatDoor
