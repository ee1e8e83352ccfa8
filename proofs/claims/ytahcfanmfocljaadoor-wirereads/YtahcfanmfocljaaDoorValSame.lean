/- Values, on two rows that read the same. -/
import Derived.Test.YtahcfanmfocljaaDoorUnAll
namespace Go.Proofs.YtahcfanmfocljaaDoor
open Go.RowKit Go.Lib

/-- A row that reads as these values. -/
def RW (w : World) (v : Value) (gs : List GV) : Prop :=
  (v = .slice none 0 0 ∧ gs = []) ∨ ∃ b off cap, b < w.heap.size ∧ v = .slice (some ⟨b, off, none⟩) gs.length cap ∧ ∀ i g, gs[i]? = some g → w.cell? ⟨b, off + i * 3, none⟩ = some (.int .i64 g.kind) ∧ w.cell? ⟨b, off + i * 3 + 1, none⟩ = some (.int .i64 g.int) ∧ w.cell? ⟨b, off + i * 3 + 2, none⟩ = some (.string g.text)
theorem RW.later {w w' : World} {v : Value} {gs : List GV} (h : RW w v gs) (hb : Below w.heap.size w w') : RW w' v gs := by
  rcases h with h | ⟨b, off, cap, hbB, rfl, hc⟩
  · exact .inl h
  · refine .inr ⟨b, off, cap, Nat.lt_of_lt_of_le hbB hb.size, rfl, fun i g hg => ?_⟩
    obtain ⟨c0, c1, c2⟩ := hc i g hg
    exact ⟨(hb.cell (p := ⟨b, off + i * 3, none⟩) hbB).trans c0, (hb.cell (p := ⟨b, off + i * 3 + 1, none⟩) hbB).trans c1, (hb.cell (p := ⟨b, off + i * 3 + 2, none⟩) hbB).trans c2⟩
theorem gvs_get : ∀ (gs : List GV) (i j : Nat) (g : GV), gs[i]? = some g → j < 3 → (gvsCells gs)[i * 3 + j]? = (gvCells g)[j]?
  | [], i, j, g, h, hj => by simp at h
  | x :: r, 0, j, g, h, hj => by
    simp at h; subst h
    rw [gvsCells, List.flatMap_cons, List.getElem?_append_left (by simp [gvCells]; omega)]
    simp
  | x :: r, i + 1, j, g, h, hj => by
    have h' : r[i]? = some g := by simpa using h
    have ih := gvs_get r i j g h' hj
    rw [gvsCells, List.flatMap_cons, List.getElem?_append_right (by simp [gvCells]; omega)]
    have e : (i + 1) * 3 + j - (gvCells x).length = i * 3 + j := by simp [gvCells]; omega
    rw [e]; exact ih
theorem own_rw {w : World} {B : Nat} {v : Value} {gs : List GV} (h : w.ownsRow B 81 3 v gs.length (gvsCells gs)) : RW w v gs := by
  obtain ⟨h1, ⟨rfl, h2⟩ | ⟨g, cap, cur, rfl, h4, h5, h6, h7, h8, h9⟩⟩ := h
  · exact .inl ⟨rfl, List.eq_nil_of_length_eq_zero h2⟩
  · refine .inr ⟨g, 0, cap, ?_, rfl, fun i x hx => ?_⟩
    · rcases Nat.lt_or_ge g w.heap.size with h' | h'
      · exact h'
      · rw [Array.getElem?_eq_none h'] at h5; cases h5
    · have cell : ∀ j u, j < 3 → (gvCells x)[j]? = some u → w.cell? ⟨g, 0 + i * 3 + j, none⟩ = some u := by
        intro j u hj hu
        have e1 := gvs_get gs i j x hx hj
        rw [hu, ← h9] at e1
        have hlt : i * 3 + j < gs.length * 3 := by
          have := (List.getElem?_eq_some_iff.1 hx).1
          omega
        rw [List.getElem?_take, if_pos hlt, Array.getElem?_toList] at e1
        simp [World.cell?, h5, e1]
      have c0 := cell 0 _ (by omega) rfl
      have c1 := cell 1 _ (by omega) rfl
      have c2 := cell 2 _ (by omega) rfl
      exact ⟨by simpa using c0, c1, c2⟩

set_option maxHeartbeats 1600000 in
set_option maxRecDepth 100000 in
theorem values_same (v v' : Value) (gs : List GV) (w : World) (hl : gs.length ≤ 1000000) (h : RW w v gs) (h' : RW w v' gs) :
    Calls Tryd.prog 26 #[v, v'] w fun e w' => e = .returned (.bool true) ∧ ∃ m, w' = w.drewN m := by
  by_cases hne : gs = []
  · subst hne
    have e : ∃ a k, v = .slice a 0 k := by
      rcases h with ⟨rfl, _⟩ | ⟨b, off, cap, _, rfl, _⟩
      · exact ⟨_, _, rfl⟩
      · exact ⟨_, _, rfl⟩
    have e' : ∃ a k, v' = .slice a 0 k := by
      rcases h' with ⟨rfl, _⟩ | ⟨b, off, cap, _, rfl, _⟩
      · exact ⟨_, _, rfl⟩
      · exact ⟨_, _, rfl⟩
    obtain ⟨a, k, rfl⟩ := e
    obtain ⟨a', k', rfl⟩ := e'
    clear h h'
    go_enter Tryd.func26, Tryd.ntmps26
    go_wp2
    refine wp_loop_rounds 1 ?_
    rw [rounds_succ]
    go_wp2
    go_ret
    exact ⟨rfl, 0, rfl⟩
  · rcases h with ⟨_, h⟩ | ⟨b, off, cap, _, rfl, hc⟩
    · exact absurd h hne
    rcases h' with ⟨_, h⟩ | ⟨b', off', cap', _, rfl, hc'⟩
    · exact absurd h hne
    have HC := hide hc
    have HC' := hide hc'
    have hl' : (gs.length : Int) ≤ 1000000 := by omega
    clear hc hc' hne
    go_enter Tryd.func26, Tryd.ntmps26
    go_wp2
    go_loopw [5] (fun i wr => ∃ k m : Nat, k ≤ gs.length ∧ i = .int .i64 k ∧ wr = w.drewN m) (fun i _ => gs.length - (intOf i).toNat)
    case atStart => exact ⟨0, 0, by omega, rfl, rfl⟩
    case round =>
      obtain ⟨k, m, hk, rfl, rfl⟩ := hrel
      by_cases hlt : k < gs.length
      · obtain ⟨g, hgk⟩ : ∃ g, gs[k]? = some g := ⟨gs[k], List.getElem?_eq_getElem hlt⟩
        obtain ⟨c0, c1, c2⟩ := unhide HC k g hgk
        obtain ⟨d0, d1, d2⟩ := unhide HC' k g hgk
        have hki : (k : Int) < (gs.length : Int) := by omega
        have hk0 : (0 : Int) ≤ (k : Int) := by omega
        clear HC HC' hgk
        go_wp2
        go_quiet (fail)
        go_wp2
        go_roundw
        case rel => exact ⟨k + 1, m + nq, by omega, by go_num, rfl⟩
        case measure => simp [intOf]; omega
      · clear HC HC'
        go_wp2
        go_ret
        exact ⟨rfl, m, rfl⟩
end Go.Proofs.YtahcfanmfocljaaDoor
