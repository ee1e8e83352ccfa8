/- Contract of the document's own writer of entries. -/
import Derived.Test.YtahcfanmfocljaaDoorDraw
namespace Go.Proofs.YtahcfanmfocljaaDoor
open Go.RowKit Go.Lib
attribute [local go_sem ↓] Go.wp_at_zero Go.wp_at_succ

theorem putEnt_no {g : GE} (h : g.may = false) : putEnt g (some []) = none := by rw [putEnt, if_neg (by simp [h])]
theorem putEnt_yes {g : GE} (h : g.may = true) : putEnt g (some []) = some g.bytes := by rw [putEnt, if_pos h]; rfl

set_option maxHeartbeats 1600000 in
theorem refPutEntry_no (g : GE) (w : World) (hg : g.ok) (hm : g.may = false) :
    Calls Tryd.prog 35 #[g.agg] w fun e w' => RefPost none w e w' := by
  obtain ⟨te, k, c, q, t⟩ := g
  obtain ⟨h1, h2, h3, h4⟩ := hg
  unfold GE.agg GE.cells
  dsimp only at *
  have h4' : (t.size : Int) ≤ 9223372036854775807 := by unfold maxLen at h4; omega
  clear h4
  by_cases hk0 : k = 0
  · subst hk0
    by_cases h20 : t.size ≤ 2000
    · have h20' : ¬ ((2000 : Int) < (t.size : Int)) := by omega
      by_cases hc : c = 0
      · subst hc
        by_cases hq : q = 0
        · subst hq
          cases hE : t.toList.isEmpty with
          | true =>
            exfalso
            simp [GE.may, hE, h20] at hm
          | false =>
            clear hm
            go_enter Tryd.func35, Tryd.ntmps35
            go_wp2
            go_ret2
            exact ⟨rfl, (Below.refl _ _).alloc (Nat.le_refl _) _⟩
        · have hb : ((q : Int) != 0) = true := by rw [bne_iff_ne]; omega
          clear hm
          go_enter Tryd.func35, Tryd.ntmps35
          go_wp2
          go_ret2
          exact ⟨rfl, (Below.refl _ _).alloc (Nat.le_refl _) _⟩
      · have hb : ((c : Int) != 0) = true := by rw [bne_iff_ne]; omega
        clear hm
        go_enter Tryd.func35, Tryd.ntmps35
        go_wp2
        go_ret2
        exact ⟨rfl, (Below.refl _ _).alloc (Nat.le_refl _) _⟩
    · have h20' : (2000 : Int) < (t.size : Int) := by omega
      clear hm
      by_cases hc : c = 0
      · subst hc
        by_cases hq : q = 0
        · subst hq
          cases hE : t.toList.isEmpty with
          | true => exact absurd (isEmpty_size t hE) (by omega)
          | false =>
            go_enter Tryd.func35, Tryd.ntmps35
            go_wp2
            go_ret2
            exact ⟨rfl, (Below.refl _ _).alloc (Nat.le_refl _) _⟩
        · have hb : ((q : Int) != 0) = true := by rw [bne_iff_ne]; omega
          go_enter Tryd.func35, Tryd.ntmps35
          go_wp2
          go_ret2
          exact ⟨rfl, (Below.refl _ _).alloc (Nat.le_refl _) _⟩
      · have hb : ((c : Int) != 0) = true := by rw [bne_iff_ne]; omega
        go_enter Tryd.func35, Tryd.ntmps35
        go_wp2
        go_ret2
        exact ⟨rfl, (Below.refl _ _).alloc (Nat.le_refl _) _⟩
  · have b0 : (k == 0) = false := by simp [hk0]
    have n0 : (k != 0) = true := by rw [bne_iff_ne]; exact hk0
    by_cases hk1 : k = 1
    · subst hk1
      have h20' : (2000 : Int) < (t.size : Int) := by simp [GE.may] at hm; omega
      clear hm b0 n0 hk0
      go_enter Tryd.func35, Tryd.ntmps35
      go_wp2
      go_ret2
      exact ⟨rfl, (Below.refl _ _).alloc (Nat.le_refl _) _⟩
    · have n1 : (k != 1) = true := by rw [bne_iff_ne]; exact hk1
      clear hm
      go_enter Tryd.func35, Tryd.ntmps35
      go_wp2
      go_ret2
      exact ⟨rfl, (Below.refl _ _).alloc (Nat.le_refl _) _⟩

end Go.Proofs.YtahcfanmfocljaaDoor
