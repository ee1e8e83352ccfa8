/- Contract of the help's Values at rows that are the same. -/
import Derived.Test.YtobonbjeejbhoaaDoorKUn
import Derived.Test.YtobonbjeejbhoaaDoorKRows
import Derived.Deep.RegionHeld3
namespace Go.Proofs.YtobonbjeejbhoaaDoor
open Go.RowKit Go.Lib

theorem gvs_at : ∀ (gs : List GV) (i : Nat) (g : GV), gs[i]? = some g → (gvsCells gs)[i * 3]? = some (.int .i64 g.kind) ∧ (gvsCells gs)[i * 3 + 1]? = some (.int .i64 g.int) ∧ (gvsCells gs)[i * 3 + 2]? = some (.string g.text)
  | [], i, g, h => by simp at h
  | x :: r, 0, g, h => by simp at h; subst h; exact ⟨rfl, rfl, rfl⟩
  | x :: r, i + 1, g, h => by
    have ih := gvs_at r i g (by simpa using h)
    have e : gvsCells (x :: r) = .int .i64 x.kind :: .int .i64 x.int :: .string x.text :: gvsCells r := rfl
    rw [e, show (i + 1) * 3 = i * 3 + 1 + 1 + 1 by omega]
    simpa using ih
/-- A row of the call's own, as it is read. -/
theorem own_rva {w : World} {B : Nat} {ad : Option Addr} {cap : Nat} {gs : List GV} (h : w.ownsRow B 42 3 (.slice ad gs.length cap) gs.length (gvsCells gs)) (hok : ∀ g ∈ gs, g.ok) (hl : gs.length ≤ 1000) : RVa w w.heap.size ad gs := by
  refine ⟨by unfold maxLen; omega, hok, fun hne => ?_⟩
  have hh := h
  obtain ⟨h1, ⟨h2, h2'⟩ | ⟨g, cap', cur, h3, h4, h5, h6⟩⟩ := h
  · exact absurd (List.eq_nil_of_length_eq_zero h2') hne
  · injection h3 with e1 e2 e3
    subst e1
    have hg : g < w.heap.size := by
      rcases Nat.lt_or_ge g w.heap.size with h' | h'
      · exact h'
      · rw [Array.getElem?_eq_none h'] at h5; cases h5
    refine ⟨g, 0, rfl, hg, fun i x hx => ?_⟩
    obtain ⟨a, b, c⟩ := gvs_at gs i x hx
    have k := fun j u hu => hh.cells (g := g) rfl j u hu
    have e : ∀ j, (⟨g, 0, none⟩ : Addr).add j = ⟨g, 0 + j, none⟩ := fun j => by unfold Addr.add; split <;> simp_all
    refine ⟨?_, ?_, ?_⟩
    · have := k _ _ a; rw [e] at this; exact this
    · have := k _ _ b; rw [e] at this; exact this
    · have := k _ _ c; rw [e] at this; exact this
theorem RVa.later {w w' : World} {B B' : Nat} {ad : Option Addr} {gs : List GV} (h : RVa w B ad gs) (hb : Below B w w') (hB : B ≤ B') : RVa w' B' ad gs := by
  obtain ⟨h1, h2, h3⟩ := h
  refine ⟨h1, h2, fun hne => ?_⟩
  obtain ⟨b, off, e, hbB, hc⟩ := h3 hne
  refine ⟨b, off, e, by omega, fun i g hg => ?_⟩
  obtain ⟨c0, c1, c2⟩ := hc i g hg
  exact ⟨(hb.cell (p := ⟨b, off + i * 3, none⟩) hbB).trans c0, (hb.cell (p := ⟨b, off + i * 3 + 1, none⟩) hbB).trans c1, (hb.cell (p := ⟨b, off + i * 3 + 2, none⟩) hbB).trans c2⟩

set_option maxHeartbeats 1600000 in
set_option maxRecDepth 100000 in
theorem values_same (ad bd : Option Addr) (ca cb B : Nat) (gs : List GV) (w : World) (ha : RVa w B ad gs) (hb : RVa w B bd gs) :
    Calls Tryd.prog 15 #[.slice ad gs.length ca, .slice bd gs.length cb] w fun e w' => e = .returned (.bool true) ∧ Below w.heap.size w w' := by
  have la : (gs.length : Int) ≤ 9223372036854775807 := by have := ha.1; unfold maxLen at this; omega
  have HA := hide ha
  have HB := hide hb
  clear ha hb
  go_enter Tryd.func15, Tryd.ntmps15
  go_wp2
  go_loopw [5] (fun i wr => ∃ j : Nat, j ≤ gs.length ∧ i = .int .i64 j ∧ Hid (Below w.heap.size w wr ∧ ∀ a : Addr, wr.cell? a = w.cell? a)) (fun i _ => gs.length - (intOf i).toNat)
  case atStart => exact ⟨0, by omega, rfl, Below.refl _ _, fun _ => rfl⟩
  case round =>
    obtain ⟨j, hj, rfl, HR⟩ := hrel
    by_cases hlt : j < gs.length
    · obtain ⟨g, hg⟩ : ∃ g, gs[j]? = some g := ⟨gs[j], List.getElem?_eq_getElem hlt⟩
      have hne : gs ≠ [] := by intro e; rw [e] at hlt; simp at hlt
      obtain ⟨_, _, hca⟩ := unhide HA
      obtain ⟨x, off, rfl, _, hc⟩ := hca hne
      obtain ⟨c0, c1, c2⟩ := hc j g hg
      obtain ⟨_, _, hcb⟩ := unhide HB
      obtain ⟨y, off', rfl, _, hc'⟩ := hcb hne
      obtain ⟨d0, d1, d2⟩ := hc' j g hg
      have same := (unhide HR).2
      rw [← same] at c0 c1 c2 d0 d1 d2
      have hji : (j : Int) < (gs.length : Int) := by omega
      have h0 : (0 : Int) ≤ (j : Int) := by omega
      clear hc hc' hca hcb HA HB hg same
      obtain ⟨k, n, t⟩ := g
      dsimp only at c0 c1 c2 d0 d1 d2
      go_wp2
      go_region
      all_goals
        go_wp2
        go_roundw
        case rel => exact ⟨j + 1, by omega, by go_num, (unhide HR).1.drew, (unhide HR).2⟩
        case measure => simp [intOf]; omega
    · clear HA HB
      go_wp2
      go_ret
      exact ⟨rfl, (unhide HR).1⟩
end Go.Proofs.YtobonbjeejbhoaaDoor
