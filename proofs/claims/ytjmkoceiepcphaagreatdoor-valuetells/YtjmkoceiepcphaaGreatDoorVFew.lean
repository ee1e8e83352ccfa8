/- Contract of the help's Few. -/
import Derived.Test.YtjmkoceiepcphaaGreatDoorVKnown
namespace Go.Proofs.YtjmkoceiepcphaaGreatDoor
open Go.RowKit Go.Lib

/-- A row of values, whatever its length. -/
def RVu (w : World) (B : Nat) (v : Value) (gs : List GV) : Prop :=
  gs.length ≤ maxLen ∧ (∀ g ∈ gs, g.ok) ∧ ((v = .slice none 0 0 ∧ gs = []) ∨
    ∃ b off cap, b < B ∧ v = .slice (some ⟨b, off, none⟩) gs.length cap ∧ ∀ i g, gs[i]? = some g → w.cell? ⟨b, off + i * 3, none⟩ = some (.int .i64 g.kind) ∧ w.cell? ⟨b, off + i * 3 + 1, none⟩ = some (.int .i64 g.int) ∧ w.cell? ⟨b, off + i * 3 + 2, none⟩ = some (.string g.text))
theorem RVu.later {w w' : World} {B B' : Nat} {v : Value} {gs : List GV} (h : RVu w B v gs) (hb : Below B w w') (hB : B ≤ B') : RVu w' B' v gs := by
  obtain ⟨h1, h2, h3 | ⟨b, off, cap, hbB, rfl, hc⟩⟩ := h
  · exact ⟨h1, h2, .inl h3⟩
  · refine ⟨h1, h2, .inr ⟨b, off, cap, by omega, rfl, fun i g hg => ?_⟩⟩
    obtain ⟨c0, c1, c2⟩ := hc i g hg
    exact ⟨(hb.cell (p := ⟨b, off + i * 3, none⟩) hbB).trans c0, (hb.cell (p := ⟨b, off + i * 3 + 1, none⟩) hbB).trans c1, (hb.cell (p := ⟨b, off + i * 3 + 2, none⟩) hbB).trans c2⟩

def fewG (gs : List GV) (many : Nat) : Bool := decide (gs.length ≤ many) && gs.all fun g => decide (g.text.size ≤ 100)

set_option maxHeartbeats 1600000 in
set_option maxRecDepth 100000 in
theorem few_any (v : Value) (B : Nat) (gs : List GV) (many : Nat) (w : World) (h : RVu w B v gs) :
    Calls Tryz.prog 5 #[v, .int .i64 (many : Int)] w fun e w' => e = .returned (.bool (fewG gs many)) ∧ w' = w := by
  obtain ⟨h1, h2, ⟨rfl, rfl⟩ | ⟨b, off, cap, _, rfl, hc⟩⟩ := h
  · have hb : fewG [] many = true := by simp [fewG]
    rw [hb]
    clear h1 h2 hb
    go_enter Tryz.func5, Tryz.ntmps5
    go_wp2
    refine wp_loop_rounds 1 ?_
    rw [rounds_succ]
    go_wp2
    go_ret
    exact ⟨ret_bool (by simp), rfl⟩
  · have HC := hide hc
    have HO := hide h2
    have hl' : (gs.length : Int) ≤ 9223372036854775807 := by unfold maxLen at h1; omega
    obtain ⟨r, hr⟩ : ∃ r, r = fewG gs many := ⟨_, rfl⟩
    rw [← hr]
    have HR := hide hr
    clear hc h1 h2 hr
    go_enter Tryz.func5, Tryz.ntmps5
    go_wp2
    go_loop [5] (fun i => ∃ k : Nat, k ≤ gs.length ∧ i = .int .i64 k ∧ Hid (∀ t ∈ gs.take k, t.text.size ≤ 100)) (fun i => gs.length - (intOf i).toNat)
    case atStart => exact ⟨0, by omega, rfl, by intro t ht; simp at ht⟩
    case round =>
      obtain ⟨k, hk, rfl, hall⟩ := hrel
      by_cases hlt : k < gs.length
      · obtain ⟨g, hgk⟩ : ∃ g, gs[k]? = some g := ⟨gs[k], List.getElem?_eq_getElem hlt⟩
        obtain ⟨c0, c1, c2⟩ := unhide HC k g hgk
        have hgo := unhide HO g (List.mem_of_getElem? hgk)
        have hsz : (g.text.size : Int) ≤ 9223372036854775807 := by have := hgo.2.2; unfold maxLen at this; omega
        have HG := hide hgk
        clear HC HO hgo hgk c0 c1
        by_cases h100 : (100 : Int) < (g.text.size : Int)
        · go_wp2
          go_ret
          refine ⟨ret_bool ?_, rfl⟩
          rw [unhide HR]
          have : ¬ g.text.size ≤ 100 := by omega
          have hmem := List.mem_of_getElem? (unhide HG)
          symm
          simp only [fewG, Bool.and_eq_false_iff]
          exact .inr (List.all_eq_false.2 ⟨g, hmem, by simpa using this⟩)
        · go_wp2
          go_round
          case rel =>
            refine ⟨k + 1, by omega, by go_num, ?_⟩
            intro t ht
            rw [List.take_add_one, unhide HG] at ht
            rcases List.mem_append.1 ht with ht | ht
            · exact unhide hall t ht
            · simp at ht; subst ht; omega
          case measure => simp [intOf]; omega
      · have ha : ∀ t ∈ gs, t.text.size ≤ 100 := by
          intro t ht
          have := unhide hall t (by rw [List.take_of_length_le (by omega)]; exact ht)
          exact this
        have HA := hide ha
        clear HC HO ha hall
        go_wp2
        go_ret
        refine ⟨ret_bool ?_, rfl⟩
        rw [unhide HR]
        have h3 : (gs.all fun t => decide (t.text.size ≤ 100)) = true := List.all_eq_true.2 (fun t ht => by simpa using unhide HA t ht)
        simp [fewG, h3]

/-- Few of one, two, three values that are laid for it. -/
theorem few1 (g : GV) (W : World) (hg : g.ok) : Calls Tryz.prog 5 #[.slice (some ⟨W.heap.size, 0, none⟩) 1 1, .int .i64 1] (W.alloc (.cells #[.int .i64 g.kind, .int .i64 g.int, .string g.text] 23)) fun e w' =>
    e = .returned (.bool (decide (g.text.size ≤ 100))) ∧ w' = W.alloc (.cells #[.int .i64 g.kind, .int .i64 g.int, .string g.text] 23) := by
  have hv : RVu (W.alloc (.cells #[.int .i64 g.kind, .int .i64 g.int, .string g.text] 23)) (W.heap.size + 1) (.slice (some ⟨W.heap.size, 0, none⟩) 1 1) [g] := by
    refine ⟨by simp [maxLen], ?_, .inr ⟨W.heap.size, 0, 1, by simp, rfl, ?_⟩⟩
    · intro g' hg'; simp at hg'; subst hg'; exact hg
    · intro i g' hg'
      match i, hg' with
      | 0, hg' => simp at hg'; subst hg'; simp
  refine (few_any _ _ _ 1 _ hv).mono ?_
  rintro e w' ⟨rfl, rfl⟩
  exact ⟨ret_bool (by simp [fewG]), rfl⟩
theorem few2 (g h : GV) (W : World) (hg : g.ok) (hh : h.ok) : Calls Tryz.prog 5 #[.slice (some ⟨W.heap.size, 0, none⟩) 2 2, .int .i64 2] (W.alloc (.cells #[.int .i64 g.kind, .int .i64 g.int, .string g.text, .int .i64 h.kind, .int .i64 h.int, .string h.text] 23)) fun e w' =>
    e = .returned (.bool (decide (g.text.size ≤ 100 ∧ h.text.size ≤ 100))) ∧ w' = W.alloc (.cells #[.int .i64 g.kind, .int .i64 g.int, .string g.text, .int .i64 h.kind, .int .i64 h.int, .string h.text] 23) := by
  have hv : RVu (W.alloc (.cells #[.int .i64 g.kind, .int .i64 g.int, .string g.text, .int .i64 h.kind, .int .i64 h.int, .string h.text] 23)) (W.heap.size + 1) (.slice (some ⟨W.heap.size, 0, none⟩) 2 2) [g, h] := by
    refine ⟨by simp [maxLen], ?_, .inr ⟨W.heap.size, 0, 2, by simp, rfl, ?_⟩⟩
    · intro g' hg'; simp at hg'; rcases hg' with rfl | rfl
      · exact hg
      · exact hh
    · intro i g' hg'
      match i, hg' with
      | 0, hg' => simp at hg'; subst hg'; simp
      | 1, hg' => simp at hg'; subst hg'; simp
  refine (few_any _ _ _ 2 _ hv).mono ?_
  rintro e w' ⟨rfl, rfl⟩
  exact ⟨ret_bool (by simp [fewG]), rfl⟩
theorem few3 (g h k : GV) (W : World) (hg : g.ok) (hh : h.ok) (hk : k.ok) : Calls Tryz.prog 5 #[.slice (some ⟨W.heap.size, 0, none⟩) 3 3, .int .i64 3] (W.alloc (.cells #[.int .i64 g.kind, .int .i64 g.int, .string g.text, .int .i64 h.kind, .int .i64 h.int, .string h.text, .int .i64 k.kind, .int .i64 k.int, .string k.text] 23)) fun e w' =>
    e = .returned (.bool (decide (g.text.size ≤ 100 ∧ h.text.size ≤ 100 ∧ k.text.size ≤ 100))) ∧ w' = W.alloc (.cells #[.int .i64 g.kind, .int .i64 g.int, .string g.text, .int .i64 h.kind, .int .i64 h.int, .string h.text, .int .i64 k.kind, .int .i64 k.int, .string k.text] 23) := by
  have hv : RVu (W.alloc (.cells #[.int .i64 g.kind, .int .i64 g.int, .string g.text, .int .i64 h.kind, .int .i64 h.int, .string h.text, .int .i64 k.kind, .int .i64 k.int, .string k.text] 23)) (W.heap.size + 1) (.slice (some ⟨W.heap.size, 0, none⟩) 3 3) [g, h, k] := by
    refine ⟨by simp [maxLen], ?_, .inr ⟨W.heap.size, 0, 3, by simp, rfl, ?_⟩⟩
    · intro g' hg'; simp at hg'; rcases hg' with rfl | rfl | rfl
      · exact hg
      · exact hh
      · exact hk
    · intro i g' hg'
      match i, hg' with
      | 0, hg' => simp at hg'; subst hg'; simp
      | 1, hg' => simp at hg'; subst hg'; simp
      | 2, hg' => simp at hg'; subst hg'; simp
  refine (few_any _ _ _ 3 _ hv).mono ?_
  rintro e w' ⟨rfl, rfl⟩
  exact ⟨ret_bool (by simp [fewG]), rfl⟩
end Go.Proofs.YtjmkoceiepcphaaGreatDoor
