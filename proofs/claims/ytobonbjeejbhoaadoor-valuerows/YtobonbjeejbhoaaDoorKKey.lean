/- Contract of value.Key. -/
import Derived.Test.YtobonbjeejbhoaaDoorKApp2
import Derived.Test.YtobonbjeejbhoaaDoorVFew
namespace Go.Proofs.YtobonbjeejbhoaaDoor
open Go.RowKit Go.Lib

theorem own_later {w w' : World} {B : Nat} {e : TypeId} {sz : Nat} {v : Value} {n : Nat} {xs : List Value} (h : w.ownsRow B e sz v n xs) (hb : Below w.heap.size w w') : w'.ownsRow B e sz v n xs := by
  obtain ⟨h1, h2 | ⟨g, cap, cur, h3, h4, h5, h6⟩⟩ := h
  · exact ⟨h1, .inl h2⟩
  · have hg : g < w.heap.size := by
      rcases Nat.lt_or_ge g w.heap.size with h' | h'
      · exact h'
      · rw [Array.getElem?_eq_none h'] at h5; cases h5
    exact ⟨h1, .inr ⟨g, cap, cur, h3, h4, (hb.block g hg).trans h5, h6⟩⟩
theorem keyV_len {g : GV} (hg : g.may = true) : (keyV g).length ≤ 50 := by
  have hk := may_kind' hg
  obtain ⟨k, n, t⟩ := g
  dsimp only at hk
  rcases hk with rfl | rfl | rfl | rfl
  · simp [keyV]
  · simp [keyV]
  · simp [keyV, beN_length]
  · obtain ⟨_, ht, _⟩ := may_3 hg
    simp [keyV]; omega
theorem keyG_len : ∀ (gs : List GV), (∀ g ∈ gs, g.may = true) → (keyG gs).length ≤ 50 * gs.length
  | [], _ => by simp [keyG]
  | g :: r, h => by
    have ih := keyG_len r (fun x hx => h x (List.mem_cons_of_mem _ hx))
    have hg := keyV_len (h g (List.mem_cons_self))
    show (keyV g ++ keyG r).length ≤ _
    simp; omega
theorem keyG_snoc (gs : List GV) (k : Nat) (g : GV) (h : gs[k]? = some g) : keyG (gs.take (k + 1)) = keyG (gs.take k) ++ keyV g := by
  rw [List.take_add_one, h]; simp [keyG]

/-- What Key tells (P6.4). -/
def KeyPost (gs : List GV) (w : World) (e : Ending) (w' : World) : Prop :=
  Below w.heap.size w w' ∧ ((gs.length ≤ 16 ∧ (∀ g ∈ gs, g.may = true) ∧ ∃ a k, e = .returned (.tuple #[.slice a (keyG gs).length k, .nilIface]) ∧ w'.ownsRow w.heap.size 5 1 (.slice a (keyG gs).length k) (keyG gs).length (byteCells (keyG gs))) ∨
    ((16 < gs.length ∨ ∃ g ∈ gs, g.may = false) ∧ e = .returned (.tuple #[.slice none 0 0, .iface 48 (.int .i64 20)])))
theorem own_is {w : World} {B : Nat} {e : TypeId} {sz : Nat} {v : Value} {n : Nat} {xs : List Value} (h : w.ownsRow B e sz v n xs) : ∃ a k, v = .slice a n k := by
  rcases h.2 with ⟨rfl, rfl⟩ | ⟨g, cap, cur, rfl, _⟩
  · exact ⟨none, 0, rfl⟩
  · exact ⟨_, _, rfl⟩
theorem key_ok {gs : List GV} {w w' : World} {v : Value} (hb : Below w.heap.size w w') (hl : gs.length ≤ 16) (hm : ∀ g ∈ gs, g.may = true) (ho : w'.ownsRow w.heap.size 5 1 v (keyG gs).length (byteCells (keyG gs))) : KeyPost gs w (.returned (.tuple #[v, .nilIface])) w' := by
  obtain ⟨a, k, rfl⟩ := own_is ho
  exact ⟨hb, .inl ⟨hl, hm, a, k, rfl, ho⟩⟩

set_option maxHeartbeats 3200000 in
set_option maxRecDepth 100000 in
theorem key_any (v : Value) (gs : List GV) (w : World) (h : RVu w w.heap.size v gs) : Calls Tryd.prog 7 #[v] w fun e w' => KeyPost gs w e w' := by
  have hR := hide h
  obtain ⟨h1, h2, ⟨rfl, rfl⟩ | ⟨b, off, cap, hbB, rfl, hc⟩⟩ := h
  · clear h1 h2 hR
    go_enter Tryd.func7, Tryd.ntmps7
    go_wp2
    refine wp_loop_rounds 1 ?_
    rw [rounds_succ]
    go_wp2
    go_ret2
    exact key_ok (Below.refl _ _) (by simp) (by simp) (World.ownsRow_nil _ _ _ _)
  · have hl' : (gs.length : Int) ≤ 9223372036854775807 := by unfold maxLen at h1; omega
    by_cases h16 : 16 < gs.length
    · have h16' : (16 : Int) < (gs.length : Int) := by omega
      clear hc h2 hR
      go_enter Tryd.func7, Tryd.ntmps7
      go_wp2
      go_ret2
      exact ⟨Below.refl _ _, .inr ⟨.inl h16, rfl⟩⟩
    · have h16' : ((16 : Int) < (gs.length : Int)) = False := by simp; omega
      have HC := hide hc
      have HO := hide h2
      have HL := hide h16
      clear hc h1 h2 hR h16
      go_enter Tryd.func7, Tryd.ntmps7
      go_wp2
      go_loopw [4, 13] (fun r i wr => ∃ j : Nat, j ≤ gs.length ∧ i = .int .i64 j ∧ Hid ((∀ g ∈ gs.take j, g.may = true) ∧ wr.ownsRow w.heap.size 5 1 r (keyG (gs.take j)).length (byteCells (keyG (gs.take j))) ∧ Below w.heap.size w wr)) (fun _ i _ => gs.length - (intOf i).toNat)
      case atStart => exact ⟨0, by omega, rfl, by intro g hg; simp at hg, World.ownsRow_nil _ _ _ _, Below.refl _ _⟩
      case round =>
        obtain ⟨j, hj, rfl, HR⟩ := hrel
        have hbw := (unhide HR).2.2
        have hsz := hbw.size
        by_cases hlt : j < gs.length
        · obtain ⟨g, hgk⟩ : ∃ g, gs[j]? = some g := ⟨gs[j], List.getElem?_eq_getElem hlt⟩
          obtain ⟨c0, c1, c2⟩ := unhide HC j g hgk
          replace c0 := (hbw.cell (p := ⟨b, off + j * 3, none⟩) hbB).trans c0
          replace c1 := (hbw.cell (p := ⟨b, off + j * 3 + 1, none⟩) hbB).trans c1
          replace c2 := (hbw.cell (p := ⟨b, off + j * 3 + 2, none⟩) hbB).trans c2
          have hgo := unhide HO g (List.mem_of_getElem? hgk)
          have HG := hide hgk
          have HI := hide (is_any g (wr.alloc (.cells #[.int .i64 g.kind, .int .i64 g.int, .string g.text] 42)) hgo)
          have HB := hide hbw
          have hji : (j : Int) < (gs.length : Int) := by omega
          cases hm : g.may with
          | false =>
            rw [hm] at HI
            have HM := hide hm
            clear HC HO hgo hgk hbw hm hlt
            obtain ⟨k, n, t⟩ := g
            rw [GV.agg_eq] at HI
            dsimp only at c0 c1 c2 HI
            go_wp2_with (first | (go_at_call 19; refine (unhide HI).mono ?_; clear HI; rintro e w1 ⟨rfl, hb1⟩))
            go_ret2
            exact ⟨one_step (one_new' (unhide HB) _) hb1, .inr ⟨.inr ⟨_, List.mem_of_getElem? (unhide HG), unhide HM⟩, rfl⟩⟩
          | true =>
            rw [hm] at HI
            have HM := hide hm
            have HA := hide (fun (w1 : World) (h1 : Below (wr.alloc (.cells #[.int .i64 g.kind, .int .i64 g.int, .string g.text] 42)).heap.size (wr.alloc (.cells #[.int .i64 g.kind, .int .i64 g.int, .string g.text] 42)) w1) (r : Value) (ho : wr.ownsRow w.heap.size 5 1 r (keyG (gs.take j)).length (byteCells (keyG (gs.take j)))) =>
              appendKey_any w.heap.size _ g r _ w1 hm hgo (by
                have h3 := keyG_len (gs.take j) (unhide HR).1
                have h4 : (gs.take j).length ≤ 16 := by have := unhide HL; simp; omega
                omega) (by have := h1.size; simp at this; omega) (own_later (ho.alloc _) h1))
            clear HC HO hgo hgk hbw hm hlt
            obtain ⟨k, n, t⟩ := g
            rw [GV.agg_eq] at HI HA
            dsimp only at c0 c1 c2 HI HA
            go_wp2_with (first
              | (go_at_call 19; refine (unhide HI).mono ?_; clear HI; rintro e w1 ⟨rfl, hb1⟩; obtain ⟨d0, d1, d2, _, _, _⟩ := (B3.new wr wr.heap.size k n t rfl).after hb1)
              | (go_at_call 20; refine (unhide HA w1 hb1 _ (unhide HR).2.1).mono ?_; clear HA; rintro e w2 ⟨v2, rfl, ho2, hb2⟩))
            go_roundw
            case rel =>
              have q1 := one_step (one_new' (unhide HB) (.cells #[.int .i64 k, .int .i64 n, .string t] 42)) hb1
              refine ⟨j + 1, by omega, by go_num, ?_, ?_, q1.trans hb2⟩
              · intro x hx
                rw [List.take_add_one, unhide HG] at hx
                rcases List.mem_append.1 hx with hx | hx
                · exact (unhide HR).1 x hx
                · simp at hx; subst hx; exact unhide HM
              · rw [keyG_snoc _ _ _ (unhide HG)]
                exact own_cast ho2 (by simp) (by simp [byteCells])
            case measure => simp [intOf]; omega
        · have hj' : j = gs.length := by omega
          have hall : gs.take j = gs := List.take_of_length_le (by omega)
          rw [hall] at HR
          have hL := unhide HL
          clear HC HO hbw hall
          go_wp2
          go_ret2
          exact key_ok (unhide HR).2.2 (by omega) (unhide HR).1 (unhide HR).2.1
end Go.Proofs.YtobonbjeejbhoaaDoor
