/- Contracts of value.appendKey. -/
import Derived.Test.YtobonbjeejbhoaaDoorKApp
import Derived.Test.YtobonbjeejbhoaaDoorVIs
namespace Go.Proofs.YtobonbjeejbhoaaDoor
open Go.RowKit Go.Lib

theorem one_new2 (w : World) (u : Value) (e : TypeId) {b : Nat} (hb : b = w.heap.size) : ∀ j v, ([u] : List Value)[j]? = some v → (w.alloc (.cells #[u] e)).cell? ((⟨b, 0, none⟩ : Addr).add j) = some v := by
  subst hb
  exact one_new w u e
theorem own_ne {w : World} {B : Nat} {e : TypeId} {sz : Nat} {v : Value} {n : Nat} {xs : List Value} (h : w.ownsRow B e sz v n xs) {b : Nat} (hb : w.heap.size ≤ b) : v.ownBlock ≠ some b := fun e => by
  have := (h.lt b e).2
  omega
theorem B3.grown {w w' : World} {b : Nat} {k n : Int} {t : ByteArray} {o : Option Nat} (h : B3 w b k n t) (hg : w.grownBy w' o) (hne : o ≠ some b) : B3 w' b k n t := by
  have hl := h.lt
  have e := hg.block b hl (fun h => hne h.symm)
  obtain ⟨c0, c1, c2, f0, f1, f2⟩ := h
  exact ⟨(World.cell?_of_block (w := w) (a := ⟨b, 0, none⟩) e).trans c0, (World.cell?_of_block (w := w) (a := ⟨b, 1, none⟩) e).trans c1, (World.cell?_of_block (w := w) (a := ⟨b, 2, none⟩) e).trans c2, (World.frozen?_of_block (w := w) (a := ⟨b, 0, none⟩) e).trans f0, (World.frozen?_of_block (w := w) (a := ⟨b, 1, none⟩) e).trans f1, (World.frozen?_of_block (w := w) (a := ⟨b, 2, none⟩) e).trans f2⟩
theorem own_cast {w : World} {B : Nat} {e : TypeId} {sz : Nat} {v : Value} {n n' : Nat} {xs ys : List Value} (h : w.ownsRow B e sz v n xs) (hn : n = n') (hx : xs = ys) : w.ownsRow B e sz v n' ys := by
  subst hn hx; exact h

set_option maxHeartbeats 1600000 in
set_option maxRecDepth 100000 in
theorem appendKey_0 (B m : Nat) (v : Value) (xs : List Value) (w : World) (hm : m ≤ 100000000) (hB : B ≤ w.heap.size) (hown : w.ownsRow B 5 1 v m xs) :
    Calls Tryd.prog 20 #[v, .agg #[.int .i64 0, .int .i64 0, .string ⟨#[]⟩]] w fun e w' =>
      ∃ v', e = .returned v' ∧ w'.ownsRow B 5 1 v' (m + (keyV ⟨0, 0, ⟨#[]⟩⟩).length) (xs ++ byteCells (keyV ⟨0, 0, ⟨#[]⟩⟩)) ∧ Below B w w' := by
  obtain ⟨i0, hi, hz0, hz1, hz2⟩ := info_parts Tryd.infoB
  go_enter Tryd.func20, Tryd.ntmps20
  go_wp2_with (first | (at_builtin; refine wpList_append_own _ rfl (.tmp 5) (.tmp 9) 23 rfl B 5 i0 (.int .u8 0) 1 1 Tryd.underlying23 hi hz0 hz1 hz2 rfl (by decide) _ _ _ rfl ((hown.alloc _).alloc _) ⟨w.heap.size + 1, 0, none⟩ 1 1 [_] rfl rfl (one_new2 _ _ _ (by simp)) one_cell (by unfold maxLen; omega) (by omega) (by simp; omega) ?_))
  intro v1 w1 hown1 hg _
  have hb1 : Below B w w1 := (((Below.refl B w).alloc hB _).alloc (by simp; omega) _).grown hg (by simp; omega) (own_block_ge hown)
  obtain ⟨c0, c1, c2, _, _, _⟩ := ((B3.new w w.heap.size 0 0 ⟨#[]⟩ rfl).alloc _).grown hg (own_ne hown (Nat.le_refl _))
  clear hg hown
  go_wp2
  go_ret
  exact ⟨v1, rfl, own_cast hown1 rfl rfl, hb1⟩

set_option maxHeartbeats 1600000 in
set_option maxRecDepth 100000 in
theorem appendKey_1 (B m : Nat) (n : Int) (v : Value) (xs : List Value) (w : World) (hn : n = 0 ∨ n = 1) (hm : m ≤ 100000000) (hB : B ≤ w.heap.size) (hown : w.ownsRow B 5 1 v m xs) :
    Calls Tryd.prog 20 #[v, .agg #[.int .i64 1, .int .i64 n, .string ⟨#[]⟩]] w fun e w' =>
      ∃ v', e = .returned v' ∧ w'.ownsRow B 5 1 v' (m + (keyV ⟨1, n, ⟨#[]⟩⟩).length) (xs ++ byteCells (keyV ⟨1, n, ⟨#[]⟩⟩)) ∧ Below B w w' := by
  obtain ⟨i0, hi, hz0, hz1, hz2⟩ := info_parts Tryd.infoB
  rcases hn with rfl | rfl
  · go_enter Tryd.func20, Tryd.ntmps20
    go_wp2_with (first | (at_builtin; refine wpList_append_own _ rfl (.tmp 5) (.tmp 9) 23 rfl B 5 i0 (.int .u8 0) 1 1 Tryd.underlying23 hi hz0 hz1 hz2 rfl (by decide) _ _ _ rfl ((hown.alloc _).alloc _) ⟨w.heap.size + 1, 0, none⟩ 1 1 [_] rfl rfl (one_new2 _ _ _ (by simp)) one_cell (by unfold maxLen; omega) (by omega) (by simp; omega) ?_))
    intro v1 w1 hown1 hg _
    have hb1 : Below B w w1 := (((Below.refl B w).alloc hB _).alloc (by simp; omega) _).grown hg (by simp; omega) (own_block_ge hown)
    obtain ⟨c0, c1, c2, _, _, _⟩ := ((B3.new w w.heap.size 1 0 ⟨#[]⟩ rfl).alloc _).grown hg (own_ne hown (Nat.le_refl _))
    clear hg hown
    go_wp2_with (first | (at_builtin; refine wpList_append_own _ rfl (.tmp 15) (.tmp 19) 23 rfl B 5 i0 (.int .u8 0) 1 1 Tryd.underlying23 hi hz0 hz1 hz2 rfl (by decide) _ _ _ rfl (hown1.alloc _) ⟨w1.heap.size, 0, none⟩ 1 1 [_] rfl rfl (one_new _ _ _) one_cell (by unfold maxLen; omega) (by omega) (by have := hb1.size; simp; omega) ?_))
    intro v2 w2 hown2 hg _
    have hb2 : Below B w w2 := (hb1.alloc (by have := hb1.size; omega) _).grown hg (by have := hb1.size; simp; omega) (own_block_ge hown1)
    clear hg hown1
    go_wp2
    go_ret
    exact ⟨v2, rfl, own_cast hown2 rfl rfl, hb2⟩
  · go_enter Tryd.func20, Tryd.ntmps20
    go_wp2_with (first | (at_builtin; refine wpList_append_own _ rfl (.tmp 5) (.tmp 9) 23 rfl B 5 i0 (.int .u8 0) 1 1 Tryd.underlying23 hi hz0 hz1 hz2 rfl (by decide) _ _ _ rfl ((hown.alloc _).alloc _) ⟨w.heap.size + 1, 0, none⟩ 1 1 [_] rfl rfl (one_new2 _ _ _ (by simp)) one_cell (by unfold maxLen; omega) (by omega) (by simp; omega) ?_))
    intro v1 w1 hown1 hg _
    have hb1 : Below B w w1 := (((Below.refl B w).alloc hB _).alloc (by simp; omega) _).grown hg (by simp; omega) (own_block_ge hown)
    obtain ⟨c0, c1, c2, _, _, _⟩ := ((B3.new w w.heap.size 1 1 ⟨#[]⟩ rfl).alloc _).grown hg (own_ne hown (Nat.le_refl _))
    clear hg hown
    go_wp2_with (first | (at_builtin; refine wpList_append_own _ rfl (.tmp 15) (.tmp 19) 23 rfl B 5 i0 (.int .u8 0) 1 1 Tryd.underlying23 hi hz0 hz1 hz2 rfl (by decide) _ _ _ rfl (hown1.alloc _) ⟨w1.heap.size, 0, none⟩ 1 1 [_] rfl rfl (one_new _ _ _) one_cell (by unfold maxLen; omega) (by omega) (by have := hb1.size; simp; omega) ?_))
    intro v2 w2 hown2 hg _
    have hb2 : Below B w w2 := (hb1.alloc (by have := hb1.size; omega) _).grown hg (by have := hb1.size; simp; omega) (own_block_ge hown1)
    clear hg hown1
    go_wp2
    go_ret
    exact ⟨v2, rfl, own_cast hown2 rfl rfl, hb2⟩

set_option maxHeartbeats 1600000 in
set_option maxRecDepth 100000 in
theorem appendKey_2 (B m : Nat) (n : Int) (v : Value) (xs : List Value) (w : World) (hn : -9223372036854775808 ≤ n ∧ n < 9223372036854775808) (hm : m ≤ 100000000) (hB : B ≤ w.heap.size) (hown : w.ownsRow B 5 1 v m xs) :
    Calls Tryd.prog 20 #[v, .agg #[.int .i64 2, .int .i64 n, .string ⟨#[]⟩]] w fun e w' =>
      ∃ v', e = .returned v' ∧ w'.ownsRow B 5 1 v' (m + (keyV ⟨2, n, ⟨#[]⟩⟩).length) (xs ++ byteCells (keyV ⟨2, n, ⟨#[]⟩⟩)) ∧ Below B w w' := by
  obtain ⟨i0, hi, hz0, hz1, hz2⟩ := info_parts Tryd.infoB
  go_enter Tryd.func20, Tryd.ntmps20
  go_wp2_with (first | (at_builtin; refine wpList_append_own _ rfl (.tmp 5) (.tmp 9) 23 rfl B 5 i0 (.int .u8 0) 1 1 Tryd.underlying23 hi hz0 hz1 hz2 rfl (by decide) _ _ _ rfl ((hown.alloc _).alloc _) ⟨w.heap.size + 1, 0, none⟩ 1 1 [_] rfl rfl (one_new2 _ _ _ (by simp)) one_cell (by unfold maxLen; omega) (by omega) (by simp; omega) ?_))
  intro v1 w1 hown1 hg _
  have hb1 : Below B w w1 := (((Below.refl B w).alloc hB _).alloc (by simp; omega) _).grown hg (by simp; omega) (own_block_ge hown)
  obtain ⟨c0, c1, c2, _, _, _⟩ := ((B3.new w w.heap.size 2 n ⟨#[]⟩ rfl).alloc _).grown hg (own_ne hown (Nat.le_refl _))
  clear hg hown
  have HI := hide (appendInt_any B (m + 1) n v1 _ w1 hn (by omega) (by have := hb1.size; omega) hown1)
  clear hown1
  go_wp2_with (first | (go_at_call 36; refine (unhide HI).mono ?_; rintro e w2 ⟨v2, rfl, hown2, hb2⟩))
  go_ret
  exact ⟨v2, rfl, own_cast hown2 (by show m + 1 + 8 = m + (2 :: beN 8 (n + 9223372036854775808).toNat).length; rw [List.length_cons, beN_length]) (by rw [List.append_assoc]; rfl), hb1.trans hb2⟩

set_option maxHeartbeats 1600000 in
set_option maxRecDepth 100000 in
theorem appendKey_3 (B m : Nat) (t : ByteArray) (v : Value) (xs : List Value) (w : World) (ht : t.size ≤ 40) (hm : m ≤ 100000000) (hB : B ≤ w.heap.size) (hown : w.ownsRow B 5 1 v m xs) :
    Calls Tryd.prog 20 #[v, .agg #[.int .i64 3, .int .i64 0, .string t]] w fun e w' =>
      ∃ v', e = .returned v' ∧ w'.ownsRow B 5 1 v' (m + (keyV ⟨3, 0, t⟩).length) (xs ++ byteCells (keyV ⟨3, 0, t⟩)) ∧ Below B w w' := by
  obtain ⟨i0, hi, hz0, hz1, hz2⟩ := info_parts Tryd.infoB
  go_enter Tryd.func20, Tryd.ntmps20
  go_wp2_with (first | (at_builtin; refine wpList_append_own _ rfl (.tmp 5) (.tmp 9) 23 rfl B 5 i0 (.int .u8 0) 1 1 Tryd.underlying23 hi hz0 hz1 hz2 rfl (by decide) _ _ _ rfl ((hown.alloc _).alloc _) ⟨w.heap.size + 1, 0, none⟩ 1 1 [_] rfl rfl (one_new2 _ _ _ (by simp)) one_cell (by unfold maxLen; omega) (by omega) (by simp; omega) ?_))
  intro v1 w1 hown1 hg _
  have hb1 : Below B w w1 := (((Below.refl B w).alloc hB _).alloc (by simp; omega) _).grown hg (by simp; omega) (own_block_ge hown)
  obtain ⟨c0, c1, c2, _, _, _⟩ := ((B3.new w w.heap.size 3 0 t rfl).alloc _).grown hg (own_ne hown (Nat.le_refl _))
  clear hg hown
  go_wp2_with (first | (at_builtin; refine wpList_append_own_string _ rfl (.tmp 29) (.tmp 31) 23 9 rfl B 5 i0 Tryd.underlying23 Tryd.underlying9 hi hz0 hz1 hz2 _ _ _ rfl hown1 t rfl (by unfold maxLen; omega) (by omega) (by have := hb1.size; omega) ?_))
  intro v2 w2 hown2 hg _
  have hb2 : Below B w w2 := hb1.grown hg (by have := hb1.size; omega) (own_block_ge hown1)
  clear hg hown1
  go_wp2_with (first | (at_builtin; refine wpList_append_own _ rfl (.tmp 32) (.tmp 33) 23 rfl B 5 i0 (.int .u8 0) 1 1 Tryd.underlying23 hi hz0 hz1 hz2 rfl (by decide) _ _ _ rfl (hown2.alloc _) ⟨w2.heap.size, 0, none⟩ 1 1 [_] rfl rfl (one_new _ _ _) one_cell (by unfold maxLen; omega) (by omega) (by have := hb2.size; simp; omega) ?_))
  intro v3 w3 hown3 hg _
  have hb3 : Below B w w3 := (hb2.alloc (by have := hb2.size; omega) _).grown hg (by have := hb2.size; simp; omega) (own_block_ge hown2)
  clear hg hown2
  go_wp2
  go_ret
  exact ⟨v3, rfl, own_cast hown3 (by show m + 1 + t.size + 1 = m + (3 :: (t.data.toList ++ [0])).length; simp; omega) (by show _ = xs ++ byteCells (3 :: (t.data.toList ++ [0])); simp [byteCells, strCells_eq]), hb3⟩

theorem appendKey_any (B m : Nat) (g : GV) (v : Value) (xs : List Value) (w : World) (hg : g.may = true) (ok : g.ok) (hm : m ≤ 100000000) (hB : B ≤ w.heap.size) (hown : w.ownsRow B 5 1 v m xs) :
    Calls Tryd.prog 20 #[v, g.agg] w fun e w' =>
      ∃ v', e = .returned v' ∧ w'.ownsRow B 5 1 v' (m + (keyV g).length) (xs ++ byteCells (keyV g)) ∧ Below B w w' := by
  have hk := may_kind' hg
  obtain ⟨k, n, t⟩ := g
  dsimp only at hk
  rcases hk with rfl | rfl | rfl | rfl
  · obtain ⟨rfl, rfl⟩ := may_0 hg
    exact appendKey_0 B m v xs w hm hB hown
  · obtain ⟨hn, rfl⟩ := may_1 hg
    exact appendKey_1 B m n v xs w hn hm hB hown
  · obtain rfl := may_2 hg
    exact appendKey_2 B m n v xs w ⟨ok.1, ok.2.1⟩ hm hB hown
  · obtain ⟨rfl, ht, _⟩ := may_3 hg
    exact appendKey_3 B m t v xs w ht hm hB hown
end Go.Proofs.YtobonbjeejbhoaaDoor
