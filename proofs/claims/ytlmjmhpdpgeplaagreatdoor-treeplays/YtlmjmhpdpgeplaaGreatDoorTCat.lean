/- Rows of items and of nodes: Grow, Concat, Clone, spliced. -/
import Derived.Test.YtlmjmhpdpgeplaaGreatDoorTFind
import Derived.Lib.AppendZerosOnto
import Derived.OwnWalk
import Derived.Lib.BufferMore
import Derived.Maps.AppendAt
import Derived.Deep.OwnRows
import Derived.Test.YtlmjmhpdpgeplaaGreatDoorJPlainHandDecLenMath
namespace Go.Proofs.YtlmjmhpdpgeplaaGreatDoor
open Go.RowKit Go.Lib

theorem own_blk {w : World} {B n sz : Nat} {T : TypeId} {v : Value} {xs : List Value} (h : w.ownsRow B T sz v n xs) : ∀ k, v.ownBlock = some k → B ≤ k := by
  intro k hk
  rcases h.2 with ⟨rfl, _⟩ | ⟨g, c, cur, rfl, hB, _⟩
  · simp [Value.ownBlock] at hk
  · simp [Value.ownBlock] at hk; omega
theorem own_sl {w : World} {B n sz : Nat} {T : TypeId} {v : Value} {xs : List Value} (h : w.ownsRow B T sz v n xs) : ∃ a k, v = .slice a n k := by
  obtain ⟨_, ⟨rfl, rfl⟩ | ⟨g, cap, cur, rfl, _⟩⟩ := h
  · exact ⟨_, _, rfl⟩
  · exact ⟨_, _, rfl⟩
theorem cellB2 {w : World} {b : Nat} {cur : Array Value} {T : TypeId} (h : w.heap[b]? = some (.cells cur T (0, 0))) (i : Nat) : w.cell? ⟨b, i, none⟩ = cur[i]? := by
  rw [World.cell?]
  simp [h]
/-- Rows, one behind the other. -/
def joinR (ls : List (Value × List (Value × Value))) : List (Value × Value) := ls.flatMap (·.2)
theorem joinR_app (a b : List (Value × List (Value × Value))) : joinR (a ++ b) = joinR a ++ joinR b := by simp [joinR]
theorem joinR_take {ls : List (Value × List (Value × Value))} {j : Nat} {x : Value × List (Value × Value)} (h : ls[j]? = some x) : joinR (ls.take (j + 1)) = joinR (ls.take j) ++ x.2 := by
  rw [List.take_add_one, h, joinR_app]; simp [joinR]
theorem joinR_le (ls : List (Value × List (Value × Value))) (j : Nat) : (joinR (ls.take j)).length ≤ (joinR ls).length := by
  conv => rhs; rw [← List.take_append_drop j ls, joinR_app, List.length_append]
  omega
theorem joinR_one {ls : List (Value × List (Value × Value))} (h : ∀ x ∈ ls, One2 x.2) : One2 (joinR ls) := fun y hy => by
  obtain ⟨x, hx, hy⟩ := List.mem_flatMap.1 hy
  exact h x hx y hy

theorem Tryz.info_item : (Tryz.prog.info? 62).map (fun i => (i.zero, i.size, i.bytes)) = some (some (.agg #[.string ⟨#[]⟩, .string ⟨#[]⟩]), 2, 32) := by kernel_rfl
theorem wpList_append_item {w : World} {ops : Array Oper} {rest : List Oper} {o : Oper} {a : Act} {Q : Exit → Act → World → Prop} (hgd : o.guard = none) (s x : Operand)
    (ho : o.op = .call { callee := .builtin .append, args := #[s, x], argTypes := #[51, 51] })
    (base : Nat) (v : Value) (l l2 : List (Value × Value)) (xv : Value) (hs : a.eval s = v) (hown : w.ownsRow base 62 2 v l.length (c2 l)) (hx : a.eval x = xv) (hR : R2 w xv l2) (hn : l.length ≤ 1000000) (hn2 : l2.length ≤ 1000000) (hbase : base ≤ w.heap.size)
    (h : ∀ v' w', w'.ownsRow base 62 2 v' (l ++ l2).length (c2 (l ++ l2)) → Below base w w' → wpList Tryz.prog ops Q rest (a.put o.dst v') w') : wpList Tryz.prog ops Q (o :: rest) a w := by
  obtain ⟨i0, hi, hz0, hz1, hz2⟩ := info_parts Tryz.info_item
  obtain ⟨h1, ⟨rfl, rfl⟩ | ⟨b, off, k, rfl, h2, h3, h4, h5⟩⟩ := hR
  · refine wpList_append_own_none hgd s x 51 ho base 62 i0 2 Tryz.underlying51 hi v l.length (c2 l) hs hown hx ?_
    exact h v w (by rw [List.append_nil]; exact hown) (Below.refl _ _)
  · refine wpList_append_own_at w hgd s x 51 ho base 62 i0 _ 2 32 Tryz.underlying51 hi hz0 hz1 hz2 rfl (by decide) v l.length (c2 l) hs hown ⟨b, off, none⟩ l2.length k (c2 l2) hx (c2_len l2) (fun j u hj => ?_) h1.cells (by unfold maxLen; omega) (by omega) hbase ?_
    · obtain ⟨y, q1, q2, q3⟩ := c2_at l2 j u hj
      rw [Go.WideShapes.add_plain]
      rcases Nat.mod_two_eq_zero_or_one j with e | e
      · rw [q2 e, show off + j = off + j / 2 * 2 by omega]; exact (h5 _ y q1).1
      · rw [q3 e, show off + j = off + j / 2 * 2 + 1 by omega]; exact (h5 _ y q1).2
    · intro v' w' ho' hg _ _
      refine h v' w' (by rw [c2_app, List.length_append]; exact ho') ?_
      exact (Below.refl _ _).grown hg hbase (own_blk hown)
set_option maxHeartbeats 3200000 in
set_option maxRecDepth 100000 in
theorem grow_item (n : Nat) (w : World) (hn : n ≤ 1000000) : Calls Tryz.prog 64 #[.slice none 0 0, .int .i64 (n : Int)] w fun e w' => ∃ v, e = .returned v ∧ w'.ownsRow w.heap.size 62 2 v 0 (c2 []) ∧ Below w.heap.size w w' := by
  obtain ⟨i0, hi, hz0, hz1, hz2⟩ := info_parts Tryz.info_item
  have h0 : ¬ ((n : Int) < 0) := by omega
  have hw : IntKind.i64.wrap (n : Int) = (n : Int) := by rw [IntKind.wrap_i64] <;> omega
  by_cases hz : n = 0
  · subst hz
    go_enter Tryz.func64, Tryz.ntmps64
    go_wp2
    go_ret
    exact ⟨_, rfl, World.ownsRow_nil _ _ _ _, Below.refl _ _⟩
  · have hp : (n : Int) > 0 := by omega
    have hrz : ∀ ty, (Builtin.append_ #[51, 3] ty #[.slice none 0 0, .int .i64 (n : Int)]).run Tryz.prog w = .ok (.slice (some ⟨w.heap.size, 0, none⟩) n (grownCap w n 0 62)) (w.drew.alloc (.cells (#[] ++ Builtin.zeroCells (.agg #[.string ⟨#[]⟩, .string ⟨#[]⟩] : Value).cells n ++ Builtin.zeroCells (.agg #[.string ⟨#[]⟩, .string ⟨#[]⟩] : Value).cells (grownCap w n 0 62 - n)) 62)) := fun ty => by
      have h := Lib.run_append_grow_zeros (P := Tryz.prog) w 51 3 ty 62 i0 (.agg #[.string ⟨#[]⟩, .string ⟨#[]⟩]) .i64 .i64 Tryz.underlying51 Tryz.underlying3 hi hz0 none 0 0 [] (run_firstCells_none w.drew i0.size 0 0 0) n (by omega) (by rw [hz1]; decide) (by omega) (by omega) (by rw [hz2]; omega) (by rw [hz2, Nat.zero_add]; exact growslice_fits (need := n) (old := 0) (bytes := 32) (by omega) (by omega))
      simpa using h
    have hGn : n ≤ grownCap w n 0 62 := grownCap_ge w _ _ _
    obtain ⟨G, hG⟩ : ∃ G, G = grownCap w n 0 62 := ⟨_, rfl⟩
    have hGm : G ≤ maxLen := by rw [hG]; exact grownCap_le_maxLen w n 0 62 (by unfold maxLen; omega)
    rw [← hG] at hrz hGn
    obtain ⟨W, hW⟩ : ∃ W, W = w.drew.alloc (.cells (#[] ++ Builtin.zeroCells (.agg #[.string ⟨#[]⟩, .string ⟨#[]⟩] : Value).cells n ++ Builtin.zeroCells (.agg #[.string ⟨#[]⟩, .string ⟨#[]⟩] : Value).cells (G - n)) 62) := ⟨_, rfl⟩
    have HO : Hid (W.ownsRow w.heap.size 62 2 (.slice (some ⟨w.heap.size, 0, none⟩) 0 G) 0 (c2 []) ∧ Below w.heap.size w W) := by
      rw [hW]
      refine ⟨⟨rfl, .inr ⟨w.heap.size, G, _, rfl, Nat.le_refl _, heap_alloc_new w.drew _, Nat.zero_le _, hGm, ?_, ?_⟩⟩, (Below.refl _ _).drew.alloc (by simp) _⟩
      · have e : (.agg #[.string ⟨#[]⟩, .string ⟨#[]⟩] : Value).cells.size = 2 := rfl
        simp only [Array.size_append, size_zeroCells, e]
        simp; omega
      · rfl
    rw [← hW] at hrz
    have hG0 : (0 : Int) ≤ (G : Int) := by omega
    have hGm' : (G : Int) ≤ 9223372036854775807 := by unfold maxLen at hGm; omega
    clear hG hW hGm
    go_enter Tryz.func64, Tryz.ntmps64
    go_wp2_with (at_builtin; refine Lib.wpList_append_run _ rfl _ _ _ _ rfl _ _ rfl rfl _ _ (hrz _) ?_)
    go_ret
    exact ⟨_, rfl, (unhide HO).1, (unhide HO).2⟩
set_option maxHeartbeats 6400000 in
set_option maxRecDepth 100000 in
theorem concat_item (b m : Nat) (ls : List (Value × List (Value × Value))) (w : World) (hm : ls.length = m) (hm3 : m ≤ 3) (hc : ∀ i x, ls[i]? = some x → w.cell? ⟨b, i, none⟩ = some x.1) (hb : b < w.heap.size) (hR : ∀ x ∈ ls, R2 w x.1 x.2) (hl : (joinR ls).length ≤ 1000) :
    Calls Tryz.prog 51 #[.slice (some ⟨b, 0, none⟩) m m] w fun e w' => ∃ v, e = .returned v ∧ RN w' w.heap.size v (joinR ls) ∧ Below w.heap.size w w' := by
  have HX : Hid (∀ (j : Nat) (wr : World), j < m → Below w.heap.size w wr → ∃ (a : Option Addr) (k : Nat) (x : Value × List (Value × Value)), ls[j]? = some x ∧ x.1 = .slice a x.2.length k ∧ wr.cell? ⟨b, j, none⟩ = some (.slice a x.2.length k) ∧ R2 wr (.slice a x.2.length k) x.2) := by
    intro j wr hj hbw
    have hx : ls[j]? = some (ls[j]'(by omega)) := List.getElem?_eq_getElem _
    have h2 := hR _ (List.mem_of_getElem? hx)
    obtain ⟨a, k, e, _, _⟩ := h2.slice
    exact ⟨a, k, _, hx, e, by rw [← e]; exact (hbw.cell (p := ⟨b, j, none⟩) hb).trans (hc j _ hx), by rw [← e]; exact h2.below hbw⟩
  have HL := hide hl
  have HO1 : Hid (One2 (joinR ls)) := joinR_one (fun x hx => (hR x hx).1)
  have HM := hide hm
  have hm3' : (m : Int) ≤ 3 := by omega
  clear hc hR hl hm
  go_enter Tryz.func51, Tryz.ntmps51
  go_wp2_with fail
  go_loopw [3, 5, 11] (fun s3 s5 s11 wr => s5 = s5 ∧ ∃ (j n : Nat), j ≤ m ∧ s11 = .int .i64 (j : Int) ∧ s3 = .int .i64 (n : Int) ∧ w = wr ∧ n ≤ 1000 ∧ Hid (n = (joinR (ls.take j)).length)) (fun _ _ s11 _ => m - (RowKit.intOf s11).toNat)
  case atStart => exact ⟨rfl, 0, 0, Nat.zero_le _, rfl, rfl, rfl, by omega, rfl⟩
  case round =>
    obtain ⟨-, j, n, hj, rfl, rfl, rfl, hn, hnj⟩ := hrel
    by_cases hlt : j < m
    · have hlti : (j : Int) < (m : Int) := by omega
      have hj0 : (0 : Int) ≤ (j : Int) := by omega
      obtain ⟨a, k, x, hx, _, c0, _⟩ := unhide HX j w hlt (Below.refl _ _)
      have hs : (joinR (ls.take (j + 1))).length = n + x.2.length := by rw [joinR_take hx, List.length_append, unhide hnj]
      have hle := Nat.le_trans (joinR_le ls (j + 1)) (unhide HL)
      have HS := hide hs
      obtain ⟨y, hy⟩ : ∃ y, y = x.2.length := ⟨_, rfl⟩
      rw [← hy] at c0 hs HS
      have hny : n + y ≤ 1000 := by omega
      have hw : IntKind.i64.wrap ((n : Int) + (y : Int)) = (n : Int) + (y : Int) := by rw [IntKind.wrap_i64] <;> omega
      have hneg : ¬ ((n : Int) + (y : Int) < 0) := by omega
      have hwj : IntKind.i64.wrap ((j : Int) + 1) = (j : Int) + 1 := by rw [IntKind.wrap_i64] <;> omega
      clear hx hs hle hy hnj
      go_wp2_with fail
      refine ⟨⟨trivial, j + 1, n + y, by omega, by simp, by simp, trivial, hny, (unhide HS).symm⟩, ?_⟩
      simp [RowKit.intOf]; omega
    · obtain rfl : j = m := by omega
      have hlti : ¬ ((j : Int) < (j : Int)) := by omega
      have HG := hide (grow_item n w (by omega))
      clear hlt hnj
      go_wp2_with (go_at_call 64; refine (unhide HG).mono ?_; rintro e w1 ⟨v1, rfl, o1, b1⟩; have H1 := hide (And.intro o1 b1); obtain ⟨ga, gk, rfl⟩ : ∃ ga gk, v1 = .slice ga 0 gk := own_sl o1; clear o1 b1 HG)
      go_loopw [6, 8, 27] (fun s6 s8 s27 wx => s8 = s8 ∧ ∃ (i n2 gk : Nat) (ga : Option Addr), i ≤ j ∧ s27 = .int .i64 (i : Int) ∧ s6 = .slice ga n2 gk ∧ Hid (n2 = (joinR (ls.take i)).length ∧ wx.ownsRow w.heap.size 62 2 (.slice ga n2 gk) n2 (c2 (joinR (ls.take i))) ∧ Below w.heap.size w wx)) (fun _ _ s27 _ => j - (RowKit.intOf s27).toNat)
      case atStart => exact ⟨rfl, 0, 0, gk, ga, Nat.zero_le _, rfl, rfl, rfl, (unhide H1).1, (unhide H1).2⟩
      case round =>
        obtain ⟨-, i, n2, gk2, ga2, hi, rfl, rfl, hr⟩ := hrel
        clear H1
        by_cases hlt2 : i < j
        · have hlti : (i : Int) < (j : Int) := by omega
          have hj0 : (0 : Int) ≤ (i : Int) := by omega
          obtain ⟨a, k, x, hx, _, c0, r0⟩ := unhide HX i wr hlt2 (unhide hr).2.2
          have hle := Nat.le_trans (joinR_le ls (i + 1)) (unhide HL)
          have hjt := joinR_take hx
          have hwj : IntKind.i64.wrap ((i : Int) + 1) = (i : Int) + 1 := by rw [IntKind.wrap_i64] <;> omega
          have HR0 : Hid (R2 wr (.slice a x.2.length k) x.2 ∧ wr.ownsRow w.heap.size 62 2 (.slice ga2 n2 gk2) (joinR (ls.take i)).length (c2 (joinR (ls.take i))) ∧ (joinR (ls.take i)).length ≤ 1000000 ∧ x.2.length ≤ 1000000 ∧ w.heap.size ≤ wr.heap.size) := by
            obtain ⟨q1, q2, q3⟩ := unhide hr
            rw [hjt, List.length_append] at hle
            exact ⟨r0, by rw [← q1]; exact q2, by omega, by omega, q3.size⟩
          have HJ := hide hjt
          have HB := hide (unhide hr).2.2
          clear r0 hr hle hjt hx
          go_wp2_with (first
            | (at_builtin; refine wpList_append_item rfl (.tmp 31) (.tmp 32) rfl w.heap.size _ (joinR (ls.take i)) x.2 _ rfl (unhide HR0).2.1 rfl (unhide HR0).1 (unhide HR0).2.2.1 (unhide HR0).2.2.2.1 (unhide HR0).2.2.2.2 ?_; intro v4 w4 o4 b4; rw [← unhide HJ] at o4; obtain ⟨va4, vk4, rfl⟩ : ∃ va4 vk4, v4 = .slice va4 (joinR (ls.take (i + 1))).length vk4 := own_sl o4; have HO4 := hide (And.intro o4 ((unhide HB).trans b4)); clear o4 b4))
          refine ⟨⟨trivial, i + 1, _, vk4, va4, by omega, by simp, rfl, rfl, (unhide HO4).1, (unhide HO4).2⟩, ?_⟩
          simp [RowKit.intOf]; omega
        · obtain rfl : i = j := by omega
          have hlti : ¬ ((i : Int) < (i : Int)) := by omega
          have HF : Hid (RN wr w.heap.size (.slice ga2 n2 gk2) (joinR ls) ∧ Below w.heap.size w wr) := by
            obtain ⟨q1, q2, q3⟩ := unhide hr
            rw [List.take_of_length_le (by rw [unhide HM]; omega)] at q1 q2
            exact ⟨⟨R2.own q2 q1 (unhide HO1), own_in q2⟩, q3⟩
          clear hr hlt2
          go_wp2_with fail
          go_ret
          exact ⟨_, rfl, (unhide HF).1, (unhide HF).2⟩
set_option maxHeartbeats 6400000 in
set_option maxRecDepth 100000 in
/-- A row with x in place of what stands from i to j. -/
theorem spliced_item (vl vx : Value) (l x : List (Value × Value)) (i j : Nat) (w : World) (hl : R2 w vl l) (hx : R2 w vx x) (hij : i ≤ j) (hj : j ≤ l.length) (hn : l.length + x.length ≤ 1000) :
    Calls Tryz.prog 35 #[vl, .int .i64 (i : Int), .int .i64 (j : Int), vx] w fun e w' => ∃ v, e = .returned v ∧ RN w' w.heap.size v (l.take i ++ x ++ l.drop j) ∧ Below w.heap.size w w' := by
  obtain ⟨a, k, rfl, hk1, hk2⟩ := id hl.slice
  obtain ⟨xa, xk, hvx, _, _⟩ := id hx.slice
  have h1 := hl.cut (i := 0) (j := i) (Nat.zero_le _) (by omega)
  have h2 := hl.cut (i := j) (j := l.length) hj (Nat.le_refl _)
  rw [List.drop_zero] at h1
  rw [List.take_length] at h2
  obtain ⟨p1, k1, hX1⟩ : ∃ p1 k1, cutV a 0 i k = .slice p1 i k1 := ⟨_, _, rfl⟩
  obtain ⟨p2, k2, hX2⟩ : ∃ p2 k2, cutV a j l.length k = .slice p2 (l.length - j) k2 := ⟨_, _, rfl⟩
  rw [hX1] at h1
  rw [hX2] at h2
  obtain ⟨m2, hm2⟩ : ∃ m2, m2 = l.length - j := ⟨_, rfl⟩
  rw [← hm2] at h2 hX2
  have HX1 := hide hX1
  have HX2 := hide hX2
  have b0 : Below w.heap.size w (w.drew.alloc (.cells #[.slice p1 i k1, vx, .slice p2 m2 k2] 51)) := (Below.refl _ _).drew.alloc (by simp) _
  have hnew : (w.drew.alloc (.cells #[.slice p1 i k1, vx, .slice p2 m2 k2] 51)).heap[w.heap.size]? = some (.cells #[.slice p1 i k1, vx, .slice p2 m2 k2] 51 (0, 0)) := heap_alloc_new w.drew _
  have HC : Hid (Calls Tryz.prog 51 #[.slice (some ⟨w.heap.size, 0, none⟩) 3 3] (w.drew.alloc (.cells #[.slice p1 i k1, vx, .slice p2 m2 k2] 51)) fun e w' => ∃ v, e = .returned v ∧ RN w' w.heap.size v (l.take i ++ x ++ l.drop j) ∧ Below w.heap.size w w') := by
    refine (concat_item w.heap.size 3 [(.slice p1 i k1, l.take i), (vx, x), (.slice p2 m2 k2, l.drop j)] _ rfl (Nat.le_refl _) (fun n y hy => ?_) (by simp) (fun y hy => ?_) ?_).mono ?_
    · match n, hy with
      | 0, hy => cases hy; exact cellB2 hnew _
      | 1, hy => cases hy; exact cellB2 hnew _
      | 2, hy => cases hy; exact cellB2 hnew _
      | n + 3, hy => simp at hy
    · simp only [List.mem_cons, List.not_mem_nil, or_false] at hy
      rcases hy with rfl | rfl | rfl
      · exact h1.below b0
      · exact hx.below b0
      · exact h2.below b0
    · simp [joinR]; omega
    · rintro e w' ⟨v, rfl, q1, q2⟩
      exact ⟨v, rfl, ⟨by simpa [joinR] using q1.1, fun g hg => Nat.le_trans b0.size (q1.2 g hg)⟩, below_tr b0 q2⟩
  have hi0 : (0 : Int) ≤ (i : Int) := by omega
  have hik : (i : Int) ≤ (k : Int) := by omega
  have hj0 : (0 : Int) ≤ (j : Int) := by omega
  have hjl : (j : Int) ≤ (l.length : Int) := by omega
  have hlk : (l.length : Int) ≤ (k : Int) := by omega
  subst hvx
  clear hl hx h1 h2 b0 hnew hn hX1 hX2 hm2
  go_enter Tryz.func35, Tryz.ntmps35
  go_wp2_with fail
  refine wp_region_held_drew (S := fun w' => True) (by kernel_rfl) trivial (fun hHeld => ?_)
  refine hand_to (i := 0) (d := 9) (v := (.slice a l.length k)) rfl rfl (by kernel_rfl) (by kernel_rfl) (by kernel_rfl) (fun _ _ _ h => h) (Or.inl ⟨by rfl, ?_⟩) hHeld ?_
  · (intro w' hSw; obtain - := hSw; go_simp)
  simp only [Act.put, List.setIfInBounds_toArray, List.set_cons_zero, List.set_cons_succ]
  refine hand_to (i := 1) (d := 10) (v := (.int .i64 (i : Int))) rfl rfl (by kernel_rfl) (by kernel_rfl) (by kernel_rfl) (fun _ _ _ h => h) (Or.inl ⟨by rfl, ?_⟩) hHeld ?_
  · (intro w' hSw; obtain - := hSw; go_simp)
  simp only [Act.put, List.setIfInBounds_toArray, List.set_cons_zero, List.set_cons_succ]
  refine hand_to (i := 2) (d := 11) (v := (.slice p1 i k1)) rfl rfl (by kernel_rfl) (by kernel_rfl) (by kernel_rfl) (fun _ _ _ h => h) (Or.inl ⟨by rfl, ?_⟩) hHeld ?_
  · (intro w' hSw; obtain - := hSw; (rw [← unhide HX1]; unfold cutV; go_simp))
  simp only [Act.put, List.setIfInBounds_toArray, List.set_cons_zero, List.set_cons_succ]
  refine hand_to (i := 3) (d := 12) (v := (.slice xa x.length xk)) rfl rfl (by kernel_rfl) (by kernel_rfl) (by kernel_rfl) (fun _ _ _ h => h) (Or.inl ⟨by rfl, ?_⟩) hHeld ?_
  · (intro w' hSw; obtain - := hSw; go_simp)
  simp only [Act.put, List.setIfInBounds_toArray, List.set_cons_zero, List.set_cons_succ]
  refine hand_to (i := 4) (d := 13) (v := (.slice a l.length k)) rfl rfl (by kernel_rfl) (by kernel_rfl) (by kernel_rfl) (fun _ _ _ h => h) (Or.inl ⟨by rfl, ?_⟩) hHeld ?_
  · (intro w' hSw; obtain - := hSw; go_simp)
  simp only [Act.put, List.setIfInBounds_toArray, List.set_cons_zero, List.set_cons_succ]
  refine hand_to (i := 5) (d := 14) (v := (.int .i64 (j : Int))) rfl rfl (by kernel_rfl) (by kernel_rfl) (by kernel_rfl) (fun _ _ _ h => h) (Or.inl ⟨by rfl, ?_⟩) hHeld ?_
  · (intro w' hSw; obtain - := hSw; go_simp)
  simp only [Act.put, List.setIfInBounds_toArray, List.set_cons_zero, List.set_cons_succ]
  refine hand_to (i := 6) (d := 15) (v := (.slice p2 m2 k2)) rfl rfl (by kernel_rfl) (by kernel_rfl) (by kernel_rfl) (fun _ _ _ h => h) (Or.inl ⟨by rfl, ?_⟩) hHeld ?_
  · (intro w' hSw; obtain - := hSw; (rw [← unhide HX2]; unfold cutV; go_simp))
  simp only [Act.put, List.setIfInBounds_toArray, List.set_cons_zero, List.set_cons_succ]
  refine wpAnyH_ready (rs := [7]) (by kernel_rfl) (by simp) ?_
  refine AllReadyH.cons rfl (fun K hK => ?_) AllReadyH.nil
  go_simp
  skip
  (go_wp2_with fail)
  refine hK.out _ _ trivial (fun hHeld2 => ?_)
  clear hK K hHeld
  have hHeld := hHeld2
  clear hHeld2
  refine wpAnyH_ready (rs := [8]) (by kernel_rfl) (by simp) ?_
  refine AllReadyH.cons rfl (fun K hK => ?_) AllReadyH.nil
  go_simp
  (go_at_call 51; refine (unhide HC).mono ?_; rintro e w1 ⟨v1, rfl, q1, q2⟩; have H1 := hide (And.intro q1 q2); clear q1 q2 HC)
  (go_wp2_with fail)
  refine hK.out _ _ trivial (fun hHeld2 => ?_)
  clear hK K hHeld
  have hHeld := hHeld2
  clear hHeld2
  refine hand_to (i := 9) (d := 8) (v := v1) rfl rfl (by kernel_rfl) (by kernel_rfl) (by kernel_rfl) (fun _ _ _ h => h) (Or.inl ⟨by rfl, ?_⟩) hHeld ?_
  · (intro w' hSw; obtain - := hSw; go_simp)
  simp only [Act.put, List.setIfInBounds_toArray, List.set_cons_zero, List.set_cons_succ]
  refine wpAnyH_done (by kernel_rfl) ?_ _
  go_wp2_with fail
  go_ret
  exact ⟨v1, rfl, (unhide H1).1, (unhide H1).2⟩
set_option maxHeartbeats 3200000 in
set_option maxRecDepth 100000 in
theorem clone_item (v : Value) (l : List (Value × Value)) (w : World) (h : R2 w v l) (hn : l.length ≤ 1000000) : Calls Tryz.prog 54 #[v] w fun e w' => ∃ v', e = .returned v' ∧ RN w' w.heap.size v' l ∧ Below w.heap.size w w' := by
  rcases id h with ⟨h1, ⟨rfl, rfl⟩ | ⟨b, off, k, rfl, h2, h3, h4, h5⟩⟩
  · have hnil := run_eql_slice_nil_nil (P := Tryz.prog) w 0 0 Tryz.underlying51
    go_enter Tryz.func54, Tryz.ntmps54
    go_wp2
    go_ret
    exact ⟨_, rfl, ⟨R2.nil _, fun g ⟨_, _, _, e⟩ => by cases e⟩, Below.refl _ _⟩
  · have b0 : Below w.heap.size w (w.alloc (.cells #[] 62)) := (Below.refl _ _).alloc (Nat.le_refl _) _
    have HO : Hid ((w.alloc (.cells #[] 62)).ownsRow w.heap.size 62 2 (.slice (some ⟨w.heap.size, 0, none⟩) 0 0) ([] : List (Value × Value)).length (c2 []) ∧ R2 (w.alloc (.cells #[] 62)) (.slice (some ⟨b, off, none⟩) l.length k) l ∧ w.heap.size ≤ (w.alloc (.cells #[] 62)).heap.size) := ⟨⟨rfl, .inr ⟨w.heap.size, 0, #[], rfl, Nat.le_refl _, heap_alloc_new _ _, Nat.le_refl _, Nat.zero_le _, rfl, rfl⟩⟩, h.below b0, b0.size⟩
    have HB := hide b0
    have HL := hide hn
    have HO1 := hide h1
    have hnil := run_eql_slice_some_nil (P := Tryz.prog) w ⟨b, off, none⟩ l.length k Tryz.underlying51
    clear h h1 h3 h4 h5 b0 hn
    go_enter Tryz.func54, Tryz.ntmps54
    go_wp2_with (first
      | (at_builtin; refine wpList_append_item rfl (.tmp 5) (.tmp 6) rfl w.heap.size _ [] l _ rfl (unhide HO).1 rfl (unhide HO).2.1 (by decide) (unhide HL) (unhide HO).2.2 ?_; intro v4 w4 o4 b4; have H4 := hide (And.intro o4 ((unhide HB).trans b4)); clear o4 b4))
    go_ret
    rw [List.nil_append] at H4
    exact ⟨_, rfl, ⟨R2.own (unhide H4).1 rfl (unhide HO1), own_in (unhide H4).1⟩, (unhide H4).2⟩

theorem Tryz.info_node : (Tryz.prog.info? 54).map (fun i => (i.zero, i.size, i.bytes)) = some (some (.agg #[.slice none 0 0, .slice none 0 0]), 2, 48) := by kernel_rfl
theorem wpList_append_node {w : World} {ops : Array Oper} {rest : List Oper} {o : Oper} {a : Act} {Q : Exit → Act → World → Prop} (hgd : o.guard = none) (s x : Operand)
    (ho : o.op = .call { callee := .builtin .append, args := #[s, x], argTypes := #[52, 52] })
    (base : Nat) (v : Value) (l l2 : List (Value × Value)) (xv : Value) (hs : a.eval s = v) (hown : w.ownsRow base 54 2 v l.length (c2 l)) (hx : a.eval x = xv) (hR : R2 w xv l2) (hn : l.length ≤ 1000000) (hn2 : l2.length ≤ 1000000) (hbase : base ≤ w.heap.size)
    (h : ∀ v' w', w'.ownsRow base 54 2 v' (l ++ l2).length (c2 (l ++ l2)) → Below base w w' → wpList Tryz.prog ops Q rest (a.put o.dst v') w') : wpList Tryz.prog ops Q (o :: rest) a w := by
  obtain ⟨i0, hi, hz0, hz1, hz2⟩ := info_parts Tryz.info_node
  obtain ⟨h1, ⟨rfl, rfl⟩ | ⟨b, off, k, rfl, h2, h3, h4, h5⟩⟩ := hR
  · refine wpList_append_own_none hgd s x 52 ho base 54 i0 2 Tryz.underlying52 hi v l.length (c2 l) hs hown hx ?_
    exact h v w (by rw [List.append_nil]; exact hown) (Below.refl _ _)
  · refine wpList_append_own_at w hgd s x 52 ho base 54 i0 _ 2 48 Tryz.underlying52 hi hz0 hz1 hz2 rfl (by decide) v l.length (c2 l) hs hown ⟨b, off, none⟩ l2.length k (c2 l2) hx (c2_len l2) (fun j u hj => ?_) h1.cells (by unfold maxLen; omega) (by omega) hbase ?_
    · obtain ⟨y, q1, q2, q3⟩ := c2_at l2 j u hj
      rw [Go.WideShapes.add_plain]
      rcases Nat.mod_two_eq_zero_or_one j with e | e
      · rw [q2 e, show off + j = off + j / 2 * 2 by omega]; exact (h5 _ y q1).1
      · rw [q3 e, show off + j = off + j / 2 * 2 + 1 by omega]; exact (h5 _ y q1).2
    · intro v' w' ho' hg _ _
      refine h v' w' (by rw [c2_app, List.length_append]; exact ho') ?_
      exact (Below.refl _ _).grown hg hbase (own_blk hown)
set_option maxHeartbeats 3200000 in
set_option maxRecDepth 100000 in
theorem grow_node (n : Nat) (w : World) (hn : n ≤ 1000000) : Calls Tryz.prog 70 #[.slice none 0 0, .int .i64 (n : Int)] w fun e w' => ∃ v, e = .returned v ∧ w'.ownsRow w.heap.size 54 2 v 0 (c2 []) ∧ Below w.heap.size w w' := by
  obtain ⟨i0, hi, hz0, hz1, hz2⟩ := info_parts Tryz.info_node
  have h0 : ¬ ((n : Int) < 0) := by omega
  have hw : IntKind.i64.wrap (n : Int) = (n : Int) := by rw [IntKind.wrap_i64] <;> omega
  by_cases hz : n = 0
  · subst hz
    go_enter Tryz.func70, Tryz.ntmps70
    go_wp2
    go_ret
    exact ⟨_, rfl, World.ownsRow_nil _ _ _ _, Below.refl _ _⟩
  · have hp : (n : Int) > 0 := by omega
    have hrz : ∀ ty, (Builtin.append_ #[52, 3] ty #[.slice none 0 0, .int .i64 (n : Int)]).run Tryz.prog w = .ok (.slice (some ⟨w.heap.size, 0, none⟩) n (grownCap w n 0 54)) (w.drew.alloc (.cells (#[] ++ Builtin.zeroCells (.agg #[.slice none 0 0, .slice none 0 0] : Value).cells n ++ Builtin.zeroCells (.agg #[.slice none 0 0, .slice none 0 0] : Value).cells (grownCap w n 0 54 - n)) 54)) := fun ty => by
      have h := Lib.run_append_grow_zeros (P := Tryz.prog) w 52 3 ty 54 i0 (.agg #[.slice none 0 0, .slice none 0 0]) .i64 .i64 Tryz.underlying52 Tryz.underlying3 hi hz0 none 0 0 [] (run_firstCells_none w.drew i0.size 0 0 0) n (by omega) (by rw [hz1]; decide) (by omega) (by omega) (by rw [hz2]; omega) (by rw [hz2, Nat.zero_add]; exact growslice_fits (need := n) (old := 0) (bytes := 48) (by omega) (by omega))
      simpa using h
    have hGn : n ≤ grownCap w n 0 54 := grownCap_ge w _ _ _
    obtain ⟨G, hG⟩ : ∃ G, G = grownCap w n 0 54 := ⟨_, rfl⟩
    have hGm : G ≤ maxLen := by rw [hG]; exact grownCap_le_maxLen w n 0 54 (by unfold maxLen; omega)
    rw [← hG] at hrz hGn
    obtain ⟨W, hW⟩ : ∃ W, W = w.drew.alloc (.cells (#[] ++ Builtin.zeroCells (.agg #[.slice none 0 0, .slice none 0 0] : Value).cells n ++ Builtin.zeroCells (.agg #[.slice none 0 0, .slice none 0 0] : Value).cells (G - n)) 54) := ⟨_, rfl⟩
    have HO : Hid (W.ownsRow w.heap.size 54 2 (.slice (some ⟨w.heap.size, 0, none⟩) 0 G) 0 (c2 []) ∧ Below w.heap.size w W) := by
      rw [hW]
      refine ⟨⟨rfl, .inr ⟨w.heap.size, G, _, rfl, Nat.le_refl _, heap_alloc_new w.drew _, Nat.zero_le _, hGm, ?_, ?_⟩⟩, (Below.refl _ _).drew.alloc (by simp) _⟩
      · have e : (.agg #[.slice none 0 0, .slice none 0 0] : Value).cells.size = 2 := rfl
        simp only [Array.size_append, size_zeroCells, e]
        simp; omega
      · rfl
    rw [← hW] at hrz
    have hG0 : (0 : Int) ≤ (G : Int) := by omega
    have hGm' : (G : Int) ≤ 9223372036854775807 := by unfold maxLen at hGm; omega
    clear hG hW hGm
    go_enter Tryz.func70, Tryz.ntmps70
    go_wp2_with (at_builtin; refine Lib.wpList_append_run _ rfl _ _ _ _ rfl _ _ rfl rfl _ _ (hrz _) ?_)
    go_ret
    exact ⟨_, rfl, (unhide HO).1, (unhide HO).2⟩
set_option maxHeartbeats 6400000 in
set_option maxRecDepth 100000 in
theorem concat_node (b m : Nat) (ls : List (Value × List (Value × Value))) (w : World) (hm : ls.length = m) (hm3 : m ≤ 3) (hc : ∀ i x, ls[i]? = some x → w.cell? ⟨b, i, none⟩ = some x.1) (hb : b < w.heap.size) (hR : ∀ x ∈ ls, R2 w x.1 x.2) (hl : (joinR ls).length ≤ 1000) :
    Calls Tryz.prog 65 #[.slice (some ⟨b, 0, none⟩) m m] w fun e w' => ∃ v, e = .returned v ∧ RN w' w.heap.size v (joinR ls) ∧ Below w.heap.size w w' := by
  have HX : Hid (∀ (j : Nat) (wr : World), j < m → Below w.heap.size w wr → ∃ (a : Option Addr) (k : Nat) (x : Value × List (Value × Value)), ls[j]? = some x ∧ x.1 = .slice a x.2.length k ∧ wr.cell? ⟨b, j, none⟩ = some (.slice a x.2.length k) ∧ R2 wr (.slice a x.2.length k) x.2) := by
    intro j wr hj hbw
    have hx : ls[j]? = some (ls[j]'(by omega)) := List.getElem?_eq_getElem _
    have h2 := hR _ (List.mem_of_getElem? hx)
    obtain ⟨a, k, e, _, _⟩ := h2.slice
    exact ⟨a, k, _, hx, e, by rw [← e]; exact (hbw.cell (p := ⟨b, j, none⟩) hb).trans (hc j _ hx), by rw [← e]; exact h2.below hbw⟩
  have HL := hide hl
  have HO1 : Hid (One2 (joinR ls)) := joinR_one (fun x hx => (hR x hx).1)
  have HM := hide hm
  have hm3' : (m : Int) ≤ 3 := by omega
  clear hc hR hl hm
  go_enter Tryz.func65, Tryz.ntmps65
  go_wp2_with fail
  go_loopw [3, 5, 11] (fun s3 s5 s11 wr => s5 = s5 ∧ ∃ (j n : Nat), j ≤ m ∧ s11 = .int .i64 (j : Int) ∧ s3 = .int .i64 (n : Int) ∧ w = wr ∧ n ≤ 1000 ∧ Hid (n = (joinR (ls.take j)).length)) (fun _ _ s11 _ => m - (RowKit.intOf s11).toNat)
  case atStart => exact ⟨rfl, 0, 0, Nat.zero_le _, rfl, rfl, rfl, by omega, rfl⟩
  case round =>
    obtain ⟨-, j, n, hj, rfl, rfl, rfl, hn, hnj⟩ := hrel
    by_cases hlt : j < m
    · have hlti : (j : Int) < (m : Int) := by omega
      have hj0 : (0 : Int) ≤ (j : Int) := by omega
      obtain ⟨a, k, x, hx, _, c0, _⟩ := unhide HX j w hlt (Below.refl _ _)
      have hs : (joinR (ls.take (j + 1))).length = n + x.2.length := by rw [joinR_take hx, List.length_append, unhide hnj]
      have hle := Nat.le_trans (joinR_le ls (j + 1)) (unhide HL)
      have HS := hide hs
      obtain ⟨y, hy⟩ : ∃ y, y = x.2.length := ⟨_, rfl⟩
      rw [← hy] at c0 hs HS
      have hny : n + y ≤ 1000 := by omega
      have hw : IntKind.i64.wrap ((n : Int) + (y : Int)) = (n : Int) + (y : Int) := by rw [IntKind.wrap_i64] <;> omega
      have hneg : ¬ ((n : Int) + (y : Int) < 0) := by omega
      have hwj : IntKind.i64.wrap ((j : Int) + 1) = (j : Int) + 1 := by rw [IntKind.wrap_i64] <;> omega
      clear hx hs hle hy hnj
      go_wp2_with fail
      refine ⟨⟨trivial, j + 1, n + y, by omega, by simp, by simp, trivial, hny, (unhide HS).symm⟩, ?_⟩
      simp [RowKit.intOf]; omega
    · obtain rfl : j = m := by omega
      have hlti : ¬ ((j : Int) < (j : Int)) := by omega
      have HG := hide (grow_node n w (by omega))
      clear hlt hnj
      go_wp2_with (go_at_call 70; refine (unhide HG).mono ?_; rintro e w1 ⟨v1, rfl, o1, b1⟩; have H1 := hide (And.intro o1 b1); obtain ⟨ga, gk, rfl⟩ : ∃ ga gk, v1 = .slice ga 0 gk := own_sl o1; clear o1 b1 HG)
      go_loopw [6, 8, 27] (fun s6 s8 s27 wx => s8 = s8 ∧ ∃ (i n2 gk : Nat) (ga : Option Addr), i ≤ j ∧ s27 = .int .i64 (i : Int) ∧ s6 = .slice ga n2 gk ∧ Hid (n2 = (joinR (ls.take i)).length ∧ wx.ownsRow w.heap.size 54 2 (.slice ga n2 gk) n2 (c2 (joinR (ls.take i))) ∧ Below w.heap.size w wx)) (fun _ _ s27 _ => j - (RowKit.intOf s27).toNat)
      case atStart => exact ⟨rfl, 0, 0, gk, ga, Nat.zero_le _, rfl, rfl, rfl, (unhide H1).1, (unhide H1).2⟩
      case round =>
        obtain ⟨-, i, n2, gk2, ga2, hi, rfl, rfl, hr⟩ := hrel
        clear H1
        by_cases hlt2 : i < j
        · have hlti : (i : Int) < (j : Int) := by omega
          have hj0 : (0 : Int) ≤ (i : Int) := by omega
          obtain ⟨a, k, x, hx, _, c0, r0⟩ := unhide HX i wr hlt2 (unhide hr).2.2
          have hle := Nat.le_trans (joinR_le ls (i + 1)) (unhide HL)
          have hjt := joinR_take hx
          have hwj : IntKind.i64.wrap ((i : Int) + 1) = (i : Int) + 1 := by rw [IntKind.wrap_i64] <;> omega
          have HR0 : Hid (R2 wr (.slice a x.2.length k) x.2 ∧ wr.ownsRow w.heap.size 54 2 (.slice ga2 n2 gk2) (joinR (ls.take i)).length (c2 (joinR (ls.take i))) ∧ (joinR (ls.take i)).length ≤ 1000000 ∧ x.2.length ≤ 1000000 ∧ w.heap.size ≤ wr.heap.size) := by
            obtain ⟨q1, q2, q3⟩ := unhide hr
            rw [hjt, List.length_append] at hle
            exact ⟨r0, by rw [← q1]; exact q2, by omega, by omega, q3.size⟩
          have HJ := hide hjt
          have HB := hide (unhide hr).2.2
          clear r0 hr hle hjt hx
          go_wp2_with (first
            | (at_builtin; refine wpList_append_node rfl (.tmp 31) (.tmp 32) rfl w.heap.size _ (joinR (ls.take i)) x.2 _ rfl (unhide HR0).2.1 rfl (unhide HR0).1 (unhide HR0).2.2.1 (unhide HR0).2.2.2.1 (unhide HR0).2.2.2.2 ?_; intro v4 w4 o4 b4; rw [← unhide HJ] at o4; obtain ⟨va4, vk4, rfl⟩ : ∃ va4 vk4, v4 = .slice va4 (joinR (ls.take (i + 1))).length vk4 := own_sl o4; have HO4 := hide (And.intro o4 ((unhide HB).trans b4)); clear o4 b4))
          refine ⟨⟨trivial, i + 1, _, vk4, va4, by omega, by simp, rfl, rfl, (unhide HO4).1, (unhide HO4).2⟩, ?_⟩
          simp [RowKit.intOf]; omega
        · obtain rfl : i = j := by omega
          have hlti : ¬ ((i : Int) < (i : Int)) := by omega
          have HF : Hid (RN wr w.heap.size (.slice ga2 n2 gk2) (joinR ls) ∧ Below w.heap.size w wr) := by
            obtain ⟨q1, q2, q3⟩ := unhide hr
            rw [List.take_of_length_le (by rw [unhide HM]; omega)] at q1 q2
            exact ⟨⟨R2.own q2 q1 (unhide HO1), own_in q2⟩, q3⟩
          clear hr hlt2
          go_wp2_with fail
          go_ret
          exact ⟨_, rfl, (unhide HF).1, (unhide HF).2⟩
set_option maxHeartbeats 6400000 in
set_option maxRecDepth 100000 in
/-- A row with x in place of what stands from i to j. -/
theorem spliced_node (vl vx : Value) (l x : List (Value × Value)) (i j : Nat) (w : World) (hl : R2 w vl l) (hx : R2 w vx x) (hij : i ≤ j) (hj : j ≤ l.length) (hn : l.length + x.length ≤ 1000) :
    Calls Tryz.prog 52 #[vl, .int .i64 (i : Int), .int .i64 (j : Int), vx] w fun e w' => ∃ v, e = .returned v ∧ RN w' w.heap.size v (l.take i ++ x ++ l.drop j) ∧ Below w.heap.size w w' := by
  obtain ⟨a, k, rfl, hk1, hk2⟩ := id hl.slice
  obtain ⟨xa, xk, hvx, _, _⟩ := id hx.slice
  have h1 := hl.cut (i := 0) (j := i) (Nat.zero_le _) (by omega)
  have h2 := hl.cut (i := j) (j := l.length) hj (Nat.le_refl _)
  rw [List.drop_zero] at h1
  rw [List.take_length] at h2
  obtain ⟨p1, k1, hX1⟩ : ∃ p1 k1, cutV a 0 i k = .slice p1 i k1 := ⟨_, _, rfl⟩
  obtain ⟨p2, k2, hX2⟩ : ∃ p2 k2, cutV a j l.length k = .slice p2 (l.length - j) k2 := ⟨_, _, rfl⟩
  rw [hX1] at h1
  rw [hX2] at h2
  obtain ⟨m2, hm2⟩ : ∃ m2, m2 = l.length - j := ⟨_, rfl⟩
  rw [← hm2] at h2 hX2
  have HX1 := hide hX1
  have HX2 := hide hX2
  have b0 : Below w.heap.size w (w.drew.alloc (.cells #[.slice p1 i k1, vx, .slice p2 m2 k2] 52)) := (Below.refl _ _).drew.alloc (by simp) _
  have hnew : (w.drew.alloc (.cells #[.slice p1 i k1, vx, .slice p2 m2 k2] 52)).heap[w.heap.size]? = some (.cells #[.slice p1 i k1, vx, .slice p2 m2 k2] 52 (0, 0)) := heap_alloc_new w.drew _
  have HC : Hid (Calls Tryz.prog 65 #[.slice (some ⟨w.heap.size, 0, none⟩) 3 3] (w.drew.alloc (.cells #[.slice p1 i k1, vx, .slice p2 m2 k2] 52)) fun e w' => ∃ v, e = .returned v ∧ RN w' w.heap.size v (l.take i ++ x ++ l.drop j) ∧ Below w.heap.size w w') := by
    refine (concat_node w.heap.size 3 [(.slice p1 i k1, l.take i), (vx, x), (.slice p2 m2 k2, l.drop j)] _ rfl (Nat.le_refl _) (fun n y hy => ?_) (by simp) (fun y hy => ?_) ?_).mono ?_
    · match n, hy with
      | 0, hy => cases hy; exact cellB2 hnew _
      | 1, hy => cases hy; exact cellB2 hnew _
      | 2, hy => cases hy; exact cellB2 hnew _
      | n + 3, hy => simp at hy
    · simp only [List.mem_cons, List.not_mem_nil, or_false] at hy
      rcases hy with rfl | rfl | rfl
      · exact h1.below b0
      · exact hx.below b0
      · exact h2.below b0
    · simp [joinR]; omega
    · rintro e w' ⟨v, rfl, q1, q2⟩
      exact ⟨v, rfl, ⟨by simpa [joinR] using q1.1, fun g hg => Nat.le_trans b0.size (q1.2 g hg)⟩, below_tr b0 q2⟩
  have hi0 : (0 : Int) ≤ (i : Int) := by omega
  have hik : (i : Int) ≤ (k : Int) := by omega
  have hj0 : (0 : Int) ≤ (j : Int) := by omega
  have hjl : (j : Int) ≤ (l.length : Int) := by omega
  have hlk : (l.length : Int) ≤ (k : Int) := by omega
  subst hvx
  clear hl hx h1 h2 b0 hnew hn hX1 hX2 hm2
  go_enter Tryz.func52, Tryz.ntmps52
  go_wp2_with fail
  refine wp_region_held_drew (S := fun w' => True) (by kernel_rfl) trivial (fun hHeld => ?_)
  refine hand_to (i := 0) (d := 9) (v := (.slice a l.length k)) rfl rfl (by kernel_rfl) (by kernel_rfl) (by kernel_rfl) (fun _ _ _ h => h) (Or.inl ⟨by rfl, ?_⟩) hHeld ?_
  · (intro w' hSw; obtain - := hSw; go_simp)
  simp only [Act.put, List.setIfInBounds_toArray, List.set_cons_zero, List.set_cons_succ]
  refine hand_to (i := 1) (d := 10) (v := (.int .i64 (i : Int))) rfl rfl (by kernel_rfl) (by kernel_rfl) (by kernel_rfl) (fun _ _ _ h => h) (Or.inl ⟨by rfl, ?_⟩) hHeld ?_
  · (intro w' hSw; obtain - := hSw; go_simp)
  simp only [Act.put, List.setIfInBounds_toArray, List.set_cons_zero, List.set_cons_succ]
  refine hand_to (i := 2) (d := 11) (v := (.slice p1 i k1)) rfl rfl (by kernel_rfl) (by kernel_rfl) (by kernel_rfl) (fun _ _ _ h => h) (Or.inl ⟨by rfl, ?_⟩) hHeld ?_
  · (intro w' hSw; obtain - := hSw; (rw [← unhide HX1]; unfold cutV; go_simp))
  simp only [Act.put, List.setIfInBounds_toArray, List.set_cons_zero, List.set_cons_succ]
  refine hand_to (i := 3) (d := 12) (v := (.slice xa x.length xk)) rfl rfl (by kernel_rfl) (by kernel_rfl) (by kernel_rfl) (fun _ _ _ h => h) (Or.inl ⟨by rfl, ?_⟩) hHeld ?_
  · (intro w' hSw; obtain - := hSw; go_simp)
  simp only [Act.put, List.setIfInBounds_toArray, List.set_cons_zero, List.set_cons_succ]
  refine hand_to (i := 4) (d := 13) (v := (.slice a l.length k)) rfl rfl (by kernel_rfl) (by kernel_rfl) (by kernel_rfl) (fun _ _ _ h => h) (Or.inl ⟨by rfl, ?_⟩) hHeld ?_
  · (intro w' hSw; obtain - := hSw; go_simp)
  simp only [Act.put, List.setIfInBounds_toArray, List.set_cons_zero, List.set_cons_succ]
  refine hand_to (i := 5) (d := 14) (v := (.int .i64 (j : Int))) rfl rfl (by kernel_rfl) (by kernel_rfl) (by kernel_rfl) (fun _ _ _ h => h) (Or.inl ⟨by rfl, ?_⟩) hHeld ?_
  · (intro w' hSw; obtain - := hSw; go_simp)
  simp only [Act.put, List.setIfInBounds_toArray, List.set_cons_zero, List.set_cons_succ]
  refine hand_to (i := 6) (d := 15) (v := (.slice p2 m2 k2)) rfl rfl (by kernel_rfl) (by kernel_rfl) (by kernel_rfl) (fun _ _ _ h => h) (Or.inl ⟨by rfl, ?_⟩) hHeld ?_
  · (intro w' hSw; obtain - := hSw; (rw [← unhide HX2]; unfold cutV; go_simp))
  simp only [Act.put, List.setIfInBounds_toArray, List.set_cons_zero, List.set_cons_succ]
  refine wpAnyH_ready (rs := [7]) (by kernel_rfl) (by simp) ?_
  refine AllReadyH.cons rfl (fun K hK => ?_) AllReadyH.nil
  go_simp
  skip
  (go_wp2_with fail)
  refine hK.out _ _ trivial (fun hHeld2 => ?_)
  clear hK K hHeld
  have hHeld := hHeld2
  clear hHeld2
  refine wpAnyH_ready (rs := [8]) (by kernel_rfl) (by simp) ?_
  refine AllReadyH.cons rfl (fun K hK => ?_) AllReadyH.nil
  go_simp
  (go_at_call 65; refine (unhide HC).mono ?_; rintro e w1 ⟨v1, rfl, q1, q2⟩; have H1 := hide (And.intro q1 q2); clear q1 q2 HC)
  (go_wp2_with fail)
  refine hK.out _ _ trivial (fun hHeld2 => ?_)
  clear hK K hHeld
  have hHeld := hHeld2
  clear hHeld2
  refine hand_to (i := 9) (d := 8) (v := v1) rfl rfl (by kernel_rfl) (by kernel_rfl) (by kernel_rfl) (fun _ _ _ h => h) (Or.inl ⟨by rfl, ?_⟩) hHeld ?_
  · (intro w' hSw; obtain - := hSw; go_simp)
  simp only [Act.put, List.setIfInBounds_toArray, List.set_cons_zero, List.set_cons_succ]
  refine wpAnyH_done (by kernel_rfl) ?_ _
  go_wp2_with fail
  go_ret
  exact ⟨v1, rfl, (unhide H1).1, (unhide H1).2⟩
set_option maxHeartbeats 3200000 in
set_option maxRecDepth 100000 in
theorem clone_node (v : Value) (l : List (Value × Value)) (w : World) (h : R2 w v l) (hn : l.length ≤ 1000000) : Calls Tryz.prog 55 #[v] w fun e w' => ∃ v', e = .returned v' ∧ RN w' w.heap.size v' l ∧ Below w.heap.size w w' := by
  rcases id h with ⟨h1, ⟨rfl, rfl⟩ | ⟨b, off, k, rfl, h2, h3, h4, h5⟩⟩
  · have hnil := run_eql_slice_nil_nil (P := Tryz.prog) w 0 0 Tryz.underlying52
    go_enter Tryz.func55, Tryz.ntmps55
    go_wp2
    go_ret
    exact ⟨_, rfl, ⟨R2.nil _, fun g ⟨_, _, _, e⟩ => by cases e⟩, Below.refl _ _⟩
  · have b0 : Below w.heap.size w (w.alloc (.cells #[] 54)) := (Below.refl _ _).alloc (Nat.le_refl _) _
    have HO : Hid ((w.alloc (.cells #[] 54)).ownsRow w.heap.size 54 2 (.slice (some ⟨w.heap.size, 0, none⟩) 0 0) ([] : List (Value × Value)).length (c2 []) ∧ R2 (w.alloc (.cells #[] 54)) (.slice (some ⟨b, off, none⟩) l.length k) l ∧ w.heap.size ≤ (w.alloc (.cells #[] 54)).heap.size) := ⟨⟨rfl, .inr ⟨w.heap.size, 0, #[], rfl, Nat.le_refl _, heap_alloc_new _ _, Nat.le_refl _, Nat.zero_le _, rfl, rfl⟩⟩, h.below b0, b0.size⟩
    have HB := hide b0
    have HL := hide hn
    have HO1 := hide h1
    have hnil := run_eql_slice_some_nil (P := Tryz.prog) w ⟨b, off, none⟩ l.length k Tryz.underlying52
    clear h h1 h3 h4 h5 b0 hn
    go_enter Tryz.func55, Tryz.ntmps55
    go_wp2_with (first
      | (at_builtin; refine wpList_append_node rfl (.tmp 5) (.tmp 6) rfl w.heap.size _ [] l _ rfl (unhide HO).1 rfl (unhide HO).2.1 (by decide) (unhide HL) (unhide HO).2.2 ?_; intro v4 w4 o4 b4; have H4 := hide (And.intro o4 ((unhide HB).trans b4)); clear o4 b4))
    go_ret
    rw [List.nil_append] at H4
    exact ⟨_, rfl, ⟨R2.own (unhide H4).1 rfl (unhide HO1), own_in (unhide H4).1⟩, (unhide H4).2⟩
end Go.Proofs.YtlmjmhpdpgeplaaGreatDoor
