/- A node as a root: rooted. -/
import Derived.Test.YtlmjmhpdpgeplaaGreatDoorTPut
namespace Go.Proofs.YtlmjmhpdpgeplaaGreatDoor
open Go.RowKit Go.Lib

/-- A tree that may be a root's. -/
def RootOk (d : Nat) (t : BT (d + 1)) : Prop := Shp d t ∧ t.its.length ≤ 15 ∧ (0 < d → 1 ≤ t.its.length)
/-- A root is told. -/
def RootP (w : World) (O : Nat → Prop) (F : List It) (e : Ending) (w' : World) : Prop :=
  ∃ (d : Nat) (t : BT (d + 1)) (a b : Option Addr) (n k n' k' : Nat), e = .returned (.agg #[.slice a n k, .slice b n' k']) ∧ NodeAt w' (OrN O w.heap.size) d t (.slice a n k) (.slice b n' k') ∧ RootOk d t ∧ flat d t = F ∧ Below w.heap.size w w'
section
variable {w : World} {O : Nat → Prop} {d : Nat} {t : BT (d + 1)} {vi vk : Value}
theorem root_vars (vi vk : Value) (w : World) : ∃ W0 : World, W0 = (w.alloc (.cells #[vi, vk] 54)).alloc (.cells #[.slice none 0 0, .slice none 0 0] 54) ∧ W0.heap.size = w.heap.size + 1 + 1 ∧ Below w.heap.size w W0 ∧ NV W0 w.heap.size vi vk ∧ NV W0 (w.heap.size + 1) (.slice none 0 0) (.slice none 0 0) := by
  refine ⟨_, rfl, by rw [World.size_alloc, World.size_alloc], ((Below.refl _ _).alloc (Nat.le_refl _) _).alloc (by simp) _, (NV.new w _ _).below ((Below.refl _ _).alloc (Nat.le_refl _) _), ?_⟩
  have := NV.new (w.alloc (.cells #[vi, vk] 54)) (.slice none 0 0) (.slice none 0 0)
  rw [World.size_alloc] at this
  exact this
/-- What is told in a variable of the call's own. -/
theorem root_end {w3 : World} {d : Nat} {t : BT (d + 1)} {a b : Option Addr} {n k n' k' z : Nat} {F : List It} (h : NodeAt w3 (Ow w O z) d t (.slice a n k) (.slice b n' k')) (hr : RootOk d t) (hF : flat d t = F) (hb : Below w.heap.size w w3) (hz : w.heap.size + 1 + 1 ≤ z) :
    RootP w O F (.returned (.agg #[.slice a n k, .slice b n' k'])) ((w3.setCell ⟨w.heap.size + 1, 0, none⟩ (.slice a n k)).setCell ⟨w.heap.size + 1, 1, none⟩ (.slice b n' k')) :=
  ⟨d, t, a, b, n, k, n', k', rfl, (h.keep (by simp) (fun g hg _ => set2_ne (Ow.var hg (by omega) (by omega)))).mono (fun g hg => Ow.out (by omega) hg), hr, hF, set2_below hb (by omega)⟩
set_option maxHeartbeats 6400000 in
set_option maxRecDepth 100000 in
theorem rooted_big (ht : NodeAt w O d t vi vk) (hs : Shp d t) (h15 : 15 < t.its.length) (h16 : t.its.length ≤ 16) :
    Calls Tryz.prog 21 #[.agg #[vi, vk]] w (RootP w O (flat d t)) := by
  obtain ⟨ia, ik, ka, kk, rfl, rfl⟩ := one_cells ht
  obtain ⟨W0, hW0, hz0, hb0, v1, v2⟩ := root_vars (.slice ia t.its.length ik) (.slice ka t.kids.length kk) w
  have hy : t.its[t.its.length / 2]? = some (t.its[t.its.length / 2]'(by omega)) := List.getElem?_eq_getElem _
  generalize t.its[t.its.length / 2]'(by omega) = y at hy
  obtain ⟨W1, hW1⟩ : ∃ W1, W1 = W0.alloc (.cells #[.slice ia t.its.length ik, .slice ka t.kids.length kk] 54) := ⟨_, rfl⟩
  have hb1 : Below W0.heap.size W0 W1 := by rw [hW1]; exact (Below.refl _ _).alloc (Nat.le_refl _) _
  have vc : NV W1 (w.heap.size + 1 + 1) (.slice ia t.its.length ik) (.slice ka t.kids.length kk) := by rw [hW1, ← hz0]; exact NV.new _ _ _
  have hbw := below_tr hb0 hb1
  have hz1 : w.heap.size + 1 + 1 ≤ W1.heap.size := by have := hb1.size; omega
  have htn : NodeAt W1 (Ow w O (w.heap.size + 1 + 1)) d t (.slice ia t.its.length ik) (.slice ka t.kids.length kk) := (ht.lt.below hbw).mono (fun g hg => .inl hg)
  have hnp : NP W1 (Ow w O (w.heap.size + 1 + 1)) (d + 1) [] [t] (.slice none 0 0) (.slice (some ⟨w.heap.size + 1 + 1, 0, none⟩) 1 1) := by
    refine ⟨RO.nil _ _, [(.slice ia t.its.length ik, .slice ka t.kids.length kk)], ⟨⟨fun x hx => (by rw [List.mem_singleton.1 hx]; exact ⟨rfl, rfl⟩), .inr ⟨_, 0, 1, rfl, blk_lt vc, Nat.le_refl _, (by decide), fun n y hy => by
      match n, hy with
      | 0, hy => cases hy; exact ⟨vc.cells.1, vc.cells.2.1⟩
      | n + 1, hy => simp at hy⟩⟩, fun g ⟨_, _, _, e⟩ => by cases e; exact .inr (Nat.le_refl _)⟩, KidsAt.one htn⟩
  have HP : Hid (Calls Tryz.prog 38 #[.agg #[.slice none 0 0, .slice (some ⟨w.heap.size + 1 + 1, 0, none⟩) 1 1], .int .i64 0] W1 fun e w3 => ∃ a n k b n' k', e = .returned (.agg #[.slice a n k, .slice b n' k']) ∧ (w3.cell? ⟨w.heap.size + 1, 0, none⟩ = some (.slice none 0 0) ∧ w3.cell? ⟨w.heap.size + 1, 1, none⟩ = some (.slice none 0 0) ∧ w3.frozen? ⟨w.heap.size + 1, 0, none⟩ = false ∧ w3.frozen? ⟨w.heap.size + 1, 1, none⟩ = false) ∧ Hid (RootP w O (flat d t) (.returned (.agg #[.slice a n k, .slice b n' k'])) ((w3.setCell ⟨w.heap.size + 1, 0, none⟩ (.slice a n k)).setCell ⟨w.heap.size + 1, 1, none⟩ (.slice b n' k')))) := by
    refine (parted_t (j := 0) (m := t) hnp rfl hs h15 hy (Nat.le_refl _) ⟨by simp, by simp, by omega⟩).mono ?_
    rintro e w3 ⟨a, k, b, c, rfl, q1, q2⟩
    refine ⟨a, _, k, b, _, c, rfl, ((v2.below hb1).below q2).cells, ?_⟩
    have hfc := fine_cut hs hy h15 (by omega)
    refine root_end (q1.node.mono (fun g hg => Ow.more hz1 hg)) ⟨shp_mk rfl (fun q hq => ?_), (by show 1 ≤ 15; decide), fun _ => (by show 1 ≤ 1; decide)⟩ ?_ (below_tr hbw q2) (Nat.le_refl _)
    · simp only [List.take_zero, List.nil_append, List.mem_cons, List.drop_succ_cons, List.drop_nil, List.not_mem_nil, or_false] at hq
      rcases hq with rfl | rfl
      · exact hfc.1
      · exact hfc.2
    · have := flat_part (its := []) (kids := [t]) (j := 0) rfl rfl hs hy
      rw [this]; rfl
  have hbig : (15 : Int) < (t.its.length : Int) := by omega
  clear ht hs h15 h16 hb0 v1 v2 hb1 vc hbw hz1 htn hnp hz0 hy
  go_enter Tryz.func21, Tryz.ntmps21
  go_wp2_with (go_at_call 38; rw [← hW0, ← hW1]; refine (unhide HP).mono ?_; rintro e w3 ⟨a, n, k, b, n', k', rfl, ⟨c0, c1, f0, f1⟩, HE⟩; clear HP)
  refine bodyPost_ret (v := .agg #[.slice a n k, .slice b n' k']) ?_ rfl ?_
  · rw [results_cell1' rfl]
    go_simp
  exact unhide HE
set_option maxHeartbeats 6400000 in
set_option maxRecDepth 100000 in
/-- As it was. -/
theorem rooted_same (ht : NodeAt w O d t vi vk) (hr : RootOk d t) :
    Calls Tryz.prog 21 #[.agg #[vi, vk]] w (RootP w O (flat d t)) := by
  obtain ⟨ia, ik, ka, kk, rfl, rfl⟩ := one_cells ht
  obtain ⟨W0, hW0, hz0, hb0, v1, v2⟩ := root_vars (.slice ia t.its.length ik) (.slice ka t.kids.length kk) w
  have htn : NodeAt W0 (Ow w O (w.heap.size + 1 + 1)) d t (.slice ia t.its.length ik) (.slice ka t.kids.length kk) := (ht.lt.below hb0).mono (fun g hg => .inl hg)
  have hbig : ¬ ((15 : Int) < (t.its.length : Int)) := by have := hr.2.1; omega
  have HI : Hid (t.its.length = 0 → Calls Tryz.prog 36 #[.agg #[.slice ia t.its.length ik, .slice ka t.kids.length kk]] W0 fun e w3 => e = .returned (.bool false) ∧ (w3.cell? ⟨w.heap.size, 0, none⟩ = some (.slice ia t.its.length ik) ∧ w3.cell? ⟨w.heap.size, 1, none⟩ = some (.slice ka t.kids.length kk)) ∧ (w3.cell? ⟨w.heap.size + 1, 0, none⟩ = some (.slice none 0 0) ∧ w3.cell? ⟨w.heap.size + 1, 1, none⟩ = some (.slice none 0 0) ∧ w3.frozen? ⟨w.heap.size + 1, 0, none⟩ = false ∧ w3.frozen? ⟨w.heap.size + 1, 1, none⟩ = false) ∧ Hid (RootP w O (flat d t) (.returned (.agg #[.slice ia t.its.length ik, .slice ka t.kids.length kk])) ((w3.setCell ⟨w.heap.size + 1, 0, none⟩ (.slice ia t.its.length ik)).setCell ⟨w.heap.size + 1, 1, none⟩ (.slice ka t.kids.length kk)))) := by
    intro h0
    obtain ⟨q1, ks, q2, q3⟩ := node_iff.1 htn
    refine (inner_any _ _ ks W0 q2.1).mono ?_
    rintro e w3 ⟨rfl, hb⟩
    have hk0 : t.kids.length = 0 := by
      cases d with
      | zero => rw [show t.kids = [] from hr.1]; rfl
      | succ d => have := hr.2.2 (Nat.succ_pos _); omega
    have u1 := (v1.below hb).cells
    exact ⟨by rw [q3.len, hk0]; rfl, ⟨u1.1, u1.2.1⟩, (v2.below hb).cells, root_end (htn.below hb) hr rfl (below_tr hb0 hb) (Nat.le_refl _)⟩
  have HE0 : Hid (RootP w O (flat d t) (.returned (.agg #[.slice ia t.its.length ik, .slice ka t.kids.length kk])) ((W0.setCell ⟨w.heap.size + 1, 0, none⟩ (.slice ia t.its.length ik)).setCell ⟨w.heap.size + 1, 1, none⟩ (.slice ka t.kids.length kk))) := root_end htn hr rfl hb0 (Nat.le_refl _)
  obtain ⟨c0, c1, _, _⟩ := v1.cells
  obtain ⟨c2, c3, f2, f3⟩ := v2.cells
  clear ht hr hb0 v1 v2 htn hz0
  by_cases h0 : t.its.length = 0
  · have HI0 := hide (unhide HI h0)
    have h0i : (t.its.length : Int) = 0 := by omega
    obtain ⟨m, hm⟩ : ∃ m, m = t.its.length := ⟨_, rfl⟩
    rw [← hm] at HI0 h0i hW0 ⊢
    clear HI h0 HE0 c0 c1 c2 c3 f2 f3 hbig hm
    obtain rfl : m = 0 := by omega
    clear h0i
    go_enter Tryz.func21, Tryz.ntmps21
    go_wp2_with (go_at_call 36; rw [← hW0]; refine (unhide HI0).mono ?_; rintro e w3 ⟨rfl, ⟨d0, d1⟩, ⟨c2, c3, f2, f3⟩, HE⟩; clear HI0)
    refine bodyPost_ret (v := .agg #[.slice ia 0 ik, .slice ka t.kids.length kk]) ?_ rfl ?_
    · rw [results_cell1' rfl]
      go_simp
    exact unhide HE
  · have h0l : (t.its = []) = False := eq_false (fun e => h0 (by rw [e]; rfl))
    obtain ⟨m, hm⟩ : ∃ m, m = t.its.length := ⟨_, rfl⟩
    rw [← hm] at HE0 hbig c0 hW0 h0 ⊢
    have h0i : ((m : Int) = 0) = False := eq_false (by omega)
    have h0n : (m = 0) = False := eq_false h0
    clear HI h0 hm h0l
    go_enter Tryz.func21, Tryz.ntmps21
    go_upto_region 5 with fail
    rw [← hW0]
    clear hW0
    go_wp2_with fail
    refine bodyPost_ret (v := .agg #[.slice ia m ik, .slice ka t.kids.length kk]) ?_ rfl ?_
    · rw [results_cell1' rfl]
      go_simp
    exact unhide HE0
set_option maxHeartbeats 6400000 in
set_option maxRecDepth 100000 in
/-- No item left, and a kid: that one. -/
theorem rooted_zero {t : BT (d + 2)} (ht : NodeAt w O (d + 1) t vi vk) (hs : Shp (d + 1) t) (h0 : t.its.length = 0) :
    Calls Tryz.prog 21 #[.agg #[vi, vk]] w (RootP w O (flat (d + 1) t)) := by
  obtain ⟨ia, ik, ka, kk, rfl, rfl⟩ := one_cells ht
  obtain ⟨hkl, hkf⟩ := shp_succ.1 hs
  have hk0 : t.kids[0]? = some (t.kids[0]'(by omega)) := List.getElem?_eq_getElem _
  generalize t.kids[0]'(by omega) = k at hk0
  have hf := hkf k (List.mem_of_getElem? hk0)
  have hflat : flat d k = flat (d + 1) t := by
    have e1 : t.its = [] := List.length_eq_zero_iff.1 h0
    have e2 : t.kids = [k] := by
      have hl : t.kids.length = 1 := by omega
      obtain ⟨q, hq⟩ := List.length_eq_one_iff.1 hl
      rw [hq] at hk0 ⊢
      cases hk0; rfl
    rw [flat_succ, e1, e2]; rfl
  have hl1 : t.kids.length = 1 := by omega
  rw [h0, hl1] at ht
  rw [h0, hl1]
  obtain ⟨W0, hW0, hz0, hb0, v1, v2⟩ := root_vars (.slice ia 0 ik) (.slice ka 1 kk) w
  obtain ⟨q1, ks, q2, q3⟩ := node_iff.1 ht
  obtain ⟨ki, kv, ek, hkn⟩ := q3.get hk0
  obtain ⟨kb, ko, rfl, hkb, l0, l1⟩ := q2.1.at ek
  obtain ⟨kia, kik, kka, kkk, rfl, rfl⟩ := one_cells hkn
  have HI : Hid (Calls Tryz.prog 36 #[.agg #[.slice ia 0 ik, .slice (some ⟨kb, ko, none⟩) 1 kk]] W0 fun e w3 => e = .returned (.bool true) ∧ (w3.cell? ⟨w.heap.size, 0, none⟩ = some (.slice ia 0 ik) ∧ w3.cell? ⟨w.heap.size, 1, none⟩ = some (.slice (some ⟨kb, ko, none⟩) 1 kk)) ∧ (w3.cell? ⟨w.heap.size + 1, 0, none⟩ = some (.slice none 0 0) ∧ w3.cell? ⟨w.heap.size + 1, 1, none⟩ = some (.slice none 0 0) ∧ w3.frozen? ⟨w.heap.size + 1, 0, none⟩ = false ∧ w3.frozen? ⟨w.heap.size + 1, 1, none⟩ = false) ∧ (w3.cell? ⟨kb, ko, none⟩ = some (.slice kia k.its.length kik) ∧ w3.cell? ⟨kb, ko + 1, none⟩ = some (.slice kka k.kids.length kkk)) ∧ Hid (RootP w O (flat (d + 1) t) (.returned (.agg #[.slice kia k.its.length kik, .slice kka k.kids.length kkk])) ((w3.setCell ⟨w.heap.size + 1, 0, none⟩ (.slice kia k.its.length kik)).setCell ⟨w.heap.size + 1, 1, none⟩ (.slice kka k.kids.length kkk)))) := by
    refine (inner_any _ _ ks W0 (q2.1.below hb0)).mono ?_
    rintro e w3 ⟨rfl, hb⟩
    have u1 := (v1.below hb).cells
    have hbw := below_tr hb0 hb
    have hkn2 : NodeAt w3 (Ow w O (w.heap.size + 1 + 1)) d k (.slice kia k.its.length kik) (.slice kka k.kids.length kkk) := (hkn.lt.below hbw).mono (fun g hg => .inl hg)
    have hkz : ks.length = 1 := by rw [q3.len, hl1]
    refine ⟨by rw [hkz]; rfl, ⟨u1.1, u1.2.1⟩, (v2.below hb).cells, ⟨(hbw.cell (p := ⟨kb, _, none⟩) hkb).trans (by simpa using l0), (hbw.cell (p := ⟨kb, _, none⟩) hkb).trans (by simpa using l1)⟩, root_end hkn2 ⟨hf.1, hf.2.2, fun _ => hf.2.1⟩ hflat hbw (Nat.le_refl _)⟩
  clear ht hs hkl hkf hk0 hf hflat hz0 hb0 v1 v2 q1 q2 q3 ek hkn hkb l0 l1 h0 hl1
  go_enter Tryz.func21, Tryz.ntmps21
  go_wp2_with (go_at_call 36; rw [← hW0]; refine (unhide HI).mono ?_; rintro e w3 ⟨rfl, ⟨d0, d1⟩, ⟨c2, c3, f2, f3⟩, ⟨m0, m1⟩, HE⟩; clear HI)
  refine bodyPost_ret (v := .agg #[.slice kia k.its.length kik, .slice kka k.kids.length kkk]) ?_ rfl ?_
  · rw [results_cell1' rfl]
    go_simp
  exact unhide HE
/-- A node that put or del told, as a root. -/
theorem rooted_up : ∀ {d : Nat} {t : BT (d + 1)}, NodeAt w O d t vi vk → Shp d t → t.its.length ≤ 16 → Calls Tryz.prog 21 #[.agg #[vi, vk]] w (RootP w O (flat d t))
  | 0, t, ht, hs, h16 => by
    by_cases h : 15 < t.its.length
    · exact rooted_big ht hs h h16
    · exact rooted_same ht ⟨hs, by omega, fun h => by omega⟩
  | d + 1, t, ht, hs, h16 => by
    by_cases h : 15 < t.its.length
    · exact rooted_big ht hs h h16
    · by_cases h0 : t.its.length = 0
      · exact rooted_zero ht hs h0
      · exact rooted_same ht ⟨hs, by omega, fun _ => by omega⟩
end
end Go.Proofs.YtlmjmhpdpgeplaaGreatDoor
