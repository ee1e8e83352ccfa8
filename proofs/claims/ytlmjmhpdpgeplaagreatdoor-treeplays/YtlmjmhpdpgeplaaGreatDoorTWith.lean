/- A node with another kid in a place: with. -/
import Derived.Test.YtlmjmhpdpgeplaaGreatDoorTNode
namespace Go.Proofs.YtlmjmhpdpgeplaaGreatDoor
open Go.RowKit Go.Lib

section
variable {w w' : World} {O : Nat → Prop} {d i j : Nat} {its : List It} {kids : List (BT (d + 1))} {vi vk ci ck : Value} {k' : BT (d + 1)}
theorem RO.lt {v : Value} {l : List (Value × Value)} (h : RO w O v l) : RO w (fun g => O g ∧ g < w.heap.size) v l := ⟨h.1, fun g hg => ⟨h.2 g hg, h.1.lt g hg⟩⟩
theorem NodeAt.lt : ∀ {d : Nat} {t : BT (d + 1)} {vi vk : Value}, NodeAt w O d t vi vk → NodeAt w (fun g => O g ∧ g < w.heap.size) d t vi vk
  | 0, _, _, _, h => ⟨h.1.lt, h.2.1.lt, h.2.2⟩
  | _ + 1, _, _, _, ⟨h1, ks, h2, h3, h4⟩ => ⟨h1.lt, ks, h2.lt, h3, fun i x k hx hk => NodeAt.lt (h4 i x k hx hk)⟩
theorem NP.lt (h : NP w O (d + 1) its kids vi vk) : NP w (fun g => O g ∧ g < w.heap.size) (d + 1) its kids vi vk := by
  obtain ⟨h1, ks, h2, h3⟩ := h
  exact ⟨h1.lt, ks, h2.lt, h3.1, fun i x k hx hk => (h3.2 i x k hx hk).lt⟩
theorem NP.below {d : Nat} {kids : List (BT d)} (h : NP w O d its kids vi vk) (hb : Below w.heap.size w w') : NP w' O d its kids vi vk := h.keep hb.size (fun g _ hg => hb.block g hg)
/-- The kid laid in its place. -/
theorem setkid_t {c : Nat} (h : NP w O (d + 1) its kids vi vk) (hk : NodeAt w O d k' ci ck) (hc : NV w c ci ck) (hci : ci.oneCell' = true ∧ ck.oneCell' = true) (hi : i < kids.length) (hn : kids.length ≤ 50) :
    Calls Tryz.prog 52 #[vk, .int .i64 (i : Int), .int .i64 ((i : Int) + 1), .slice (some ⟨c, 0, none⟩) 1 1] w fun e w' => ∃ b n c', e = .returned (.slice b n c') ∧ NP w' (OrN O w.heap.size) (d + 1) its (kids.take i ++ k' :: kids.drop (i + 1)) vi (.slice b n c') ∧ Below w.heap.size w w' := by
  obtain ⟨h1, ks, h2, h3⟩ := h
  have hx : R2 w (.slice (some ⟨c, 0, none⟩) 1 1) [(ci, ck)] := ⟨fun x hx => (by rw [List.mem_singleton.1 hx]; exact hci), .inr ⟨c, 0, 1, rfl, blk_lt hc, Nat.le_refl _, (by decide), fun n y hy => by
    match n, hy with
    | 0, hy => cases hy; exact ⟨hc.cells.1, hc.cells.2.1⟩
    | n + 1, hy => simp at hy⟩⟩
  have hl := h3.len
  have e1 : ((i : Int) + 1) = ((i + 1 : Nat) : Int) := by omega
  rw [e1]
  refine (spliced_node vk _ ks _ i (i + 1) w h2.1 hx (by omega) (by omega) (by simp; omega)).mono ?_
  rintro e w' ⟨v, rfl, q1, q2⟩
  obtain ⟨b, c', rfl, _, _⟩ := id q1.1.slice
  have ho : ∀ g, O g → OrN O w.heap.size g := fun g hg => .inl hg
  have hk2 := ((h3.below q2).mono ho).take i |>.app ((KidsAt.one ((hk.below q2).mono ho)).app (((h3.below q2).mono ho).drop (i + 1)))
  exact ⟨b, _, c', rfl, ⟨(h1.keep q2.size (fun g _ hg => q2.block g hg)).mono ho, _, q1.ro, by simpa using hk2⟩, q2⟩
/-- What is told of a node behind a call of its own: which kids. -/
def WithP (w : World) (O : Nat → Prop) (d : Nat) (its : List It) (F : List It) (e : Ending) (w' : World) : Prop :=
  ∃ its' kids', TellsN w O (d + 1) its' kids' e w' ∧ kids'.length = its'.length + 1 ∧ (∀ k ∈ kids', Fine d k) ∧ its'.length ≤ its.length + 1 ∧ flat (d + 1) (BT.mk its' kids') = F
theorem one_cells {w : World} {O : Nat → Prop} {d : Nat} {t : BT (d + 1)} {vi vk : Value} (h : NodeAt w O d t vi vk) : ∃ a k b c, vi = .slice a t.its.length k ∧ vk = .slice b t.kids.length c := by
  obtain ⟨h1, ks, h2, h3⟩ := node_iff.1 h
  obtain ⟨a, k, e1, _, _⟩ := h1.1.slice
  obtain ⟨b, c, e2, _, _⟩ := h2.1.slice
  rw [List.length_map] at e1
  rw [h3.len] at e2
  exact ⟨a, k, b, c, e1, e2⟩
/-- Trees: which ones with tells. -/
theorem few_plan (hf : kids.length = its.length + 1) (hk : ∀ k ∈ kids, Fine d k) (h1 : 1 ≤ its.length) (hi : i < kids.length) (hs : Shp d k') (hl : k'.its.length < 7) (hj : j = min i (its.length - 1)) :
    ∃ l r x, (kids.take i ++ k' :: kids.drop (i + 1))[j]? = some l ∧ (kids.take i ++ k' :: kids.drop (i + 1))[j + 1]? = some r ∧ its[j]? = some x ∧ Shp d l ∧ Shp d r ∧ l.its.length ≤ 15 ∧ r.its.length ≤ 15 ∧ 1 ≤ l.its.length + r.its.length ∧ l.its.length + r.its.length ≤ 21 ∧ ∀ q ∈ (kids.take i ++ k' :: kids.drop (i + 1)).take j ++ (kids.take i ++ k' :: kids.drop (i + 1)).drop (j + 2), Fine d q := by
  have hx : its[j]? = some (its[j]'(by omega)) := List.getElem?_eq_getElem _
  have hti : (kids.take i).length = i := by rw [List.length_take]; omega
  rcases Nat.lt_or_ge i its.length with h | h
  · obtain rfl : j = i := by omega
    have hr : kids[j + 1]? = some (kids[j + 1]'(by omega)) := List.getElem?_eq_getElem _
    have hF := hk _ (List.mem_of_getElem? hr)
    refine ⟨k', _, _, ?_, ?_, hx, hs, hF.1, by omega, hF.2.2, by have := hF.2.1; omega, by have := hF.2.2; omega, fun q hq => ?_⟩
    · rw [List.getElem?_append_right (by omega), hti]; simp
    · rw [List.getElem?_append_right (by omega), hti]
      rw [show j + 1 - j = 0 + 1 by omega, List.getElem?_cons_succ, List.getElem?_drop]
      exact hr
    · rcases List.mem_append.1 hq with h | h
      · rw [List.take_append_of_le_length (by omega)] at h
        exact hk q (List.mem_of_mem_take (List.mem_of_mem_take h))
      · rw [List.drop_append, hti, List.drop_eq_nil_of_le (by omega), show j + 2 - j = 1 + 1 by omega, List.drop_succ_cons] at h
        exact hk q (List.mem_of_mem_drop (List.mem_of_mem_drop h))
  · have hii : i = j + 1 := by omega
    have hr : kids[j]? = some (kids[j]'(by omega)) := List.getElem?_eq_getElem _
    have hF := hk _ (List.mem_of_getElem? hr)
    refine ⟨_, k', _, ?_, ?_, hx, hF.1, hs, hF.2.2, by omega, by have := hF.2.1; omega, by have := hF.2.2; omega, fun q hq => ?_⟩
    · rw [List.getElem?_append_left (by omega), List.getElem?_take, if_pos (by omega)]
      exact hr
    · rw [List.getElem?_append_right (by omega), hti, hii]; simp
    · rcases List.mem_append.1 hq with h | h
      · rw [List.take_append_of_le_length (by omega)] at h
        exact hk q (List.mem_of_mem_take (List.mem_of_mem_take h))
      · rw [List.drop_append, hti, List.drop_eq_nil_of_le (by omega), show j + 2 - i = 0 + 1 by omega, List.drop_succ_cons] at h
        exact hk q (List.mem_of_mem_drop (List.mem_of_mem_drop h))
end
/-- The blocks that a node may lie in, within a call that began at w: not its variables. -/
def Ow (w : World) (O : Nat → Prop) (z : Nat) : Nat → Prop := OrN (fun g => O g ∧ g < w.heap.size) z
theorem Ow.out {w : World} {O : Nat → Prop} {z g : Nat} (hz : w.heap.size ≤ z) (h : Ow w O z g) : OrN O w.heap.size g := by
  rcases h with h | h
  · exact .inl h.1
  · exact .inr (Nat.le_trans hz h)
theorem Ow.var {w : World} {O : Nat → Prop} {z g b : Nat} (h : Ow w O z g) (h1 : w.heap.size ≤ b) (h2 : b < z) : g ≠ b := by
  rcases h with ⟨_, h⟩ | h <;> omega
theorem Ow.more {w : World} {O : Nat → Prop} {z n g : Nat} (hz : z ≤ n) (h : OrN (Ow w O z) n g) : Ow w O z g := by
  rcases h with h | h
  · exact h
  · exact .inr (Nat.le_trans hz h)
/-- A variable of the call's own is written: the node stays. -/
theorem NP.var2 {w w2 : World} {O : Nat → Prop} {d z b : Nat} {its : List It} {kids : List (BT d)} {vi vk x y : Value} (h : NP w2 (Ow w O z) d its kids vi vk) (h1 : w.heap.size ≤ b) (h2 : b < z) : NP ((w2.setCell ⟨b, 0, none⟩ x).setCell ⟨b, 1, none⟩ y) (Ow w O z) d its kids vi vk := h.keep (by simp) (fun g hg _ => set2_ne (hg.var h1 h2))
theorem with_end {w w2 : World} {O : Nat → Prop} {d z b : Nat} {its its0 : List It} {kids : List (BT (d + 1))} {a b' : Option Addr} {n k n' k' : Nat} {F : List It} (h : NP w2 (Ow w O z) (d + 1) its kids (.slice a n k) (.slice b' n' k')) (hb : Below w.heap.size w w2) (h1 : w.heap.size ≤ b) (h2 : b < z) (hf : kids.length = its.length + 1) (hk : ∀ k ∈ kids, Fine d k) (hl : its.length ≤ its0.length + 1) (hF : flat (d + 1) (BT.mk its kids) = F) :
    WithP w O d its0 F (.returned (.agg #[.slice a n k, .slice b' n' k'])) ((w2.setCell ⟨b, 0, none⟩ (.slice a n k)).setCell ⟨b, 1, none⟩ (.slice b' n' k')) := by
  have h3 := (h.var2 (x := .slice a n k) (y := .slice b' n' k') h1 h2).mono (fun g hg => hg.out (by omega : w.heap.size ≤ z))
  obtain ⟨a1, k1, b1, c1, e1, e2⟩ := h.slices
  cases e1; cases e2
  exact ⟨its, kids, ⟨_, _, _, _, rfl, h3, set2_below hb h1⟩, hf, hk, hl, hF⟩
/-- A call that tells a node, beside the variables of the call at hand. -/
def TellsV (w v : World) (O : Nat → Prop) (z d : Nat) (its : List It) (kids : List (BT (d + 1))) (p q : Value) (e : Ending) (v' : World) : Prop :=
  ∃ a n k b n' k', e = .returned (.agg #[.slice a n k, .slice b n' k']) ∧ (v'.cell? ⟨w.heap.size, 0, none⟩ = some p ∧ v'.cell? ⟨w.heap.size, 1, none⟩ = some q ∧ v'.frozen? ⟨w.heap.size, 0, none⟩ = false ∧ v'.frozen? ⟨w.heap.size, 1, none⟩ = false) ∧ (v'.cell? ⟨w.heap.size + 1 + 1, 0, none⟩ = some (.slice none 0 0) ∧ v'.cell? ⟨w.heap.size + 1 + 1, 1, none⟩ = some (.slice none 0 0) ∧ v'.frozen? ⟨w.heap.size + 1 + 1, 0, none⟩ = false ∧ v'.frozen? ⟨w.heap.size + 1 + 1, 1, none⟩ = false) ∧ Hid (NP v' (Ow w O z) (d + 1) its kids (.slice a n k) (.slice b n' k') ∧ Below v.heap.size v v' ∧ NV v' w.heap.size p q ∧ NV v' (w.heap.size + 1 + 1) (.slice none 0 0) (.slice none 0 0))
theorem tells_v {w v v' : World} {O : Nat → Prop} {z d : Nat} {its : List It} {kids : List (BT (d + 1))} {p q : Value} {e : Ending} (h : TellsN v (Ow w O z) (d + 1) its kids e v') (h3 : NV v w.heap.size p q) (h6 : NV v (w.heap.size + 1 + 1) (.slice none 0 0) (.slice none 0 0)) (hz : z ≤ v.heap.size) : TellsV w v O z d its kids p q e v' := by
  obtain ⟨a, k, b, c, rfl, q1, q2⟩ := h
  exact ⟨a, _, k, b, _, c, rfl, (h3.below q2).cells, (h6.below q2).cells, q1.mono (fun g hg => Ow.more hz hg), q2, h3.below q2, h6.below q2⟩
/-- The end behind the last of its calls. -/
def WEnd (w : World) (O : Nat → Prop) (d : Nat) (its0 F : List It) (p q : Value) (e : Ending) (v' : World) : Prop :=
  ∃ a n k b n' k', e = .returned (.agg #[.slice a n k, .slice b n' k']) ∧ (v'.cell? ⟨w.heap.size, 0, none⟩ = some p ∧ v'.cell? ⟨w.heap.size, 1, none⟩ = some q ∧ v'.frozen? ⟨w.heap.size, 0, none⟩ = false ∧ v'.frozen? ⟨w.heap.size, 1, none⟩ = false) ∧ (v'.cell? ⟨w.heap.size + 1 + 1, 0, none⟩ = some (.slice none 0 0) ∧ v'.cell? ⟨w.heap.size + 1 + 1, 1, none⟩ = some (.slice none 0 0) ∧ v'.frozen? ⟨w.heap.size + 1 + 1, 0, none⟩ = false ∧ v'.frozen? ⟨w.heap.size + 1 + 1, 1, none⟩ = false) ∧ Hid (WithP w O d its0 F (.returned (.agg #[.slice a n k, .slice b n' k'])) ((((v'.setCell ⟨w.heap.size, 0, none⟩ (.slice a n k)).setCell ⟨w.heap.size, 1, none⟩ (.slice b n' k')).setCell ⟨w.heap.size + 1 + 1, 0, none⟩ (.slice a n k)).setCell ⟨w.heap.size + 1 + 1, 1, none⟩ (.slice b n' k')))
theorem w_end {w v v' : World} {O : Nat → Prop} {z d : Nat} {its its0 F : List It} {kids : List (BT (d + 1))} {p q : Value} {e : Ending} (h : TellsV w v O z d its kids p q e v') (hb : Below w.heap.size w v) (hz : w.heap.size + 4 = z) (hf : kids.length = its.length + 1) (hk : ∀ k ∈ kids, Fine d k) (hl : its.length ≤ its0.length + 1) (hF : flat (d + 1) (BT.mk its kids) = F) : WEnd w O d its0 F p q e v' := by
  obtain ⟨a, n, k, b, n', k', rfl, q1, q2, q3, q4, _⟩ := h
  exact ⟨a, n, k, b, n', k', rfl, q1, q2, with_end (q3.var2 (Nat.le_refl _) (by omega)) (set2_below (below_tr hb q4) (Nat.le_refl _)) (by omega) (by omega) hf hk hl hF⟩
theorem NV.set {v : World} {b : Nat} {p q x y : Value} (h : NV v b p q) : NV ((v.setCell ⟨b, 0, none⟩ x).setCell ⟨b, 1, none⟩ y) b x y := set2_at h
theorem NV.other {v : World} {b c : Nat} {p q x y : Value} (h : NV v b p q) (hn : b ≠ c) : NV ((v.setCell ⟨c, 0, none⟩ x).setCell ⟨c, 1, none⟩ y) b p q := (set2_ne hn).trans h
section
variable {w : World} {O : Nat → Prop} {d i : Nat} {its : List It} {kids : List (BT (d + 1))} {vi vk ci ck : Value} {k' : BT (d + 1)}
set_option maxHeartbeats 12800000 in
set_option maxRecDepth 100000 in
theorem with_t (ht : NP w O (d + 1) its kids vi vk) (hf : kids.length = its.length + 1) (hk : ∀ k ∈ kids, Fine d k) (h1 : 1 ≤ its.length) (h15 : its.length ≤ 15) (hi : i < kids.length) (hk' : NodeAt w O d k' ci ck) (hs : Shp d k') (hl : k'.its.length ≤ 16) :
    Calls Tryz.prog 37 #[.agg #[vi, vk], .int .i64 (i : Int), .agg #[ci, ck]] w fun e w' => WithP w O d its (flat (d + 1) (BT.mk its (kids.take i ++ k' :: kids.drop (i + 1)))) e w' := by
  obtain ⟨ia, ik, ka, kk, rfl, rfl⟩ := ht.slices
  obtain ⟨cia, cik, cka, ckk, rfl, rfl⟩ := one_cells hk'
  obtain ⟨W0, hW0⟩ : ∃ W0, W0 = ((w.alloc (.cells #[.slice ia its.length ik, .slice ka kids.length kk] 54)).alloc (.cells #[.slice cia k'.its.length cik, .slice cka k'.kids.length ckk] 54)).alloc (.cells #[.slice none 0 0, .slice none 0 0] 54) := ⟨_, rfl⟩
  have hz0 : W0.heap.size = w.heap.size + 1 + 1 + 1 := by rw [hW0, World.size_alloc, World.size_alloc, World.size_alloc]
  have hb0 : Below w.heap.size w W0 := by rw [hW0]; exact (((Below.refl _ _).alloc (Nat.le_refl _) _).alloc (by simp) _).alloc (by simp; omega) _
  have v3 : NV W0 w.heap.size (.slice ia its.length ik) (.slice ka kids.length kk) := by
    rw [hW0]; exact ((NV.new w _ _).below ((Below.refl _ _).alloc (Nat.le_refl _) _)).below ((Below.refl _ _).alloc (Nat.le_refl _) _)
  have v5 : NV W0 (w.heap.size + 1) (.slice cia k'.its.length cik) (.slice cka k'.kids.length ckk) := by
    have := NV.new (w.alloc (.cells #[.slice ia its.length ik, .slice ka kids.length kk] 54)) (.slice cia k'.its.length cik) (.slice cka k'.kids.length ckk)
    rw [World.size_alloc] at this
    rw [hW0]; exact this.below ((Below.refl _ _).alloc (Nat.le_refl _) _)
  have v6 : NV W0 (w.heap.size + 1 + 1) (.slice none 0 0) (.slice none 0 0) := by
    have := NV.new ((w.alloc (.cells #[.slice ia its.length ik, .slice ka kids.length kk] 54)).alloc (.cells #[.slice cia k'.its.length cik, .slice cka k'.kids.length ckk] 54)) (.slice none 0 0) (.slice none 0 0)
    rw [World.size_alloc, World.size_alloc] at this
    rw [hW0]; exact this
  obtain ⟨W1, hW1⟩ : ∃ W1, W1 = W0.alloc (.cells #[.slice cia k'.its.length cik, .slice cka k'.kids.length ckk] 54) := ⟨_, rfl⟩
  have hb1 : Below W0.heap.size W0 W1 := by rw [hW1]; exact (Below.refl _ _).alloc (Nat.le_refl _) _
  have vc : NV W1 (w.heap.size + 1 + 1 + 1) (.slice cia k'.its.length cik) (.slice cka k'.kids.length ckk) := by rw [hW1, ← hz0]; exact NV.new _ _ _
  have hz1 : W1.heap.size = w.heap.size + 4 := by rw [hW1]; simp; omega
  have hbw := below_tr hb0 hb1
  have HC : Hid (Calls Tryz.prog 52 #[.slice ka kids.length kk, .int .i64 (i : Int), .int .i64 ((i : Int) + 1), .slice (some ⟨w.heap.size + 1 + 1 + 1, 0, none⟩) 1 1] W1 fun e w1 => ∃ b n c, e = .returned (.slice b n c) ∧ (w1.cell? ⟨w.heap.size, 1, none⟩ = some (.slice ka kids.length kk) ∧ w1.frozen? ⟨w.heap.size, 1, none⟩ = false) ∧ Hid (NP w1 (Ow w O W1.heap.size) (d + 1) its (kids.take i ++ k' :: kids.drop (i + 1)) (.slice ia its.length ik) (.slice b n c) ∧ Below W1.heap.size W1 w1)) := by
    refine (setkid_t (ht.lt.below hbw) (hk'.lt.below hbw) vc ⟨rfl, rfl⟩ hi (by omega)).mono ?_
    rintro e w1 ⟨b, n, c, rfl, q1, q2⟩
    have := ((v3.below hb1).below q2).cells
    exact ⟨b, n, c, rfl, ⟨this.2.1, this.2.2.2⟩, q1, q2⟩
  have HV := hide (And.intro (v3.below hb1) (And.intro (v5.below hb1) (And.intro (v6.below hb1) (And.intro hbw (And.intro hz1 hz0)))))
  have HK := hide (And.intro hf (And.intro hk (And.intro h1 (And.intro h15 (And.intro hi (And.intro hs hl))))))
  have hwi : IntKind.i64.wrap ((i : Int) + 1) = (i : Int) + 1 := by rw [IntKind.wrap_i64] <;> omega
  have hl16 : (k'.its.length : Int) ≤ 16 := by omega
  have hl15 : (its.length : Int) ≤ 15 := by omega
  have hl1 : (1 : Int) ≤ (its.length : Int) := by omega
  clear ht hf hk h1 h15 hi hk' hs hl hb0 v3 v5 v6 hb1 vc hbw hz1 hz0
  go_enter Tryz.func37, Tryz.ntmps37
  go_upto_region 2 with (go_at_call 52; rw [← hW0, ← hW1]; refine (unhide HC).mono ?_; rintro e w1 ⟨xb, xn, xc, rfl, ⟨c1, f1⟩, HP⟩; clear HC)
  obtain ⟨w2, hw2⟩ : ∃ w2, w2 = w1.setCell ⟨w.heap.size, 1, none⟩ (.slice xb xn xc) := ⟨_, rfl⟩
  have H2 : Hid (NP w2 (Ow w O W1.heap.size) (d + 1) its (kids.take i ++ k' :: kids.drop (i + 1)) (.slice ia its.length ik) (.slice xb xn xc) ∧ NV w2 w.heap.size (.slice ia its.length ik) (.slice xb xn xc) ∧ NV w2 (w.heap.size + 1) (.slice cia k'.its.length cik) (.slice cka k'.kids.length ckk) ∧ NV w2 (w.heap.size + 1 + 1) (.slice none 0 0) (.slice none 0 0) ∧ Below w.heap.size w w2 ∧ W1.heap.size ≤ w2.heap.size ∧ w.heap.size + 4 = W1.heap.size) := by
    obtain ⟨v3, v5, v6, hb, hz1, hz0⟩ := unhide HV
    obtain ⟨q1, q2⟩ := unhide HP
    rw [hw2]
    refine ⟨q1.keep (by simp) (fun g hg _ => Below.heap_setCell _ ⟨w.heap.size, 1, none⟩ _ g (Ow.var (b := w.heap.size) hg (Nat.le_refl _) (by omega))), (heap_set_at (v3.below q2) _ _).trans rfl, (Below.heap_setCell _ ⟨w.heap.size, 1, none⟩ _ _ (by simp)).trans (v5.below q2), (Below.heap_setCell _ ⟨w.heap.size, 1, none⟩ _ _ (by simp; omega)).trans (v6.below q2), (below_tr hb q2).setCell (p := ⟨w.heap.size, 1, none⟩) (Nat.le_refl _) _, by simpa using q2.size, hz1.symm⟩
  rw [← hw2]
  clear hw2 hW0 hW1 c1 f1 HP HV
  obtain ⟨z, hz⟩ : ∃ z, z = W1.heap.size := ⟨_, rfl⟩
  rw [← hz] at H2
  clear hz
  obtain ⟨c30, c31, f30, f31⟩ := (unhide H2).2.1.cells
  obtain ⟨c50, c51, _, _⟩ := (unhide H2).2.2.1.cells
  obtain ⟨c60, c61, f60, f61⟩ := (unhide H2).2.2.2.1.cells
  by_cases h7 : k'.its.length < 7
  · have h7i : (k'.its.length : Int) < 7 := by omega
    obtain ⟨j, hj⟩ : ∃ j, j = min i (its.length - 1) := ⟨_, rfl⟩
    have hji : (if (its.length : Int) - 1 < (i : Int) then (its.length : Int) - 1 else (i : Int)) = (j : Int) := by split <;> omega
    have hwl : IntKind.i64.wrap ((its.length : Int) - 1) = (its.length : Int) - 1 := by rw [IntKind.wrap_i64] <;> omega
    have hlen : (kids.take i ++ k' :: kids.drop (i + 1)).length = its.length + 1 := by
      have h1 := (unhide HK).2.2.2.2.1
      have h2 := (unhide HK).1
      simp; omega
    obtain ⟨l, r, x, hl, hr, hx, sl, sr, l15, r15, lr1, lr2, hfine⟩ := few_plan (unhide HK).1 (unhide HK).2.1 (unhide HK).2.2.1 (unhide HK).2.2.2.2.1 (unhide HK).2.2.2.2.2.1 h7 hj
    obtain ⟨F, hF⟩ : ∃ F, F = flat (d + 1) (BT.mk its (kids.take i ++ k' :: kids.drop (i + 1))) := ⟨_, rfl⟩
    have HF := hide hF
    obtain ⟨kids1, hk1⟩ : ∃ kids1, kids1 = kids.take i ++ k' :: kids.drop (i + 1) := ⟨_, rfl⟩
    rw [← hk1] at hl hr hlen H2 hfine hF
    obtain ⟨kids2, hk2⟩ : ∃ kids2, kids2 = kids1.take j ++ bothT l x r :: kids1.drop (j + 2) := ⟨_, rfl⟩
    obtain ⟨its2, hi2⟩ : ∃ its2, its2 = its.take j ++ its.drop (j + 1) := ⟨_, rfl⟩
    have hjl : j < its.length := (List.getElem?_eq_some_iff.1 hx).1
    have hflat : flat (d + 1) (BT.mk its2 kids2) = F := by rw [hi2, hk2, hF]; exact flat_join hlen hl hr hx sl sr
    have hlen2 : kids2.length = its2.length + 1 := by rw [hk2, hi2]; simp; omega
    have hil2 : its2.length ≤ its.length := by rw [hi2]; simp; omega
    have hjl2 : j ≤ its2.length := by rw [hi2]; simp; omega
    have hget2 : kids2[j]? = some (bothT l x r) := by rw [hk2, List.getElem?_append_right (by rw [List.length_take]; omega), List.length_take, show j - min j kids1.length = 0 by omega]; rfl
    have hsb : Shp d (bothT l x r) := shp_both sl sr
    have hbl : (bothT l x r).its.length = l.its.length + r.its.length + 1 := by show (l.its ++ x :: r.its).length = _; rw [List.length_append, List.length_cons]; omega
    have hkl : ∀ {t : BT (d + 1)}, Shp d t → t.its.length ≤ 15 → t.kids.length ≤ 50 := fun {t} h1 h2 => by
      rcases shp_kids h1 with h | h
      · rw [h]; simp
      · omega
    have HJ : Hid (Calls Tryz.prog 53 #[.agg #[.slice ia its.length ik, .slice xb xn xc], .int .i64 (j : Int)] w2 (TellsV w w2 O z d its2 kids2 (.slice ia its.length ik) (.slice xb xn xc))) := by
      obtain ⟨u1, u2, u3, u4, u5, u6, u7⟩ := unhide H2
      have := (unhide HK).2.2.2.1
      rw [hi2, hk2]
      exact (joined_t u1 hl hr hx ⟨by omega, by rw [hlen]; omega, by omega, hkl sl l15, by omega, hkl sr r15⟩).mono fun e w3 ht => tells_v ht u2 u4 u6
    have HQ : Hid (∀ (w3 : World) (a b : Option Addr) (n k n' k2 : Nat), NP w3 (Ow w O z) (d + 1) its2 kids2 (.slice a n k) (.slice b n' k2) → Below w2.heap.size w2 w3 → NV w3 w.heap.size (.slice ia its.length ik) (.slice xb xn xc) → NV w3 (w.heap.size + 1 + 1) (.slice none 0 0) (.slice none 0 0) → Calls Tryz.prog 38 #[.agg #[.slice a n k, .slice b n' k2], .int .i64 (j : Int)] ((w3.setCell ⟨w.heap.size, 0, none⟩ (.slice a n k)).setCell ⟨w.heap.size, 1, none⟩ (.slice b n' k2)) (WEnd w O d its F (.slice a n k) (.slice b n' k2))) := by
      intro w3 a b n k n' k2 hp hb3 hv3 hv6
      obtain ⟨u1, u2, u3, u4, u5, u6, u7⟩ := unhide H2
      have h15 := (unhide HK).2.2.2.1
      have hp4 := hp.var2 (x := .slice a n k) (y := .slice b n' k2) (Nat.le_refl _) (by omega : w.heap.size < z)
      have hb4 : Below w.heap.size w ((w3.setCell ⟨w.heap.size, 0, none⟩ (.slice a n k)).setCell ⟨w.heap.size, 1, none⟩ (.slice b n' k2)) := set2_below (below_tr u5 hb3) (Nat.le_refl _)
      have hz4 : z ≤ ((w3.setCell ⟨w.heap.size, 0, none⟩ (.slice a n k)).setCell ⟨w.heap.size, 1, none⟩ (.slice b n' k2)).heap.size := by rw [set2_size]; exact Nat.le_trans u6 hb3.size
      by_cases hbig : 15 < (bothT l x r).its.length
      · have hy : (bothT l x r).its[(bothT l x r).its.length / 2]? = some ((bothT l x r).its[(bothT l x r).its.length / 2]'(by omega)) := List.getElem?_eq_getElem _
        have hfc := fine_cut hsb hy hbig (by omega)
        refine (parted_t hp4 hget2 hsb hbig hy hjl2 ⟨by omega, by rw [hlen2]; omega, by omega⟩).mono fun e w5 ht => w_end (tells_v ht hv3.set (hv6.other (by omega)) hz4) hb4 (by omega) ?_ (fun q hq => ?_) ?_ ((flat_part hlen2 hget2 hsb hy).trans hflat)
        · simp; omega
        · have ht2 : kids2.take j = kids1.take j := by rw [hk2, List.take_append_of_le_length (by rw [List.length_take]; omega), List.take_take]; congr 1; omega
          have hd2 : kids2.drop (j + 1) = kids1.drop (j + 2) := by
            rw [hk2, List.drop_append, List.length_take, List.drop_eq_nil_of_le (by rw [List.length_take]; omega), show j + 1 - min j kids1.length = 0 + 1 by omega]; rfl
          rw [ht2, hd2] at hq
          rcases List.mem_append.1 hq with h | h
          · exact hfine q (List.mem_append.2 (.inl h))
          · rcases List.mem_cons.1 h with rfl | h
            · exact hfc.1
            · rcases List.mem_cons.1 h with rfl | h
              · exact hfc.2
              · exact hfine q (List.mem_append.2 (.inr h))
        · simp; omega
      · refine (parted_t0 hp4 hget2 (by omega)).mono fun e w5 ht => w_end (tells_v ht hv3.set (hv6.other (by omega)) hz4) hb4 (by omega) hlen2 (fun q hq => ?_) (by omega) hflat
        rw [hk2] at hq
        rcases List.mem_append.1 hq with h | h
        · exact hfine q (List.mem_append.2 (.inl h))
        · rcases List.mem_cons.1 h with rfl | h
          · exact ⟨hsb, by omega, by omega⟩
          · exact hfine q (List.mem_append.2 (.inr h))
    clear HK H2 hlen hj hl hr hx sl sr l15 r15 lr1 lr2 hfine hF hk1 hk2 hi2 hjl hflat hlen2 hil2 hjl2 hget2 hsb hbl hkl h7
    go_wp2_with (first
      | (go_at_call 53; refine (unhide HJ).mono ?_; rintro e w3 ⟨a, n, k, b, n', k2, rfl, ⟨r30, r31, g30, g31⟩, ⟨r60, r61, g60, g61⟩, H3⟩; have HQ1 := hide (unhide HQ w3 a b n k n' k2 (unhide H3).1 (unhide H3).2.1 (unhide H3).2.2.1 (unhide H3).2.2.2); clear HJ HQ)
      | (go_at_call 38; refine (unhide HQ1).mono ?_; rintro e w5 ⟨a5, n5, k5, b5, n5', k5', rfl, ⟨s30, s31, t30, t31⟩, ⟨s60, s61, t60, t61⟩, H5⟩; clear HQ1))
    refine bodyPost_ret (v := .agg #[.slice a5 n5 k5, .slice b5 n5' k5']) ?_ rfl ?_
    · rw [results_cell1' rfl]
      go_simp
    rw [← unhide HF]
    exact unhide H5
  · have h7i : ¬ ((k'.its.length : Int) < 7) := by omega
    have hget : (kids.take i ++ k' :: kids.drop (i + 1))[i]? = some k' := by
      have := (unhide HK).2.2.2.2.1
      rw [List.getElem?_append_right (by rw [List.length_take]; omega), List.length_take, show i - min i kids.length = 0 by omega]; rfl
    have hlen : (kids.take i ++ k' :: kids.drop (i + 1)).length = its.length + 1 := by
      have h1 := (unhide HK).2.2.2.2.1
      have h2 := (unhide HK).1
      simp; omega
    by_cases hb : 15 < k'.its.length
    · have hbi : (k'.its.length : Int) > 15 := by omega
      have hbi' : (15 : Int) < (k'.its.length : Int) := by omega
      have hy : k'.its[k'.its.length / 2]? = some (k'.its[k'.its.length / 2]'(by omega)) := List.getElem?_eq_getElem _
      generalize k'.its[k'.its.length / 2]'(by omega) = y at hy
      have HPa : Hid (Calls Tryz.prog 38 #[.agg #[.slice ia its.length ik, .slice xb xn xc], .int .i64 (i : Int)] w2 (TellsV w w2 O z d (its.take i ++ y :: its.drop i) ((kids.take i ++ k' :: kids.drop (i + 1)).take i ++ leftT k' :: rightT k' :: (kids.take i ++ k' :: kids.drop (i + 1)).drop (i + 1)) (.slice ia its.length ik) (.slice xb xn xc))) := by
        obtain ⟨g1, g2, g3, g4, g5, g6, g7⟩ := unhide HK
        obtain ⟨u1, u2, u3, u4, u5, u6, u7⟩ := unhide H2
        exact (parted_t u1 hget g6 hb hy (by omega) ⟨by omega, by rw [hlen]; omega, by omega⟩).mono fun e w3 ht => tells_v ht u2 u4 u6
      have HFin : Hid (∀ (w3 : World) (a b : Option Addr) (n k n' k2 : Nat), NP w3 (Ow w O z) (d + 1) (its.take i ++ y :: its.drop i) ((kids.take i ++ k' :: kids.drop (i + 1)).take i ++ leftT k' :: rightT k' :: (kids.take i ++ k' :: kids.drop (i + 1)).drop (i + 1)) (.slice a n k) (.slice b n' k2) → Below w2.heap.size w2 w3 → WithP w O d its (flat (d + 1) (BT.mk its (kids.take i ++ k' :: kids.drop (i + 1)))) (.returned (.agg #[.slice a n k, .slice b n' k2])) (((((w3.setCell ⟨w.heap.size, 0, none⟩ (.slice a n k)).setCell ⟨w.heap.size, 1, none⟩ (.slice b n' k2)).setCell ⟨w.heap.size + 1 + 1, 0, none⟩ (.slice a n k)).setCell ⟨w.heap.size + 1 + 1, 1, none⟩ (.slice b n' k2)))) := by
        intro w3 a b n k n' k2 hp hb3
        obtain ⟨g1, g2, g3, g4, g5, g6, g7⟩ := unhide HK
        obtain ⟨u1, u2, u3, u4, u5, u6, u7⟩ := unhide H2
        have hfc := fine_cut g6 hy hb (by omega)
        refine with_end (hp.var2 (Nat.le_refl _) (by omega)) (set2_below (below_tr u5 hb3) (Nat.le_refl _)) (by omega) (by omega) ?_ (fun q hq => ?_) ?_ (flat_part hlen hget g6 hy)
        · simp; omega
        · have hmem : ∀ q, q ∈ (kids.take i ++ k' :: kids.drop (i + 1)) → q = k' ∨ q ∈ kids := fun q hq => by
            rcases List.mem_append.1 hq with h | h
            · exact .inr (List.mem_of_mem_take h)
            · rcases List.mem_cons.1 h with h | h
              · exact .inl h
              · exact .inr (List.mem_of_mem_drop h)
          have ht : (kids.take i ++ k' :: kids.drop (i + 1)).take i = kids.take i := by rw [List.take_append_of_le_length (by rw [List.length_take]; omega), List.take_take]; congr 1; omega
          have hd : (kids.take i ++ k' :: kids.drop (i + 1)).drop (i + 1) = kids.drop (i + 1) := by
            rw [List.drop_append, List.length_take, List.drop_eq_nil_of_le (by rw [List.length_take]; omega), show i + 1 - min i kids.length = 1 by omega]; rfl
          rw [ht, hd] at hq
          rcases List.mem_append.1 hq with h | h
          · exact g2 q (List.mem_of_mem_take h)
          · rcases List.mem_cons.1 h with rfl | h
            · exact hfc.1
            · rcases List.mem_cons.1 h with rfl | h
              · exact hfc.2
              · exact g2 q (List.mem_of_mem_drop h)
        · simp; omega
      clear HK H2 hget hlen hy hb h7
      go_wp2_with (go_at_call 38; refine (unhide HPa).mono ?_; rintro e w3 ⟨a, n, k, b, n', k2, rfl, ⟨r30, r31, g30, g31⟩, ⟨r60, r61, g60, g61⟩, H3⟩; clear HPa)
      refine bodyPost_ret (v := .agg #[.slice a n k, .slice b n' k2]) ?_ rfl ?_
      · rw [results_cell1' rfl]
        go_simp
      exact unhide HFin w3 a b n k n' k2 (unhide H3).1 (unhide H3).2.1
    · have hbi : ¬ ((k'.its.length : Int) > 15) := by omega
      have hbi' : ¬ ((15 : Int) < (k'.its.length : Int)) := by omega
      have HFin : Hid (WithP w O d its (flat (d + 1) (BT.mk its (kids.take i ++ k' :: kids.drop (i + 1)))) (.returned (.agg #[.slice ia its.length ik, .slice xb xn xc])) ((w2.setCell ⟨w.heap.size + 1 + 1, 0, none⟩ (.slice ia its.length ik)).setCell ⟨w.heap.size + 1 + 1, 1, none⟩ (.slice xb xn xc))) := by
        obtain ⟨g1, g2, g3, g4, g5, g6, g7⟩ := unhide HK
        obtain ⟨u1, u2, u3, u4, u5, u6, u7⟩ := unhide H2
        refine with_end u1 u5 (by omega) (by omega) hlen (fun q hq => ?_) (by omega) rfl
        rcases List.mem_append.1 hq with h | h
        · exact g2 q (List.mem_of_mem_take h)
        · rcases List.mem_cons.1 h with rfl | h
          · exact ⟨g6, by omega, by omega⟩
          · exact g2 q (List.mem_of_mem_drop h)
      clear HK H2 hget hlen hb h7
      go_wp2_with fail
      refine bodyPost_ret (v := .agg #[.slice ia its.length ik, .slice xb xn xc]) ?_ rfl ?_
      · rw [results_cell1' rfl]
        go_simp
      exact unhide HFin
end
end Go.Proofs.YtlmjmhpdpgeplaaGreatDoor
