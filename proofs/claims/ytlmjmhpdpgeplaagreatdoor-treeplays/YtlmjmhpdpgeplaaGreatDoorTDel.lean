/- A node's del: the node without a key. -/
import Derived.Test.YtlmjmhpdpgeplaaGreatDoorTLeast
namespace Go.Proofs.YtlmjmhpdpgeplaaGreatDoor
open Go.RowKit Go.Lib

theorem del_list {its : List It} {k : ByteArray} {i : Nat} (hp : PlaceAt its k i) (hq : hereB its k i = true) : delL k its = its.take i ++ its.drop (i + 1) := by
  obtain ⟨h1, h2, h3⟩ := hp
  obtain ⟨y, hy, hy0⟩ := here_some hq
  have hl : ∀ y ∈ its.take i, kc y.1 k < 0 := fun y hy => by
    obtain ⟨t, ht⟩ := List.getElem?_of_mem hy
    rw [List.getElem?_take] at ht
    split at ht
    · exact h2 t y ht (by assumption)
    · cases ht
  conv => lhs; rw [← List.take_append_drop i its]
  obtain ⟨q1, q2⟩ := List.getElem?_eq_some_iff.1 hy
  rw [delL_left _ hl, List.drop_eq_getElem_cons q1, q2, delL, if_neg (by omega), if_pos hy0]
theorem del_last {K : List It} {x : It} (h : Srt (K ++ [x])) : delL x.1 (K ++ [x]) = K := by
  rw [delL_left _ (fun y hy => (List.pairwise_append.1 h).2.2 y hy x (List.mem_singleton.2 rfl)), delL, if_neg (by rw [kc_self]; omega), if_pos (kc_self _), List.append_nil]
theorem del_mid {A K B : List It} {k : ByteArray} (hA : ∀ y ∈ A, kc y.1 k < 0) (hB : ∀ y ∈ B, kc k y.1 < 0) : delL k (A ++ K ++ B) = A ++ delL k K ++ B := by
  rw [delL_right _ hB, delL_left _ hA]
section
variable {d i : Nat} {its : List It} {kids : List (BT (d + 1))} {key : ByteArray} {k : BT (d + 1)}
theorem behind_out {A B K : List It} (hs : Srt (A ++ K ++ B)) (hp : PlaceAt its key i) (hq : hereB its key i = false) (e4 : i = its.length ∧ B = [] ∨ ∃ y B', its[i]? = some y ∧ B = y :: B') : ∀ z ∈ B, kc key z.1 < 0 := fun z hz => by
  rcases e4 with ⟨_, rfl⟩ | ⟨y, B', hy, rfl⟩
  · cases hz
  · have hxy := here_none hp hq hy
    rcases List.mem_cons.1 hz with rfl | hz
    · exact hxy
    · exact kc_lt_trans hxy ((List.pairwise_cons.1 (List.pairwise_append.1 hs).2.1).1 z hz)
/-- Not here: in the kid, or nowhere. -/
theorem del_in (hn : kids.length = its.length + 1) (hs : Srt (flat (d + 1) (BT.mk its kids))) (hp : PlaceAt its key i) (hk : kids[i]? = some k) (hq : hereB its key i = false) :
    hasL key (flat d k) = hasL key (flat (d + 1) (BT.mk its kids)) ∧ ∀ k' : BT (d + 1), flat d k' = delL key (flat d k) → flat (d + 1) (BT.mk its (kids.take i ++ k' :: kids.drop (i + 1))) = delL key (flat (d + 1) (BT.mk its kids)) := by
  obtain ⟨A, B, e1, e2, e3, e4⟩ := place_split hn hs hp hk
  have hB := behind_out (by rw [← e1]; exact hs) hp hq (e4.imp id (fun ⟨y, B', h1, h2, _⟩ => ⟨y, B', h1, h2⟩))
  refine ⟨by rw [e1, has_mid e3 hB], fun k' hk' => ?_⟩
  rw [e2, e1, del_mid e3 hB, hk']
theorem around2 {y : It} (hn : kids.length = its.length + 1) (hk : kids[i]? = some k) (hy : its[i]? = some y) :
    ∃ A B, flat (d + 1) (BT.mk its kids) = A ++ flat d k ++ y :: B ∧ ∀ (x : It) (k' : BT (d + 1)), flat (d + 1) (BT.mk (its.take i ++ x :: its.drop (i + 1)) (kids.take i ++ k' :: kids.drop (i + 1))) = A ++ flat d k' ++ x :: B := by
  have hil := (List.getElem?_eq_some_iff.1 hy).1
  obtain ⟨A, B, e1, e2, e3, _⟩ := flat_around (t := BT.mk its kids) hn hk
  simp only [BT.its_mk, BT.kids_mk] at e2 e3
  have hd : its.drop i = y :: its.drop (i + 1) := by
    obtain ⟨q1, q2⟩ := List.getElem?_eq_some_iff.1 hy
    rw [List.drop_eq_getElem_cons q1, q2]
  refine ⟨A, weave (its.drop (i + 1)) ((kids.drop (i + 1)).map (flat d)), by rw [e1, e3, hd]; rfl, fun x k' => ?_⟩
  have hn2 : kids.length = (its.take i ++ x :: its.drop (i + 1)).length + 1 := by simp; omega
  obtain ⟨A2, B2, f1, f2, f3, f4⟩ := flat_around (t := BT.mk (its.take i ++ x :: its.drop (i + 1)) kids) hn2 hk
  simp only [BT.its_mk, BT.kids_mk] at f2 f3 f4
  have hta : (its.take i ++ x :: its.drop (i + 1)).take i = its.take i := by rw [List.take_append_of_le_length (by simp; omega), List.take_take]; congr 1; omega
  have htd : (its.take i ++ x :: its.drop (i + 1)).drop i = x :: its.drop (i + 1) := by rw [List.drop_append, List.length_take, List.drop_eq_nil_of_le (by simp; omega), show i - min i its.length = 0 by omega]; rfl
  rw [hta] at f2
  rw [htd] at f3
  rw [f4, f2, f3, ← e2]; rfl
/-- Here: the last item ahead of it takes its place. -/
theorem del_here {x : It} {K : List It} (hn : kids.length = its.length + 1) (hs : Srt (flat (d + 1) (BT.mk its kids))) (hk : kids[i]? = some k) (hq : hereB its key i = true) (hx : flat d k = K ++ [x]) :
    hasL key (flat (d + 1) (BT.mk its kids)) = true ∧ hasL x.1 (flat d k) = true ∧ ∀ k' : BT (d + 1), flat d k' = delL x.1 (flat d k) → flat (d + 1) (BT.mk (its.take i ++ x :: its.drop (i + 1)) (kids.take i ++ k' :: kids.drop (i + 1))) = delL key (flat (d + 1) (BT.mk its kids)) := by
  obtain ⟨y, hy, hy0⟩ := here_some hq
  obtain ⟨A, B, e1, e2⟩ := around2 hn hk hy
  rw [e1] at hs
  have hsK : Srt (K ++ [x]) := by rw [hx] at hs; exact (List.pairwise_append.1 (List.pairwise_append.1 hs).1).2.1
  have he := kc_eq hy0
  refine ⟨List.any_eq_true.2 ⟨y, by rw [e1]; simp, by simp [hy0]⟩, List.any_eq_true.2 ⟨x, by rw [hx]; simp, by simp [kc_self]⟩, fun k' hk' => ?_⟩
  have hall : ∀ z ∈ A ++ flat d k, kc z.1 key < 0 := fun z hz => by
    rw [← he]
    exact (List.pairwise_append.1 hs).2.2 z hz y (List.mem_cons_self ..)
  rw [e2, e1, delL_left _ hall, delL, if_neg (by omega), if_pos hy0, hk', hx, del_last hsK]
  simp
end
/-- A chain does not lie in a variable of a node's. -/
theorem Chn.varN {w : World} {c : Int} {b : Nat} {x y u v : Value} (hb : NV w b x y) (hy : ∀ T z, y ≠ .iface T z) : ∀ {n : Nat} {e : Value}, Chn w c n e → Chn ((w.setCell ⟨b, 0, none⟩ u).setCell ⟨b, 1, none⟩ v) c n e
  | 0, _, h => h
  | _ + 1, _, ⟨T, p, e', hT, h1, h2, h3, h4⟩ => by
    have hne : p ≠ b := by
      rintro rfl
      rw [cellB2 hb 1] at h3
      cases h3
      obtain ⟨_, _, hx⟩ := h4.iface
      exact hy _ _ hx
    exact ⟨T, p, e', hT, h1, by simpa using h2, (World.cell?_of_block (set2_ne hne)).trans h3, h4.varN hb hy⟩
/-- What del tells: a node of the same height without the key, or that it isn't there. -/
def DelP (w : World) (O : Nat → Prop) (d : Nat) (F : List It) (key : ByteArray) (e : Ending) (w' : World) : Prop :=
  ∃ (a b : Option Addr) (n k n' k' : Nat) (v : Value), e = .returned (.tuple #[.agg #[.slice a n k, .slice b n' k'], v]) ∧ Below w.heap.size w w' ∧ ((hasL key F = true ∧ v = .nilIface ∧ ∃ its kids, n = its.length ∧ n' = kids.length ∧ NP w' (OrN O w.heap.size) d its kids (.slice a n k) (.slice b n' k') ∧ Shp d (BT.mk its kids) ∧ its.length ≤ 16 ∧ flat d (BT.mk its kids) = delL key F) ∨ (hasL key F = false ∧ a = none ∧ n = 0 ∧ k = 0 ∧ b = none ∧ n' = 0 ∧ k' = 0 ∧ ∃ m, Chn w' 40 (m + 1) v))
section
variable {w : World} {O : Nat → Prop} {vi vk : Value} {key : ByteArray} {F : List It}
set_option maxHeartbeats 12800000 in
set_option maxRecDepth 100000 in
theorem del_0 {its : List It} {kids : List (BT 0)} (ht : NP w O 0 its kids vi vk) (hs : Shp 0 (BT.mk its kids)) (h15 : its.length ≤ 15) (hFf : flat 0 (BT.mk its kids) = F) (hF : Srt F) :
    Calls Tryz.prog 22 #[.agg #[vi, vk], .string key] w (DelP w O 0 F key) := by
  obtain ⟨ia, ik, ka, kk, rfl, rfl⟩ := ht.slices
  have hsi : Srt its := srt_its (d := 0) (t := BT.mk its kids) (by rw [hFf]; exact hF)
  obtain ⟨W0, hW0⟩ : ∃ W0, W0 = (w.alloc (.cells #[.slice ia its.length ik, .slice ka kids.length kk] 54)).alloc (.cells #[.slice none 0 0, .slice none 0 0] 54) := ⟨_, rfl⟩
  have hb0 : Below w.heap.size w W0 := by rw [hW0]; exact ((Below.refl _ _).alloc (Nat.le_refl _) _).alloc (by simp) _
  have hz0 : w.heap.size + 2 ≤ W0.heap.size := by rw [hW0, World.size_alloc, World.size_alloc]; omega
  have v2 : NV W0 w.heap.size (.slice ia its.length ik) (.slice ka kids.length kk) := by rw [hW0]; exact (NV.new w _ _).below ((Below.refl _ _).alloc (Nat.le_refl _) _)
  have v3 : NV W0 (w.heap.size + 1) (.slice none 0 0) (.slice none 0 0) := by
    have := NV.new (w.alloc (.cells #[.slice ia its.length ik, .slice ka kids.length kk] 54)) (.slice none 0 0) (.slice none 0 0)
    rw [World.size_alloc] at this
    rw [hW0]; exact this
  have HC : Hid (Calls Tryz.prog 34 #[.agg #[.slice ia its.length ik, .slice ka kids.length kk], .string key] W0 fun e w1 => ∃ i : Nat, e = .returned (.tuple #[.int .i64 (i : Int), .bool (hereB its key i)]) ∧ Hid (PlaceAt its key i) ∧ Hid (Below w.heap.size w w1 ∧ NV w1 w.heap.size (.slice ia its.length ik) (.slice ka kids.length kk) ∧ NV w1 (w.heap.size + 1) (.slice none 0 0) (.slice none 0 0) ∧ w.heap.size + 2 ≤ w1.heap.size)) := by
    refine (find_any _ _ its key W0 ((ht.1.1).below hb0) hsi (by omega)).mono ?_
    rintro e w1 ⟨i, hp, rfl, hb1⟩
    exact ⟨i, rfl, hp, below_tr hb0 hb1, v2.below hb1, v3.below hb1, Nat.le_trans hz0 hb1.size⟩
  have HA := hide (And.intro ht (And.intro hs (And.intro h15 (And.intro hFf hF))))
  clear ht hs h15 hF hFf hsi hb0 v2 v3 hz0
  go_enter Tryz.func22, Tryz.ntmps22
  go_upto_region 2 with (go_at_call 34; rw [← hW0]; refine (unhide HC).mono ?_; rintro e w1 ⟨i, rfl, hp, H1⟩; have HP := hide (unhide hp); clear HC hp)
  clear hW0
  have hil : (i : Int) ≤ 15 := by have := (unhide HP).1; have := (unhide HA).2.2.1; omega
  have hwi : IntKind.i64.wrap ((i : Int) + 1) = (i : Int) + 1 := by rw [IntKind.wrap_i64] <;> omega
  obtain ⟨hq, hhq⟩ : ∃ hq, hq = hereB its key i := ⟨_, rfl⟩
  rw [← hhq]
  have HQ := hide hhq
  clear hhq
  have hlen0 : kids.length = 0 := by have := (unhide HA).2.1; rw [show kids = [] from this]; rfl
  have HH : Hid (hasL key F = hq) := by
    obtain ⟨ht, hs, h15, hFf, hF⟩ := unhide HA
    rw [unhide HQ, ← hFf]
    exact has_list (unhide HP) (by rw [← hFf] at hF; exact hF)
  have HI : Hid (∀ W : World, Hid (Below w.heap.size w W ∧ NV W w.heap.size (.slice ia its.length ik) (.slice ka kids.length kk) ∧ NV W (w.heap.size + 1) (.slice none 0 0) (.slice none 0 0) ∧ w.heap.size + 2 ≤ W.heap.size) → Calls Tryz.prog 36 #[.agg #[.slice ia its.length ik, .slice ka kids.length kk]] W fun e w2 => e = .returned (.bool false) ∧ (w2.cell? ⟨w.heap.size, 0, none⟩ = some (.slice ia its.length ik) ∧ w2.cell? ⟨w.heap.size, 1, none⟩ = some (.slice ka kids.length kk)) ∧ Hid (Below w.heap.size w w2 ∧ NV w2 w.heap.size (.slice ia its.length ik) (.slice ka kids.length kk) ∧ NV w2 (w.heap.size + 1) (.slice none 0 0) (.slice none 0 0) ∧ w.heap.size + 2 ≤ w2.heap.size)) := by
    intro W hW
    obtain ⟨t1, ks, t2, t3⟩ := (unhide HA).1
    obtain ⟨q1, q2, q3, q4⟩ := unhide hW
    refine (inner_any _ _ ks W (t2.1.below q1)).mono ?_
    rintro e w2 ⟨rfl, hb⟩
    have q5 := q2.below hb
    exact ⟨by rw [t3.len, hlen0]; rfl, ⟨q5.cells.1, q5.cells.2.1⟩, below_tr q1 hb, q5, q3.below hb, Nat.le_trans q4 hb.size⟩
  obtain ⟨c20, c21, _, _⟩ := (unhide H1).2.1.cells
  clear hlen0
  cases hq
  · go_upto_region 13 with (go_at_call 36; refine (unhide HI _ (by assumption)).mono ?_; rintro e w2 ⟨rfl, ⟨d0, d1⟩, H2⟩)
    have HWr : Hid (Calls Tryz.prog 40 #[.iface 67 (.int .i64 40), .int .i64 (i : Int)] w2 fun e w5 => ∃ T x, e = .returned (.iface T x) ∧ (w5.cell? ⟨w.heap.size + 1, 0, none⟩ = some (.slice none 0 0) ∧ w5.cell? ⟨w.heap.size + 1, 1, none⟩ = some (.slice none 0 0) ∧ w5.frozen? ⟨w.heap.size + 1, 0, none⟩ = false ∧ w5.frozen? ⟨w.heap.size + 1, 1, none⟩ = false) ∧ Hid (DelP w O 0 F key (.returned (.tuple #[.agg #[.slice none 0 0, .slice none 0 0], .iface T x])) ((w5.setCell ⟨w.heap.size + 1, 0, none⟩ (.slice none 0 0)).setCell ⟨w.heap.size + 1, 1, none⟩ (.slice none 0 0)))) := by
      obtain ⟨q1, q2, q3, q4⟩ := unhide H2
      refine (wrapped_t i (by omega) (n := 0) rfl).mono ?_
      rintro e w5 ⟨T, x, rfl, z1, z2⟩
      have q5 := q3.below z2
      exact ⟨T, x, rfl, q5.cells, none, none, 0, 0, 0, 0, .iface T x, rfl, set2_below (below_tr q1 z2) (by omega), .inr ⟨unhide HH, rfl, rfl, rfl, rfl, rfl, rfl, _, z1.varN q5 (fun _ _ h => by cases h)⟩⟩
    clear HA HP HQ HH HI H1
    go_wp2_with (go_at_call 40; refine (unhide HWr).mono ?_; rintro e w5 ⟨T, x, rfl, ⟨r0, r1, g0, g1⟩, HE⟩; clear HWr)
    refine bodyPost_ret (v := .tuple #[.agg #[.slice none 0 0, .slice none 0 0], .iface T x]) ?_ rfl ?_
    · rw [results_cell_tmp rfl]
      go_simp
    exact unhide HE
  · go_upto_region 12 with (go_at_call 36; refine (unhide HI _ (by assumption)).mono ?_; rintro e w2 ⟨rfl, ⟨d0, d1⟩, H2⟩)
    have HSp : Hid (Calls Tryz.prog 35 #[.slice ia its.length ik, .int .i64 (i : Int), .int .i64 ((i : Int) + 1), .slice none 0 0] w2 fun e w3 => ∃ a n k, e = .returned (.slice a n k) ∧ (w3.cell? ⟨w.heap.size + 1, 0, none⟩ = some (.slice none 0 0) ∧ w3.cell? ⟨w.heap.size + 1, 1, none⟩ = some (.slice none 0 0) ∧ w3.frozen? ⟨w.heap.size + 1, 0, none⟩ = false ∧ w3.frozen? ⟨w.heap.size + 1, 1, none⟩ = false) ∧ Hid (DelP w O 0 F key (.returned (.tuple #[.agg #[.slice a n k, .slice none 0 0], .nilIface])) ((w3.setCell ⟨w.heap.size + 1, 0, none⟩ (.slice a n k)).setCell ⟨w.heap.size + 1, 1, none⟩ (.slice none 0 0)))) := by
      obtain ⟨ht, hs, h15, hFf, hF⟩ := unhide HA
      obtain ⟨q1, q2, q3, q4⟩ := unhide H2
      obtain ⟨y, hy, _⟩ := here_some (unhide HQ).symm
      have hil2 := (List.getElem?_eq_some_iff.1 hy).1
      have h := spliced_item (.slice ia its.length ik) (.slice none 0 0) (its.map itV) [] i (i + 1) w2 (ht.1.1.below q1) (R2.nil _) (by omega) (by rw [List.length_map]; exact hil2) (by simp; omega)
      rw [show ((i + 1 : Nat) : Int) = (i : Int) + 1 by omega] at h
      refine h.mono ?_
      rintro e w3 ⟨v, rfl, r1, r2⟩
      have hlist : (its.map itV).take i ++ [] ++ (its.map itV).drop (i + 1) = (its.take i ++ its.drop (i + 1)).map itV := by simp
      rw [hlist] at r1
      obtain ⟨a, k, rfl, _, _⟩ := id r1.1.slice
      have q5 := q3.below r2
      refine ⟨a, _, k, rfl, q5.cells, a, none, _, k, 0, 0, .nilIface, rfl, set2_below (below_tr q1 r2) (by omega), .inl ⟨unhide HH, rfl, its.take i ++ its.drop (i + 1), [], by rw [List.length_map], rfl, ⟨⟨r1.1.keep (by simp) (fun g hg => set2_ne (by have := r1.2 g hg; omega)), fun g hg => .inr (by have := r1.2 g hg; omega)⟩, [], RO.nil _ _, rfl, rfl⟩, rfl, by simp; omega, ?_⟩⟩
      rw [← hFf]
      exact (del_list (unhide HP) (unhide HQ).symm).symm
    clear HA HP HQ HH HI H1 H2
    go_wp2_with (go_at_call 35; refine (unhide HSp).mono ?_; rintro e w5 ⟨a, n, k, rfl, ⟨r0, r1, g0, g1⟩, HE⟩; clear HSp)
    refine bodyPost_ret (v := .tuple #[.agg #[.slice a n k, .slice none 0 0], .nilIface]) ?_ rfl ?_
    · rw [results_cell_tmp rfl]
      go_simp
    exact unhide HE
end
section
variable {w : World} {O : Nat → Prop} {vi vk : Value} {key : ByteArray} {F : List It}
set_option maxHeartbeats 12800000 in
set_option maxRecDepth 100000 in
theorem del_1 {d : Nat} {its : List It} {kids : List (BT (d + 1))} (ht : NP w O (d + 1) its kids vi vk) (hs : Shp (d + 1) (BT.mk its kids)) (h15 : its.length ≤ 15) (h1 : 1 ≤ its.length) (hFf : flat (d + 1) (BT.mk its kids) = F) (hF : Srt F) (IH : ∀ (k : BT (d + 1)) (key : ByteArray) (ki kk : Value) (O' : Nat → Prop) (W : World), k ∈ kids → NodeAt W O' d k ki kk → Calls Tryz.prog 22 #[.agg #[ki, kk], .string key] W (DelP W O' d (flat d k) key)) :
    Calls Tryz.prog 22 #[.agg #[vi, vk], .string key] w (DelP w O (d + 1) F key) := by
  obtain ⟨ia, ik, ka, kk, rfl, rfl⟩ := ht.slices
  have hsi : Srt its := srt_its (d := (d + 1)) (t := BT.mk its kids) (by rw [hFf]; exact hF)
  obtain ⟨W0, hW0⟩ : ∃ W0, W0 = (w.alloc (.cells #[.slice ia its.length ik, .slice ka kids.length kk] 54)).alloc (.cells #[.slice none 0 0, .slice none 0 0] 54) := ⟨_, rfl⟩
  have hb0 : Below w.heap.size w W0 := by rw [hW0]; exact ((Below.refl _ _).alloc (Nat.le_refl _) _).alloc (by simp) _
  have hz0 : w.heap.size + 2 ≤ W0.heap.size := by rw [hW0, World.size_alloc, World.size_alloc]; omega
  have v2 : NV W0 w.heap.size (.slice ia its.length ik) (.slice ka kids.length kk) := by rw [hW0]; exact (NV.new w _ _).below ((Below.refl _ _).alloc (Nat.le_refl _) _)
  have v3 : NV W0 (w.heap.size + 1) (.slice none 0 0) (.slice none 0 0) := by
    have := NV.new (w.alloc (.cells #[.slice ia its.length ik, .slice ka kids.length kk] 54)) (.slice none 0 0) (.slice none 0 0)
    rw [World.size_alloc] at this
    rw [hW0]; exact this
  have HC : Hid (Calls Tryz.prog 34 #[.agg #[.slice ia its.length ik, .slice ka kids.length kk], .string key] W0 fun e w1 => ∃ i : Nat, e = .returned (.tuple #[.int .i64 (i : Int), .bool (hereB its key i)]) ∧ Hid (PlaceAt its key i) ∧ Hid (Below w.heap.size w w1 ∧ NV w1 w.heap.size (.slice ia its.length ik) (.slice ka kids.length kk) ∧ NV w1 (w.heap.size + 1) (.slice none 0 0) (.slice none 0 0) ∧ w.heap.size + 2 ≤ w1.heap.size)) := by
    refine (find_any _ _ its key W0 ((ht.1.1).below hb0) hsi (by omega)).mono ?_
    rintro e w1 ⟨i, hp, rfl, hb1⟩
    exact ⟨i, rfl, hp, below_tr hb0 hb1, v2.below hb1, v3.below hb1, Nat.le_trans hz0 hb1.size⟩
  have HA := hide (And.intro ht (And.intro hs (And.intro h15 (And.intro hFf hF))))
  have HIH := hide IH
  have H11 := hide h1
  clear IH h1
  clear ht hs h15 hF hFf hsi hb0 v2 v3 hz0
  go_enter Tryz.func22, Tryz.ntmps22
  go_upto_region 2 with (go_at_call 34; rw [← hW0]; refine (unhide HC).mono ?_; rintro e w1 ⟨i, rfl, hp, H1⟩; have HP := hide (unhide hp); clear HC hp)
  clear hW0
  have hil : (i : Int) ≤ 15 := by have := (unhide HP).1; have := (unhide HA).2.2.1; omega
  have hwi : IntKind.i64.wrap ((i : Int) + 1) = (i : Int) + 1 := by rw [IntKind.wrap_i64] <;> omega
  obtain ⟨hq, hhq⟩ : ∃ hq, hq = hereB its key i := ⟨_, rfl⟩
  rw [← hhq]
  have HQ := hide hhq
  clear hhq
  have hn1 : kids.length = its.length + 1 := (shp_succ.1 (unhide HA).2.1).1
  have hik : i < kids.length := by have := (unhide HP).1; omega
  have hki : kids[i]? = some (kids[i]'hik) := List.getElem?_eq_getElem _
  generalize kids[i]'hik = k at hki
  obtain ⟨t1, ks, t2, t3⟩ := (unhide HA).1
  obtain ⟨vki, vkk, ek, hkn⟩ := t3.get hki
  obtain ⟨kb, ko, hka, hkb, l0, l1⟩ := t2.1.at ek
  subst hka
  obtain ⟨kia, kik, kka, kkk, rfl, rfl⟩ := one_cells hkn
  have HI : Hid (∀ W : World, Hid (Below w.heap.size w W ∧ NV W w.heap.size (.slice ia its.length ik) (.slice (some ⟨kb, ko, none⟩) kids.length kk) ∧ NV W (w.heap.size + 1) (.slice none 0 0) (.slice none 0 0) ∧ w.heap.size + 2 ≤ W.heap.size) → Calls Tryz.prog 36 #[.agg #[.slice ia its.length ik, .slice (some ⟨kb, ko, none⟩) kids.length kk]] W fun e w2 => e = .returned (.bool true) ∧ (w2.cell? ⟨w.heap.size, 0, none⟩ = some (.slice ia its.length ik) ∧ w2.cell? ⟨w.heap.size, 1, none⟩ = some (.slice (some ⟨kb, ko, none⟩) kids.length kk)) ∧ Hid (Below w.heap.size w w2 ∧ NV w2 w.heap.size (.slice ia its.length ik) (.slice (some ⟨kb, ko, none⟩) kids.length kk) ∧ NV w2 (w.heap.size + 1) (.slice none 0 0) (.slice none 0 0) ∧ w.heap.size + 2 ≤ w2.heap.size)) := by
    intro W hW
    obtain ⟨t1, ks, t2, t3⟩ := (unhide HA).1
    obtain ⟨q1, q2, q3, q4⟩ := unhide hW
    refine (inner_any _ _ ks W (t2.1.below q1)).mono ?_
    rintro e w2 ⟨rfl, hb⟩
    have q5 := q2.below hb
    exact ⟨by rw [t3.len]; simp; omega, ⟨q5.cells.1, q5.cells.2.1⟩, below_tr q1 hb, q5, q3.below hb, Nat.le_trans q4 hb.size⟩
  have HKN := hide (And.intro hkn (And.intro hkb (And.intro l0 (And.intro l1 (And.intro hki (And.intro hn1 hik))))))
  have hii : (i : Int) < (kids.length : Int) := by omega
  have hi0 : (0 : Int) ≤ (i : Int) := by omega
  obtain ⟨c20, c21, _, _⟩ := (unhide H1).2.1.cells
  clear t1 t2 t3 ek hkn hkb l0 l1 hki hn1 hik
  cases hq
  · go_upto_region 8 with (go_at_call 36; refine (unhide HI _ (by assumption)).mono ?_; rintro e w2 ⟨rfl, ⟨d0, d1⟩, H2⟩)
    obtain ⟨ja, hja⟩ : ∃ ja, ja = ia := ⟨_, rfl⟩
    obtain ⟨jn, hjn⟩ : ∃ jn, jn = its.length := ⟨_, rfl⟩
    obtain ⟨jk, hjk⟩ : ∃ jk, jk = ik := ⟨_, rfl⟩
    have HNP : Hid (NP w2 (fun g => (O g ∧ g < w.heap.size) ∨ w.heap.size + 2 ≤ g) (d + 1) its kids (.slice ja jn jk) (.slice (some ⟨kb, ko, none⟩) kids.length kk)) := by rw [hja, hjn, hjk]; exact ((unhide HA).1.lt.below (unhide H2).1).mono (fun g hg => .inl hg)
    have HM : Hid (hasL key (flat d k) = hasL key F ∧ (∀ k' : BT (d + 1), flat d k' = delL key (flat d k) → flat (d + 1) (BT.mk its (kids.take i ++ k' :: kids.drop (i + 1))) = delL key F) ∧ its.length = its.length) := by
      obtain ⟨ht, hs, h15, hFf, hF⟩ := unhide HA
      obtain ⟨r1, r2, r3, r4, r5, r6, r7⟩ := unhide HKN
      have := del_in r6 (by rw [hFf]; exact hF) (unhide HP) r5 (unhide HQ).symm
      rw [hFf] at this
      exact ⟨this.1, this.2, rfl⟩
    have H4 : Hid (Below w.heap.size w w2 ∧ NV w2 w.heap.size (.slice ja jn jk) (.slice (some ⟨kb, ko, none⟩) kids.length kk) ∧ NV w2 (w.heap.size + 1) (.slice none 0 0) (.slice none 0 0) ∧ w.heap.size + 2 ≤ w2.heap.size) := by rw [hja, hjn, hjk]; exact unhide H2
    clear H1 H2 HI c20 c21 d0 d1 hwi
    rw [← hjn, ← hja, ← hjk]
    clear hja hjn hjk
    have HD : Hid (Calls Tryz.prog 22 #[.agg #[.slice kia k.its.length kik, .slice kka k.kids.length kkk], .string key] w2 (DelP w2 (fun g => O g ∧ g < w.heap.size) d (flat d k) key)) := by
      obtain ⟨r1, r2, r3, r4, r5, r6, r7⟩ := unhide HKN
      exact unhide HIH k _ _ _ _ w2 (List.mem_of_getElem? r5) (r1.lt.below (unhide H4).1)
    obtain ⟨c20, c21, _, _⟩ := (unhide H4).2.1.cells
    obtain ⟨y1, y2⟩ : w2.cell? ⟨kb, ko + i * 2, none⟩ = some (.slice kia k.its.length kik) ∧ w2.cell? ⟨kb, ko + i * 2 + 1, none⟩ = some (.slice kka k.kids.length kkk) := by
      obtain ⟨r1, r2, r3, r4, r5, r6, r7⟩ := unhide HKN
      exact ⟨((unhide H4).1.cell (p := ⟨kb, _, none⟩) r2).trans r3, ((unhide H4).1.cell (p := ⟨kb, _, none⟩) r2).trans r4⟩
    go_upto_region 9 with (go_at_call 22; refine (unhide HD).mono ?_; rintro e w3 ⟨pa, pb, pn, pk, pn', pk', v, rfl, hb3, q3⟩; have HH := hide (And.intro hb3 q3); clear hb3 q3 HD)
    obtain ⟨b8, hb8⟩ : ∃ b8, b8 = w3.heap.size := ⟨_, rfl⟩
    obtain ⟨wc, hwc⟩ : ∃ wc, wc = w3.alloc (.cells #[.slice pa pn pk, .slice pb pn' pk'] 54) := ⟨_, rfl⟩
    rw [← hwc, ← hb8]
    have HB8 : Hid (NV wc b8 (.slice pa pn pk) (.slice pb pn' pk') ∧ Below w3.heap.size w3 wc) := by rw [hwc, hb8]; exact ⟨NV.new _ _ _, (Below.refl _ _).alloc (Nat.le_refl _) _⟩
    have H3 : Hid (Below w.heap.size w wc ∧ NV wc w.heap.size (.slice ja jn jk) (.slice (some ⟨kb, ko, none⟩) kids.length kk) ∧ NV wc (w.heap.size + 1) (.slice none 0 0) (.slice none 0 0) ∧ w.heap.size + 2 ≤ wc.heap.size) := by
      obtain ⟨q1, q2, q3, q4⟩ := unhide H4
      have hb := below_tr (unhide HH).1 (unhide HB8).2
      exact ⟨below_tr q1 hb, q2.below hb, q3.below hb, Nat.le_trans q4 hb.size⟩
    clear hwc hb8 y1 y2 c20 c21
    rcases (unhide HH).2 with ⟨hh, rfl, pits, pkids, rfl, rfl, p1, p2, p3, p4⟩ | ⟨hh, rfl, rfl, rfl, rfl, rfl, rfl, m, hch⟩
    · have HW : Hid (Calls Tryz.prog 37 #[.agg #[.slice ja jn jk, .slice (some ⟨kb, ko, none⟩) kids.length kk], .int .i64 (i : Int), .agg #[.slice pa pits.length pk, .slice pb pkids.length pk']] wc fun e w5 => ∃ a n k' b n' c, e = .returned (.agg #[.slice a n k', .slice b n' c]) ∧ (w5.cell? ⟨w.heap.size + 1, 0, none⟩ = some (.slice none 0 0) ∧ w5.cell? ⟨w.heap.size + 1, 1, none⟩ = some (.slice none 0 0) ∧ w5.frozen? ⟨w.heap.size + 1, 0, none⟩ = false ∧ w5.frozen? ⟨w.heap.size + 1, 1, none⟩ = false) ∧ Hid (DelP w O (d + 1) F key (.returned (.tuple #[.agg #[.slice a n k', .slice b n' c], .nilIface])) ((w5.setCell ⟨w.heap.size + 1, 0, none⟩ (.slice a n k')).setCell ⟨w.heap.size + 1, 1, none⟩ (.slice b n' c)))) := by
        obtain ⟨ht, hs, h15, hFf, hF⟩ := unhide HA
        obtain ⟨q1, q2, q3, q4⟩ := unhide H3
        obtain ⟨r1, r2, r3, r4, r5, r6, r7⟩ := unhide HKN
        obtain ⟨m1, m2, m3⟩ := unhide HM
        have hbc := below_tr (unhide HH).1 (unhide HB8).2
        have hz := (unhide H4).2.2.2
        have htc := (unhide HNP).below hbc
        have u2 : NodeAt wc (fun g => (O g ∧ g < w.heap.size) ∨ w.heap.size + 2 ≤ g) d (BT.mk pits pkids) (.slice pa pits.length pk) (.slice pb pkids.length pk') := ((p1.below (unhide HB8).2).mono (fun g hg => hg.imp id (fun h => Nat.le_trans hz h))).node
        refine (with_t htc (by first | exact r6 | (rw [m3]; exact r6)) (shp_succ.1 hs).2 (by first | exact unhide H11 | (rw [m3]; exact unhide H11)) (by first | exact h15 | (rw [m3]; exact h15)) r7 u2 p2 p3).mono ?_
        rintro e w5 ⟨its', kids', ⟨a, k', b, c, rfl, z1, z2⟩, z3, z4, z5, z6⟩
        have q5 := q3.below z2
        have hzc := q4
        refine ⟨a, _, k', b, _, c, rfl, q5.cells, a, b, _, k', _, c, .nilIface, rfl, set2_below (below_tr q1 z2) (by omega), .inl ⟨by rw [← m1]; exact hh, rfl, its', kids', rfl, rfl, ?_, shp_mk z3 z4, by omega, by rw [z6]; exact m2 _ p4⟩⟩
        refine (z1.keep (by simp) (fun g hg hgl => set2_ne ?_)).mono (fun g hg => ?_)
        · rcases hg with (hg | hg) | hg <;> omega
        · rcases hg with (hg | hg) | hg
          · exact .inl hg.1
          · exact .inr (by omega)
          · exact .inr (by omega)
      obtain ⟨c20, c21, _, _⟩ := (unhide H3).2.1.cells
      obtain ⟨c80, c81, _, _⟩ := (unhide HB8).1.cells
      clear HA HP HQ HKN H4 HIH H11 HNP HM HB8 HH H3 p1 p2 p3 p4 hh
      go_wp2_with (go_at_call 37; refine (unhide HW).mono ?_; rintro e w5 ⟨a, n, k', b, n', c, rfl, ⟨r0, r1, g0, g1⟩, HE⟩; clear HW)
      refine bodyPost_ret (v := .tuple #[.agg #[.slice a n k', .slice b n' c], .nilIface]) ?_ rfl ?_
      · rw [results_cell_tmp rfl]
        go_simp
      exact unhide HE
    · have HCH := hide (hch.below (unhide HB8).2)
      have HHF : Hid (hasL key F = false) := by
        show hasL key F = false
        rw [← (unhide HM).1]; exact hh
      obtain ⟨Tc, xc, rfl⟩ := hch.iface
      clear hch hh HH
      have HWr : Hid (Calls Tryz.prog 40 #[.iface Tc xc, .int .i64 (i : Int)] wc fun e w5 => ∃ T x, e = .returned (.iface T x) ∧ (w5.cell? ⟨w.heap.size + 1, 0, none⟩ = some (.slice none 0 0) ∧ w5.cell? ⟨w.heap.size + 1, 1, none⟩ = some (.slice none 0 0) ∧ w5.frozen? ⟨w.heap.size + 1, 0, none⟩ = false ∧ w5.frozen? ⟨w.heap.size + 1, 1, none⟩ = false) ∧ Hid (DelP w O (d + 1) F key (.returned (.tuple #[.agg #[.slice none 0 0, .slice none 0 0], .iface T x])) ((w5.setCell ⟨w.heap.size + 1, 0, none⟩ (.slice none 0 0)).setCell ⟨w.heap.size + 1, 1, none⟩ (.slice none 0 0)))) := by
        obtain ⟨q1, q2, q3, q4⟩ := unhide H3
        refine (wrapped_t i (by omega) (unhide HCH)).mono ?_
        rintro e w5 ⟨T, x, rfl, z1, z2⟩
        have q5 := q3.below z2
        exact ⟨T, x, rfl, q5.cells, none, none, 0, 0, 0, 0, .iface T x, rfl, set2_below (below_tr q1 z2) (by omega), .inr ⟨unhide HHF, rfl, rfl, rfl, rfl, rfl, rfl, _, z1.varN q5 (fun _ _ h => by cases h)⟩⟩
      clear HA HP HQ HKN H4 HIH H11 HNP HM HB8 H3 HCH HHF
      go_wp2_with (go_at_call 40; refine (unhide HWr).mono ?_; rintro e w5 ⟨T, x, rfl, ⟨r0, r1, g0, g1⟩, HE⟩; clear HWr)
      refine bodyPost_ret (v := .tuple #[.agg #[.slice none 0 0, .slice none 0 0], .iface T x]) ?_ rfl ?_
      · rw [results_cell_tmp rfl]
        go_simp
      exact unhide HE
  · have HLs : Hid (∀ W : World, Hid (Below w.heap.size w W ∧ NV W w.heap.size (.slice ia its.length ik) (.slice (some ⟨kb, ko, none⟩) kids.length kk) ∧ NV W (w.heap.size + 1) (.slice none 0 0) (.slice none 0 0) ∧ w.heap.size + 2 ≤ W.heap.size) → Calls Tryz.prog 39 #[.agg #[.slice kia k.its.length kik, .slice kka k.kids.length kkk]] W fun e w3 => ∃ x : It, e = .returned (.agg #[.string x.1, .string x.2]) ∧ Hid ((∃ K, flat d k = K ++ [x]) ∧ (Below w.heap.size w w3 ∧ NV w3 w.heap.size (.slice ia its.length ik) (.slice (some ⟨kb, ko, none⟩) kids.length kk) ∧ NV w3 (w.heap.size + 1) (.slice none 0 0) (.slice none 0 0) ∧ w.heap.size + 2 ≤ w3.heap.size))) := by
      intro W hW
      obtain ⟨r1, r2, r3, r4, r5, r6, r7⟩ := unhide HKN
      obtain ⟨q1, q2, q3, q4⟩ := unhide hW
      have hf := (shp_succ.1 (unhide HA).2.1).2 k (List.mem_of_getElem? r5)
      refine (last_t (r1.below q1) hf.1 hf.2.1).mono ?_
      rintro e w3 ⟨x, K, hK, rfl, hb⟩
      exact ⟨x, rfl, ⟨K, hK⟩, below_tr q1 hb, q2.below hb, q3.below hb, Nat.le_trans q4 hb.size⟩
    have HK0 : Hid (∀ W : World, Below w.heap.size w W → W.cell? ⟨kb, ko + i * 2, none⟩ = some (.slice kia k.its.length kik) ∧ W.cell? ⟨kb, ko + i * 2 + 1, none⟩ = some (.slice kka k.kids.length kkk)) := fun W hb => by
      obtain ⟨r1, r2, r3, r4, r5, r6, r7⟩ := unhide HKN
      exact ⟨(hb.cell (p := ⟨kb, _, none⟩) r2).trans r3, (hb.cell (p := ⟨kb, _, none⟩) r2).trans r4⟩
    go_upto_region 5 with (go_at_call 36; refine (unhide HI _ (by assumption)).mono ?_; rintro e w2 ⟨rfl, ⟨d0, d1⟩, H2⟩)
    obtain ⟨y1, y2⟩ := unhide HK0 w2 (unhide H2).1
    clear c20 c21 H1 HI HK0
    go_upto_region 6 with (go_at_call 39; refine (unhide HLs _ (by assumption)).mono ?_; rintro e w3 ⟨x, rfl, HX⟩; clear HLs)
    obtain ⟨b7, hb7⟩ : ∃ b7, b7 = w3.heap.size := ⟨_, rfl⟩
    obtain ⟨w4, hw4⟩ : ∃ w4, w4 = w3.alloc (.cells #[.string x.1, .string x.2] 62) := ⟨_, rfl⟩
    rw [← hw4, ← hb7]
    have H4 : Hid ((Below w.heap.size w w4 ∧ NV w4 w.heap.size (.slice ia its.length ik) (.slice (some ⟨kb, ko, none⟩) kids.length kk) ∧ NV w4 (w.heap.size + 1) (.slice none 0 0) (.slice none 0 0) ∧ w.heap.size + 2 ≤ w4.heap.size) ∧ IV w4 b7 x ∧ w.heap.size + 2 ≤ b7) := by
      obtain ⟨_, q1, q2, q3, q4⟩ := unhide HX
      have hb : Below w3.heap.size w3 w4 := by rw [hw4]; exact (Below.refl _ _).alloc (Nat.le_refl _) _
      exact ⟨⟨below_tr q1 hb, q2.below hb, q3.below hb, Nat.le_trans q4 hb.size⟩, by rw [hw4, hb7]; exact heap_alloc_new _ _, by rw [hb7]; exact q4⟩
    clear hw4 hb7 y1 y2 d0 d1 H2
    have HSp : Hid (Calls Tryz.prog 35 #[.slice ia its.length ik, .int .i64 (i : Int), .int .i64 ((i : Int) + 1), .slice (some ⟨w4.heap.size, 0, none⟩) 1 1] (w4.alloc (.cells #[.string x.1, .string x.2] 62)) fun e w5 => ∃ a n k', e = .returned (.slice a n k') ∧ (w5.cell? ⟨w.heap.size, 0, none⟩ = some (.slice ia its.length ik) ∧ w5.frozen? ⟨w.heap.size, 0, none⟩ = false) ∧ Hid ((IV (w5.setCell ⟨w.heap.size, 0, none⟩ (.slice a n k')) b7 x) ∧ NP (w5.setCell ⟨w.heap.size, 0, none⟩ (.slice a n k')) (fun g => (O g ∧ g < w.heap.size) ∨ w.heap.size + 2 ≤ g) (d + 1) (its.take i ++ x :: its.drop (i + 1)) kids (.slice a n k') (.slice (some ⟨kb, ko, none⟩) kids.length kk) ∧ (Below w.heap.size w (w5.setCell ⟨w.heap.size, 0, none⟩ (.slice a n k')) ∧ NV (w5.setCell ⟨w.heap.size, 0, none⟩ (.slice a n k')) w.heap.size (.slice a n k') (.slice (some ⟨kb, ko, none⟩) kids.length kk) ∧ NV (w5.setCell ⟨w.heap.size, 0, none⟩ (.slice a n k')) (w.heap.size + 1) (.slice none 0 0) (.slice none 0 0) ∧ w.heap.size + 2 ≤ (w5.setCell ⟨w.heap.size, 0, none⟩ (.slice a n k')).heap.size))) := by
      obtain ⟨ht, hs, h15, hFf, hF⟩ := unhide HA
      obtain ⟨⟨q1, q2, q3, q4⟩, q5, q6⟩ := unhide H4
      obtain ⟨y, hy, _⟩ := here_some (unhide HQ).symm
      have hil2 := (List.getElem?_eq_some_iff.1 hy).1
      have hb4 : Below w4.heap.size w4 (w4.alloc (.cells #[.string x.1, .string x.2] 62)) := (Below.refl _ _).alloc (Nat.le_refl _) _
      have hiv : IV (w4.alloc (.cells #[.string x.1, .string x.2] 62)) w4.heap.size x := heap_alloc_new _ _
      have h := setits_t (i := i) (j := i + 1) (ht.1.1.below (below_tr q1 hb4)) hiv (by omega) hil2 (by omega)
      rw [show ((i + 1 : Nat) : Int) = (i : Int) + 1 by omega] at h
      refine h.mono ?_
      rintro e w5 ⟨a, n, k', rfl, r1, r2⟩
      have hb5 := below_tr hb4 r2
      have hbw := below_tr q1 hb5
      have hz5 := hb5.size
      have hz4 : w4.heap.size ≤ (w4.alloc (.cells #[.string x.1, .string x.2] 62)).heap.size := hb4.size
      have v2 := q2.below hb5
      have hset : ∀ g, g ≠ w.heap.size → (w5.setCell ⟨w.heap.size, 0, none⟩ (.slice a n k')).heap[g]? = w5.heap[g]? := fun g hg => Below.heap_setCell w5 ⟨w.heap.size, 0, none⟩ _ g hg
      refine ⟨a, n, k', rfl, ⟨v2.cells.1, v2.cells.2.2.1⟩, ?_, ⟨⟨?_, ?_⟩, ?_⟩, ?_, ?_, ?_, ?_⟩
      · exact (hset b7 (by omega)).trans (q5.below hb5)
      · exact r1.1.keep (by simp) (fun g hg => hset g (by have := r1.2 g hg; omega))
      · exact fun g hg => .inr (by have := r1.2 g hg; omega)
      · obtain ⟨_, ks, t2, t3⟩ := ht.lt.below hbw
        refine ⟨ks, (t2.keep (by simp) (fun g hg _ => hset g (by omega))).mono (fun g hg => .inl hg), (t3.keep (by simp) (fun g hg _ => hset g (by omega))).mono (fun g hg => .inl hg)⟩
      · exact hbw.setCell (p := ⟨w.heap.size, 0, none⟩) (Nat.le_refl _) _
      · exact (heap_set_at v2 _ _).trans rfl
      · exact (hset _ (by omega)).trans (q3.below hb5)
      · have : (w5.setCell ⟨w.heap.size, 0, none⟩ (.slice a n k')).heap.size = w5.heap.size := by simp
        rw [this]; omega
    obtain ⟨c20, c21, _, _⟩ := (unhide H4).1.2.1.cells
    have c70 : w4.cell? ⟨b7, 0, none⟩ = some (.string x.1) := (unhide H4).2.1.cells.1
    have c71 : w4.cell? ⟨b7, 1, none⟩ = some (.string x.2) := (unhide H4).2.1.cells.2
    go_upto_region 7 with (go_at_call 35; refine (unhide HSp).mono ?_; rintro e w5 ⟨ja, jn, jk, rfl, ⟨r0, g0⟩, HE⟩; clear HSp)
    obtain ⟨w6, hw6⟩ : ∃ w6, w6 = w5.setCell ⟨w.heap.size, 0, none⟩ (.slice ja jn jk) := ⟨_, rfl⟩
    rw [← hw6] at HE ⊢
    have HNP := hide (unhide HE).2.1
    have H5 := hide (unhide HE).2.2
    have c72 : w6.cell? ⟨b7, 0, none⟩ = some (.string x.1) := (unhide HE).1.cells.1
    have HM : Hid (hasL x.1 (flat d k) = hasL key F ∧ (∀ k' : BT (d + 1), flat d k' = delL x.1 (flat d k) → flat (d + 1) (BT.mk (its.take i ++ x :: its.drop (i + 1)) (kids.take i ++ k' :: kids.drop (i + 1))) = delL key F) ∧ (its.take i ++ x :: its.drop (i + 1)).length = its.length) := by
      obtain ⟨ht, hs, h15, hFf, hF⟩ := unhide HA
      obtain ⟨r1, r2, r3, r4, r5, r6, r7⟩ := unhide HKN
      obtain ⟨⟨K, hK⟩, _⟩ := unhide HX
      have := del_here r6 (by rw [hFf]; exact hF) r5 (unhide HQ).symm hK
      rw [hFf] at this
      obtain ⟨y, hy, _⟩ := here_some (unhide HQ).symm
      have hil2 := (List.getElem?_eq_some_iff.1 hy).1
      exact ⟨by rw [this.1, this.2.1], this.2.2, by simp; omega⟩
    clear HE hw6 HX H4 c20 c21 c70 c71 r0 g0 hwi
    go_upto_region 8 with fail
    clear c72
    have HD : Hid (Calls Tryz.prog 22 #[.agg #[.slice kia k.its.length kik, .slice kka k.kids.length kkk], .string x.1] w6 (DelP w6 (fun g => O g ∧ g < w.heap.size) d (flat d k) x.1)) := by
      obtain ⟨r1, r2, r3, r4, r5, r6, r7⟩ := unhide HKN
      exact unhide HIH k _ _ _ _ w6 (List.mem_of_getElem? r5) (r1.lt.below (unhide H5).1)
    obtain ⟨c20, c21, _, _⟩ := (unhide H5).2.1.cells
    obtain ⟨y1, y2⟩ : w6.cell? ⟨kb, ko + i * 2, none⟩ = some (.slice kia k.its.length kik) ∧ w6.cell? ⟨kb, ko + i * 2 + 1, none⟩ = some (.slice kka k.kids.length kkk) := by
      obtain ⟨r1, r2, r3, r4, r5, r6, r7⟩ := unhide HKN
      exact ⟨((unhide H5).1.cell (p := ⟨kb, _, none⟩) r2).trans r3, ((unhide H5).1.cell (p := ⟨kb, _, none⟩) r2).trans r4⟩
    go_upto_region 9 with (go_at_call 22; refine (unhide HD).mono ?_; rintro e w3 ⟨pa, pb, pn, pk, pn', pk', v, rfl, hb3, q3⟩; have HH := hide (And.intro hb3 q3); clear hb3 q3 HD)
    obtain ⟨b8, hb8⟩ : ∃ b8, b8 = w3.heap.size := ⟨_, rfl⟩
    obtain ⟨wc, hwc⟩ : ∃ wc, wc = w3.alloc (.cells #[.slice pa pn pk, .slice pb pn' pk'] 54) := ⟨_, rfl⟩
    rw [← hwc, ← hb8]
    have HB8 : Hid (NV wc b8 (.slice pa pn pk) (.slice pb pn' pk') ∧ Below w3.heap.size w3 wc) := by rw [hwc, hb8]; exact ⟨NV.new _ _ _, (Below.refl _ _).alloc (Nat.le_refl _) _⟩
    have H3 : Hid (Below w.heap.size w wc ∧ NV wc w.heap.size (.slice ja jn jk) (.slice (some ⟨kb, ko, none⟩) kids.length kk) ∧ NV wc (w.heap.size + 1) (.slice none 0 0) (.slice none 0 0) ∧ w.heap.size + 2 ≤ wc.heap.size) := by
      obtain ⟨q1, q2, q3, q4⟩ := unhide H5
      have hb := below_tr (unhide HH).1 (unhide HB8).2
      exact ⟨below_tr q1 hb, q2.below hb, q3.below hb, Nat.le_trans q4 hb.size⟩
    clear hwc hb8 y1 y2 c20 c21
    rcases (unhide HH).2 with ⟨hh, rfl, pits, pkids, rfl, rfl, p1, p2, p3, p4⟩ | ⟨hh, rfl, rfl, rfl, rfl, rfl, rfl, m, hch⟩
    · have HW : Hid (Calls Tryz.prog 37 #[.agg #[.slice ja jn jk, .slice (some ⟨kb, ko, none⟩) kids.length kk], .int .i64 (i : Int), .agg #[.slice pa pits.length pk, .slice pb pkids.length pk']] wc fun e w5 => ∃ a n k' b n' c, e = .returned (.agg #[.slice a n k', .slice b n' c]) ∧ (w5.cell? ⟨w.heap.size + 1, 0, none⟩ = some (.slice none 0 0) ∧ w5.cell? ⟨w.heap.size + 1, 1, none⟩ = some (.slice none 0 0) ∧ w5.frozen? ⟨w.heap.size + 1, 0, none⟩ = false ∧ w5.frozen? ⟨w.heap.size + 1, 1, none⟩ = false) ∧ Hid (DelP w O (d + 1) F key (.returned (.tuple #[.agg #[.slice a n k', .slice b n' c], .nilIface])) ((w5.setCell ⟨w.heap.size + 1, 0, none⟩ (.slice a n k')).setCell ⟨w.heap.size + 1, 1, none⟩ (.slice b n' c)))) := by
        obtain ⟨ht, hs, h15, hFf, hF⟩ := unhide HA
        obtain ⟨q1, q2, q3, q4⟩ := unhide H3
        obtain ⟨r1, r2, r3, r4, r5, r6, r7⟩ := unhide HKN
        obtain ⟨m1, m2, m3⟩ := unhide HM
        have hbc := below_tr (unhide HH).1 (unhide HB8).2
        have hz := (unhide H5).2.2.2
        have htc := (unhide HNP).below hbc
        have u2 : NodeAt wc (fun g => (O g ∧ g < w.heap.size) ∨ w.heap.size + 2 ≤ g) d (BT.mk pits pkids) (.slice pa pits.length pk) (.slice pb pkids.length pk') := ((p1.below (unhide HB8).2).mono (fun g hg => hg.imp id (fun h => Nat.le_trans hz h))).node
        refine (with_t htc (by first | exact r6 | (rw [m3]; exact r6)) (shp_succ.1 hs).2 (by first | exact unhide H11 | (rw [m3]; exact unhide H11)) (by first | exact h15 | (rw [m3]; exact h15)) r7 u2 p2 p3).mono ?_
        rintro e w5 ⟨its', kids', ⟨a, k', b, c, rfl, z1, z2⟩, z3, z4, z5, z6⟩
        have q5 := q3.below z2
        have hzc := q4
        refine ⟨a, _, k', b, _, c, rfl, q5.cells, a, b, _, k', _, c, .nilIface, rfl, set2_below (below_tr q1 z2) (by omega), .inl ⟨by rw [← m1]; exact hh, rfl, its', kids', rfl, rfl, ?_, shp_mk z3 z4, by omega, by rw [z6]; exact m2 _ p4⟩⟩
        refine (z1.keep (by simp) (fun g hg hgl => set2_ne ?_)).mono (fun g hg => ?_)
        · rcases hg with (hg | hg) | hg <;> omega
        · rcases hg with (hg | hg) | hg
          · exact .inl hg.1
          · exact .inr (by omega)
          · exact .inr (by omega)
      obtain ⟨c20, c21, _, _⟩ := (unhide H3).2.1.cells
      obtain ⟨c80, c81, _, _⟩ := (unhide HB8).1.cells
      clear HA HP HQ HKN H5 HIH H11 HNP HM HB8 HH H3 p1 p2 p3 p4 hh
      go_wp2_with (go_at_call 37; refine (unhide HW).mono ?_; rintro e w5 ⟨a, n, k', b, n', c, rfl, ⟨r0, r1, g0, g1⟩, HE⟩; clear HW)
      refine bodyPost_ret (v := .tuple #[.agg #[.slice a n k', .slice b n' c], .nilIface]) ?_ rfl ?_
      · rw [results_cell_tmp rfl]
        go_simp
      exact unhide HE
    · have HCH := hide (hch.below (unhide HB8).2)
      have HHF : Hid (hasL key F = false) := by
        show hasL key F = false
        rw [← (unhide HM).1]; exact hh
      obtain ⟨Tc, xc, rfl⟩ := hch.iface
      clear hch hh HH
      have HWr : Hid (Calls Tryz.prog 40 #[.iface Tc xc, .int .i64 (i : Int)] wc fun e w5 => ∃ T x, e = .returned (.iface T x) ∧ (w5.cell? ⟨w.heap.size + 1, 0, none⟩ = some (.slice none 0 0) ∧ w5.cell? ⟨w.heap.size + 1, 1, none⟩ = some (.slice none 0 0) ∧ w5.frozen? ⟨w.heap.size + 1, 0, none⟩ = false ∧ w5.frozen? ⟨w.heap.size + 1, 1, none⟩ = false) ∧ Hid (DelP w O (d + 1) F key (.returned (.tuple #[.agg #[.slice none 0 0, .slice none 0 0], .iface T x])) ((w5.setCell ⟨w.heap.size + 1, 0, none⟩ (.slice none 0 0)).setCell ⟨w.heap.size + 1, 1, none⟩ (.slice none 0 0)))) := by
        obtain ⟨q1, q2, q3, q4⟩ := unhide H3
        refine (wrapped_t i (by omega) (unhide HCH)).mono ?_
        rintro e w5 ⟨T, x, rfl, z1, z2⟩
        have q5 := q3.below z2
        exact ⟨T, x, rfl, q5.cells, none, none, 0, 0, 0, 0, .iface T x, rfl, set2_below (below_tr q1 z2) (by omega), .inr ⟨unhide HHF, rfl, rfl, rfl, rfl, rfl, rfl, _, z1.varN q5 (fun _ _ h => by cases h)⟩⟩
      clear HA HP HQ HKN H5 HIH H11 HNP HM HB8 H3 HCH HHF
      go_wp2_with (go_at_call 40; refine (unhide HWr).mono ?_; rintro e w5 ⟨T, x, rfl, ⟨r0, r1, g0, g1⟩, HE⟩; clear HWr)
      refine bodyPost_ret (v := .tuple #[.agg #[.slice none 0 0, .slice none 0 0], .iface T x]) ?_ rfl ?_
      · rw [results_cell_tmp rfl]
        go_simp
      exact unhide HE
end
/-- A node's del, whatever its height. -/
theorem del_t : ∀ (d : Nat) (t : BT (d + 1)) (key : ByteArray) (vi vk : Value) (O : Nat → Prop) (w : World), NodeAt w O d t vi vk → Shp d t → t.its.length ≤ 15 → (0 < d → 1 ≤ t.its.length) → Srt (flat d t) → Calls Tryz.prog 22 #[.agg #[vi, vk], .string key] w (DelP w O d (flat d t) key)
  | 0, t, key, vi, vk, O, w, hn, hs, h15, _, hF => del_0 (its := t.its) (kids := t.kids) (node_iff.1 hn) hs h15 rfl hF
  | d + 1, t, key, vi, vk, O, w, hn, hs, h15, h1, hF => by
    refine del_1 (its := t.its) (kids := t.kids) (node_iff.1 hn) hs h15 (h1 (Nat.succ_pos _)) rfl hF (fun k key ki kk O' W hk hkn => ?_)
    have hf := (shp_succ.1 hs).2 k hk
    refine del_t d k key ki kk O' W hkn hf.1 hf.2.2 (fun _ => hf.2.1) ?_
    obtain ⟨i, hi⟩ := List.getElem?_of_mem hk
    obtain ⟨A, B, e1, _⟩ := flat_around (t := t) (shp_succ.1 hs).1 hi
    rw [e1] at hF
    exact (List.pairwise_append.1 (List.pairwise_append.1 hF).1).2.1
end Go.Proofs.YtlmjmhpdpgeplaaGreatDoor
