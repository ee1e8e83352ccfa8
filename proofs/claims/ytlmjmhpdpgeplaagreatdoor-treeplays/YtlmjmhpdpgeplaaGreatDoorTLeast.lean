/- A node's least: the first item that isn't below a key. -/
import Derived.Test.YtlmjmhpdpgeplaaGreatDoorTLast
import Derived.Test.YtlmjmhpdpgeplaaGreatDoorTWrap
namespace Go.Proofs.YtlmjmhpdpgeplaaGreatDoor
open Go.RowKit Go.Lib

theorem least_list {its : List It} {k : ByteArray} {i : Nat} (hp : PlaceAt its k i) : leastL k its = its[i]? := by
  obtain ⟨h1, h2, h3⟩ := hp
  have hl : ∀ y ∈ its.take i, kc y.1 k < 0 := fun y hy => by
    obtain ⟨t, ht⟩ := List.getElem?_of_mem hy
    rw [List.getElem?_take] at ht
    split at ht
    · exact h2 t y ht (by assumption)
    · cases ht
  conv => lhs; rw [← List.take_append_drop i its]
  rw [leastL_left _ hl]
  cases hx : its[i]? with
  | none => rw [List.drop_eq_nil_of_le (by rw [List.getElem?_eq_none_iff] at hx; exact hx)]; rfl
  | some y =>
    obtain ⟨q1, q2⟩ := List.getElem?_eq_some_iff.1 hx
    rw [List.drop_eq_getElem_cons q1, q2]
    have h0 := h3 i y hx (Nat.le_refl _)
    exact List.find?_cons_of_pos (by simp; omega)
section
variable {d i : Nat} {its : List It} {kids : List (BT (d + 1))} {key : ByteArray} {k : BT (d + 1)}
theorem least_in {x : It} (hn : kids.length = its.length + 1) (hs : Srt (flat (d + 1) (BT.mk its kids))) (hp : PlaceAt its key i) (hk : kids[i]? = some k) (hx : leastL key (flat d k) = some x) : leastL key (flat (d + 1) (BT.mk its kids)) = some x := by
  obtain ⟨A, B, e1, _, e3, _⟩ := place_split hn hs hp hk
  rw [e1, List.append_assoc, leastL_left _ e3]
  exact leastL_some_left _ hx
theorem least_out (hn : kids.length = its.length + 1) (hs : Srt (flat (d + 1) (BT.mk its kids))) (hp : PlaceAt its key i) (hk : kids[i]? = some k) (hx : leastL key (flat d k) = none) : leastL key (flat (d + 1) (BT.mk its kids)) = its[i]? := by
  obtain ⟨A, B, e1, _, e3, e4⟩ := place_split hn hs hp hk
  rw [e1, List.append_assoc, leastL_left _ e3, leastL_left _ (leastL_none.1 hx)]
  rcases e4 with ⟨rfl, rfl⟩ | ⟨y, B', hy, rfl, _⟩
  · rw [List.getElem?_eq_none (Nat.le_refl _)]; rfl
  · rw [hy]
    have h0 := hp.2.2 i y hy (Nat.le_refl _)
    exact List.find?_cons_of_pos (by simp; omega)
theorem least_here (hn : kids.length = its.length + 1) (hs : Srt (flat (d + 1) (BT.mk its kids))) (hp : PlaceAt its key i) (hk : kids[i]? = some k) (hq : hereB its key i = true) : leastL key (flat d k) = none := by
  obtain ⟨A, B, e1, _, e3, e4⟩ := place_split hn hs hp hk
  obtain ⟨y', hy', hy0⟩ := here_some hq
  rcases e4 with ⟨rfl, rfl⟩ | ⟨y, B', hy, rfl, _⟩
  · rw [List.getElem?_eq_none (Nat.le_refl _)] at hy'; cases hy'
  · rw [hy] at hy'
    have ey : y = y' := by injection hy'
    subst ey
    have he := kc_eq hy0
    rw [e1] at hs
    refine leastL_none.2 (fun z hz => ?_)
    rw [← he]
    exact (List.pairwise_append.1 hs).2.2 z (List.mem_append.2 (.inr hz)) y (List.mem_cons_self ..)
end
/-- What least tells. -/
def LeastP (w : World) (F : List It) (k : ByteArray) (e : Ending) (w' : World) : Prop :=
  ∃ (x : It) (v : Value), e = .returned (.tuple #[.agg #[.string x.1, .string x.2], v]) ∧ Below w.heap.size w w' ∧ ((leastL k F = some x ∧ v = .nilIface) ∨ (leastL k F = none ∧ x = (⟨#[]⟩, ⟨#[]⟩) ∧ ∃ n, Chn w' 40 (n + 1) v))
/-- A chain does not lie in a variable of an item's. -/
theorem Chn.var2 {w : World} {c : Int} {b : Nat} {x : It} {u v : Value} (hb : IV w b x) : ∀ {n : Nat} {e : Value}, Chn w c n e → Chn ((w.setCell ⟨b, 0, none⟩ u).setCell ⟨b, 1, none⟩ v) c n e
  | 0, _, h => h
  | _ + 1, _, ⟨T, p, e', hT, h1, h2, h3, h4⟩ => by
    have hne : p ≠ b := by
      rintro rfl
      rw [cellB2 hb 1] at h3
      cases h3
      obtain ⟨_, _, hx⟩ := h4.iface
      cases hx
    exact ⟨T, p, e', hT, h1, by simpa using h2, (World.cell?_of_block (set2_ne hne)).trans h3, h4.var2 hb⟩
section
variable {w : World} {O : Nat → Prop} {vi vk : Value} {key : ByteArray} {F : List It}
set_option maxHeartbeats 12800000 in
set_option maxRecDepth 100000 in
theorem least_0 {its : List It} {kids : List (BT 0)} (ht : NP w O 0 its kids vi vk) (hs : Shp 0 (BT.mk its kids)) (h15 : its.length ≤ 15) (hFf : flat 0 (BT.mk its kids) = F) (hF : Srt F) :
    Calls Tryz.prog 24 #[.agg #[vi, vk], .string key] w (LeastP w F key) := by
  obtain ⟨ia, ik, ka, kk, rfl, rfl⟩ := ht.slices
  have hsi : Srt its := srt_its (d := 0) (t := BT.mk its kids) (by rw [hFf]; exact hF)
  obtain ⟨W0, hW0⟩ : ∃ W0, W0 = (w.alloc (.cells #[.slice ia its.length ik, .slice ka kids.length kk] 54)).alloc (.cells #[.string ⟨#[]⟩, .string ⟨#[]⟩] 62) := ⟨_, rfl⟩
  have hb0 : Below w.heap.size w W0 := by rw [hW0]; exact ((Below.refl _ _).alloc (Nat.le_refl _) _).alloc (by simp) _
  have v2 : NV W0 w.heap.size (.slice ia its.length ik) (.slice ka kids.length kk) := by rw [hW0]; exact (NV.new w _ _).below ((Below.refl _ _).alloc (Nat.le_refl _) _)
  have v3 : IV W0 (w.heap.size + 1) (⟨#[]⟩, ⟨#[]⟩) := by
    have : IV ((w.alloc (.cells #[.slice ia its.length ik, .slice ka kids.length kk] 54)).alloc (.cells #[.string ⟨#[]⟩, .string ⟨#[]⟩] 62)) (w.alloc (.cells #[.slice ia its.length ik, .slice ka kids.length kk] 54)).heap.size (⟨#[]⟩, ⟨#[]⟩) := heap_alloc_new _ _
    rw [World.size_alloc] at this
    rw [hW0]; exact this
  have HC : Hid (Calls Tryz.prog 34 #[.agg #[.slice ia its.length ik, .slice ka kids.length kk], .string key] W0 fun e w1 => ∃ i : Nat, e = .returned (.tuple #[.int .i64 (i : Int), .bool (hereB its key i)]) ∧ Hid (PlaceAt its key i) ∧ Hid (Below w.heap.size w w1 ∧ NV w1 w.heap.size (.slice ia its.length ik) (.slice ka kids.length kk) ∧ IV w1 (w.heap.size + 1) (⟨#[]⟩, ⟨#[]⟩))) := by
    refine (find_any _ _ its key W0 ((ht.1.1).below hb0) hsi (by omega)).mono ?_
    rintro e w1 ⟨i, hp, rfl, hb1⟩
    exact ⟨i, rfl, hp, below_tr hb0 hb1, v2.below hb1, v3.below hb1⟩
  have HA := hide (And.intro ht (And.intro hs (And.intro h15 (And.intro hFf hF))))
  clear ht hs h15 hF hFf hsi hb0 v2 v3
  go_enter Tryz.func24, Tryz.ntmps24
  go_upto_region 3 with (go_at_call 34; rw [← hW0]; refine (unhide HC).mono ?_; rintro e w1 ⟨i, rfl, hp, H1⟩; have HP : Hid (PlaceAt its key i ∧ True) := ⟨unhide hp, trivial⟩; clear HC hp)
  clear hW0
  obtain ⟨hq, hhq⟩ : ∃ hq, hq = hereB its key i := ⟨_, rfl⟩
  rw [← hhq]
  have HQ := hide hhq
  clear hhq
  have HL : Hid (leastL key F = its[i]?) := by
    have := (unhide HA).2.2.2.1
    rw [← this]
    exact least_list (unhide HP).1
  have hlen0 : kids.length = 0 := by have := (unhide HA).2.1; rw [show kids = [] from this]; rfl
  have HI : Hid (Calls Tryz.prog 36 #[.agg #[.slice ia its.length ik, .slice ka kids.length kk]] w1 fun e w2 => e = .returned (.bool false) ∧ Hid (Below w.heap.size w w2 ∧ NV w2 w.heap.size (.slice ia its.length ik) (.slice ka kids.length kk) ∧ IV w2 (w.heap.size + 1) (⟨#[]⟩, ⟨#[]⟩))) := by
    obtain ⟨t1, ks, t2, t3⟩ := (unhide HA).1
    refine (inner_any _ _ ks w1 (t2.1.below (unhide H1).1)).mono ?_
    rintro e w2 ⟨rfl, hb⟩
    obtain ⟨q1, q2, q3⟩ := unhide H1
    exact ⟨by rw [t3.len, hlen0]; rfl, below_tr q1 hb, q2.below hb, q3.below hb⟩
  obtain ⟨c20, c21, _, _⟩ := (unhide H1).2.1.cells
  clear hlen0 HQ
  go_upto_region 8 with (go_at_call 36; refine (unhide HI).mono ?_; rintro e w2 ⟨rfl, H2⟩; clear HI)
  have HV8 : Hid (∃ n, Chn w2 40 n (.iface 67 (.int .i64 40))) := ⟨0, rfl⟩
  clear c20 c21 H1
  by_cases hlt : i < its.length
  · have hlti : (i : Int) < (its.length : Int) := by omega
    have hi0 : (0 : Int) ≤ (i : Int) := by omega
    have hy : its[i]? = some (its[i]'hlt) := List.getElem?_eq_getElem _
    generalize its[i]'hlt = y at hy
    obtain ⟨ib, io, hia, hib, y0, y1⟩ := ((unhide HA).1.1.1.below (unhide H2).1).at (i := i) (x := itV y) (by rw [List.getElem?_map, hy]; rfl)
    subst hia
    replace y0 : w2.cell? ⟨ib, io + i * 2, none⟩ = some (.string y.1) := y0
    replace y1 : w2.cell? ⟨ib, io + i * 2 + 1, none⟩ = some (.string y.2) := y1
    obtain ⟨c20, c21, _, _⟩ := (unhide H2).2.1.cells
    have c30 : w2.cell? ⟨w.heap.size + 1, 0, none⟩ = some (.string ⟨#[]⟩) := (unhide H2).2.2.cells.1
    have c31 : w2.cell? ⟨w.heap.size + 1, 1, none⟩ = some (.string ⟨#[]⟩) := (unhide H2).2.2.cells.2
    have f30 := frzB2 (unhide H2).2.2 0
    have f31 := frzB2 (unhide H2).2.2 1
    have HE : Hid (LeastP w F key (.returned (.tuple #[.agg #[.string y.1, .string y.2], .nilIface])) ((w2.setCell ⟨w.heap.size + 1, 0, none⟩ (.string y.1)).setCell ⟨w.heap.size + 1, 1, none⟩ (.string y.2))) := ⟨y, .nilIface, rfl, set2_below (unhide H2).1 (by omega), .inl ⟨by rw [unhide HL]; exact hy, rfl⟩⟩
    clear HA HL H2 HV8 HP hy hlt
    go_wp2_with fail
    refine bodyPost_ret (v := .tuple #[.agg #[.string y.1, .string y.2], .nilIface]) ?_ rfl ?_
    · rw [results_cell_tmp rfl]
      go_simp
    exact unhide HE
  · have hlti : ¬ ((i : Int) < (its.length : Int)) := by omega
    have HWr : Hid (∀ W' : World, Below w2.heap.size w2 W' → Calls Tryz.prog 40 #[.iface 67 (.int .i64 40), .int .i64 (i : Int)] W' fun e w5 => ∃ T x, e = .returned (.iface T x) ∧ (w5.cell? ⟨w.heap.size + 1, 0, none⟩ = some (.string ⟨#[]⟩) ∧ w5.cell? ⟨w.heap.size + 1, 1, none⟩ = some (.string ⟨#[]⟩) ∧ w5.frozen? ⟨w.heap.size + 1, 0, none⟩ = false ∧ w5.frozen? ⟨w.heap.size + 1, 1, none⟩ = false) ∧ Hid (LeastP w F key (.returned (.tuple #[.agg #[.string ⟨#[]⟩, .string ⟨#[]⟩], .iface T x])) ((w5.setCell ⟨w.heap.size + 1, 0, none⟩ (.string ⟨#[]⟩)).setCell ⟨w.heap.size + 1, 1, none⟩ (.string ⟨#[]⟩)))) := by
      intro W' hb'
      obtain ⟨q1, q2, q3⟩ := unhide H2
      obtain ⟨n, hch⟩ := unhide HV8
      refine (wrapped_t i (by have := (unhide HP).1.1; have := (unhide HA).2.2.1; omega) (hch.below hb')).mono ?_
      rintro e w5 ⟨T, x, rfl, z1, z2⟩
      have q4 := (q3.below hb').below z2
      refine ⟨T, x, rfl, ⟨q4.cells.1, q4.cells.2, frzB2 q4 0, frzB2 q4 1⟩, ((⟨#[]⟩, ⟨#[]⟩)), .iface T x, rfl, set2_below (below_tr (below_tr q1 hb') z2) (by omega), .inr ⟨?_, rfl, n, ?_⟩⟩
      · rw [unhide HL, List.getElem?_eq_none (by omega)]
      · exact z1.var2 q4
    obtain ⟨c20, c21, _, _⟩ := (unhide H2).2.1.cells
    clear HA HL H2 HV8 HP hlt
    go_wp2_with (go_at_call 40; (first | refine (unhide HWr _ (Below.refl _ _)).mono ?_ | refine (unhide HWr _ (Below.refl _ _).drew).mono ?_); rintro e w5 ⟨T, x, rfl, ⟨r0, r1, g0, g1⟩, HE⟩; clear HWr)
    refine bodyPost_ret (v := .tuple #[.agg #[.string ⟨#[]⟩, .string ⟨#[]⟩], .iface T x]) ?_ rfl ?_
    · rw [results_cell_tmp rfl]
      go_simp
    exact unhide HE
end
section
variable {w : World} {O : Nat → Prop} {vi vk : Value} {key : ByteArray} {F : List It}
set_option maxHeartbeats 12800000 in
set_option maxRecDepth 100000 in
theorem least_1 {d : Nat} {its : List It} {kids : List (BT (d + 1))} (ht : NP w O (d + 1) its kids vi vk) (hs : Shp (d + 1) (BT.mk its kids)) (h15 : its.length ≤ 15) (hFf : flat (d + 1) (BT.mk its kids) = F) (hF : Srt F) (IH : ∀ (k : BT (d + 1)) (ki kk : Value) (O' : Nat → Prop) (W : World), k ∈ kids → NodeAt W O' d k ki kk → Calls Tryz.prog 24 #[.agg #[ki, kk], .string key] W (LeastP W (flat d k) key)) :
    Calls Tryz.prog 24 #[.agg #[vi, vk], .string key] w (LeastP w F key) := by
  obtain ⟨ia, ik, ka, kk, rfl, rfl⟩ := ht.slices
  have hsi : Srt its := srt_its (d := (d + 1)) (t := BT.mk its kids) (by rw [hFf]; exact hF)
  obtain ⟨W0, hW0⟩ : ∃ W0, W0 = (w.alloc (.cells #[.slice ia its.length ik, .slice ka kids.length kk] 54)).alloc (.cells #[.string ⟨#[]⟩, .string ⟨#[]⟩] 62) := ⟨_, rfl⟩
  have hb0 : Below w.heap.size w W0 := by rw [hW0]; exact ((Below.refl _ _).alloc (Nat.le_refl _) _).alloc (by simp) _
  have v2 : NV W0 w.heap.size (.slice ia its.length ik) (.slice ka kids.length kk) := by rw [hW0]; exact (NV.new w _ _).below ((Below.refl _ _).alloc (Nat.le_refl _) _)
  have v3 : IV W0 (w.heap.size + 1) (⟨#[]⟩, ⟨#[]⟩) := by
    have : IV ((w.alloc (.cells #[.slice ia its.length ik, .slice ka kids.length kk] 54)).alloc (.cells #[.string ⟨#[]⟩, .string ⟨#[]⟩] 62)) (w.alloc (.cells #[.slice ia its.length ik, .slice ka kids.length kk] 54)).heap.size (⟨#[]⟩, ⟨#[]⟩) := heap_alloc_new _ _
    rw [World.size_alloc] at this
    rw [hW0]; exact this
  have HC : Hid (Calls Tryz.prog 34 #[.agg #[.slice ia its.length ik, .slice ka kids.length kk], .string key] W0 fun e w1 => ∃ i : Nat, e = .returned (.tuple #[.int .i64 (i : Int), .bool (hereB its key i)]) ∧ Hid (PlaceAt its key i) ∧ Hid (Below w.heap.size w w1 ∧ NV w1 w.heap.size (.slice ia its.length ik) (.slice ka kids.length kk) ∧ IV w1 (w.heap.size + 1) (⟨#[]⟩, ⟨#[]⟩))) := by
    refine (find_any _ _ its key W0 ((ht.1.1).below hb0) hsi (by omega)).mono ?_
    rintro e w1 ⟨i, hp, rfl, hb1⟩
    exact ⟨i, rfl, hp, below_tr hb0 hb1, v2.below hb1, v3.below hb1⟩
  have HA := hide (And.intro ht (And.intro hs (And.intro h15 (And.intro hFf hF))))
  have HIH := hide IH
  clear IH
  clear ht hs h15 hF hFf hsi hb0 v2 v3
  go_enter Tryz.func24, Tryz.ntmps24
  go_upto_region 3 with (go_at_call 34; rw [← hW0]; refine (unhide HC).mono ?_; rintro e w1 ⟨i, rfl, hp, H1⟩; have HP : Hid (PlaceAt its key i ∧ True) := ⟨unhide hp, trivial⟩; clear HC hp)
  clear hW0
  obtain ⟨hq, hhq⟩ : ∃ hq, hq = hereB its key i := ⟨_, rfl⟩
  rw [← hhq]
  have HQ := hide hhq
  clear hhq
  have hn1 : kids.length = its.length + 1 := (shp_succ.1 (unhide HA).2.1).1
  have hik : i < kids.length := by have := (unhide HP).1.1; omega
  have hki : kids[i]? = some (kids[i]'hik) := List.getElem?_eq_getElem _
  generalize kids[i]'hik = k at hki
  obtain ⟨t1, ks, t2, t3⟩ := (unhide HA).1
  obtain ⟨vki, vkk, ek, hkn⟩ := t3.get hki
  obtain ⟨kb, ko, hka, hkb, l0, l1⟩ := t2.1.at ek
  subst hka
  obtain ⟨kia, kik, kka, kkk, rfl, rfl⟩ := one_cells hkn
  have HI : Hid (Calls Tryz.prog 36 #[.agg #[.slice ia its.length ik, .slice (some ⟨kb, ko, none⟩) kids.length kk]] w1 fun e w2 => e = .returned (.bool true) ∧ Hid (Below w.heap.size w w2 ∧ NV w2 w.heap.size (.slice ia its.length ik) (.slice (some ⟨kb, ko, none⟩) kids.length kk) ∧ IV w2 (w.heap.size + 1) (⟨#[]⟩, ⟨#[]⟩))) := by
    obtain ⟨t1, ks, t2, t3⟩ := (unhide HA).1
    refine (inner_any _ _ ks w1 (t2.1.below (unhide H1).1)).mono ?_
    rintro e w2 ⟨rfl, hb⟩
    obtain ⟨q1, q2, q3⟩ := unhide H1
    exact ⟨by rw [t3.len]; simp; omega, below_tr q1 hb, q2.below hb, q3.below hb⟩
  have HKN := hide (And.intro hkn (And.intro hkb (And.intro l0 (And.intro l1 (And.intro hki (And.intro hn1 hik))))))
  have hii : (i : Int) < (kids.length : Int) := by omega
  have hi0 : (0 : Int) ≤ (i : Int) := by omega
  obtain ⟨c20, c21, _, _⟩ := (unhide H1).2.1.cells
  clear t1 t2 t3 ek hkn hkb l0 l1 hki hn1 hik
  cases hq
  · go_upto_region 4 with (go_at_call 36; refine (unhide HI).mono ?_; rintro e w2 ⟨rfl, H2⟩; clear HI)
    clear c20 c21 H1
    have HP40 : Hid (∀ W : World, Below w2.heap.size w2 W → Calls Tryz.prog 24 #[.agg #[.slice kia k.its.length kik, .slice kka k.kids.length kkk], .string key] W (LeastP W (flat d k) key)) := fun W hb => by
      obtain ⟨r1, r2, r3, r4, r5, r6, r7⟩ := unhide HKN
      exact unhide HIH k _ _ _ W (List.mem_of_getElem? r5) (r1.below (below_tr (unhide H2).1 hb))
    have HS5 : Hid (∀ W : World, Below w2.heap.size w2 W → W.cell? ⟨w.heap.size, 1, none⟩ = some (.slice (some ⟨kb, ko, none⟩) kids.length kk) ∧ W.cell? ⟨kb, ko + i * 2, none⟩ = some (.slice kia k.its.length kik) ∧ W.cell? ⟨kb, ko + i * 2 + 1, none⟩ = some (.slice kka k.kids.length kkk)) := fun W hb => by
      obtain ⟨q1, q2, q3⟩ := unhide H2
      obtain ⟨r1, r2, r3, r4, r5, r6, r7⟩ := unhide HKN
      have hbw := below_tr q1 hb
      exact ⟨(q2.below hb).cells.2.1, (hbw.cell (p := ⟨kb, _, none⟩) r2).trans r3, (hbw.cell (p := ⟨kb, _, none⟩) r2).trans r4⟩
    obtain ⟨c20, c21, _, _⟩ := (unhide H2).2.1.cells
    obtain ⟨y0, y1, y2⟩ := unhide HS5 _ (Below.refl _ _)
    go_upto_region 5 with (go_at_call 24; refine (unhide HP40 _ (Below.refl _ _)).mono ?_; rintro e w3 ⟨x, v, rfl, hbb, q1⟩; have HH := hide (And.intro hbb q1); clear q1 hbb)
    obtain ⟨b8, hb8⟩ : ∃ b8, b8 = w3.heap.size := ⟨_, rfl⟩
    obtain ⟨wc, hwc⟩ : ∃ wc, wc = w3.alloc (.cells #[.string x.1, .string x.2] 62) := ⟨_, rfl⟩
    rw [← hwc, ← hb8]
    have HV : Hid (IV wc b8 x ∧ ((leastL key (flat d k) = some x ∧ v = .nilIface) ∨ (leastL key (flat d k) = none ∧ ∃ n, Chn wc 40 (n + 1) v)) ∧ w2.heap.size ≤ b8 ∧ Below w2.heap.size w2 wc) := by
      obtain ⟨q1, q2⟩ := unhide HH
      have hbc : Below w3.heap.size w3 wc := by rw [hwc]; exact (Below.refl _ _).alloc (Nat.le_refl _) _
      exact ⟨by rw [hwc, hb8]; exact heap_alloc_new _ _, q2.imp id (fun h => ⟨h.1, h.2.2.imp (fun _ h => h.below hbc)⟩), by rw [hb8]; exact q1.size, below_tr q1 hbc⟩
    clear HH hwc hb8 y0 y1 y2 c20 c21
    · skip
      have H3 : Hid (Below w.heap.size w wc ∧ NV wc w.heap.size (.slice ia its.length ik) (.slice (some ⟨kb, ko, none⟩) kids.length kk) ∧ IV wc (w.heap.size + 1) (⟨#[]⟩, ⟨#[]⟩)) := by
        obtain ⟨q1, q2, q3⟩ := unhide H2
        have hb := (unhide HV).2.2.2
        exact ⟨below_tr q1 hb, q2.below hb, q3.below hb⟩
      obtain ⟨c80, c81⟩ := (unhide HV).1.cells
      rcases (unhide HV).2.1 with ⟨hx, rfl⟩ | ⟨hx, n, hch⟩
      · have c30 : wc.cell? ⟨w.heap.size + 1, 0, none⟩ = some (.string ⟨#[]⟩) := (unhide H3).2.2.cells.1
        have c31 : wc.cell? ⟨w.heap.size + 1, 1, none⟩ = some (.string ⟨#[]⟩) := (unhide H3).2.2.cells.2
        have f30 := frzB2 (unhide H3).2.2 0
        have f31 := frzB2 (unhide H3).2.2 1
        have HE : Hid (LeastP w F key (.returned (.tuple #[.agg #[.string x.1, .string x.2], .nilIface])) ((wc.setCell ⟨w.heap.size + 1, 0, none⟩ (.string x.1)).setCell ⟨w.heap.size + 1, 1, none⟩ (.string x.2))) := by
          obtain ⟨r1, r2, r3, r4, r5, r6, r7⟩ := unhide HKN
          obtain ⟨_, _, _, hFf, hF⟩ := unhide HA
          refine ⟨x, .nilIface, rfl, set2_below (unhide H3).1 (by omega), .inl ⟨?_, rfl⟩⟩
          rw [← hFf]
          exact least_in r6 (by rw [hFf]; exact hF) (unhide HP).1 r5 hx
        have HN := hide (Dk.is_nil 40 wc)
        clear HA HP HQ HKN H2 HV HIH HP40 HS5 H3 hx
        go_wp2_with (go_at_call 23; refine (unhide HN).mono ?_; rintro e w5 ⟨rfl, rfl⟩)
        refine bodyPost_ret (v := .tuple #[.agg #[.string x.1, .string x.2], .nilIface]) ?_ rfl ?_
        · rw [results_cell_tmp rfl]
          go_simp
        exact unhide HE
      · have HN := hide (is_chain 40 hch)
        have HL : Hid (leastL key F = its[i]?) := by
          obtain ⟨r1, r2, r3, r4, r5, r6, r7⟩ := unhide HKN
          obtain ⟨_, _, _, hFf, hF⟩ := unhide HA
          have := least_out r6 (by rw [hFf]; exact hF) (unhide HP).1 r5 hx
          rw [hFf] at this
          exact this
        have HV8 : Hid (∃ n, Chn wc 40 n v) := ⟨n + 1, hch⟩
        obtain ⟨T', x', rfl⟩ := hch.iface
        clear HQ HKN H2 HV HIH HP40 HS5 hx hch c80 c81
        go_upto_region 8 with (go_at_call 23; refine (unhide HN).mono ?_; rintro e w5 ⟨rfl, hw5⟩; rw [hw5]; clear hw5 HN)
        by_cases hlt : i < its.length
        · have hlti : (i : Int) < (its.length : Int) := by omega
          have hi0 : (0 : Int) ≤ (i : Int) := by omega
          have hy : its[i]? = some (its[i]'hlt) := List.getElem?_eq_getElem _
          generalize its[i]'hlt = y at hy
          obtain ⟨ib, io, hia, hib, y0, y1⟩ := ((unhide HA).1.1.1.below (unhide H3).1).at (i := i) (x := itV y) (by rw [List.getElem?_map, hy]; rfl)
          subst hia
          replace y0 : wc.cell? ⟨ib, io + i * 2, none⟩ = some (.string y.1) := y0
          replace y1 : wc.cell? ⟨ib, io + i * 2 + 1, none⟩ = some (.string y.2) := y1
          obtain ⟨c20, c21, _, _⟩ := (unhide H3).2.1.cells
          have c30 : wc.cell? ⟨w.heap.size + 1, 0, none⟩ = some (.string ⟨#[]⟩) := (unhide H3).2.2.cells.1
          have c31 : wc.cell? ⟨w.heap.size + 1, 1, none⟩ = some (.string ⟨#[]⟩) := (unhide H3).2.2.cells.2
          have f30 := frzB2 (unhide H3).2.2 0
          have f31 := frzB2 (unhide H3).2.2 1
          have HE : Hid (LeastP w F key (.returned (.tuple #[.agg #[.string y.1, .string y.2], .nilIface])) ((wc.setCell ⟨w.heap.size + 1, 0, none⟩ (.string y.1)).setCell ⟨w.heap.size + 1, 1, none⟩ (.string y.2))) := ⟨y, .nilIface, rfl, set2_below (unhide H3).1 (by omega), .inl ⟨by rw [unhide HL]; exact hy, rfl⟩⟩
          clear HA HL H3 HV8 HP hy hlt
          go_wp2_with fail
          refine bodyPost_ret (v := .tuple #[.agg #[.string y.1, .string y.2], .nilIface]) ?_ rfl ?_
          · rw [results_cell_tmp rfl]
            go_simp
          exact unhide HE
        · have hlti : ¬ ((i : Int) < (its.length : Int)) := by omega
          have HWr : Hid (∀ W' : World, Below wc.heap.size wc W' → Calls Tryz.prog 40 #[.iface T' x', .int .i64 (i : Int)] W' fun e w5 => ∃ T x, e = .returned (.iface T x) ∧ (w5.cell? ⟨w.heap.size + 1, 0, none⟩ = some (.string ⟨#[]⟩) ∧ w5.cell? ⟨w.heap.size + 1, 1, none⟩ = some (.string ⟨#[]⟩) ∧ w5.frozen? ⟨w.heap.size + 1, 0, none⟩ = false ∧ w5.frozen? ⟨w.heap.size + 1, 1, none⟩ = false) ∧ Hid (LeastP w F key (.returned (.tuple #[.agg #[.string ⟨#[]⟩, .string ⟨#[]⟩], .iface T x])) ((w5.setCell ⟨w.heap.size + 1, 0, none⟩ (.string ⟨#[]⟩)).setCell ⟨w.heap.size + 1, 1, none⟩ (.string ⟨#[]⟩)))) := by
            intro W' hb'
            obtain ⟨q1, q2, q3⟩ := unhide H3
            obtain ⟨n, hch⟩ := unhide HV8
            refine (wrapped_t i (by have := (unhide HP).1.1; have := (unhide HA).2.2.1; omega) (hch.below hb')).mono ?_
            rintro e w5 ⟨T, x, rfl, z1, z2⟩
            have q4 := (q3.below hb').below z2
            refine ⟨T, x, rfl, ⟨q4.cells.1, q4.cells.2, frzB2 q4 0, frzB2 q4 1⟩, ((⟨#[]⟩, ⟨#[]⟩)), .iface T x, rfl, set2_below (below_tr (below_tr q1 hb') z2) (by omega), .inr ⟨?_, rfl, n, ?_⟩⟩
            · rw [unhide HL, List.getElem?_eq_none (by omega)]
            · exact z1.var2 q4
          obtain ⟨c20, c21, _, _⟩ := (unhide H3).2.1.cells
          clear HA HL H3 HV8 HP hlt
          go_wp2_with (go_at_call 40; (first | refine (unhide HWr _ (Below.refl _ _)).mono ?_ | refine (unhide HWr _ (Below.refl _ _).drew).mono ?_); rintro e w5 ⟨T, x, rfl, ⟨r0, r1, g0, g1⟩, HE⟩; clear HWr)
          refine bodyPost_ret (v := .tuple #[.agg #[.string ⟨#[]⟩, .string ⟨#[]⟩], .iface T x]) ?_ rfl ?_
          · rw [results_cell_tmp rfl]
            go_simp
          exact unhide HE
  · have HL : Hid (leastL key F = its[i]?) := by
      obtain ⟨r1, r2, r3, r4, r5, r6, r7⟩ := unhide HKN
      obtain ⟨_, _, _, hFf, hF⟩ := unhide HA
      have hF' : Srt (flat (d + 1) (BT.mk its kids)) := by rw [hFf]; exact hF
      have := least_out r6 hF' (unhide HP).1 r5 (least_here r6 hF' (unhide HP).1 r5 (unhide HQ).symm)
      rw [hFf] at this
      exact this
    go_upto_region 8 with (go_at_call 36; refine (unhide HI).mono ?_; rintro e w2 ⟨rfl, H2⟩; clear HI)
    have HV8 : Hid (∃ n, Chn w2 40 n (.iface 67 (.int .i64 40))) := ⟨0, rfl⟩
    clear c20 c21 H1 HQ HKN HIH
    by_cases hlt : i < its.length
    · have hlti : (i : Int) < (its.length : Int) := by omega
      have hi0 : (0 : Int) ≤ (i : Int) := by omega
      have hy : its[i]? = some (its[i]'hlt) := List.getElem?_eq_getElem _
      generalize its[i]'hlt = y at hy
      obtain ⟨ib, io, hia, hib, y0, y1⟩ := ((unhide HA).1.1.1.below (unhide H2).1).at (i := i) (x := itV y) (by rw [List.getElem?_map, hy]; rfl)
      subst hia
      replace y0 : w2.cell? ⟨ib, io + i * 2, none⟩ = some (.string y.1) := y0
      replace y1 : w2.cell? ⟨ib, io + i * 2 + 1, none⟩ = some (.string y.2) := y1
      obtain ⟨c20, c21, _, _⟩ := (unhide H2).2.1.cells
      have c30 : w2.cell? ⟨w.heap.size + 1, 0, none⟩ = some (.string ⟨#[]⟩) := (unhide H2).2.2.cells.1
      have c31 : w2.cell? ⟨w.heap.size + 1, 1, none⟩ = some (.string ⟨#[]⟩) := (unhide H2).2.2.cells.2
      have f30 := frzB2 (unhide H2).2.2 0
      have f31 := frzB2 (unhide H2).2.2 1
      have HE : Hid (LeastP w F key (.returned (.tuple #[.agg #[.string y.1, .string y.2], .nilIface])) ((w2.setCell ⟨w.heap.size + 1, 0, none⟩ (.string y.1)).setCell ⟨w.heap.size + 1, 1, none⟩ (.string y.2))) := ⟨y, .nilIface, rfl, set2_below (unhide H2).1 (by omega), .inl ⟨by rw [unhide HL]; exact hy, rfl⟩⟩
      clear HA HL H2 HV8 HP hy hlt
      go_wp2_with fail
      refine bodyPost_ret (v := .tuple #[.agg #[.string y.1, .string y.2], .nilIface]) ?_ rfl ?_
      · rw [results_cell_tmp rfl]
        go_simp
      exact unhide HE
    · have hlti : ¬ ((i : Int) < (its.length : Int)) := by omega
      have HWr : Hid (∀ W' : World, Below w2.heap.size w2 W' → Calls Tryz.prog 40 #[.iface 67 (.int .i64 40), .int .i64 (i : Int)] W' fun e w5 => ∃ T x, e = .returned (.iface T x) ∧ (w5.cell? ⟨w.heap.size + 1, 0, none⟩ = some (.string ⟨#[]⟩) ∧ w5.cell? ⟨w.heap.size + 1, 1, none⟩ = some (.string ⟨#[]⟩) ∧ w5.frozen? ⟨w.heap.size + 1, 0, none⟩ = false ∧ w5.frozen? ⟨w.heap.size + 1, 1, none⟩ = false) ∧ Hid (LeastP w F key (.returned (.tuple #[.agg #[.string ⟨#[]⟩, .string ⟨#[]⟩], .iface T x])) ((w5.setCell ⟨w.heap.size + 1, 0, none⟩ (.string ⟨#[]⟩)).setCell ⟨w.heap.size + 1, 1, none⟩ (.string ⟨#[]⟩)))) := by
        intro W' hb'
        obtain ⟨q1, q2, q3⟩ := unhide H2
        obtain ⟨n, hch⟩ := unhide HV8
        refine (wrapped_t i (by have := (unhide HP).1.1; have := (unhide HA).2.2.1; omega) (hch.below hb')).mono ?_
        rintro e w5 ⟨T, x, rfl, z1, z2⟩
        have q4 := (q3.below hb').below z2
        refine ⟨T, x, rfl, ⟨q4.cells.1, q4.cells.2, frzB2 q4 0, frzB2 q4 1⟩, ((⟨#[]⟩, ⟨#[]⟩)), .iface T x, rfl, set2_below (below_tr (below_tr q1 hb') z2) (by omega), .inr ⟨?_, rfl, n, ?_⟩⟩
        · rw [unhide HL, List.getElem?_eq_none (by omega)]
        · exact z1.var2 q4
      obtain ⟨c20, c21, _, _⟩ := (unhide H2).2.1.cells
      clear HA HL H2 HV8 HP hlt
      go_wp2_with (go_at_call 40; (first | refine (unhide HWr _ (Below.refl _ _)).mono ?_ | refine (unhide HWr _ (Below.refl _ _).drew).mono ?_); rintro e w5 ⟨T, x, rfl, ⟨r0, r1, g0, g1⟩, HE⟩; clear HWr)
      refine bodyPost_ret (v := .tuple #[.agg #[.string ⟨#[]⟩, .string ⟨#[]⟩], .iface T x]) ?_ rfl ?_
      · rw [results_cell_tmp rfl]
        go_simp
      exact unhide HE
end
/-- A node's least, whatever its height. -/
theorem least_t (key : ByteArray) : ∀ (d : Nat) (t : BT (d + 1)) (vi vk : Value) (O : Nat → Prop) (w : World), NodeAt w O d t vi vk → Shp d t → t.its.length ≤ 15 → Srt (flat d t) → Calls Tryz.prog 24 #[.agg #[vi, vk], .string key] w (LeastP w (flat d t) key)
  | 0, t, vi, vk, O, w, hn, hs, h15, hF => least_0 (its := t.its) (kids := t.kids) (node_iff.1 hn) hs h15 rfl hF
  | d + 1, t, vi, vk, O, w, hn, hs, h15, hF => by
    refine least_1 (its := t.its) (kids := t.kids) (node_iff.1 hn) hs h15 rfl hF (fun k ki kk O' W hk hkn => ?_)
    have hf := (shp_succ.1 hs).2 k hk
    refine least_t key d k ki kk O' W hkn hf.1 hf.2.2 ?_
    obtain ⟨i, hi⟩ := List.getElem?_of_mem hk
    obtain ⟨A, B, e1, _⟩ := flat_around (t := t) (shp_succ.1 hs).1 hi
    rw [e1] at hF
    exact (List.pairwise_append.1 (List.pairwise_append.1 hF).1).2.1
end Go.Proofs.YtlmjmhpdpgeplaaGreatDoor
