/- The reader of a tree's bytes: a node with kids. -/
import Derived.Test.YtlmjmhpdpgeplaaGreatDoorJTNodeRTNodeL
namespace Go.Proofs.YtlmjmhpdpgeplaaGreatDoor
open Go.RowKit Go.Lib

/-- How many gaps the first kids have. -/
def gs (p g : Nat) : Nat → Nat
  | 0 => 0
  | i + 1 => gs p g i + (g + i) / p
theorem gs_form {p g : Nat} (hp : 0 < p) : ∀ i, i ≤ p → gs p g i = i * (g / p) + (i - (p - g % p))
  | 0, _ => by simp [gs]
  | i + 1, hi => by
    have ih := gs_form (g := g) hp i (by omega)
    have hr := Nat.mod_lt g hp
    have hd := Nat.div_add_mod g p
    have e : (g + i) / p = g / p + (g % p + i) / p := by
      have : g + i = (g % p + i) + p * (g / p) := by omega
      rw [this, Nat.add_mul_div_left _ _ hp, Nat.add_comm]
    have e2 : (g % p + i) / p = if p - g % p ≤ i then 1 else 0 := by
      split
      · rw [Nat.div_eq_of_lt_le] <;> omega
      · exact Nat.div_eq_of_lt (by omega)
    rw [gs, ih, e, e2, Nat.add_mul]
    split <;> omega
theorem gs_all {p g : Nat} (hp : 0 < p) : gs p g p = g := by
  rw [gs_form hp p (Nat.le_refl _)]
  have hr := Nat.mod_lt g hp
  have hd := Nat.div_add_mod g p
  omega
theorem gs_mono {p g : Nat} : ∀ {i j : Nat}, i ≤ j → gs p g i ≤ gs p g j
  | i, 0, h => by have : i = 0 := by omega
                  subst this; exact Nat.le_refl _
  | i, j + 1, h => by
    rcases Nat.lt_or_ge j i with h' | h'
    · have : i = j + 1 := by omega
      subst this; exact Nat.le_refl _
    · have := gs_mono (p := p) (g := g) h'
      show _ ≤ gs p g j + (g + j) / p
      exact Nat.le_trans this (Nat.le_add_right _ _)
/-- A kid has more gaps than a leaf's, and no more than its share. -/
theorem share {p g s i : Nat} (hs : 1 ≤ s) (hp : 2 ≤ p) (hp2 : p ≤ 16) (h1 : g ≤ p * (16 * s)) (h2 : p * (16 * s) < g + 16 * s) (hi : i < p) : s + 1 ≤ (g + i) / p ∧ (g + i) / p ≤ 16 * s := by
  have : p = 2 ∨ p = 3 ∨ p = 4 ∨ p = 5 ∨ p = 6 ∨ p = 7 ∨ p = 8 ∨ p = 9 ∨ p = 10 ∨ p = 11 ∨ p = 12 ∨ p = 13 ∨ p = 14 ∨ p = 15 ∨ p = 16 := by omega
  rcases this with rfl | rfl | rfl | rfl | rfl | rfl | rfl | rfl | rfl | rfl | rfl | rfl | rfl | rfl | rfl <;> omega
theorem ceil_at {g s : Nat} (hs : 0 < s) (hg : 1 ≤ g) : g ≤ (g + s - 1) / s * s ∧ (g + s - 1) / s * s < g + s := by
  have h1 := Nat.div_add_mod (g + s - 1) s
  have h2 := Nat.mod_lt (g + s - 1) hs
  rw [Nat.mul_comm] at h1
  omega
theorem ceil_two {g s : Nat} (hs : 0 < s) (h1 : s + 1 ≤ g) (h2 : g ≤ 16 * s) : 2 ≤ (g + s - 1) / s ∧ (g + s - 1) / s ≤ 16 := by
  constructor
  · rw [Nat.le_div_iff_mul_le hs]; omega
  · have : (g + s - 1) / s < 17 := by rw [Nat.div_lt_iff_lt_mul hs]; omega
    omega
theorem Old2.up {w W : World} {v : Value} (h : Old2 w v) (hz : w.heap.size ≤ W.heap.size) : Old2 W v := ⟨fun b off n c e => Nat.lt_of_lt_of_le (h.1 b off n c e) hz, Nat.lt_of_lt_of_le h.2 hz⟩
section
variable {w : World} {r : Nat} {v : Value} {l : List UInt8} {d gaps s s16 p a : Nat} {fr : ByteArray}
set_option maxHeartbeats 25600000 in
set_option maxRecDepth 100000 in
theorem node_1 (h : RS2 w r v l a fr) (ho : Old2 w v) (hs : s = 16 * s16) (hs1 : 1 ≤ s16) (hg : s + 1 ≤ gaps) (hg2 : gaps ≤ 16 * s) (hgb : gaps ≤ 1000000) (hp : p = (gaps + s - 1) / s)
    (IH : ∀ (W : World) (gi a' : Nat) (fr' : ByteArray), RS2 W r v l a' fr' → Old2 W v → s16 + 1 ≤ gi → gi ≤ 16 * s16 → gi ≤ gaps → Calls Tryz.prog 31 #[.pointer (some ⟨r, 0, none⟩), .int .i64 (gi : Int), .int .i64 (s16 : Int)] W (NodP W r v l d gi ((gi + s16 - 1) / s16) a' fr')) :
    Calls Tryz.prog 31 #[.pointer (some ⟨r, 0, none⟩), .int .i64 (gaps : Int), .int .i64 (s : Int)] w (NodP w r v l (d + 1) gaps p a fr) := by
  obtain ⟨i0, hi, hz0, hz1, hz2⟩ := info_parts Tryz.info_item
  obtain ⟨n0, hin, hnz0, hnz1, hnz2⟩ := info_parts Tryz.info_node
  obtain ⟨W0, hW0⟩ : ∃ W0, W0 = (w.alloc (.cells #[.slice none 0 0, .slice none 0 0] 54)).alloc (.cells #[.slice none 0 0, .slice none 0 0] 54) := ⟨_, rfl⟩
  have H0 : Hid (NR w W0 r v l (d + 1) [] [] a fr (.slice none 0 0) (.slice none 0 0) []) := NR.start h hW0
  obtain ⟨hp2, hp16⟩ := ceil_two (show 0 < s by omega) hg hg2
  rw [← hp] at hp2 hp16
  obtain ⟨hc1, hc2⟩ := ceil_at (g := gaps) (show 0 < s by omega) (by omega)
  rw [← hp] at hc1 hc2
  have hsg : s ≤ 1000000 := by omega
  have HO := hide ho
  have HG : Hid (1 ≤ s16 ∧ 2 ≤ p ∧ p ≤ 16 ∧ gaps ≤ p * (16 * s16) ∧ p * (16 * s16) < gaps + 16 * s16 ∧ gs p gaps p = gaps ∧ gaps ≤ 1000000) := ⟨hs1, hp2, hp16, by rw [← hs]; exact hc1, by rw [← hs]; exact hc2, gs_all (by omega), hgb⟩
  have HIH := hide IH
  have hgi : (gaps : Int) ≤ 1000000 := by omega
  have hg0 : (0 : Int) ≤ (gaps : Int) := by omega
  have hsi : (s : Int) ≤ 1000000 := by omega
  have hs0 : (0 : Int) < (s : Int) := by omega
  have hsn : ((s : Int) = 0) = False := eq_false (by omega)
  have hs1n : ((s : Int) == 1) = false := by simp; omega
  have hs1p : ((s : Int) = 1) = False := eq_false (by omega)
  have hq1 : ((gaps : Int) + (s : Int) - 1) / (s : Int) = (p : Int) := by
    rw [show (gaps : Int) + (s : Int) - 1 = ((gaps + s - 1 : Nat) : Int) by omega, hp]; rfl
  have hq2 : (s : Int) / 16 = (s16 : Int) := by omega
  have hpi : (p : Int) ≤ 16 := by omega
  have hp0 : (0 : Int) < (p : Int) := by omega
  have hpn : ((p : Int) = 0) = False := eq_false (by omega)
  have hwg : IntKind.i64.wrap ((gaps : Int) + (s : Int)) = (gaps : Int) + (s : Int) := by rw [IntKind.wrap_i64] <;> omega
  have hwg1 : IntKind.i64.wrap ((gaps : Int) + (s : Int) - 1) = (gaps : Int) + (s : Int) - 1 := by rw [IntKind.wrap_i64] <;> omega
  have hwp : IntKind.i64.wrap (p : Int) = (p : Int) := by rw [IntKind.wrap_i64] <;> omega
  have hws : IntKind.i64.wrap (s16 : Int) = (s16 : Int) := by rw [IntKind.wrap_i64] <;> omega
  clear h ho hs hs1 hg hg2 hgb hp IH hp2 hp16 hc1 hc2 hsg
  go_enter Tryz.func31, Tryz.ntmps31
  go_upto_region 2 with fail
  rw [← hW0]
  clear hW0
  go_wp2_with fail
  rw [hq1]
  go_loopw [22] (fun s22 wr => ∃ (i : Nat) (its : List It) (kids : List (BT (d + 1))) (ks : List (Value × Value)) (a' : Nat) (fr' : ByteArray) (xs : List It) (va : Option Addr) (vn k : Nat) (vb : Option Addr) (vm k' : Nat), s22 = .int .i64 (i : Int) ∧ i ≤ p ∧ Hid (NR w wr r v l (d + 1) its kids a' fr' (.slice va vn k) (.slice vb vm k') ks ∧ rdIts l (gs p gaps i - 1) a fr = some (xs, a', fr') ∧ its.length = i - 1 ∧ kids.length = i ∧ weave its (kids.map (flat d)) = xs ∧ (∀ k ∈ kids, Fine d k) ∧ vn = its.length ∧ vm = kids.length)) (fun s22 _ => p - (RowKit.intOf s22).toNat)
  case atStart => exact ⟨0, [], [], [], a, fr, [], none, 0, 0, none, 0, 0, rfl, Nat.zero_le _, unhide H0, rfl, rfl, rfl, rfl, (fun _ h => by cases h), rfl, rfl⟩
  case round =>
    clear H0
    obtain ⟨i, its, kids, ks, a', fr', xs, va, vn, k, vb, vm, k', rfl, hig, HD⟩ := hrel
    by_cases hlt : i < p
    · have hlti : (i : Int) < (p : Int) := by omega
      have hwi : IntKind.i64.wrap ((i : Int) + 1) = (i : Int) + 1 := by rw [IntKind.wrap_i64] <;> omega
      obtain ⟨gi, hgi'⟩ : ∃ gi, gi = (gaps + i) / p := ⟨_, rfl⟩
      have hgq : ((gaps : Int) + (i : Int)) / (p : Int) = (gi : Int) := by
        rw [show (gaps : Int) + (i : Int) = ((gaps + i : Nat) : Int) by omega, hgi']; rfl
      have hgl : gi ≤ 1000020 := by rw [hgi']; have := Nat.div_le_self (gaps + i) p; omega
      have hwgi : IntKind.i64.wrap (gi : Int) = (gi : Int) := by rw [IntKind.wrap_i64] <;> omega
      have hwgp : IntKind.i64.wrap ((gaps : Int) + (i : Int)) = (gaps : Int) + (i : Int) := by rw [IntKind.wrap_i64] <;> omega
      have HGi := hide hgi'
      clear hgi' hgl
      by_cases hz : i = 0
      · subst hz
        obtain ⟨u1, u2, u3, u4, u5, u6, u7, u8⟩ := unhide HD
        have ek : kids = [] := List.length_eq_zero_iff.1 u4
        have ei : its = [] := List.length_eq_zero_iff.1 (by omega)
        have hgq0 : (gaps : Int) / (p : Int) = (gi : Int) := by rw [← hgq]; simp
        obtain ⟨a2, ha2⟩ : ∃ a2, a2 = a' := ⟨_, rfl⟩
        obtain ⟨fr2, hfr2⟩ : ∃ fr2, fr2 = fr' := ⟨_, rfl⟩
        obtain ⟨ys, hys⟩ : ∃ ys, ys = xs := ⟨_, rfl⟩
        rw [← ha2, ← hfr2] at u1 u2
        rw [← hys] at u2 u5
        have HS1 := hide u1
        have HC : Hid (rdIts l (gs p gaps 0) a fr = some (ys, a2, fr2)) := u2
        have HM : Hid (∀ kt : BT (d + 1), weave its ((kids ++ [kt]).map (flat d)) = ys ++ flat d kt) := fun kt => by
          rw [← u5, ek, ei]; rfl
        have HSz : Hid (kids.length = 0 ∧ its.length = 0 ∧ vm = kids.length ∧ vn = its.length ∧ ∀ k ∈ kids, Fine d k) := ⟨u4, by omega, u8, u7, u6⟩
        clear u1 u2 u3 u4 u5 u6 u7 u8 HD ek ei ha2 hfr2 hys hgq
        go_upto_region 12 with fail
        have HSh : Hid (s16 + 1 ≤ gi ∧ gi ≤ 16 * s16 ∧ gi ≤ gaps ∧ gs p gaps (0 + 1) = gs p gaps 0 + gi ∧ gs p gaps (0 + 1) ≤ gaps) := by
          obtain ⟨q1, q2, q3, q4, q5, q6, q7⟩ := unhide HG
          have h1 := share q1 q2 q3 q4 q5 hlt
          have h2 : gs p gaps (0 + 1) = gs p gaps 0 + (gaps + 0) / p := rfl
          have h3 : gs p gaps (0 + 1) ≤ gs p gaps p := gs_mono (by omega)
          rw [← unhide HGi] at h1 h2
          exact ⟨h1.1, h1.2, by omega, h2, by omega⟩
        have HNd := hide (unhide HIH wr gi a2 fr2 (unhide HS1).rs ((unhide HO).up (by have := (unhide HS1).size; omega)) (unhide HSh).1 (unhide HSh).2.1 (unhide HSh).2.2.1)
        cases hx2 : rdIts l (gi - 1) a2 fr2 with
        | none =>
          have HNd2 : Hid (Calls Tryz.prog 31 #[.pointer (some ⟨r, 0, none⟩), .int .i64 (gi : Int), .int .i64 (s16 : Int)] wr fun e w1 => ∃ T x, e = .returned (.tuple #[.agg #[.slice none 0 0, .slice none 0 0], .iface T x]) ∧ Hid (∀ W : World, Below w1.heap.size w1 W → Calls Tryz.prog 40 #[.iface T x, .int .i64 (0 : Int)] W fun e w2 => ∃ T' x', e = .returned (.iface T' x') ∧ (w2.cell? ⟨w.heap.size, 0, none⟩ = some (.slice none 0 0) ∧ w2.cell? ⟨w.heap.size, 1, none⟩ = some (.slice none 0 0) ∧ w2.frozen? ⟨w.heap.size, 0, none⟩ = false ∧ w2.frozen? ⟨w.heap.size, 1, none⟩ = false) ∧ Hid (NodP w r v l (d + 1) gaps p a fr (.returned (.tuple #[.agg #[.slice none 0 0, .slice none 0 0], .iface T' x'])) ((w2.setCell ⟨w.heap.size, 0, none⟩ (.slice none 0 0)).setCell ⟨w.heap.size, 1, none⟩ (.slice none 0 0))))) := by
            refine (unhide HNd).mono ?_
            rintro e w1 ⟨z1, ⟨xs', a3, fr3, _, _, _, _, _, _, _, _, zx, _⟩ | ⟨_, T, x, m, rfl, z2⟩⟩
            · rw [hx2] at zx; cases zx
            · refine ⟨T, x, rfl, fun W hb => ?_⟩
              refine (wrapped_t 0 (by have := (unhide HG).2.2.1; omega) (z2.below hb)).mono ?_
              rintro e w2 ⟨T', x', rfl, y1, y2⟩
              have hfr : FrP r wr w2 := (z1.trans (FrP.of_below hb)).trans (FrP.of_below y2)
              have hk : ∀ g, g < wr.heap.size → w.heap.size ≤ g → w2.heap[g]? = wr.heap[g]? := fun g hg hw => hfr.2.2.2.2 g hg (by have := (unhide HS1).rl; omega)
              have hres : NV w2 w.heap.size (.slice none 0 0) (.slice none 0 0) := (hk _ (blk_lt (unhide HS1).res) (Nat.le_refl _)).trans (unhide HS1).res
              exact ⟨T', x', rfl, hres.cells, frp_new ((unhide HS1).frp.trans hfr), .inr ⟨rd_fail (unhide HC) hx2 (by have := unhide HSh; omega), T', x', _, rfl, y1.varN hres (fun _ _ h => by cases h)⟩⟩
          clear HNd HC HM HSz HS1 hx2 HSh HGi HIH
          go_wp2_with (first
            | (go_at_call 31; (try rw [hgq0]); (try rw [hq2]); refine (unhide HNd2).mono ?_; rintro e w1 ⟨T, x, rfl, HWr⟩; clear HNd2)
            | (go_at_call 40; refine (unhide HWr _ ((Below.refl _ _).alloc (Nat.le_refl _) _)).mono ?_; rintro e w2 ⟨T', x', rfl, ⟨r0, r1, g0, g1⟩, HE⟩; clear HWr))
          refine bodyPost_ret (v := .tuple #[.agg #[.slice none 0 0, .slice none 0 0], .iface T' x']) ?_ rfl ?_
          · rw [results_cell_tmp rfl]
            go_simp
          exact unhide HE
        | some q =>
          obtain ⟨zs, a3, fr3⟩ := q
          have HNd2 : Hid (Calls Tryz.prog 31 #[.pointer (some ⟨r, 0, none⟩), .int .i64 (gi : Int), .int .i64 (s16 : Int)] wr fun e w1 => ∃ kva kn kk' kvb kn' kk2, e = .returned (.tuple #[.agg #[.slice kva kn kk', .slice kvb kn' kk2], .nilIface]) ∧ Hid (∃ kt : BT (d + 1), NR w w1 r v l (d + 1) its kids a3 fr3 (.slice va vn k) (.slice vb vm k') ks ∧ NodeAt w1 (KS w w1 (.slice va vn k) (.slice vb vm k')) d kt (.slice kva kn kk') (.slice kvb kn' kk2) ∧ Fine d kt ∧ flat d kt = zs)) := by
            refine (unhide HNd).mono ?_
            rintro e w1 ⟨z1, ⟨xs', a3', fr3', its', kids', kva, kn, kk', kvb, kn', kk2, zx, rfl, z2, z3, z4, z5, z6⟩ | ⟨zx, _⟩⟩
            · rw [hx2] at zx
              cases zx
              have hc := ceil_two (show 0 < s16 by have := (unhide HG).1; omega) (unhide HSh).1 (unhide HSh).2.1
              have hn := (unhide HS1)
              refine ⟨kva, kn, kk', kvb, kn', kk2, rfl, BT.mk its' kids', hn.move z1 z6, z2.ltn (fun g hg hl => ⟨?_, hl, ?_, ?_⟩), ⟨z3, by show 1 ≤ its'.length; omega, by show its'.length ≤ 15; omega⟩, z5⟩
              · have := hn.size; omega
              · intro e; have := (own_lt hn.iown g e).2; omega
              · intro e; have := (own_lt hn.kown g e).2; omega
            · rw [hx2] at zx; cases zx
          have HC2 : Hid (rdIts l (gs p gaps (0 + 1) - 1) a fr = some (ys ++ zs, a3, fr3)) := by
            have := rd_more (unhide HC) hx2 rfl
            have hh := unhide HSh
            rw [show gs p gaps (0 + 1) - 1 = gs p gaps 0 + (gi - 1) by omega]
            exact this
          clear HNd hx2 HS1 HC
          go_upto_region 15 with (go_at_call 31; (try rw [hgq0]); (try rw [hq2]); refine (unhide HNd2).mono ?_; rintro e w4 ⟨kva, kn, kk', kvb, kn', kk2, rfl, HK4⟩; clear HNd2)
          obtain ⟨kt, HK5⟩ := unhide HK4
          have HK6 := hide HK5
          clear HK4 HK5
          obtain ⟨b13, hb13⟩ : ∃ b13, b13 = w4.heap.size := ⟨_, rfl⟩
          obtain ⟨w5, hw5⟩ : ∃ w5, w5 = w4.alloc (.cells #[.slice kva kn kk', .slice kvb kn' kk2] 54) := ⟨_, rfl⟩
          rw [← hw5, ← hb13]
          have H5 : Hid (NR w w5 r v l (d + 1) its kids a3 fr3 (.slice va vn k) (.slice vb vm k') ks ∧ NV w5 b13 (.slice kva kn kk') (.slice kvb kn' kk2) ∧ NodeAt w5 (KS w w5 (.slice va vn k) (.slice vb vm k')) d kt (.slice kva kn kk') (.slice kvb kn' kk2)) := by
            have hb : Below w4.heap.size w4 w5 := by rw [hw5]; exact (Below.refl _ _).alloc (Nat.le_refl _) _
            obtain ⟨u1, u2, u3, u4⟩ := unhide HK6
            exact ⟨u1.below hb, by rw [hw5, hb13]; exact NV.new _ _ _, (u2.below hb).mono (fun g hg => ⟨hg.1, Nat.lt_of_lt_of_le hg.2.1 hb.size, hg.2.2⟩)⟩
          have HF := hide (unhide HK6).2.2
          clear hw5 hb13 HK6
          obtain ⟨c0, c1, f0, f1⟩ := (unhide H5).1.var.cells
          obtain ⟨d0, d1, _, _⟩ := (unhide H5).2.1.cells
          have hbl : b13 < w5.heap.size := blk_lt (unhide H5).2.1
          have hvl : w.heap.size + 1 < w5.heap.size := by have := (unhide H5).1.size; omega
          have hb6 : Below w5.heap.size w5 (w5.alloc (.cells #[.slice kva kn kk', .slice kvb kn' kk2] 54)) := (Below.refl _ _).alloc (Nat.le_refl _) _
          have HA : Hid (NR w (w5.alloc (.cells #[.slice kva kn kk', .slice kvb kn' kk2] 54)) r v l (d + 1) its kids a3 fr3 (.slice va vn k) (.slice vb vm k') ks ∧ NodeAt (w5.alloc (.cells #[.slice kva kn kk', .slice kvb kn' kk2] 54)) (KS w (w5.alloc (.cells #[.slice kva kn kk', .slice kvb kn' kk2] 54)) (.slice va vn k) (.slice vb vm k')) d kt (.slice kva kn kk') (.slice kvb kn' kk2)) := ⟨(unhide H5).1.below hb6, ((unhide H5).2.2.below hb6).mono (fun g hg => ⟨hg.1, Nat.lt_of_lt_of_le hg.2.1 hb6.size, hg.2.2⟩)⟩
          have hown : (w5.alloc (.cells #[.slice kva kn kk', .slice kvb kn' kk2] 54)).ownsRow (w.heap.size + 2) 54 2 (.slice vb vm k') vm (c2 ks) := by rw [(unhide HSz).2.2.1]; have := (unhide HA).1.kown; rw [(unhide HSz).2.2.1] at this; exact this
          have hvn : vm ≤ 1000 := by have := unhide HSz; have := (unhide HG).2.2.1; omega
          clear hb6
          go_wp2_with (at_builtin; refine wpList_append_own_at _ rfl (.tmp 66) (.tmp 68) 52 rfl (w.heap.size + 2) 54 n0 _ 2 48 Tryz.underlying52 hin hnz0 hnz1 hnz2 rfl (by decide) _ _ _ rfl hown ⟨w5.heap.size, 0, none⟩ 1 1 [.slice kva kn kk', .slice kvb kn' kk2] rfl rfl (two_new _ _ _ _) (fun u hu => by simp at hu; rcases hu with rfl | rfl <;> rfl) (by unfold maxLen; omega) (by omega) (by simp; omega) ?_)
          intro v7 w7 hown7 hg7 _ hat7
          obtain ⟨va7, k7, rfl⟩ := own_sl hown7
          have HE : Hid (NR w (w7.setCell ⟨w.heap.size + 1, 1, none⟩ (.slice va7 (vm + 1) k7)) r v l (d + 1) its (kids ++ [kt]) a3 fr3 (.slice va vn k) (.slice va7 (vm + 1) k7) (ks ++ [(.slice kva kn kk', .slice kvb kn' kk2)])) := by
            refine (unhide HA).1.kid (unhide HO) (unhide HA).2 ⟨rfl, rfl⟩ ?_ hg7 (by rw [World.size_alloc]; exact hat7)
            rw [← (unhide HSz).2.2.1]
            exact hown7
          obtain ⟨c5, f5⟩ : w7.cell? ⟨w.heap.size + 1, 1, none⟩ = some (.slice vb vm k') ∧ w7.frozen? ⟨w.heap.size + 1, 1, none⟩ = false := by
            have hv : NV w7 (w.heap.size + 1) (.slice va vn k) (.slice vb vm k') := (hg7.block _ (blk_lt (unhide HA).1.var) (fun e => by have := (own_lt hown _ e.symm).1; omega)).trans (unhide HA).1.var
            exact ⟨hv.cells.2.1, hv.cells.2.2.2⟩
          clear hown hown7 hg7 hat7 HA H5 c0 c1 f0 f1 d0 d1
          go_wp2_with fail
          go_roundw
          case rel =>
            refine ⟨0 + 1, its, kids ++ [kt], _, a3, fr3, ys ++ zs, va, vn, k, va7, vm + 1, k7, by simp, by have := (unhide HG).2.1; omega, unhide HE, unhide HC2, ?_, ?_, ?_, ?_, ?_, ?_⟩
            · have := (unhide HSz).2.1; omega
            · rw [List.length_append, (unhide HSz).1]; rfl
            · rw [unhide HM kt, (unhide HF).2]
            · intro k1 hk1
              rcases List.mem_append.1 hk1 with h' | h'
              · exact (unhide HSz).2.2.2.2 k1 h'
              · rw [List.mem_singleton.1 h']; exact (unhide HF).1
            · exact (unhide HSz).2.2.2.1
            · have := (unhide HSz).2.2.1; simp; omega
          case measure => simp [RowKit.intOf]; omega
      · have hip : (0 : Int) < (i : Int) := by omega
        have hip2 : ¬ ((i : Int) ≤ 0) := by omega
        obtain ⟨j, hj⟩ : ∃ j, j = i - 1 := ⟨_, rfl⟩
        have hji : (i : Int) - 1 = (j : Int) := by omega
        have hwj : IntKind.i64.wrap (j : Int) = (j : Int) := by rw [IntKind.wrap_i64] <;> omega
        have HIt := hide (item_t (unhide HD).1.rs)
        have HSl : Hid (gs p gaps i + 1 ≤ gaps ∧ 1 ≤ gs p gaps i) := by
          obtain ⟨q1, q2, q3, q4, q5, q6, q7⟩ := unhide HG
          have h1 := share q1 q2 q3 q4 q5 hlt
          have h3 : gs p gaps (i + 1) ≤ gs p gaps p := gs_mono (by omega)
          have h2 : gs p gaps (i + 1) = gs p gaps i + (gaps + i) / p := rfl
          have h4 := share q1 q2 q3 q4 q5 (show 0 < p by omega)
          have h5 : gs p gaps (0 + 1) ≤ gs p gaps i := gs_mono (by omega)
          have h6 : gs p gaps (0 + 1) = 0 + (gaps + 0) / p := rfl
          exact ⟨by omega, by omega⟩
        cases hx : rdIt l a' fr' with
        | none =>
          have HIt2 : Hid (Calls Tryz.prog 46 #[.pointer (some ⟨r, 0, none⟩)] wr fun e w1 => ∃ T x, e = .returned (.tuple #[.agg #[.string ⟨#[]⟩, .string ⟨#[]⟩], .iface T x]) ∧ Hid (∀ W : World, Below w1.heap.size w1 W → Calls Tryz.prog 40 #[.iface T x, .int .i64 (j : Int)] W fun e w2 => ∃ T' x', e = .returned (.iface T' x') ∧ (w2.cell? ⟨w.heap.size, 0, none⟩ = some (.slice none 0 0) ∧ w2.cell? ⟨w.heap.size, 1, none⟩ = some (.slice none 0 0) ∧ w2.frozen? ⟨w.heap.size, 0, none⟩ = false ∧ w2.frozen? ⟨w.heap.size, 1, none⟩ = false) ∧ Hid (NodP w r v l (d + 1) gaps p a fr (.returned (.tuple #[.agg #[.slice none 0 0, .slice none 0 0], .iface T' x'])) ((w2.setCell ⟨w.heap.size, 0, none⟩ (.slice none 0 0)).setCell ⟨w.heap.size, 1, none⟩ (.slice none 0 0))))) := by
            refine (unhide HIt).mono ?_
            rintro e w1 ⟨z1, ⟨x, a1, zx, _⟩ | ⟨_, T, x, rfl, z2⟩⟩
            · rw [hx] at zx; cases zx
            · refine ⟨T, x, rfl, fun W hb => ?_⟩
              refine (wrapped_t j (by have := (unhide HG).2.2.1; omega) (z2.below hb)).mono ?_
              rintro e w2 ⟨T', x', rfl, y1, y2⟩
              have hfr : FrP r wr w2 := (z1.trans (FrP.of_below hb)).trans (FrP.of_below y2)
              have hk : ∀ g, g < wr.heap.size → w.heap.size ≤ g → w2.heap[g]? = wr.heap[g]? := fun g hg hw => hfr.2.2.2.2 g hg (by have := (unhide HD).1.rl; omega)
              have hres : NV w2 w.heap.size (.slice none 0 0) (.slice none 0 0) := (hk _ (blk_lt (unhide HD).1.res) (Nat.le_refl _)).trans (unhide HD).1.res
              exact ⟨T', x', rfl, hres.cells, frp_new ((unhide HD).1.frp.trans hfr), .inr ⟨rd_fail (unhide HD).2.1 (n := 1) (by rw [rdIts_one, hx]) (by have := unhide HSl; omega), T', x', _, rfl, y1.varN hres (fun _ _ h => by cases h)⟩⟩
          clear HIt HD hx hj HSl HGi HIH
          go_wp2_with (first
            | (go_at_call 46; refine (unhide HIt2).mono ?_; rintro e w1 ⟨T, x, rfl, HWr⟩; clear HIt2)
            | (go_at_call 40; refine (unhide HWr _ ((Below.refl _ _).alloc (Nat.le_refl _) _)).mono ?_; rintro e w2 ⟨T', x', rfl, ⟨r0, r1, g0, g1⟩, HE⟩; clear HWr))
          refine bodyPost_ret (v := .tuple #[.agg #[.slice none 0 0, .slice none 0 0], .iface T' x']) ?_ rfl ?_
          · rw [results_cell_tmp rfl]
            go_simp
          exact unhide HE
        | some q =>
          obtain ⟨x, a1⟩ := q
          have HIt2 : Hid (Calls Tryz.prog 46 #[.pointer (some ⟨r, 0, none⟩)] wr fun e w1 => e = .returned (.tuple #[.agg #[.string x.1, .string x.2], .nilIface]) ∧ Hid (NR w w1 r v l (d + 1) its kids a1 (behindK x.1) (.slice va vn k) (.slice vb vm k') ks)) := by
            refine (unhide HIt).mono ?_
            rintro e w1 ⟨z1, ⟨x', a1', zx, rfl, z2⟩ | ⟨zx, _⟩⟩
            · rw [hx] at zx
              cases zx
              exact ⟨rfl, (unhide HD).1.move z1 z2⟩
            · rw [hx] at zx; cases zx
          obtain ⟨ys, hys⟩ : ∃ ys, ys = xs ++ [x] := ⟨_, rfl⟩
          have HC : Hid (rdIts l (gs p gaps i) a fr = some (ys, a1, behindK x.1)) := by
            obtain ⟨u1, u2, u3, u4, u5, u6, u7, u8⟩ := unhide HD
            have := rd_more u2 (n := 1) (by rw [rdIts_one, hx]) rfl
            rw [show gs p gaps i - 1 + 1 = gs p gaps i by have := (unhide HSl).2; omega] at this
            rw [hys]
            exact this
          have HM : Hid (∀ kt : BT (d + 1), weave (its ++ [x]) ((kids ++ [kt]).map (flat d)) = ys ++ flat d kt) := fun kt => by
            obtain ⟨u1, u2, u3, u4, u5, u6, u7, u8⟩ := unhide HD
            rw [hys, ← u5, List.map_append, List.map_cons, List.map_nil, weave_join _ _ _ _ _ (by rw [List.length_map]; omega) (by simp)]
            simp [weave]
          have HSz0 := hide (And.intro (unhide HD).2.2.1 (unhide HD).2.2.2)
          clear HIt HD hx hys
          go_upto_region 10 with (go_at_call 46; refine (unhide HIt2).mono ?_; rintro e w1 ⟨rfl, H1⟩; clear HIt2)
          obtain ⟨b11, hb11⟩ : ∃ b11, b11 = w1.heap.size := ⟨_, rfl⟩
          obtain ⟨w2, hw2⟩ : ∃ w2, w2 = w1.alloc (.cells #[.string x.1, .string x.2] 62) := ⟨_, rfl⟩
          rw [← hw2, ← hb11]
          have H2 : Hid (NR w w2 r v l (d + 1) its kids a1 (behindK x.1) (.slice va vn k) (.slice vb vm k') ks ∧ IV w2 b11 x ∧ w.heap.size + 2 ≤ w2.heap.size) := by
            have hb : Below w1.heap.size w1 w2 := by rw [hw2]; exact (Below.refl _ _).alloc (Nat.le_refl _) _
            have hn := (unhide H1).below hb
            exact ⟨hn, by rw [hw2, hb11]; exact heap_alloc_new _ _, hn.size⟩
          clear hw2 hb11 H1
          obtain ⟨c0, c1, f0, f1⟩ := (unhide H2).1.var.cells
          have d0 : w2.cell? ⟨b11, 0, none⟩ = some (.string x.1) := (unhide H2).2.1.cells.1
          have d1 : w2.cell? ⟨b11, 1, none⟩ = some (.string x.2) := (unhide H2).2.1.cells.2
          have hbl : b11 < w2.heap.size := blk_lt (unhide H2).2.1
          have hvl : w.heap.size + 1 < w2.heap.size := by have := (unhide H2).2.2; omega
          have HA : Hid (NR w (w2.alloc (.cells #[.string x.1, .string x.2] 62)) r v l (d + 1) its kids a1 (behindK x.1) (.slice va vn k) (.slice vb vm k') ks) := (unhide H2).1.below ((Below.refl _ _).alloc (Nat.le_refl _) _)
          have hown : (w2.alloc (.cells #[.string x.1, .string x.2] 62)).ownsRow (w.heap.size + 2) 62 2 (.slice va vn k) vn (c2 (its.map itV)) := by rw [(unhide HSz0).2.2.2.2.1]; have := (unhide HA).iown; rw [(unhide HSz0).2.2.2.2.1] at this; exact this
          have hvn : vn ≤ 1000 := by have := (unhide HSz0).1; have := (unhide HSz0).2.2.2.2.1; omega
          go_wp2_with (at_builtin; refine wpList_append_own_at _ rfl (.tmp 40) (.tmp 42) 51 rfl (w.heap.size + 2) 62 i0 _ 2 32 Tryz.underlying51 hi hz0 hz1 hz2 rfl (by decide) _ _ _ rfl hown ⟨w2.heap.size, 0, none⟩ 1 1 [.string x.1, .string x.2] rfl rfl (two_new _ _ _ _) (fun u hu => by simp at hu; rcases hu with rfl | rfl <;> rfl) (by unfold maxLen; omega) (by omega) (by simp; omega) ?_)
          intro v3 w3 hown3 hg3 _ hat3
          obtain ⟨va3, k3, rfl⟩ := own_sl hown3
          have HE : Hid (NR w (w3.setCell ⟨w.heap.size + 1, 0, none⟩ (.slice va3 (vn + 1) k3)) r v l (d + 1) (its ++ [x]) kids a1 (behindK x.1) (.slice va3 (vn + 1) k3) (.slice vb vm k') ks) := by
            refine (unhide HA).item (unhide HO) ?_ hg3 (by rw [World.size_alloc]; exact hat3)
            rw [← (unhide HSz0).2.2.2.2.1]
            exact hown3
          obtain ⟨c5, f5⟩ : w3.cell? ⟨w.heap.size + 1, 0, none⟩ = some (.slice va vn k) ∧ w3.frozen? ⟨w.heap.size + 1, 0, none⟩ = false := by
            have hv : NV w3 (w.heap.size + 1) (.slice va vn k) (.slice vb vm k') := (hg3.block _ (blk_lt (unhide HA).var) (fun e => by have := (own_lt hown _ e.symm).1; omega)).trans (unhide HA).var
            exact ⟨hv.cells.1, hv.cells.2.2.1⟩
          clear hown hown3 hg3 hat3 HA H2 c0 c1 f0 f1 d0 d1
          go_upto_region 12 with fail
          obtain ⟨wa, hwa⟩ : ∃ wa, wa = w3.setCell ⟨w.heap.size + 1, 0, none⟩ (.slice va3 (vn + 1) k3) := ⟨_, rfl⟩
          rw [← hwa] at HE ⊢
          obtain ⟨vn2, hvn2⟩ : ∃ vn2, vn2 = vn + 1 := ⟨_, rfl⟩
          rw [← hvn2] at HE ⊢
          obtain ⟨a2, ha2⟩ : ∃ a2, a2 = a1 := ⟨_, rfl⟩
          obtain ⟨fr2, hfr2⟩ : ∃ fr2, fr2 = behindK x.1 := ⟨_, rfl⟩
          rw [← ha2, ← hfr2] at HE HC
          have HS1 := hide (unhide HE)
          have HSz : Hid (kids.length = i ∧ (its ++ [x]).length = i ∧ vm = kids.length ∧ vn2 = (its ++ [x]).length ∧ ∀ k ∈ kids, Fine d k) := by
            obtain ⟨u3, u4, u5, u6, u7, u8⟩ := unhide HSz0
            exact ⟨u4, by simp; omega, u8, by simp; omega, u6⟩
          clear HE hwa hvn2 ha2 hfr2 HSz0 c5 f5 HSl
          have HSh : Hid (s16 + 1 ≤ gi ∧ gi ≤ 16 * s16 ∧ gi ≤ gaps ∧ gs p gaps (i + 1) = gs p gaps i + gi ∧ gs p gaps (i + 1) ≤ gaps) := by
            obtain ⟨q1, q2, q3, q4, q5, q6, q7⟩ := unhide HG
            have h1 := share q1 q2 q3 q4 q5 hlt
            have h2 : gs p gaps (i + 1) = gs p gaps i + (gaps + i) / p := rfl
            have h3 : gs p gaps (i + 1) ≤ gs p gaps p := gs_mono (by omega)
            rw [← unhide HGi] at h1 h2
            exact ⟨h1.1, h1.2, by omega, h2, by omega⟩
          have HNd := hide (unhide HIH wa gi a2 fr2 (unhide HS1).rs ((unhide HO).up (by have := (unhide HS1).size; omega)) (unhide HSh).1 (unhide HSh).2.1 (unhide HSh).2.2.1)
          cases hx2 : rdIts l (gi - 1) a2 fr2 with
          | none =>
            have HNd2 : Hid (Calls Tryz.prog 31 #[.pointer (some ⟨r, 0, none⟩), .int .i64 (gi : Int), .int .i64 (s16 : Int)] wa fun e w1 => ∃ T x, e = .returned (.tuple #[.agg #[.slice none 0 0, .slice none 0 0], .iface T x]) ∧ Hid (∀ W : World, Below w1.heap.size w1 W → Calls Tryz.prog 40 #[.iface T x, .int .i64 (i : Int)] W fun e w2 => ∃ T' x', e = .returned (.iface T' x') ∧ (w2.cell? ⟨w.heap.size, 0, none⟩ = some (.slice none 0 0) ∧ w2.cell? ⟨w.heap.size, 1, none⟩ = some (.slice none 0 0) ∧ w2.frozen? ⟨w.heap.size, 0, none⟩ = false ∧ w2.frozen? ⟨w.heap.size, 1, none⟩ = false) ∧ Hid (NodP w r v l (d + 1) gaps p a fr (.returned (.tuple #[.agg #[.slice none 0 0, .slice none 0 0], .iface T' x'])) ((w2.setCell ⟨w.heap.size, 0, none⟩ (.slice none 0 0)).setCell ⟨w.heap.size, 1, none⟩ (.slice none 0 0))))) := by
              refine (unhide HNd).mono ?_
              rintro e w1 ⟨z1, ⟨xs', a3, fr3, _, _, _, _, _, _, _, _, zx, _⟩ | ⟨_, T, x, m, rfl, z2⟩⟩
              · rw [hx2] at zx; cases zx
              · refine ⟨T, x, rfl, fun W hb => ?_⟩
                refine (wrapped_t i (by have := (unhide HG).2.2.1; omega) (z2.below hb)).mono ?_
                rintro e w2 ⟨T', x', rfl, y1, y2⟩
                have hfr : FrP r wa w2 := (z1.trans (FrP.of_below hb)).trans (FrP.of_below y2)
                have hk : ∀ g, g < wa.heap.size → w.heap.size ≤ g → w2.heap[g]? = wa.heap[g]? := fun g hg hw => hfr.2.2.2.2 g hg (by have := (unhide HS1).rl; omega)
                have hres : NV w2 w.heap.size (.slice none 0 0) (.slice none 0 0) := (hk _ (blk_lt (unhide HS1).res) (Nat.le_refl _)).trans (unhide HS1).res
                exact ⟨T', x', rfl, hres.cells, frp_new ((unhide HS1).frp.trans hfr), .inr ⟨rd_fail (unhide HC) hx2 (by have := unhide HSh; omega), T', x', _, rfl, y1.varN hres (fun _ _ h => by cases h)⟩⟩
            clear HNd HC HM HSz HS1 hx2 HSh HGi HIH
            go_wp2_with (first
              | (go_at_call 31; (try rw [hgq]); (try rw [hq2]); refine (unhide HNd2).mono ?_; rintro e w1 ⟨T, x, rfl, HWr⟩; clear HNd2)
              | (go_at_call 40; refine (unhide HWr _ ((Below.refl _ _).alloc (Nat.le_refl _) _)).mono ?_; rintro e w2 ⟨T', x', rfl, ⟨r0, r1, g0, g1⟩, HE⟩; clear HWr))
            refine bodyPost_ret (v := .tuple #[.agg #[.slice none 0 0, .slice none 0 0], .iface T' x']) ?_ rfl ?_
            · rw [results_cell_tmp rfl]
              go_simp
            exact unhide HE
          | some q =>
            obtain ⟨zs, a3, fr3⟩ := q
            have HNd2 : Hid (Calls Tryz.prog 31 #[.pointer (some ⟨r, 0, none⟩), .int .i64 (gi : Int), .int .i64 (s16 : Int)] wa fun e w1 => ∃ kva kn kk' kvb kn' kk2, e = .returned (.tuple #[.agg #[.slice kva kn kk', .slice kvb kn' kk2], .nilIface]) ∧ Hid (∃ kt : BT (d + 1), NR w w1 r v l (d + 1) (its ++ [x]) kids a3 fr3 (.slice va3 vn2 k3) (.slice vb vm k') ks ∧ NodeAt w1 (KS w w1 (.slice va3 vn2 k3) (.slice vb vm k')) d kt (.slice kva kn kk') (.slice kvb kn' kk2) ∧ Fine d kt ∧ flat d kt = zs)) := by
              refine (unhide HNd).mono ?_
              rintro e w1 ⟨z1, ⟨xs', a3', fr3', its', kids', kva, kn, kk', kvb, kn', kk2, zx, rfl, z2, z3, z4, z5, z6⟩ | ⟨zx, _⟩⟩
              · rw [hx2] at zx
                cases zx
                have hc := ceil_two (show 0 < s16 by have := (unhide HG).1; omega) (unhide HSh).1 (unhide HSh).2.1
                have hn := (unhide HS1)
                refine ⟨kva, kn, kk', kvb, kn', kk2, rfl, BT.mk its' kids', hn.move z1 z6, z2.ltn (fun g hg hl => ⟨?_, hl, ?_, ?_⟩), ⟨z3, by show 1 ≤ its'.length; omega, by show its'.length ≤ 15; omega⟩, z5⟩
                · have := hn.size; omega
                · intro e; have := (own_lt hn.iown g e).2; omega
                · intro e; have := (own_lt hn.kown g e).2; omega
              · rw [hx2] at zx; cases zx
            have HC2 : Hid (rdIts l (gs p gaps (i + 1) - 1) a fr = some (ys ++ zs, a3, fr3)) := by
              have := rd_more (unhide HC) hx2 rfl
              have hh := unhide HSh
              rw [show gs p gaps (i + 1) - 1 = gs p gaps i + (gi - 1) by omega]
              exact this
            clear HNd hx2 HS1 HC
            go_upto_region 15 with (go_at_call 31; (try rw [hgq]); (try rw [hq2]); refine (unhide HNd2).mono ?_; rintro e w4 ⟨kva, kn, kk', kvb, kn', kk2, rfl, HK4⟩; clear HNd2)
            obtain ⟨kt, HK5⟩ := unhide HK4
            have HK6 := hide HK5
            clear HK4 HK5
            obtain ⟨b13, hb13⟩ : ∃ b13, b13 = w4.heap.size := ⟨_, rfl⟩
            obtain ⟨w5, hw5⟩ : ∃ w5, w5 = w4.alloc (.cells #[.slice kva kn kk', .slice kvb kn' kk2] 54) := ⟨_, rfl⟩
            rw [← hw5, ← hb13]
            have H5 : Hid (NR w w5 r v l (d + 1) (its ++ [x]) kids a3 fr3 (.slice va3 vn2 k3) (.slice vb vm k') ks ∧ NV w5 b13 (.slice kva kn kk') (.slice kvb kn' kk2) ∧ NodeAt w5 (KS w w5 (.slice va3 vn2 k3) (.slice vb vm k')) d kt (.slice kva kn kk') (.slice kvb kn' kk2)) := by
              have hb : Below w4.heap.size w4 w5 := by rw [hw5]; exact (Below.refl _ _).alloc (Nat.le_refl _) _
              obtain ⟨u1, u2, u3, u4⟩ := unhide HK6
              exact ⟨u1.below hb, by rw [hw5, hb13]; exact NV.new _ _ _, (u2.below hb).mono (fun g hg => ⟨hg.1, Nat.lt_of_lt_of_le hg.2.1 hb.size, hg.2.2⟩)⟩
            have HF := hide (unhide HK6).2.2
            clear hw5 hb13 HK6
            obtain ⟨c0, c1, f0, f1⟩ := (unhide H5).1.var.cells
            obtain ⟨d0, d1, _, _⟩ := (unhide H5).2.1.cells
            have hbl : b13 < w5.heap.size := blk_lt (unhide H5).2.1
            have hvl : w.heap.size + 1 < w5.heap.size := by have := (unhide H5).1.size; omega
            have hb6 : Below w5.heap.size w5 (w5.alloc (.cells #[.slice kva kn kk', .slice kvb kn' kk2] 54)) := (Below.refl _ _).alloc (Nat.le_refl _) _
            have HA : Hid (NR w (w5.alloc (.cells #[.slice kva kn kk', .slice kvb kn' kk2] 54)) r v l (d + 1) (its ++ [x]) kids a3 fr3 (.slice va3 vn2 k3) (.slice vb vm k') ks ∧ NodeAt (w5.alloc (.cells #[.slice kva kn kk', .slice kvb kn' kk2] 54)) (KS w (w5.alloc (.cells #[.slice kva kn kk', .slice kvb kn' kk2] 54)) (.slice va3 vn2 k3) (.slice vb vm k')) d kt (.slice kva kn kk') (.slice kvb kn' kk2)) := ⟨(unhide H5).1.below hb6, ((unhide H5).2.2.below hb6).mono (fun g hg => ⟨hg.1, Nat.lt_of_lt_of_le hg.2.1 hb6.size, hg.2.2⟩)⟩
            have hown : (w5.alloc (.cells #[.slice kva kn kk', .slice kvb kn' kk2] 54)).ownsRow (w.heap.size + 2) 54 2 (.slice vb vm k') vm (c2 ks) := by rw [(unhide HSz).2.2.1]; have := (unhide HA).1.kown; rw [(unhide HSz).2.2.1] at this; exact this
            have hvn : vm ≤ 1000 := by have := unhide HSz; have := (unhide HG).2.2.1; omega
            clear hb6
            go_wp2_with (at_builtin; refine wpList_append_own_at _ rfl (.tmp 66) (.tmp 68) 52 rfl (w.heap.size + 2) 54 n0 _ 2 48 Tryz.underlying52 hin hnz0 hnz1 hnz2 rfl (by decide) _ _ _ rfl hown ⟨w5.heap.size, 0, none⟩ 1 1 [.slice kva kn kk', .slice kvb kn' kk2] rfl rfl (two_new _ _ _ _) (fun u hu => by simp at hu; rcases hu with rfl | rfl <;> rfl) (by unfold maxLen; omega) (by omega) (by simp; omega) ?_)
            intro v7 w7 hown7 hg7 _ hat7
            obtain ⟨va7, k7, rfl⟩ := own_sl hown7
            have HE : Hid (NR w (w7.setCell ⟨w.heap.size + 1, 1, none⟩ (.slice va7 (vm + 1) k7)) r v l (d + 1) (its ++ [x]) (kids ++ [kt]) a3 fr3 (.slice va3 vn2 k3) (.slice va7 (vm + 1) k7) (ks ++ [(.slice kva kn kk', .slice kvb kn' kk2)])) := by
              refine (unhide HA).1.kid (unhide HO) (unhide HA).2 ⟨rfl, rfl⟩ ?_ hg7 (by rw [World.size_alloc]; exact hat7)
              rw [← (unhide HSz).2.2.1]
              exact hown7
            obtain ⟨c5, f5⟩ : w7.cell? ⟨w.heap.size + 1, 1, none⟩ = some (.slice vb vm k') ∧ w7.frozen? ⟨w.heap.size + 1, 1, none⟩ = false := by
              have hv : NV w7 (w.heap.size + 1) (.slice va3 vn2 k3) (.slice vb vm k') := (hg7.block _ (blk_lt (unhide HA).1.var) (fun e => by have := (own_lt hown _ e.symm).1; omega)).trans (unhide HA).1.var
              exact ⟨hv.cells.2.1, hv.cells.2.2.2⟩
            clear hown hown7 hg7 hat7 HA H5 c0 c1 f0 f1 d0 d1
            go_wp2_with fail
            go_roundw
            case rel =>
              refine ⟨i + 1, (its ++ [x]), kids ++ [kt], _, a3, fr3, ys ++ zs, va3, vn2, k3, va7, vm + 1, k7, by simp, by have := (unhide HG).2.1; omega, unhide HE, unhide HC2, ?_, ?_, ?_, ?_, ?_, ?_⟩
              · have := (unhide HSz).2.1; omega
              · rw [List.length_append, (unhide HSz).1]; rfl
              · rw [unhide HM kt, (unhide HF).2]
              · intro k1 hk1
                rcases List.mem_append.1 hk1 with h' | h'
                · exact (unhide HSz).2.2.2.2 k1 h'
                · rw [List.mem_singleton.1 h']; exact (unhide HF).1
              · exact (unhide HSz).2.2.2.1
              · have := (unhide HSz).2.2.1; simp; omega
            case measure => simp [RowKit.intOf]; omega
    · have hlti : ¬ ((i : Int) < (p : Int)) := by omega
      obtain ⟨u1, u2, u3, u4, u5, u6, u7, u8⟩ := unhide HD
      have hie : i = p := by omega
      have HE : Hid (NodP w r v l (d + 1) gaps p a fr (.returned (.tuple #[.agg #[.slice va vn k, .slice vb vm k'], .nilIface])) ((wr.setCell ⟨w.heap.size, 0, none⟩ (.slice va vn k)).setCell ⟨w.heap.size, 1, none⟩ (.slice vb vm k'))) := by
        have hgg := unhide HG
        rw [hie, hgg.2.2.2.2.2.1] at u2
        exact u1.good (unhide HO) (shp_mk (by omega) u6) (by omega) u5 u2
      obtain ⟨c0, c1, _, _⟩ := u1.var.cells
      obtain ⟨r0, r1, g0, g1⟩ := u1.res.cells
      clear u1 u2 u3 u4 u5 u6 u7 u8 HD hie
      go_wp2_with fail
      refine bodyPost_ret (v := .tuple #[.agg #[.slice va vn k, .slice vb vm k'], .nilIface]) ?_ rfl ?_
      · rw [results_cell_tmp rfl]
        go_simp
      exact unhide HE
end
end Go.Proofs.YtlmjmhpdpgeplaaGreatDoor
