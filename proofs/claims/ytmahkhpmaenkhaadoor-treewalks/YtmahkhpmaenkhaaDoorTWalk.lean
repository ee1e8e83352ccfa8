/- TreeWalks: a cursor tells all keys from its place on, rising, each once, though keys behind it go and come. -/
import Derived.Test.YtmahkhpmaenkhaaDoorTWalkM
import Derived.Deep.WholeRow
namespace Go.Proofs.YtmahkhpmaenkhaaDoor
open Go.RowKit Go.Lib

/-- A tree, and the statement's truths beside it. -/
def SW (w W : World) (p hb : Nat) (N : Nat → Prop) (F : List It) (hs : Nat → Bool) : Prop := Below w.heap.size w W ∧ TT W p N F ∧ N hb ∧ HV W hb hs ∧ w.heap.size ≤ p ∧ w.heap.size ≤ hb ∧ WInv hs F
section
variable {w W W' : World} {p hb : Nat} {N : Nat → Prop} {F : List It} {hs : Nat → Bool}
theorem SW.below (h : SW w W p hb N F hs) (hb' : Below W.heap.size W W') : SW w W' p hb N F hs := ⟨below_tr h.1 hb', h.2.1.below hb', h.2.2.1, blk_below h.2.2.2.1 hb', h.2.2.2.2⟩
theorem SW.ne (h : SW w W p hb N F hs) : hb ≠ p := fun e => h.2.1.1 (e ▸ h.2.2.1)
theorem SW.put {kv vv : Value} {k : Nat} (h : SW w W p hb N F hs) (hk : k < 1024) (hkv : BR W kv (kN k)) (hv : BR W vv ⟨#[1]⟩) (hn : F.length ≤ 1000000) :
    Calls Tryd.prog 8 #[.pointer (some ⟨p, 0, none⟩), kv, vv] W fun e W' => e = .returned (.bool (!hs k)) ∧ Below w.heap.size w W' ∧ TT W' p N (insL (itW k) F) ∧ HV W' hb hs := by
  have hne := h.ne
  obtain ⟨h1, h2, h3, h4, h5, h6, h7⟩ := h
  refine (h2.put (x := itW k) hkv.txt hv.txt hn).mono ?_
  rintro e W' ⟨rfl, z1, z2⟩
  refine ⟨by show Ending.returned (.bool (!hasL (kN k) F)) = _; rw [h7.has hk], z2.below h1 h5 h1.size, z1, (z2.2.2.2.2 hb (blk_lt h4) hne).trans h4⟩
theorem SW.del {kv : Value} {k : Nat} (h : SW w W p hb N F hs) (hkv : BR W kv (kN k)) (hn : F.length ≤ 1000000) :
    Calls Tryd.prog 10 #[.pointer (some ⟨p, 0, none⟩), kv] W fun e W' => (∃ bb, e = .returned (.bool bb)) ∧ Below w.heap.size w W' ∧ TT W' p N (delL (kN k) F) ∧ HV W' hb hs ∧ FrP p W W' := by
  have hne := h.ne
  obtain ⟨h1, h2, h3, h4, h5, h6, h7⟩ := h
  refine (h2.del hkv.txt hn).mono ?_
  rintro e W' ⟨rfl, z1, z2⟩
  exact ⟨⟨_, rfl⟩, z2.below h1 h5 h1.size, z1, (z2.2.2.2.2 hb (blk_lt h4) hne).trans h4, z2⟩
end
set_option maxHeartbeats 25600000 in
set_option maxRecDepth 100000 in
theorem walk_law (a : Option Addr) (cap : Nat) (ks : List Nat) (fm gn : Nat) (w : World) (hin : InK w a ks) (hfm : fm < 65536) (hgn : gn < 256) :
    Calls Tryd.prog 5 #[.slice a ks.length cap, .int .u16 (fm : Int), .int .u8 (gn : Int)] w fun e w' => e = .returned (.bool true) ∧ Below w.heap.size w w' := by
  have HK := hide (known7_any w)
  obtain ⟨len, hlen⟩ : ∃ len, len = ks.length := ⟨_, rfl⟩
  rw [← hlen]
  by_cases hbig : 200 < len
  · have hbi : (200 : Int) < (len : Int) := by omega
    clear hin
    go_enter Tryd.func5, Tryd.ntmps5
    go_wp2_with (go_at_call 6; refine (unhide HK).mono ?_; rintro e w1 ⟨rfl, hb1⟩; clear HK)
    go_ret
    exact ⟨rfl, hb1⟩
  · have hbi : ¬ ((200 : Int) < (len : Int)) := by omega
    have hl2 : (len : Int) ≤ 200 := by omega
    have HIN := hide (And.intro hin hlen)
    clear hin hlen
    go_enter Tryd.func5, Tryd.ntmps5
    go_upto_region 6 with (first
      | (go_at_call 6; refine (unhide HK).mono ?_; rintro e w1 ⟨rfl, hb1⟩; clear HK; have HB1 := hide hb1; clear hb1; have HN1 := hide (New_any w1))
      | (go_at_call 7; refine (unhide HN1).mono ?_; rintro e w2 ⟨rfl, ht2, hb2, hz2⟩; clear HN1; have HT2 := hide (And.intro ht2 (And.intro hb2 hz2)); clear ht2 hb2 hz2))
    refine wp_region_list ?_
    refine wpList_alloc_1024 rfl 39 rfl (hsC fun _ => false).toArray (zero_of_info Tryd.zeroH).1 ?_
    obtain ⟨p, hp⟩ : ∃ p, p = w1.heap.size := ⟨_, rfl⟩
    obtain ⟨hb, hhb⟩ : ∃ hb, hb = w2.heap.size := ⟨_, rfl⟩
    obtain ⟨w3, hw3⟩ : ∃ w3, w3 = w2.alloc (.cells (hsC fun _ => false).toArray 39) := ⟨_, rfl⟩
    rw [← hp, ← hhb, ← hw3]
    have HS0 : Hid (SW w w3 p hb (fun g => g = hb) [] (fun _ => false)) := by
      obtain ⟨u1, u2, u3⟩ := unhide HT2
      rw [← hp] at u1
      have hs := (unhide HB1).size
      have hb3 : Below w2.heap.size w2 w3 := by rw [hw3]; exact (Below.refl _ _).alloc (Nat.le_refl _) _
      have hz3 : w3.heap.size = w2.heap.size + 1 := by rw [hw3, World.size_alloc]
      have t1 : TT w2 p (fun _ => False) [] := ⟨id, fun _ h => h.elim, _, u1, fun _ h => h.elim⟩
      exact ⟨below_tr (below_tr (unhide HB1) u2) hb3, t1.more hb3 (fun g hg => .inr (by omega)), rfl, by rw [hw3, hhb]; exact heap_alloc_new _ _, by omega, by omega, WInv.nil⟩
    clear HT2 HB1 hp hhb hw3
    go_wp2_with fail
    go_loopw [9] (fun s9 wr => ∃ (i : Nat) (F : List It) (hs : Nat → Bool), s9 = .int .i64 (i : Int) ∧ i ≤ len ∧ Hid (SW w wr p hb (fun g => g = hb) F hs ∧ F.length ≤ i)) (fun s9 _ => len - (RowKit.intOf s9).toNat)
    case atStart => exact ⟨0, [], _, rfl, Nat.zero_le _, unhide HS0, Nat.le_refl _⟩
    case round =>
      clear HS0
      obtain ⟨i, F, hs, rfl, hi1, HD⟩ := hrel
      by_cases hlt : i < len
      · have hlti : (i : Int) < (len : Int) := by omega
        have hi0 : (0 : Int) ≤ (i : Int) := by omega
        have hwi : IntKind.i64.wrap ((i : Int) + 1) = (i : Int) + 1 := by rw [IntKind.wrap_i64] <;> omega
        obtain ⟨kb, ko, hka, hkb, hkc, hj⟩ := (unhide HIN).1 i (by rw [← (unhide HIN).2]; exact hlt)
        subst hka
        obtain ⟨j, hjd⟩ : ∃ j, j = ks.getD i 0 := ⟨_, rfl⟩
        rw [← hjd] at hkc hj
        have hkc' : wr.cell? ⟨kb, ko + i, none⟩ = some (.int .u16 (j : Int)) := ((unhide HD).1.1.cell (p := ⟨kb, _, none⟩) hkb).trans hkc
        obtain ⟨k, hk⟩ : ∃ k, k = j % 1024 := ⟨_, rfl⟩
        have hki : (j : Int) % 1024 = (k : Int) := by omega
        have hkl : k < 1024 := by omega
        have hk0 : (0 : Int) ≤ (k : Int) := by omega
        have hkl' : (k : Int) < 1024 := by omega
        have HNum := hide (fun W => number_any (j := k) (by omega) W)
        have HKL := hide hkl
        clear hkb hkc hjd hj hk hkl
        go_upto_region 11 with fail
        clear hkc'
        have HS11 : Hid (∀ W : World, HV W hb hs → W.cell? ⟨hb, k, none⟩ = some (.bool (hs k))) := fun W h => h.cell (unhide HKL)
        refine wp_region_held_drew (S := fun w' => w'.cell? ⟨hb, k, none⟩ = some (.bool (hs k))) (by kernel_rfl) (unhide HS11 _ (unhide HD).1.2.2.2.1) (fun hHeld => ?_)
        obtain ⟨WS, hWS⟩ : ∃ WS, WS = wr.drew := ⟨_, rfl⟩
        rw [← hWS] at hHeld ⊢
        have HS : Hid (SW w WS p hb (fun g => g = hb) F hs) := by rw [hWS]; exact (unhide HD).1.below (Below.refl _ _).drew
        have HFl : Hid (F.length ≤ 1000000) := by have := (unhide HD).2; show _ ≤ _; omega
        clear hWS
        refine hand_to (i := 0) (d := 36) (v := (.pointer (some ⟨p, 0, none⟩))) rfl rfl (by kernel_rfl) (by kernel_rfl) (by kernel_rfl) (fun _ _ _ h => h) (Or.inl ⟨by rfl, ?_⟩) hHeld ?_
        · (intro w' hSw; obtain y0 := hSw; go_simp)
        simp only [Act.put, List.setIfInBounds_toArray, List.set_cons_zero, List.set_cons_succ]
        refine hand_to (i := 1) (d := 37) (v := (.int .u16 (k : Int))) rfl rfl (by kernel_rfl) (by kernel_rfl) (by kernel_rfl) (fun _ _ _ h => h) (Or.inl ⟨by rfl, ?_⟩) hHeld ?_
        · (intro w' hSw; obtain y0 := hSw; go_simp)
        simp only [Act.put, List.setIfInBounds_toArray, List.set_cons_zero, List.set_cons_succ]
        refine hand_to (i := 5) (d := 41) (v := (.int .u16 (k : Int))) rfl rfl (by kernel_rfl) (by kernel_rfl) (by kernel_rfl) (fun _ _ _ h => h) (Or.inl ⟨by rfl, ?_⟩) hHeld ?_
        · (intro w' hSw; obtain y0 := hSw; go_simp)
        simp only [Act.put, List.setIfInBounds_toArray, List.set_cons_zero, List.set_cons_succ]
        refine hand_to (i := 6) (d := 42) (v := (.pointer (some ⟨hb, k, none⟩))) rfl rfl (by kernel_rfl) (by kernel_rfl) (by kernel_rfl) (fun _ _ _ h => h) (Or.inl ⟨by rfl, ?_⟩) hHeld ?_
        · (intro w' hSw; obtain y0 := hSw; go_simp)
        simp only [Act.put, List.setIfInBounds_toArray, List.set_cons_zero, List.set_cons_succ]
        refine hand_to (i := 7) (d := 43) (v := (.bool (hs k))) rfl rfl (by kernel_rfl) (by kernel_rfl) (by kernel_rfl) (fun _ _ _ h => h) (Or.inl ⟨by rfl, ?_⟩) hHeld ?_
        · (intro w' hSw; obtain y0 := hSw; go_simp)
        simp only [Act.put, List.setIfInBounds_toArray, List.set_cons_zero, List.set_cons_succ]
        refine wpAnyH_ready (rs := [2, 3]) (by kernel_rfl) (by simp) ?_
        refine (AllReadyH.cons rfl (fun K hK => ?_) (AllReadyH.cons rfl (fun K hK => ?_) AllReadyH.nil))
        · skip
          skip
          go_simp
          (go_at_call 9; refine (unhide HNum WS).mono ?_; rintro e W2 ⟨rfl, hW⟩; have HWn := hide hW; clear hW)
          (go_wp2_with fail)
          have hW := unhide HWn
          clear HWn
          obtain ⟨vk, hvk⟩ : ∃ vk, vk = Value.slice (some ⟨WS.heap.size, 0, none⟩) 2 2 := ⟨_, rfl⟩
          rw [← hvk]
          have hbb : Below WS.heap.size WS W2 := by rw [hW]; exact (Below.refl _ _).alloc (Nat.le_refl _) _
          have Hk : Hid (BR W2 vk (kN k)) := by rw [hvk, hW]; exact br_num _ _
          replace HS := hide ((unhide HS).below hbb)
          clear hvk hW hbb
          refine hK.out _ _ (unhide HS11 W2 (unhide HS).2.2.2.1) (fun hHeld2 => ?_)
          clear hK K hHeld
          have hHeld := hHeld2
          clear hHeld2
          try simp only [Act.put, List.setIfInBounds_toArray, List.set_cons_zero, List.set_cons_succ]
          refine wpAnyH_ready (rs := [3]) (by kernel_rfl) (by simp) ?_
          refine AllReadyH.cons rfl (fun K hK => ?_) AllReadyH.nil
          skip
          go_simp
          skip
          (go_wp2_with fail)
          obtain ⟨W3, hW⟩ : ∃ W3, W3 = W2.alloc (.cells #[.int .u8 1] 5) := ⟨_, rfl⟩
          obtain ⟨vv, hvv⟩ : ∃ vv, vv = Value.slice (some ⟨W2.heap.size, 0, none⟩) 1 1 := ⟨_, rfl⟩
          rw [← hW, ← hvv]
          have hbb : Below W2.heap.size W2 W3 := by rw [hW]; exact (Below.refl _ _).alloc (Nat.le_refl _) _
          have Hv : Hid (BR W3 vv ⟨#[1]⟩) := by rw [hvv, hW]; exact br_lit _ [1] _ _ 1
          replace HS := hide ((unhide HS).below hbb)
          replace Hk := hide ((unhide Hk).below hbb)
          clear hvv hW hbb
          refine hK.out _ _ (unhide HS11 W3 (unhide HS).2.2.2.1) (fun hHeld2 => ?_)
          clear hK K hHeld
          have hHeld := hHeld2
          clear hHeld2
          try simp only [Act.put, List.setIfInBounds_toArray, List.set_cons_zero, List.set_cons_succ]
          refine wpAnyH_ready (rs := [4]) (by kernel_rfl) (by simp) ?_
          refine AllReadyH.cons rfl (fun K hK => ?_) AllReadyH.nil
          skip
          go_simp
          (go_at_call 8; refine ((unhide HS).put (unhide HKL) (unhide Hk) (unhide Hv) (unhide HFl)).mono ?_; rintro e W4 ⟨rfl, hS4⟩)
          (go_wp2_with fail)
          have HO := hide (And.intro (unhide HS).2.2.2.2 (unhide HS).2.2.1)
          replace HS : Hid (True ∧ Below w.heap.size w W4 ∧ TT W4 p (fun g => g = hb) (insL (itW k) F) ∧ HV W4 hb hs) := ⟨trivial, hS4⟩
          clear hS4 Hk Hv
          refine hK.out _ _ (unhide HS11 W4 (unhide HS).2.2.2) (fun hHeld2 => ?_)
          clear hK K hHeld
          have hHeld := hHeld2
          clear hHeld2
          try simp only [Act.put, List.setIfInBounds_toArray, List.set_cons_zero, List.set_cons_succ]
          refine hand_to (i := 8) (d := 44) (v := (.bool false)) rfl rfl (by kernel_rfl) (by kernel_rfl) (by kernel_rfl) (fun _ _ _ h => h) (Or.inl ⟨by rfl, ?_⟩) hHeld ?_
          · (intro w' hSw; obtain y0 := hSw; cases hs k <;> go_simp)
          simp only [Act.put, List.setIfInBounds_toArray, List.set_cons_zero, List.set_cons_succ]
          refine wpAnyH_done (by kernel_rfl) ?_ _
          have c0 : W4.cell? ⟨hb, k, none⟩ = some (.bool (hs k)) := (unhide HS).2.2.2.cell (unhide HKL)
          have f0 : W4.frozen? ⟨hb, k, none⟩ = false := frzB2 (unhide HS).2.2.2 k
          go_wp2_with fail
          go_roundw
          case rel =>
            refine ⟨i + 1, insL (itW k) F, upd hs k true, by simp, by omega, ⟨?_, ?_, (unhide HO).2, (unhide HS).2.2.2.set true, (unhide HO).1.1, (unhide HO).1.2.1, (unhide HO).1.2.2.put (unhide HKL)⟩, by have := (unhide HD).2; have := ins_le (itW k) F; omega⟩
            · exact (unhide HS).2.1.setCell (p := ⟨hb, k, none⟩) (unhide HO).1.2.1 _
            · exact (unhide HS).2.2.1.other rfl (FrP.set _ _ _ _)
          case measure => simp [RowKit.intOf]; omega
        · skip
          skip
          go_simp
          skip
          (go_wp2_with fail)
          obtain ⟨W3, hW⟩ : ∃ W3, W3 = WS.alloc (.cells #[.int .u8 1] 5) := ⟨_, rfl⟩
          obtain ⟨vv, hvv⟩ : ∃ vv, vv = Value.slice (some ⟨WS.heap.size, 0, none⟩) 1 1 := ⟨_, rfl⟩
          rw [← hW, ← hvv]
          have hbb : Below WS.heap.size WS W3 := by rw [hW]; exact (Below.refl _ _).alloc (Nat.le_refl _) _
          have Hv : Hid (BR W3 vv ⟨#[1]⟩) := by rw [hvv, hW]; exact br_lit _ [1] _ _ 1
          replace HS := hide ((unhide HS).below hbb)
          clear hvv hW hbb
          refine hK.out _ _ (unhide HS11 W3 (unhide HS).2.2.2.1) (fun hHeld2 => ?_)
          clear hK K hHeld
          have hHeld := hHeld2
          clear hHeld2
          try simp only [Act.put, List.setIfInBounds_toArray, List.set_cons_zero, List.set_cons_succ]
          refine wpAnyH_ready (rs := [2]) (by kernel_rfl) (by simp) ?_
          refine AllReadyH.cons rfl (fun K hK => ?_) AllReadyH.nil
          skip
          go_simp
          (go_at_call 9; refine (unhide HNum W3).mono ?_; rintro e W2 ⟨rfl, hW⟩; have HWn := hide hW; clear hW)
          (go_wp2_with fail)
          have hW := unhide HWn
          clear HWn
          obtain ⟨vk, hvk⟩ : ∃ vk, vk = Value.slice (some ⟨W3.heap.size, 0, none⟩) 2 2 := ⟨_, rfl⟩
          rw [← hvk]
          have hbb : Below W3.heap.size W3 W2 := by rw [hW]; exact (Below.refl _ _).alloc (Nat.le_refl _) _
          have Hk : Hid (BR W2 vk (kN k)) := by rw [hvk, hW]; exact br_num _ _
          replace HS := hide ((unhide HS).below hbb)
          replace Hv := hide ((unhide Hv).below hbb)
          clear hvk hW hbb
          refine hK.out _ _ (unhide HS11 W2 (unhide HS).2.2.2.1) (fun hHeld2 => ?_)
          clear hK K hHeld
          have hHeld := hHeld2
          clear hHeld2
          try simp only [Act.put, List.setIfInBounds_toArray, List.set_cons_zero, List.set_cons_succ]
          refine wpAnyH_ready (rs := [4]) (by kernel_rfl) (by simp) ?_
          refine AllReadyH.cons rfl (fun K hK => ?_) AllReadyH.nil
          skip
          go_simp
          (go_at_call 8; refine ((unhide HS).put (unhide HKL) (unhide Hk) (unhide Hv) (unhide HFl)).mono ?_; rintro e W4 ⟨rfl, hS4⟩)
          (go_wp2_with fail)
          have HO := hide (And.intro (unhide HS).2.2.2.2 (unhide HS).2.2.1)
          replace HS : Hid (True ∧ Below w.heap.size w W4 ∧ TT W4 p (fun g => g = hb) (insL (itW k) F) ∧ HV W4 hb hs) := ⟨trivial, hS4⟩
          clear hS4 Hk Hv
          refine hK.out _ _ (unhide HS11 W4 (unhide HS).2.2.2) (fun hHeld2 => ?_)
          clear hK K hHeld
          have hHeld := hHeld2
          clear hHeld2
          try simp only [Act.put, List.setIfInBounds_toArray, List.set_cons_zero, List.set_cons_succ]
          refine hand_to (i := 8) (d := 44) (v := (.bool false)) rfl rfl (by kernel_rfl) (by kernel_rfl) (by kernel_rfl) (fun _ _ _ h => h) (Or.inl ⟨by rfl, ?_⟩) hHeld ?_
          · (intro w' hSw; obtain y0 := hSw; cases hs k <;> go_simp)
          simp only [Act.put, List.setIfInBounds_toArray, List.set_cons_zero, List.set_cons_succ]
          refine wpAnyH_done (by kernel_rfl) ?_ _
          have c0 : W4.cell? ⟨hb, k, none⟩ = some (.bool (hs k)) := (unhide HS).2.2.2.cell (unhide HKL)
          have f0 : W4.frozen? ⟨hb, k, none⟩ = false := frzB2 (unhide HS).2.2.2 k
          go_wp2_with fail
          go_roundw
          case rel =>
            refine ⟨i + 1, insL (itW k) F, upd hs k true, by simp, by omega, ⟨?_, ?_, (unhide HO).2, (unhide HS).2.2.2.set true, (unhide HO).1.1, (unhide HO).1.2.1, (unhide HO).1.2.2.put (unhide HKL)⟩, by have := (unhide HD).2; have := ins_le (itW k) F; omega⟩
            · exact (unhide HS).2.1.setCell (p := ⟨hb, k, none⟩) (unhide HO).1.2.1 _
            · exact (unhide HS).2.2.1.other rfl (FrP.set _ _ _ _)
          case measure => simp [RowKit.intOf]; omega
      · have hlti : ¬ ((i : Int) < (len : Int)) := by omega
        have hF2 : F.length ≤ 1000 := by have := (unhide HD).2; omega
        have HS1 := hide (And.intro (unhide HD).1 hF2)
        clear HD hlt hi1 hF2
        obtain ⟨f, hf⟩ : ∃ f, f = fm % 1024 := ⟨_, rfl⟩
        have hfi : (fm : Int) % 1024 = (f : Int) := by omega
        have hf0 : (0 : Int) ≤ (f : Int) := by omega
        have hfl : f < 1024 := by omega
        have hfl' : (f : Int) < 1024 := by omega
        have HNum := hide (number_any (j := f) (by omega) wr)
        have HSk : Hid (∀ W : World, W = wr.alloc (.cells #[.int .u8 ((nb1 f).toNat : Int), .int .u8 ((nb0 f).toNat : Int)] 5) → Calls Tryd.prog 16 #[.pointer (some ⟨p, 0, none⟩), .slice (some ⟨wr.heap.size, 0, none⟩) 2 2] W fun e w' => ∃ q, e = .returned (.pointer (some ⟨q, 0, none⟩)) ∧ Hid (SW w w' p hb (fun g => g = hb ∨ g = q) F hs ∧ CV w' q p (kN f) ∧ w.heap.size ≤ q ∧ q ≠ hb ∧ q ≠ p)) := fun W hW => by
          have b1 : Below wr.heap.size wr W := by rw [hW]; exact (Below.refl _ _).alloc (Nat.le_refl _) _
          have r1 : BR W (.slice (some ⟨wr.heap.size, 0, none⟩) 2 2) (kN f) := by rw [hW]; exact br_num wr f
          refine (Seek_any (p := p) r1.txt).mono ?_
          rintro e w' ⟨rfl, z1, z2, z3⟩
          have h := (unhide HS1).1.below b1
          obtain ⟨h1, h2, h3, h4, h5, h6, h7⟩ := h
          refine ⟨_, rfl, ⟨below_tr h1 z2, h2.more z2 (fun g hg => hg.imp id (fun e => by omega)), .inl rfl, blk_below h4 z2, h5, h6, h7⟩, z1, h1.size, ?_, ?_⟩
          · have := blk_lt h4; omega
          · have := h2.lt; omega
        clear hf hfl
        go_wp2_with (first
          | (go_at_call 9; refine (unhide HNum).mono ?_; rintro e w5 ⟨rfl, hw5⟩; clear HNum; have HSk2 := hide (unhide HSk w5 hw5); clear HSk hw5)
          | (go_at_call 16; refine (unhide HSk2).mono ?_; rintro e w6 ⟨q, rfl, HS6⟩; clear HSk2))
        have HF0 : Hid (f < 1024) := by show f < 1024; omega
        go_loopw [12] (fun s12 wr => ∃ (last : Int) (lo : Nat) (fr : ByteArray) (F : List It) (hs : Nat → Bool), s12 = .int .i64 last ∧ -1 ≤ last ∧ last < 1024 ∧ max (last + 1) (f : Int) = (lo : Int) ∧ Hid (SW w wr p hb (fun g => g = hb ∨ g = q) F hs ∧ CV wr q p fr ∧ FrS fr lo ∧ F.length ≤ 1000)) (fun s12 _ => (1023 - RowKit.intOf s12).toNat)
        case atStart => exact ⟨-1, f, kN f, F, hs, rfl, by omega, by omega, by omega, (unhide HS6).1, (unhide HS6).2.1, frs_at (unhide HF0), (unhide HS1).2⟩
        case round =>
          obtain ⟨last, lo, fr, F, hs, rfl, hl1, hl2', hmax, HD⟩ := hrel
          have HQ := hide (unhide HS6).2.2
          clear HS6 HS1
          have hwl : IntKind.i64.wrap (last + 1) = last + 1 := by rw [IntKind.wrap_i64] <;> omega
          cases hx : leastL fr F with
          | none =>
            have HNx : Hid (Calls Tryd.prog 17 #[.pointer (some ⟨q, 0, none⟩)] wr fun e w' => e = .returned (.tuple #[.slice none 0 0, .slice none 0 0, .bool false]) ∧ Hid (SW w w' p hb (fun g => g = hb ∨ g = q) F hs)) := by
              obtain ⟨u1, u2, u3, u4⟩ := unhide HD
              obtain ⟨q1, q2, q3⟩ := unhide HQ
              obtain ⟨h1, h2, h3, h4, h5, h6, h7⟩ := u1
              obtain ⟨t1, t2, O, t3, t4⟩ := id h2
              refine (Next_any t3 u2 h7.sml).mono ?_
              rintro e w' ⟨z1, ⟨x, vk, vv, zx, _⟩ | ⟨_, rfl, z2⟩⟩
              · rw [hx] at zx; cases zx
              · exact ⟨rfl, z1.below h1 q1 h1.size, h2.other (.inr rfl) z1, h3, (z1.2.2.2.2 hb (blk_lt h4) (Ne.symm q2)).trans h4, h5, h6, h7⟩
            have HNo := hide ((unhide HD).1.2.2.2.2.2.2.none (unhide HD).2.2.1 hx)
            clear HD hx HQ
            go_wp2_with (go_at_call 17; refine (unhide HNx).mono ?_; rintro e w7 ⟨rfl, HS7⟩; clear HNx)
            go_loopw [18] (fun s18 wr => ∃ i : Nat, s18 = .int .i64 (i : Int) ∧ lo ≤ i ∧ i ≤ max lo 1024 ∧ w7 = wr) (fun s18 _ => 1024 - (RowKit.intOf s18).toNat)
            case atStart => exact ⟨lo, rfl, Nat.le_refl _, by omega, rfl⟩
            case round =>
              obtain ⟨i, rfl, hi1, hi2, rfl⟩ := hrel
              by_cases hlt : i < 1024
              · have hlti : (i : Int) < 1024 := by omega
                have hi0 : (0 : Int) ≤ (i : Int) := by omega
                have hwi : IntKind.i64.wrap ((i : Int) + 1) = (i : Int) + 1 := by rw [IntKind.wrap_i64] <;> omega
                have hc : w7.cell? ⟨hb, i, none⟩ = some (.bool false) := by
                  rw [(unhide HS7).2.2.2.1.cell hlt, unhide HNo i hi1 hlt]
                go_wp2_with fail
                go_roundw
                case rel => exact ⟨i + 1, by simp, by omega, by omega, trivial⟩
                case measure => simp [RowKit.intOf]; omega
              · have hlti : ¬ ((i : Int) < 1024) := by omega
                go_wp2_with fail
                go_ret
                exact ⟨rfl, (unhide HS7).1⟩
          | some x =>
            obtain ⟨j, hj, hlo, hjs, rfl, hbt⟩ := (unhide HD).1.2.2.2.2.2.2.next (unhide HD).2.2.1 hx
            have HNx : Hid (Calls Tryd.prog 17 #[.pointer (some ⟨q, 0, none⟩)] wr fun e w' => ∃ b off c vv, e = .returned (.tuple #[.slice (some ⟨b, off, none⟩) 2 c, vv, .bool true]) ∧ Hid (SW w w' p hb (fun g => g = hb ∨ g = q) F hs ∧ CV w' q p (behindK (kN j)) ∧ BR w' (.slice (some ⟨b, off, none⟩) 2 c) (kN j) ∧ w'.cell? ⟨b, off, none⟩ = some (.int .u8 ((nb1 j).toNat : Int)) ∧ w'.cell? ⟨b, off + 1, none⟩ = some (.int .u8 ((nb0 j).toNat : Int)))) := by
              obtain ⟨u1, u2, u3, u4⟩ := unhide HD
              obtain ⟨q1, q2, q3⟩ := unhide HQ
              obtain ⟨h1, h2, h3, h4, h5, h6, h7⟩ := u1
              obtain ⟨t1, t2, O, t3, t4⟩ := id h2
              refine (Next_any t3 u2 h7.sml).mono ?_
              rintro e w' ⟨z1, ⟨x, vk, vv, zx, rfl, z2, z3, z4⟩ | ⟨zx, _⟩⟩
              · rw [hx] at zx
                cases zx
                obtain ⟨h0, _⟩ | ⟨b, off, c, rfl, hbl, hcl⟩ := id z3
                · cases h0
                · exact ⟨b, off, c, vv, rfl, ⟨z1.below h1 q1 h1.size, h2.other (.inr rfl) z1, h3, (z1.2.2.2.2 hb (blk_lt h4) (Ne.symm q2)).trans h4, h5, h6, h7⟩, z2, z3, hcl 0 (show 0 < 2 by omega), hcl 1 (show 1 < 2 by omega)⟩
              · rw [hx] at zx; cases zx
            have HJ := hide (And.intro hj (And.intro hjs (And.intro hbt hlo)))
            have hj0 : (0 : Int) ≤ (j : Int) := by omega
            have hj1 : (j : Int) < 1024 := by omega
            have hjl : ¬ ((j : Int) ≤ last) := by omega
            have hjf : ¬ ((j : Int) < (f : Int)) := by omega
            have HFl : Hid (F.length ≤ 1000000) := by have := (unhide HD).2.2.2; show _ ≤ _; omega
            have HFl2 := hide (unhide HD).2.2.2
            have hn1 : IntKind.i64.wrap ((nb1 j).toNat : Int) = ((nb1 j).toNat : Int) := by have := (nb1 j).toNat_lt; rw [IntKind.wrap_i64] <;> omega
            have hn0 : IntKind.i64.wrap ((nb0 j).toNat : Int) = ((nb0 j).toNat : Int) := by have := (nb0 j).toNat_lt; rw [IntKind.wrap_i64] <;> omega
            have hm1 : IntKind.i64.wrap (((nb1 j).toNat : Int) * 256) = ((nb1 j).toNat : Int) * 256 := by have := (nb1 j).toNat_lt; rw [IntKind.wrap_i64] <;> omega
            have hm2 : IntKind.i64.wrap (((nb1 j).toNat : Int) * 256 + ((nb0 j).toNat : Int)) = (j : Int) := by rw [nb1_nat (show j < 65536 by omega), nb0_nat]; rw [IntKind.wrap_i64] <;> omega
            clear HD hx hj hjs hbt
            go_upto_region 20 with (go_at_call 17; refine (unhide HNx).mono ?_; rintro e w7 ⟨b, off, c, vv, rfl, HS7⟩; clear HNx)
            have HS20 : Hid (∀ W : World, Below w7.heap.size w7 W → W.cell? ⟨b, off, none⟩ = some (.int .u8 ((nb1 j).toNat : Int)) ∧ W.cell? ⟨b, off + 1, none⟩ = some (.int .u8 ((nb0 j).toNat : Int))) := fun W hb' => by
              obtain ⟨_, _, r, r0, r1⟩ := unhide HS7
              obtain ⟨h0, _⟩ | ⟨b', off', c', e, hbl, _⟩ := r
              · cases h0
              · cases e
                exact ⟨(hb'.cell (p := ⟨b, _, none⟩) hbl).trans r0, (hb'.cell (p := ⟨b, _, none⟩) hbl).trans r1⟩
            refine wp_region_held_drew (S := fun w' => w'.cell? ⟨b, off, none⟩ = some (.int .u8 ((nb1 j).toNat : Int)) ∧ w'.cell? ⟨b, off + 1, none⟩ = some (.int .u8 ((nb0 j).toNat : Int))) (by kernel_rfl) (unhide HS20 _ (Below.refl _ _).drew) (fun hHeld => ?_)
            obtain ⟨w8, hw8⟩ : ∃ w8, w8 = w7.drew := ⟨_, rfl⟩
            rw [← hw8] at hHeld ⊢
            have HS8 : Hid (SW w w8 p hb (fun g => g = hb ∨ g = q) F hs ∧ CV w8 q p (behindK (kN j)) ∧ BR w8 (.slice (some ⟨b, off, none⟩) 2 c) (kN j)) := by
              have hb' : Below w7.heap.size w7 w8 := by rw [hw8]; exact (Below.refl _ _).drew
              exact ⟨(unhide HS7).1.below hb', (unhide HS7).2.1.below hb', (unhide HS7).2.2.1.below hb'⟩
            clear hw8 HS7
            refine hand_to (i := 0) (d := 63) (v := (.slice (some ⟨b, off, none⟩) 2 c)) rfl rfl (by kernel_rfl) (by kernel_rfl) (by kernel_rfl) (fun _ _ _ h => h) (Or.inl ⟨by rfl, ?_⟩) hHeld ?_
            · (intro w' hSw; obtain ⟨y0, y1⟩ := hSw; go_simp)
            simp only [Act.put, List.setIfInBounds_toArray, List.set_cons_zero, List.set_cons_succ]
            refine hand_to (i := 1) (d := 64) (v := (.pointer (some ⟨b, off, none⟩))) rfl rfl (by kernel_rfl) (by kernel_rfl) (by kernel_rfl) (fun _ _ _ h => h) (Or.inl ⟨by rfl, ?_⟩) hHeld ?_
            · (intro w' hSw; obtain ⟨y0, y1⟩ := hSw; go_simp)
            simp only [Act.put, List.setIfInBounds_toArray, List.set_cons_zero, List.set_cons_succ]
            refine hand_to (i := 2) (d := 65) (v := (.int .u8 ((nb1 j).toNat : Int))) rfl rfl (by kernel_rfl) (by kernel_rfl) (by kernel_rfl) (fun _ _ _ h => h) (Or.inl ⟨by rfl, ?_⟩) hHeld ?_
            · (intro w' hSw; obtain ⟨y0, y1⟩ := hSw; go_simp)
            simp only [Act.put, List.setIfInBounds_toArray, List.set_cons_zero, List.set_cons_succ]
            refine hand_to (i := 3) (d := 66) (v := (.int .i64 ((nb1 j).toNat : Int))) rfl rfl (by kernel_rfl) (by kernel_rfl) (by kernel_rfl) (fun _ _ _ h => h) (Or.inl ⟨by rfl, ?_⟩) hHeld ?_
            · (intro w' hSw; obtain ⟨y0, y1⟩ := hSw; go_simp)
            simp only [Act.put, List.setIfInBounds_toArray, List.set_cons_zero, List.set_cons_succ]
            refine hand_to (i := 4) (d := 67) (v := (.int .i64 (((nb1 j).toNat : Int) * 256))) rfl rfl (by kernel_rfl) (by kernel_rfl) (by kernel_rfl) (fun _ _ _ h => h) (Or.inl ⟨by rfl, ?_⟩) hHeld ?_
            · (intro w' hSw; obtain ⟨y0, y1⟩ := hSw; go_simp)
            simp only [Act.put, List.setIfInBounds_toArray, List.set_cons_zero, List.set_cons_succ]
            refine hand_to (i := 5) (d := 68) (v := (.slice (some ⟨b, off, none⟩) 2 c)) rfl rfl (by kernel_rfl) (by kernel_rfl) (by kernel_rfl) (fun _ _ _ h => h) (Or.inl ⟨by rfl, ?_⟩) hHeld ?_
            · (intro w' hSw; obtain ⟨y0, y1⟩ := hSw; go_simp)
            simp only [Act.put, List.setIfInBounds_toArray, List.set_cons_zero, List.set_cons_succ]
            refine hand_to (i := 6) (d := 69) (v := (.pointer (some ⟨b, off + 1, none⟩))) rfl rfl (by kernel_rfl) (by kernel_rfl) (by kernel_rfl) (fun _ _ _ h => h) (Or.inl ⟨by rfl, ?_⟩) hHeld ?_
            · (intro w' hSw; obtain ⟨y0, y1⟩ := hSw; go_simp)
            simp only [Act.put, List.setIfInBounds_toArray, List.set_cons_zero, List.set_cons_succ]
            refine hand_to (i := 7) (d := 70) (v := (.int .u8 ((nb0 j).toNat : Int))) rfl rfl (by kernel_rfl) (by kernel_rfl) (by kernel_rfl) (fun _ _ _ h => h) (Or.inl ⟨by rfl, ?_⟩) hHeld ?_
            · (intro w' hSw; obtain ⟨y0, y1⟩ := hSw; go_simp)
            simp only [Act.put, List.setIfInBounds_toArray, List.set_cons_zero, List.set_cons_succ]
            refine hand_to (i := 8) (d := 71) (v := (.int .i64 ((nb0 j).toNat : Int))) rfl rfl (by kernel_rfl) (by kernel_rfl) (by kernel_rfl) (fun _ _ _ h => h) (Or.inl ⟨by rfl, ?_⟩) hHeld ?_
            · (intro w' hSw; obtain ⟨y0, y1⟩ := hSw; go_simp)
            simp only [Act.put, List.setIfInBounds_toArray, List.set_cons_zero, List.set_cons_succ]
            refine hand_to (i := 9) (d := 72) (v := (.int .i64 (j : Int))) rfl rfl (by kernel_rfl) (by kernel_rfl) (by kernel_rfl) (fun _ _ _ h => h) (Or.inl ⟨by rfl, ?_⟩) hHeld ?_
            · (intro w' hSw; obtain ⟨y0, y1⟩ := hSw; go_simp)
            simp only [Act.put, List.setIfInBounds_toArray, List.set_cons_zero, List.set_cons_succ]
            refine hand_to (i := 10) (d := 16) (v := (.int .i64 (j : Int))) rfl rfl (by kernel_rfl) (by kernel_rfl) (by kernel_rfl) (fun _ _ _ h => h) (Or.inl ⟨by rfl, ?_⟩) hHeld ?_
            · (intro w' hSw; obtain ⟨y0, y1⟩ := hSw; go_simp)
            simp only [Act.put, List.setIfInBounds_toArray, List.set_cons_zero, List.set_cons_succ]
            refine wpAnyH_done (by kernel_rfl) ?_ _
            have HHV := hide (unhide HS8).1.2.2.2.1
            have hcj : w8.cell? ⟨hb, j, none⟩ = some (.bool true) := by rw [(unhide HHV).cell (unhide HJ).1, (unhide HJ).2.1]
            clear hHeld HS20
            go_wp2_with fail
            go_loopw [17] (fun s17 wr => ∃ i : Nat, s17 = .int .i64 (i : Int) ∧ lo ≤ i ∧ i ≤ j ∧ w8 = wr) (fun s17 _ => j - (RowKit.intOf s17).toNat)
            case atStart => exact ⟨lo, rfl, Nat.le_refl _, (unhide HJ).2.2.2, rfl⟩
            case round =>
              obtain ⟨i, rfl, hi1, hi2, rfl⟩ := hrel
              by_cases hlt : i < j
              · have hlti : (i : Int) < (j : Int) := by omega
                have hi0 : (0 : Int) ≤ (i : Int) := by omega
                have hi3 : (i : Int) < 1024 := by omega
                have hwi : IntKind.i64.wrap ((i : Int) + 1) = (i : Int) + 1 := by rw [IntKind.wrap_i64] <;> omega
                have hc : w8.cell? ⟨hb, i, none⟩ = some (.bool false) := by rw [(unhide HHV).cell (by have := (unhide HJ).1; omega), (unhide HJ).2.2.1 i hi1 hlt]
                go_wp2_with fail
                go_roundw
                case rel => exact ⟨i + 1, by simp, by omega, by omega, trivial⟩
                case measure => simp [RowKit.intOf]; omega
              · have hlti : ¬ ((i : Int) < (j : Int)) := by omega
                by_cases hc : ((j : Int) % 7 == (gn : Int) % 7) = true
                · have HDl : Hid (Calls Tryd.prog 10 #[.pointer (some ⟨p, 0, none⟩), .slice (some ⟨b, off, none⟩) 2 c] w8 fun e w9 => (∃ bb, e = .returned (.bool bb)) ∧ (w9.cell? ⟨hb, j, none⟩ = some (.bool true) ∧ w9.frozen? ⟨hb, j, none⟩ = false) ∧ Hid (SW w (w9.setCell ⟨hb, j, none⟩ (.bool false)) p hb (fun g => g = hb ∨ g = q) (delL (kN j) F) (upd hs j false) ∧ CV (w9.setCell ⟨hb, j, none⟩ (.bool false)) q p (behindK (kN j)))) := by
                    obtain ⟨u1, u2, u3⟩ := unhide HS8
                    obtain ⟨q1, q2, q3⟩ := unhide HQ
                    refine (u1.del u3 (unhide HFl)).mono ?_
                    rintro e w9 ⟨hbb, z1, z2, z3, z4⟩
                    obtain ⟨h1, h2, h3, h4, h5, h6, h7⟩ := u1
                    refine ⟨hbb, ⟨by rw [z3.cell (unhide HJ).1, (unhide HJ).2.1], frzB2 z3 j⟩, ⟨z1.setCell (p := ⟨hb, j, none⟩) h6 _, z2.other (.inl rfl) (FrP.set _ _ _ _), .inl rfl, z3.set false, h5, h6, h7.del (unhide HJ).1⟩, ?_⟩
                    exact (Below.heap_setCell w9 ⟨hb, j, none⟩ _ q q2).trans ((z4.2.2.2.2 q (blk_lt u2) q3).trans u2)
                  clear HHV hcj
                  go_wp2_with (go_at_call 10; refine (unhide HDl).mono ?_; rintro e w9 ⟨⟨bb, rfl⟩, ⟨c0, f0⟩, HS9⟩; clear HDl)
                  go_roundw
                  case rel => exact ⟨(j : Int), j + 1, behindK (kN j), delL (kN j) F, upd hs j false, rfl, by omega, by omega, by have := (unhide HJ).2.2.2; omega, (unhide HS9).1, (unhide HS9).2, frs_behind (unhide HJ).1, Nat.le_trans (del_le _ _) (unhide HFl2)⟩
                  case measure => simp [RowKit.intOf]; omega
                · have hcf : ((j : Int) % 7 == (gn : Int) % 7) = false := by simpa using hc
                  clear hc HHV hcj
                  go_wp2_with fail
                  go_roundw
                  case rel => exact ⟨(j : Int), j + 1, behindK (kN j), F, hs, rfl, by omega, by omega, by have := (unhide HJ).2.2.2; omega, (unhide HS8).1, (unhide HS8).2.1, frs_behind (unhide HJ).1, unhide HFl2⟩
                  case measure => simp [RowKit.intOf]; omega
end Go.Proofs.YtmahkhpmaenkhaaDoor
