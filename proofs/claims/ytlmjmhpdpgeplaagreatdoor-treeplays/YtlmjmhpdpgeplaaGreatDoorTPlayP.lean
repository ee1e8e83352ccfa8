/- TreePlays: its walk up to the ways of a step: what each way has to show, and the law behind them. -/
import Derived.Test.YtlmjmhpdpgeplaaGreatDoorJTPlayCTCpTPlayW
import Derived.Deep.CutRange
import Derived.Deep.CutBlock
namespace Go.Proofs.YtlmjmhpdpgeplaaGreatDoor
open Go.RowKit Go.Lib

/-- What stands at the loop's head. -/
def LP (w wr : World) (p q cl : Nat) (vm vo : Value) (i fl : Nat) (F G : List It) (last : ByteArray) (sm : Bool) : Prop := PQ w wr p q cl (fun _ => False) vm vo F F G (frK last sm) ∧ Bnd i F ∧ Bnd i G ∧ last.size ≤ 100 ∧ fl = F.length
theorem get_at {F : List It} {key : ByteArray} {at' : Nat} {y : It} (hp : PlaceAt F key at') (hy : F[at']? = some y) (h0 : kc y.1 key = 0) : getL key F = some y.2 := by
  obtain ⟨hl, rfl⟩ := List.getElem?_eq_some_iff.1 hy
  have h1 : (F.find? fun y => kc y.1 key == 0) = some F[at'] := by
    rw [List.find?_eq_some_iff_getElem]
    refine ⟨by simp [h0], at', hl, rfl, fun j hj => ?_⟩
    have := hp.2.1 j F[j] (List.getElem?_eq_getElem _) hj
    simp; omega
  unfold getL
  rw [h1]; rfl
theorem get_not {F : List It} {key : ByteArray} (h : hasL key F = false) : getL key F = none := by
  cases hg : getL key F with
  | none => rfl
  | some s => rw [(getL_some hg).2] at h; cases h
section
set_option maxHeartbeats 25600000 in
set_option maxRecDepth 100000 in
def plays_cut : (GW6 : Prop) ×' (GW10 : Prop) ×' (GPUT : Prop) ×' (GDEL : Prop) ×' (GN0 : Prop) ×' (GN1 : Prop) ×' (GWG : Prop) ×' (Hid (Unit → GW6) → Hid (Unit → GW10) → Hid (Unit → GPUT) → Hid (Unit → GDEL) → Hid (Unit → GN0) → Hid (Unit → GN1) → Hid (Unit → GWG) → ∀ (w : World) (a : Option Addr) (ss : List PS) (n c : Nat), n = ss.length → InP w a ss → n ≤ maxLen → ET w → Calls Tryz.prog 3 #[.slice a n c] w fun e w' => e = .returned (.bool true) ∧ Below w.heap.size w w') := by
  apply PSigma.mk
  apply PSigma.mk
  apply PSigma.mk
  apply PSigma.mk
  apply PSigma.mk
  apply PSigma.mk
  apply PSigma.mk
  intro GW6 GW10 GPUT GDEL GN0 GN1 GWG w a ss n c hn hin hm hE
  have HK := hide (known7_any w)
  have HFw : Hid (∀ W, Below w.heap.size w W → Calls Tryz.prog 5 #[.slice a n c] W (FewQ W ss)) := fun W hb => few_any a ss n c W hn (hin.below hb) hm
  cases hf : fewB ss with
  | false =>
    have HFw2 : Hid (∀ W, Below w.heap.size w W → Calls Tryz.prog 5 #[.slice a n c] W fun e w' => e = .returned (.bool false) ∧ Hid (Below w.heap.size w w')) := fun W hb => (unhide HFw W hb).mono (by rintro e w' ⟨rfl, rfl⟩; exact ⟨by rw [hf], hb⟩)
    clear HFw hf hin hE hn hm
    go_enter Tryz.func3, Tryz.ntmps3
    go_wp2_with (first
      | (go_at_call 4; refine (unhide HK).mono ?_; rintro e w1 ⟨rfl, hb1⟩; clear HK; have HFw3 := hide (unhide HFw2 w1 hb1); clear HFw2 hb1)
      | (go_at_call 5; refine (unhide HFw3).mono ?_; rintro e w2 ⟨rfl, HB⟩; clear HFw3))
    go_ret
    exact ⟨rfl, unhide HB⟩
  | true =>
    obtain ⟨hl250, hsz⟩ := few_yes.1 hf
    have hn250 : n ≤ 250 := by omega
    have HFw2 : Hid (∀ W, Below w.heap.size w W → Calls Tryz.prog 5 #[.slice a n c] W fun e w' => e = .returned (.bool true) ∧ Hid (Below w.heap.size w w')) := fun W hb => (unhide HFw W hb).mono (by rintro e w' ⟨rfl, rfl⟩; exact ⟨by rw [hf], hb⟩)
    have hni : (n : Int) ≤ 250 := by omega
    have HIN := hide (And.intro hn (And.intro hin (And.intro hsz (And.intro hE hn250))))
    clear HFw hf hin hE hn hm hl250 hsz
    go_enter Tryz.func3, Tryz.ntmps3
    go_upto_region 10 with (first
      | (go_at_call 4; refine (unhide HK).mono ?_; rintro e w1 ⟨rfl, hb1⟩; clear HK; have HFw3 := hide (unhide HFw2 w1 hb1); clear HFw2 hb1)
      | (go_at_call 5; refine (unhide HFw3).mono ?_; rintro e w2 ⟨rfl, HB2⟩; clear HFw3; have HNw := hide (New_any w2))
      | (go_at_call 6; refine (unhide HNw).mono ?_; rintro e w3 ⟨rfl, ht3, hb3, hz3⟩; clear HNw; have HSk := hide (Seek_any (w := w3) (p := w2.heap.size) (kv := .slice none 0 0) (key := ⟨#[]⟩) (fun W _ => conv_zero none 0 W)); have HT3 := hide (And.intro ht3 (And.intro hb3 hz3)); clear ht3 hb3 hz3)
      | (go_at_call 7; refine (unhide HSk).mono ?_; rintro e w4 ⟨rfl, hc4, hb4, hz4⟩; clear HSk; have HTT : Hid (TT w4 w2.heap.size (fun g => g = w3.heap.size) []) := (TT.more (N := fun _ => False) ⟨id, fun _ h => h.elim, _, (unhide HT3).1, fun _ h => h.elim⟩ hb4 (fun g hg => .inr (by rw [hg]; omega))); have HC4 := hide (And.intro hc4 (And.intro hb4 hz4)); clear hc4 hb4 hz4; have HCl := hide (TT.clone (unhide HTT)))
      | (go_at_call 8; refine (unhide HCl).mono ?_; rintro e w5 ⟨cl, rfl, hcl, ht5, hb5, hz5⟩; clear HCl; have HC5 := hide (And.intro hcl (And.intro ht5 (And.intro hb5 hz5))); clear hcl ht5 hb5 hz5))
    obtain ⟨p, hp⟩ : ∃ p, p = w2.heap.size := ⟨_, rfl⟩
    obtain ⟨q0, hq0⟩ : ∃ q0, q0 = w3.heap.size := ⟨_, rfl⟩
    rw [← hp, ← hq0]
    have H0 : Hid (LP w w5 p q0 cl (.slice none 0 0) (.slice none 0 0) 0 0 [] [] ⟨#[]⟩ false) := by
      obtain ⟨u1, u2, u3⟩ := unhide HT3
      obtain ⟨v1, v2, v3⟩ := unhide HC4
      obtain ⟨x1, x2, x3, x4⟩ := unhide HC5
      have hB2 := unhide HB2
      have hz := hB2.size
      refine ⟨⟨below_tr (below_tr (below_tr hB2 u2) v2) x3, ⟨by omega, by omega, by omega⟩, ?_, ?_, R2.nil _, R2.nil _, ?_, ?_, id⟩, ⟨Nat.le_refl _, fun _ h => by cases h⟩, ⟨Nat.le_refl _, fun _ h => by cases h⟩, by decide, rfl⟩
      · rw [hp, hq0]
        exact (unhide HTT).more x3 (fun g hg => hg.elim .inl False.elim)
      · rw [hp, hq0]
        exact x2.more (Below.refl _ _) (fun g hg => hg.elim (fun h => .inl (.inr h)) (fun hg => hg.elim (fun h => .inl (.inl h)) False.elim))
      · rintro g (⟨_, _, _, h⟩ | ⟨_, _, _, h⟩) <;> cases h
      · rw [hp, hq0]
        exact v1.below x3
    clear HT3 HC4 HC5 HTT HB2 hp hq0
    go_wp2_with fail
    go_loopw [4, 5, 6, 7, 8, 9, 10] (fun s4 s5 s6 s7 s8 s9 s10 wr => ∃ (i q cl fl gl mk ok : Nat) (ma oa : Option Addr) (F G : List It) (last : ByteArray) (sm : Bool), s4 = .slice ma fl mk ∧ s5 = .slice oa gl ok ∧ s6 = .pointer (some ⟨q, 0, none⟩) ∧ s7 = .string last ∧ s8 = .bool sm ∧ s9 = .pointer (some ⟨cl, 0, none⟩) ∧ s10 = .int .i64 (i : Int) ∧ i ≤ n ∧ Hid (LP w wr p q cl (.slice ma fl mk) (.slice oa gl ok) i fl F G last sm)) (fun _ _ _ _ _ _ s10 _ => n - (RowKit.intOf s10).toNat)
    case atStart => exact ⟨0, q0, cl, 0, 0, 0, 0, none, none, [], [], ⟨#[]⟩, false, rfl, rfl, rfl, rfl, rfl, rfl, rfl, Nat.zero_le _, unhide H0⟩
    case round =>
      clear H0
      obtain ⟨i, q, cl, fl, gl, mk, ok, ma, oa, F, G, last, sm, rfl, rfl, rfl, rfl, rfl, rfl, rfl, hil, HD⟩ := hrel
      by_cases hlt : i < n
      · have hlti : (i : Int) < (n : Int) := by omega
        have hi0 : (0 : Int) ≤ (i : Int) := by omega
        have hwi : IntKind.i64.wrap ((i : Int) + 1) = (i : Int) + 1 := by rw [IntKind.wrap_i64] <;> omega
        obtain ⟨s, hs⟩ : ∃ s, ss[i]? = some s := ⟨_, List.getElem?_eq_getElem (by rw [← (unhide HIN).1]; exact hlt)⟩
        obtain ⟨hok, b, off, rfl, hb, c0, c1, c2⟩ := (unhide HIN).2.1 i s hs
        have hszs := (unhide HIN).2.2.1 s (List.mem_of_getElem? hs)
        have hwr := (unhide HD).1.bel
        obtain ⟨what, ka, kk, key, va, vk, val⟩ := s
        simp only [PS.kv, PS.vv] at c0 c1 c2 hszs
        have HOK := hide hok
        obtain ⟨ks, hks⟩ : ∃ ks, ks = key.size := ⟨_, rfl⟩
        obtain ⟨vs, hvs⟩ : ∃ vs, vs = val.size := ⟨_, rfl⟩
        rw [← hks] at c1
        rw [← hvs] at c2
        replace c0 := (hwr.cell (p := ⟨b, off + i * 3, none⟩) hb).trans c0
        replace c1 := (hwr.cell (p := ⟨b, off + i * 3 + 1, none⟩) hb).trans c1
        replace c2 := (hwr.cell (p := ⟨b, off + i * 3 + 2, none⟩) hb).trans c2
        have HSz : Hid (key.size ≤ 100 ∧ val.size ≤ 100) := hszs
        have HKS := hide (And.intro hks hvs)
        clear hok hs hks hvs hb hwr hszs
        go_upto_region 14 with fail
        clear c0 c1 c2
        obtain ⟨sb, hsb⟩ : ∃ sb, sb = wr.heap.size := ⟨_, rfl⟩
        obtain ⟨w6, hw6⟩ : ∃ w6, w6 = wr.alloc (.cells #[.int .i64 what, .slice ka ks kk, .slice va vs vk] 32) := ⟨_, rfl⟩
        rw [← hsb, ← hw6]
        have hb6 : Below wr.heap.size wr w6 := by rw [hw6]; exact (Below.refl _ _).alloc (Nat.le_refl _) _
        have hs6 : w6.heap[sb]? = some (.cells #[.int .i64 what, .slice ka ks kk, .slice va vs vk] 32 (0, 0)) := by rw [hw6, hsb]; exact heap_alloc_new _ _
        have HP6 : Hid (PQ w w6 p q cl (fun _ => False) (.slice ma fl mk) (.slice oa gl ok) F F G (frK last sm)) := (unhide HD).1.below hb6
        have HBL : Hid (∀ W : World, Below w6.heap.size w6 W → BZ W (.slice ka ks kk) key.data.toList ∧ BZ W (.slice va vs vk) val.data.toList) := fun W hW => by
          have hbw := below_tr (unhide HP6).bel hW
          have h1 := (unhide HOK).1.below hbw
          have h2 := (unhide HOK).2.below hbw
          simp only [PS.kv, PS.vv] at h1 h2
          rw [← (unhide HKS).1] at h1
          rw [← (unhide HKS).2] at h2
          exact ⟨h1, h2⟩
        have HS16 : Hid (∀ W : World, Below w6.heap.size w6 W → W.cell? ⟨sb, 1, none⟩ = some (.slice ka ks kk) ∧ W.cell? ⟨sb, 2, none⟩ = some (.slice va vs vk)) := fun W hW => ⟨cellB2 (blk_below hs6 hW) 1, cellB2 (blk_below hs6 hW) 2⟩
        have HS0 : Hid (∀ W : World, Below w6.heap.size w6 W → W.cell? ⟨sb, 0, none⟩ = some (.int .i64 what)) := fun W hW => cellB2 (blk_below hs6 hW) 0
        have HS14 : Hid (∀ W : World, Below w6.heap.size w6 W → W.cell? ⟨sb, 1, none⟩ = some (.slice ka ks kk) ∧ W.cell? ⟨sb, 2, none⟩ = some (.slice va vs vk) ∧ (convert 30 9 (.slice ka ks kk)).run Tryz.prog W = .ok (.string key) W ∧ (convert 30 9 (.slice va vs vk)).run Tryz.prog W = .ok (.string val) W) := fun W hW => ⟨(unhide HS16 W hW).1, (unhide HS16 W hW).2, (unhide HBL W hW).1.txt rfl W (Below.refl _ _), (unhide HBL W hW).2.txt rfl W (Below.refl _ _)⟩
        have HPl : Hid (∀ W : World, Below w6.heap.size w6 W → Calls Tryz.prog 9 #[.slice ma fl mk, .string key] W fun e w' => ∃ (at' : Nat) (inn : Bool), e = .returned (.tuple #[.int .i64 (at' : Int), .bool inn]) ∧ Hid (Below w6.heap.size w6 w' ∧ inn = hasL key F ∧ PlaceAt F key at' ∧ hereB F key at' = inn)) := fun W hW => by
          have hq := (unhide HP6).below hW
          refine (place_any hq.m hq.tree.srt (by have := (unhide HD).2.1.1; have := (unhide HIN).2.2.2.2; omega)).mono ?_
          rintro e w' ⟨at', rfl, z1, z2, z3, z4⟩
          exact ⟨at', _, rfl, below_tr hW z1, rfl, z3, z4⟩
        have HBd := hide (unhide HD).2
        clear hsb hw6 hb6 hs6 HD HOK HKS
        refine wp_region_held_drew (S := fun w' => w'.cell? ⟨sb, 1, none⟩ = some (.slice ka ks kk) ∧ w'.cell? ⟨sb, 2, none⟩ = some (.slice va vs vk) ∧ (convert 30 9 (.slice ka ks kk)).run Tryz.prog w' = .ok (.string key) w' ∧ (convert 30 9 (.slice va vs vk)).run Tryz.prog w' = .ok (.string val) w') (by kernel_rfl) (unhide HS14 _ (Below.refl _ _).drew) (fun hHeld => ?_)
        refine hand_to (i := 0) (d := 50) (v := (.pointer (some ⟨sb, 1, none⟩))) rfl rfl (by kernel_rfl) (by kernel_rfl) (by kernel_rfl) (fun _ _ _ h => h) (Or.inl ⟨by rfl, ?_⟩) hHeld ?_
        · (intro w' hSw; obtain ⟨y0, y1, y2, y3⟩ := hSw; go_simp)
        simp only [Act.put, List.setIfInBounds_toArray, List.set_cons_zero, List.set_cons_succ]
        refine hand_to (i := 1) (d := 51) (v := (.slice ka ks kk)) rfl rfl (by kernel_rfl) (by kernel_rfl) (by kernel_rfl) (fun _ _ _ h => h) (Or.inl ⟨by rfl, ?_⟩) hHeld ?_
        · (intro w' hSw; obtain ⟨y0, y1, y2, y3⟩ := hSw; go_simp)
        simp only [Act.put, List.setIfInBounds_toArray, List.set_cons_zero, List.set_cons_succ]
        refine hand_to (i := 2) (d := 52) (v := (.string key)) rfl rfl (by kernel_rfl) (by kernel_rfl) (by kernel_rfl) (fun _ _ _ h => h) (Or.inl ⟨by rfl, ?_⟩) hHeld ?_
        · (intro w' hSw; obtain ⟨y0, y1, y2, y3⟩ := hSw; go_simp)
        simp only [Act.put, List.setIfInBounds_toArray, List.set_cons_zero, List.set_cons_succ]
        refine hand_to (i := 3) (d := 53) (v := (.pointer (some ⟨sb, 2, none⟩))) rfl rfl (by kernel_rfl) (by kernel_rfl) (by kernel_rfl) (fun _ _ _ h => h) (Or.inl ⟨by rfl, ?_⟩) hHeld ?_
        · (intro w' hSw; obtain ⟨y0, y1, y2, y3⟩ := hSw; go_simp)
        simp only [Act.put, List.setIfInBounds_toArray, List.set_cons_zero, List.set_cons_succ]
        refine hand_to (i := 4) (d := 54) (v := (.slice va vs vk)) rfl rfl (by kernel_rfl) (by kernel_rfl) (by kernel_rfl) (fun _ _ _ h => h) (Or.inl ⟨by rfl, ?_⟩) hHeld ?_
        · (intro w' hSw; obtain ⟨y0, y1, y2, y3⟩ := hSw; go_simp)
        simp only [Act.put, List.setIfInBounds_toArray, List.set_cons_zero, List.set_cons_succ]
        refine hand_to (i := 5) (d := 55) (v := (.string val)) rfl rfl (by kernel_rfl) (by kernel_rfl) (by kernel_rfl) (fun _ _ _ h => h) (Or.inl ⟨by rfl, ?_⟩) hHeld ?_
        · (intro w' hSw; obtain ⟨y0, y1, y2, y3⟩ := hSw; go_simp)
        simp only [Act.put, List.setIfInBounds_toArray, List.set_cons_zero, List.set_cons_succ]
        refine hand_to (i := 6) (d := 12) (v := (.string key)) rfl rfl (by kernel_rfl) (by kernel_rfl) (by kernel_rfl) (fun _ _ _ h => h) (Or.inl ⟨by rfl, ?_⟩) hHeld ?_
        · (intro w' hSw; obtain ⟨y0, y1, y2, y3⟩ := hSw; go_simp)
        simp only [Act.put, List.setIfInBounds_toArray, List.set_cons_zero, List.set_cons_succ]
        refine hand_to (i := 7) (d := 13) (v := (.string val)) rfl rfl (by kernel_rfl) (by kernel_rfl) (by kernel_rfl) (fun _ _ _ h => h) (Or.inl ⟨by rfl, ?_⟩) hHeld ?_
        · (intro w' hSw; obtain ⟨y0, y1, y2, y3⟩ := hSw; go_simp)
        simp only [Act.put, List.setIfInBounds_toArray, List.set_cons_zero, List.set_cons_succ]
        refine wpAnyH_done (by kernel_rfl) ?_ _
        clear HS14
        go_upto_region 16 with (go_at_call 9; refine (unhide HPl _ (Below.refl _ _).drew).mono ?_; rintro e w7 ⟨at', inn, rfl, H7⟩; clear HPl; have HB7 := hide (unhide H7).1)
        refine wp_region_held_drew (S := fun w' => w'.cell? ⟨sb, 1, none⟩ = some (.slice ka ks kk) ∧ w'.cell? ⟨sb, 2, none⟩ = some (.slice va vs vk)) (by kernel_rfl) (unhide HS16 _ (unhide HB7).drew) (fun hHeld => ?_)
        obtain ⟨WS, hWS⟩ : ∃ WS, WS = w7.drew := ⟨_, rfl⟩
        rw [← hWS] at hHeld ⊢
        have HB : Hid (Below w6.heap.size w6 WS) := by rw [hWS]; exact (unhide HB7).drew
        clear hWS
        refine hand_to (i := 0) (d := 62) (v := (.pointer (some ⟨sb, 1, none⟩))) rfl rfl (by kernel_rfl) (by kernel_rfl) (by kernel_rfl) (fun _ _ _ h => h) (Or.inl ⟨by rfl, ?_⟩) hHeld ?_
        · (intro w' hSw; obtain ⟨y0, y1⟩ := hSw; go_simp)
        simp only [Act.put, List.setIfInBounds_toArray, List.set_cons_zero, List.set_cons_succ]
        refine hand_to (i := 1) (d := 63) (v := (.slice ka ks kk)) rfl rfl (by kernel_rfl) (by kernel_rfl) (by kernel_rfl) (fun _ _ _ h => h) (Or.inl ⟨by rfl, ?_⟩) hHeld ?_
        · (intro w' hSw; obtain ⟨y0, y1⟩ := hSw; go_simp)
        simp only [Act.put, List.setIfInBounds_toArray, List.set_cons_zero, List.set_cons_succ]
        refine hand_to (i := 3) (d := 65) (v := (.pointer (some ⟨sb, 2, none⟩))) rfl rfl (by kernel_rfl) (by kernel_rfl) (by kernel_rfl) (fun _ _ _ h => h) (Or.inl ⟨by rfl, ?_⟩) hHeld ?_
        · (intro w' hSw; obtain ⟨y0, y1⟩ := hSw; go_simp)
        simp only [Act.put, List.setIfInBounds_toArray, List.set_cons_zero, List.set_cons_succ]
        refine hand_to (i := 4) (d := 66) (v := (.slice va vs vk)) rfl rfl (by kernel_rfl) (by kernel_rfl) (by kernel_rfl) (fun _ _ _ h => h) (Or.inl ⟨by rfl, ?_⟩) hHeld ?_
        · (intro w' hSw; obtain ⟨y0, y1⟩ := hSw; go_simp)
        simp only [Act.put, List.setIfInBounds_toArray, List.set_cons_zero, List.set_cons_succ]
        refine wpAnyH_ready (rs := [2]) (by kernel_rfl) (by simp) ?_
        refine AllReadyH.cons rfl (fun K hK => ?_) AllReadyH.nil
        refine step_cz (d := 64) rfl rfl (.tmp 63) rfl rfl (unhide HBL WS (unhide HB)).1 (by have := (unhide HSz).1; rw [Array.length_toList]; show key.size ≤ 1000000; omega) (fun v16 W8 hO hbb => ?_)
        have HOv16 : Hid (W8.ownsRow WS.heap.size 5 1 v16 key.data.toList.length (Lib.byteCells key.data.toList)) := hO
        have HZv16 := hide (And.intro (unhide HB) hbb)
        replace HB := hide (below_tr (unhide HB) hbb)
        clear hO hbb
        refine hK.out _ _ (unhide HS16 W8 (unhide HB)) (fun hHeld2 => ?_)
        clear hK K hHeld
        have hHeld := hHeld2
        clear hHeld2
        try simp only [Act.put, List.setIfInBounds_toArray, List.set_cons_zero, List.set_cons_succ]
        refine wpAnyH_ready (rs := [5]) (by kernel_rfl) (by simp) ?_
        refine AllReadyH.cons rfl (fun K hK => ?_) AllReadyH.nil
        refine step_cz (d := 67) rfl rfl (.tmp 66) rfl rfl (unhide HBL W8 (unhide HB)).2 (by have := (unhide HSz).2; rw [Array.length_toList]; show val.size ≤ 1000000; omega) (fun v17 W9 hO hbb => ?_)
        have HOv17 : Hid (W9.ownsRow W8.heap.size 5 1 v17 val.data.toList.length (Lib.byteCells val.data.toList)) := hO
        have HZv17 := hide (And.intro (unhide HB) hbb)
        replace HB := hide (below_tr (unhide HB) hbb)
        clear hO hbb
        refine hK.out _ _ (unhide HS16 W9 (unhide HB)) (fun hHeld2 => ?_)
        clear hK K hHeld
        have hHeld := hHeld2
        clear hHeld2
        try simp only [Act.put, List.setIfInBounds_toArray, List.set_cons_zero, List.set_cons_succ]
        refine hand_to (i := 6) (d := 16) (v := v16) rfl rfl (by kernel_rfl) (by kernel_rfl) (by kernel_rfl) (fun _ _ _ h => h) (Or.inl ⟨by rfl, ?_⟩) hHeld ?_
        · (intro w' hSw; obtain ⟨y0, y1⟩ := hSw; go_simp)
        simp only [Act.put, List.setIfInBounds_toArray, List.set_cons_zero, List.set_cons_succ]
        refine hand_to (i := 7) (d := 17) (v := v17) rfl rfl (by kernel_rfl) (by kernel_rfl) (by kernel_rfl) (fun _ _ _ h => h) (Or.inl ⟨by rfl, ?_⟩) hHeld ?_
        · (intro w' hSw; obtain ⟨y0, y1⟩ := hSw; go_simp)
        simp only [Act.put, List.setIfInBounds_toArray, List.set_cons_zero, List.set_cons_succ]
        refine wpAnyH_done (by kernel_rfl) ?_ _
        have cw := unhide HS0 W9 (unhide HB)
        obtain ⟨X, hX⟩ : ∃ X : Nat → Prop, X = fun g => v16.ownBlock = some g ∨ v17.ownBlock = some g := ⟨_, rfl⟩
        have HQ9 : Hid (PQ w W9 p q cl X (.slice ma fl mk) (.slice oa gl ok) F F G (frK last sm) ∧ KV2 w W9 X v16 v17 key val) := by
          obtain ⟨y1, y2⟩ := unhide HZv16
          obtain ⟨y3, y4⟩ := unhide HZv17
          have l16 := own_lt (unhide HOv16)
          have l17 := own_lt (unhide HOv17)
          have z1 := y1.size
          have z2 := y2.size
          have z3 := y4.size
          have z0 := (unhide HP6).bel.size
          subst hX
          refine ⟨(unhide HP6).more (unhide HB) (fun g hg => .inr ?_), ⟨⟨_, own_after (unhide HOv16) y4⟩, ⟨_, unhide HOv17⟩, fun g hg => ⟨.inl hg, ?_⟩, fun g hg => ⟨.inr hg, ?_⟩, fun g hg hg' => ?_, (unhide HSz).1, (unhide HSz).2⟩⟩
          · rcases hg with hg | hg
            · have := l16 g hg; omega
            · have := l17 g hg; omega
          · have := l16 g hg; omega
          · have := l17 g hg; omega
          · have := l16 g hg; have := l17 g hg'; omega
        clear hX HOv16 HOv17 HZv16 HZv17 HP6 HS16 HS0 HBL HB hHeld HB7
        by_cases h6 : what = 6
        · skip
          rename_i Qa cl0 Ka ha Qb Kb hb Kc hc
          revert w ss n c w1 w2 w3 w4 w5 cl0 Ka p q0 wr u2 u11 u12 u13 u14 u15 u16 u17 u18 u19 u20 u21 u22 u23 u24 u25 u26 u40 u41 u42 u43 u44 u45 u46 u47 u48 u49 u50 u51 u52 u53 u54 u55 u56 u57 u58 u59 u60 u61 u62 u63 u64 u65 u66 u67 u68 u69 u70 u71 u72 u73 u74 u75 u76 u77 u78 u79 u80 u81 u82 u83 u84 u85 u86 u87 u88 u89 u90 u91 u92 u93 u94 u95 u96 u97 u98 u99 u100 u101 u102 u103 u104 u105 u106 u107 u108 u109 u110 u111 u112 u113 u114 u115 u116 u117 u118 u119 u120 u121 u122 u123 u124 u125 u126 u127 u128 u129 u130 u131 u132 u133 u134 u135 u136 u137 u138 u139 u140 u141 u142 u143 u144 u145 u146 u147 u148 u149 u150 u151 u152 u153 u154 u155 u156 u157 u158 u159 u160 u161 u162 u163 u164 u165 u166 u167 u168 u169 u170 u171 u172 u173 u174 u175 u176 u177 u178 u179 u180 u181 u182 u183 u184 u185 u186 u187 u188 u189 u190 u191 u192 u193 u194 u195 u196 u197 u198 u199 u200 u201 u202 u203 u204 u205 u206 u207 u208 u209 u210 u211 u212 u213 u214 u215 u216 u217 u218 u219 u220 u221 u222 u223 u224 u225 u226 u227 u228 u229 u230 u231 i q cl fl gl mk ok ma oa F G last sm b off what ka kk key va vk val ks vs Kb sb w6 w7 at' inn Kc WS v16 W8 v17 W9 X
          exact unhide GW6 ()
        · by_cases h10 : what = 10
          · skip
            rename_i Qa cl0 Ka ha Qb Kb hb Kc hc
            revert w ss n c w1 w2 w3 w4 w5 cl0 Ka p q0 wr u2 u11 u12 u13 u14 u15 u16 u17 u18 u19 u20 u21 u22 u23 u24 u25 u26 u40 u41 u42 u43 u44 u45 u46 u47 u48 u49 u50 u51 u52 u53 u54 u55 u56 u57 u58 u59 u60 u61 u62 u63 u64 u65 u66 u67 u68 u69 u70 u71 u72 u73 u74 u75 u76 u77 u78 u79 u80 u81 u82 u83 u84 u85 u86 u87 u88 u89 u90 u91 u92 u93 u94 u95 u96 u97 u98 u99 u100 u101 u102 u103 u104 u105 u106 u107 u108 u109 u110 u111 u112 u113 u114 u115 u116 u117 u118 u119 u120 u121 u122 u123 u124 u125 u126 u127 u128 u129 u130 u131 u132 u133 u134 u135 u136 u137 u138 u139 u140 u141 u142 u143 u144 u145 u146 u147 u148 u149 u150 u151 u152 u153 u154 u155 u156 u157 u158 u159 u160 u161 u162 u163 u164 u165 u166 u167 u168 u169 u170 u171 u172 u173 u174 u175 u176 u177 u178 u179 u180 u181 u182 u183 u184 u185 u186 u187 u188 u189 u190 u191 u192 u193 u194 u195 u196 u197 u198 u199 u200 u201 u202 u203 u204 u205 u206 u207 u208 u209 u210 u211 u212 u213 u214 u215 u216 u217 u218 u219 u220 u221 u222 u223 u224 u225 u226 u227 u228 u229 u230 u231 i q cl fl gl mk ok ma oa F G last sm b off what ka kk key va vk val ks vs Kb sb w6 w7 at' inn Kc WS v16 W8 v17 W9 X
            exact unhide GW10 ()
          · by_cases hp : what = 0 ∨ what = 1 ∨ what = 2 ∨ what = 3
            · rename_i Qa cl0 Ka ha Qb Kb hb Kc hc
              revert w ss n c w1 w2 w3 w4 w5 cl0 Ka p q0 wr u2 u11 u12 u13 u14 u15 u16 u17 u18 u19 u20 u21 u22 u23 u24 u25 u26 u40 u41 u42 u43 u44 u45 u46 u47 u48 u49 u50 u51 u52 u53 u54 u55 u56 u57 u58 u59 u60 u61 u62 u63 u64 u65 u66 u67 u68 u69 u70 u71 u72 u73 u74 u75 u76 u77 u78 u79 u80 u81 u82 u83 u84 u85 u86 u87 u88 u89 u90 u91 u92 u93 u94 u95 u96 u97 u98 u99 u100 u101 u102 u103 u104 u105 u106 u107 u108 u109 u110 u111 u112 u113 u114 u115 u116 u117 u118 u119 u120 u121 u122 u123 u124 u125 u126 u127 u128 u129 u130 u131 u132 u133 u134 u135 u136 u137 u138 u139 u140 u141 u142 u143 u144 u145 u146 u147 u148 u149 u150 u151 u152 u153 u154 u155 u156 u157 u158 u159 u160 u161 u162 u163 u164 u165 u166 u167 u168 u169 u170 u171 u172 u173 u174 u175 u176 u177 u178 u179 u180 u181 u182 u183 u184 u185 u186 u187 u188 u189 u190 u191 u192 u193 u194 u195 u196 u197 u198 u199 u200 u201 u202 u203 u204 u205 u206 u207 u208 u209 u210 u211 u212 u213 u214 u215 u216 u217 u218 u219 u220 u221 u222 u223 u224 u225 u226 u227 u228 u229 u230 u231 i q cl fl gl mk ok ma oa F G last sm b off what ka kk key va vk val ks vs Kb sb w6 w7 at' inn Kc WS v16 W8 v17 W9 X
              exact unhide GPUT ()
            · have n0 : ¬ what = 0 := by omega
              have n1 : ¬ what = 1 := by omega
              have n2 : ¬ what = 2 := by omega
              have n3 : ¬ what = 3 := by omega
              clear hp
              by_cases hd : what = 4 ∨ what = 5
              · rename_i Qa cl0 Ka ha Qb Kb hb Kc hc
                revert w ss n c w1 w2 w3 w4 w5 cl0 Ka p q0 wr u2 u11 u12 u13 u14 u15 u16 u17 u18 u19 u20 u21 u22 u23 u24 u25 u26 u40 u41 u42 u43 u44 u45 u46 u47 u48 u49 u50 u51 u52 u53 u54 u55 u56 u57 u58 u59 u60 u61 u62 u63 u64 u65 u66 u67 u68 u69 u70 u71 u72 u73 u74 u75 u76 u77 u78 u79 u80 u81 u82 u83 u84 u85 u86 u87 u88 u89 u90 u91 u92 u93 u94 u95 u96 u97 u98 u99 u100 u101 u102 u103 u104 u105 u106 u107 u108 u109 u110 u111 u112 u113 u114 u115 u116 u117 u118 u119 u120 u121 u122 u123 u124 u125 u126 u127 u128 u129 u130 u131 u132 u133 u134 u135 u136 u137 u138 u139 u140 u141 u142 u143 u144 u145 u146 u147 u148 u149 u150 u151 u152 u153 u154 u155 u156 u157 u158 u159 u160 u161 u162 u163 u164 u165 u166 u167 u168 u169 u170 u171 u172 u173 u174 u175 u176 u177 u178 u179 u180 u181 u182 u183 u184 u185 u186 u187 u188 u189 u190 u191 u192 u193 u194 u195 u196 u197 u198 u199 u200 u201 u202 u203 u204 u205 u206 u207 u208 u209 u210 u211 u212 u213 u214 u215 u216 u217 u218 u219 u220 u221 u222 u223 u224 u225 u226 u227 u228 u229 u230 u231 i q cl fl gl mk ok ma oa F G last sm b off what ka kk key va vk val ks vs Kb sb w6 w7 at' inn Kc WS v16 W8 v17 W9 X
                exact unhide GDEL ()
              · have n4 : ¬ what = 4 := by omega
                have n5 : ¬ what = 5 := by omega
                clear hd
                by_cases hx : what = 7 ∨ what = 8 ∨ what = 9
                · cases hlf : leastL (frK last sm) F with
                  | none =>
                    rename_i Qa cl0 Ka ha Qb Kb hb Kc hc
                    revert w ss n c w1 w2 w3 w4 w5 cl0 Ka p q0 wr u2 u11 u12 u13 u14 u15 u16 u17 u18 u19 u20 u21 u22 u23 u24 u25 u26 u40 u41 u42 u43 u44 u45 u46 u47 u48 u49 u50 u51 u52 u53 u54 u55 u56 u57 u58 u59 u60 u61 u62 u63 u64 u65 u66 u67 u68 u69 u70 u71 u72 u73 u74 u75 u76 u77 u78 u79 u80 u81 u82 u83 u84 u85 u86 u87 u88 u89 u90 u91 u92 u93 u94 u95 u96 u97 u98 u99 u100 u101 u102 u103 u104 u105 u106 u107 u108 u109 u110 u111 u112 u113 u114 u115 u116 u117 u118 u119 u120 u121 u122 u123 u124 u125 u126 u127 u128 u129 u130 u131 u132 u133 u134 u135 u136 u137 u138 u139 u140 u141 u142 u143 u144 u145 u146 u147 u148 u149 u150 u151 u152 u153 u154 u155 u156 u157 u158 u159 u160 u161 u162 u163 u164 u165 u166 u167 u168 u169 u170 u171 u172 u173 u174 u175 u176 u177 u178 u179 u180 u181 u182 u183 u184 u185 u186 u187 u188 u189 u190 u191 u192 u193 u194 u195 u196 u197 u198 u199 u200 u201 u202 u203 u204 u205 u206 u207 u208 u209 u210 u211 u212 u213 u214 u215 u216 u217 u218 u219 u220 u221 u222 u223 u224 u225 u226 u227 u228 u229 u230 u231 i q cl fl gl mk ok ma oa F G last sm b off what ka kk key va vk val ks vs Kb sb w6 w7 at' inn Kc WS v16 W8 v17 W9 X
                    exact unhide GN0 ()
                  | some x =>
                    rename_i Qa cl0 Ka ha Qb Kb hb Kc hc
                    revert w ss n c w1 w2 w3 w4 w5 cl0 Ka p q0 wr u2 u11 u12 u13 u14 u15 u16 u17 u18 u19 u20 u21 u22 u23 u24 u25 u26 u40 u41 u42 u43 u44 u45 u46 u47 u48 u49 u50 u51 u52 u53 u54 u55 u56 u57 u58 u59 u60 u61 u62 u63 u64 u65 u66 u67 u68 u69 u70 u71 u72 u73 u74 u75 u76 u77 u78 u79 u80 u81 u82 u83 u84 u85 u86 u87 u88 u89 u90 u91 u92 u93 u94 u95 u96 u97 u98 u99 u100 u101 u102 u103 u104 u105 u106 u107 u108 u109 u110 u111 u112 u113 u114 u115 u116 u117 u118 u119 u120 u121 u122 u123 u124 u125 u126 u127 u128 u129 u130 u131 u132 u133 u134 u135 u136 u137 u138 u139 u140 u141 u142 u143 u144 u145 u146 u147 u148 u149 u150 u151 u152 u153 u154 u155 u156 u157 u158 u159 u160 u161 u162 u163 u164 u165 u166 u167 u168 u169 u170 u171 u172 u173 u174 u175 u176 u177 u178 u179 u180 u181 u182 u183 u184 u185 u186 u187 u188 u189 u190 u191 u192 u193 u194 u195 u196 u197 u198 u199 u200 u201 u202 u203 u204 u205 u206 u207 u208 u209 u210 u211 u212 u213 u214 u215 u216 u217 u218 u219 u220 u221 u222 u223 u224 u225 u226 u227 u228 u229 u230 u231 i q cl fl gl mk ok ma oa F G last sm b off what ka kk key va vk val ks vs Kb sb w6 w7 at' inn Kc WS v16 W8 v17 W9 X x
                    exact unhide GN1 ()
                · have n7 : ¬ what = 7 := by omega
                  have n8 : ¬ what = 8 := by omega
                  have n9 : ¬ what = 9 := by omega
                  clear hx
                  rename_i Qa cl0 Ka ha Qb Kb hb Kc hc
                  revert w ss n c w1 w2 w3 w4 w5 cl0 Ka p q0 wr u2 u11 u12 u13 u14 u15 u16 u17 u18 u19 u20 u21 u22 u23 u24 u25 u26 u40 u41 u42 u43 u44 u45 u46 u47 u48 u49 u50 u51 u52 u53 u54 u55 u56 u57 u58 u59 u60 u61 u62 u63 u64 u65 u66 u67 u68 u69 u70 u71 u72 u73 u74 u75 u76 u77 u78 u79 u80 u81 u82 u83 u84 u85 u86 u87 u88 u89 u90 u91 u92 u93 u94 u95 u96 u97 u98 u99 u100 u101 u102 u103 u104 u105 u106 u107 u108 u109 u110 u111 u112 u113 u114 u115 u116 u117 u118 u119 u120 u121 u122 u123 u124 u125 u126 u127 u128 u129 u130 u131 u132 u133 u134 u135 u136 u137 u138 u139 u140 u141 u142 u143 u144 u145 u146 u147 u148 u149 u150 u151 u152 u153 u154 u155 u156 u157 u158 u159 u160 u161 u162 u163 u164 u165 u166 u167 u168 u169 u170 u171 u172 u173 u174 u175 u176 u177 u178 u179 u180 u181 u182 u183 u184 u185 u186 u187 u188 u189 u190 u191 u192 u193 u194 u195 u196 u197 u198 u199 u200 u201 u202 u203 u204 u205 u206 u207 u208 u209 u210 u211 u212 u213 u214 u215 u216 u217 u218 u219 u220 u221 u222 u223 u224 u225 u226 u227 u228 u229 u230 u231 i q cl fl gl mk ok ma oa F G last sm b off what ka kk key va vk val ks vs Kb sb w6 w7 at' inn Kc WS v16 W8 v17 W9 X
                  exact unhide GWG ()
      · have hlti : ¬ ((i : Int) < (n : Int)) := by omega
        have hfl := (unhide HD).2.2.2.2
        have HEnd := hide (play_end (unhide HD).1 (unhide HD).2.1 (unhide HD).2.2.1 (by have := (unhide HIN).2.2.2.2; omega) (unhide HIN).2.2.2.1)
        rw [← hfl] at HEnd
        clear HD HIN hfl GW6 GW10 GPUT GDEL GN0 GN1 GWG
        go_wp2_with (first
          | (go_at_call 16; refine (unhide HEnd).mono ?_; rintro e w1 ⟨v1, rfl, E1⟩; clear HEnd)
          | (go_at_call 18; refine (unhide E1).mono ?_; rintro e w2 ⟨v2, rfl, E2⟩; clear E1)
          | (go_at_call 17; refine (unhide E2).mono ?_; rintro e w3 ⟨rfl, E3⟩; clear E2)
          | (go_at_call 16; refine (unhide E3).mono ?_; rintro e w4 ⟨v4, rfl, E4⟩; clear E3)
          | (go_at_call 18; refine (unhide E4).mono ?_; rintro e w5 ⟨v5, rfl, E5⟩; clear E4)
          | (go_at_call 17; refine (unhide E5).mono ?_; rintro e w6 ⟨rfl, E6⟩; clear E5)
          | (go_at_call 19; refine (unhide E6).mono ?_; rintro e w7 ⟨u, rfl, E7⟩; clear E6)
          | (go_at_call 15; refine (unhide E7).mono ?_; rintro e w8 ⟨rfl, E8⟩; clear E7)
          | (go_at_call 16; refine (unhide E8).mono ?_; rintro e w9 ⟨v9, rfl, E9⟩; clear E8)
          | (go_at_call 17; refine (unhide E9).mono ?_; rintro e w10 ⟨rfl, E10⟩; clear E9))
        go_ret
        exact ⟨rfl, unhide E10⟩
end
end Go.Proofs.YtlmjmhpdpgeplaaGreatDoor
