/- The statements' columns; the document's view of them. -/
import Derived.Test.YtehgoioinogmkaaGreatDoorXRes
namespace Go.Proofs.YtehgoioinogmkaaGreatDoor
open Go.RowKit Go.Lib

structure CT where
  nm : List UInt8
  ty : Int
  nn : Bool
def ctC (c : CT) : List Value := [sv c.nm, .int .i64 c.ty, .bool c.nn]
def coC (tab : List UInt8) (c : CT) : List Value := [sv tab, sv c.nm, .int .i64 c.ty, .bool c.nn]
def CtAt (w : World) (b : Nat) (cs : List CT) : Prop := ∀ i c, cs[i]? = some c → w.rangeAt b (i * 3) (ctC c)
def fiveC : List CT := [⟨[97], 2, false⟩, ⟨[98], 2, false⟩, ⟨[99], 1, false⟩, ⟨[100], 3, false⟩, ⟨[101], 3, false⟩]
theorem infoCo : (Tryz.prog.info? 197).map (fun i => (i.zero, i.size, i.bytes)) = some (some (.agg #[.string ⟨#[]⟩, .string ⟨#[]⟩, .int .i64 0, .bool false]), 4, 48) := by kernel_rfl
theorem cols_any (w : World) : Calls Tryz.prog 27 #[] w fun e w' => e = .returned (.slice (some ⟨w.heap.size, 0, none⟩) 5 5) ∧ CtAt w' w.heap.size fiveC ∧ Below w.heap.size w w' := by
  have HB : Hid (CtAt (w.alloc (.cells (fiveC.flatMap ctC).toArray 63)) w.heap.size fiveC ∧ Below w.heap.size w (w.alloc (.cells (fiveC.flatMap ctC).toArray 63))) := by
    refine ⟨fun i c hc => ?_, alX (Below.refl _ _) _⟩
    intro j v hv
    rw [cellX (heap_alloc_new w (.cells (fiveC.flatMap ctC).toArray 63))]
    have hi : i < 5 := (List.getElem?_eq_some_iff.1 hc).1
    have hj : j < 3 := (List.getElem?_eq_some_iff.1 hv).1
    have h5 : i = 0 ∨ i = 1 ∨ i = 2 ∨ i = 3 ∨ i = 4 := by omega
    have h3 : j = 0 ∨ j = 1 ∨ j = 2 := by omega
    rcases h5 with rfl | rfl | rfl | rfl | rfl <;> (injection hc with hc; subst hc) <;> rcases h3 with rfl | rfl | rfl <;> (injection hv with hv; subst hv; rfl)
  go_enter Tryz.func27, Tryz.ntmps27
  go_wp2_with fail
  go_ret
  exact ⟨rfl, unhide HB⟩
set_option linter.unusedSimpArgs false in
set_option linter.unusedVariables false in
set_option maxHeartbeats 6400000 in
set_option maxRecDepth 20000 in
theorem view_any (tab : List UInt8) (cs : List CT) (w : World) (bc k0 : Nat) (h : CtAt w bc cs) (hl : cs.length ≤ 1000) (hbc : bc < w.heap.size) :
    Calls Tryz.prog 47 #[sv tab, .slice (some ⟨bc, 0, none⟩) cs.length k0] w fun e w' => ∃ a k, e = .returned (.slice a cs.length k) ∧ w'.ownsRow w.heap.size 197 4 (.slice a cs.length k) cs.length (cs.flatMap (coC tab)) ∧ Below w.heap.size w w' := by
  have HC := hide h
  have hlI : (cs.length : Int) ≤ 1000 := by omega
  have HG0 : Hid (w.ownsRow w.heap.size 197 4 (.slice none 0 0) 0 ((cs.take 0).flatMap (coC tab)) ∧ Below w.heap.size w w) := ⟨⟨rfl, .inl ⟨rfl, rfl⟩⟩, Below.refl _ _⟩
  clear h
  unfold sv
  go_enter Tryz.func47, Tryz.ntmps47
  go_wp2_with fail
  go_loopg [5, 6] cs.length (fun g s5 s6 wr => ∃ (i : Nat) (a : Option Addr) (k : Nat), g = cs.length - i ∧ s5 = .slice a i k ∧ s6 = .int .i64 (i : Int) ∧ i ≤ cs.length ∧ Hid (wr.ownsRow w.heap.size 197 4 (.slice a i k) i ((cs.take i).flatMap (coC tab)) ∧ Below w.heap.size w wr))
  case atStart => exact ⟨0, none, 0, rfl, rfl, rfl, Nat.zero_le _, HG0⟩
  case round =>
    obtain ⟨i, a, k, rfl, rfl, rfl, hi, HG⟩ := hrel
    clear HG0
    have hi0 : (0 : Int) ≤ (i : Int) := by omega
    by_cases hlt : i < cs.length
    · have hiI : (i : Int) < (cs.length : Int) := by omega
      obtain ⟨c, hc⟩ : ∃ c, cs[i]? = some c := ⟨_, List.getElem?_eq_getElem hlt⟩
      have hr := unhide HC i c hc
      have q0 := ((unhide HG).2.cell (p := ⟨bc, i * 3, none⟩) hbc).trans (hr 0 _ rfl)
      have q1 := ((unhide HG).2.cell (p := ⟨bc, i * 3 + 1, none⟩) hbc).trans (hr 1 _ rfl)
      have q2 := ((unhide HG).2.cell (p := ⟨bc, i * 3 + 2, none⟩) hbc).trans (hr 2 _ rfl)
      have HTK : Hid ((cs.take (i + 1)).flatMap (coC tab) = (cs.take i).flatMap (coC tab) ++ coC tab c) := by
        show _ = _
        rw [List.take_add_one, hc]
        simp
      have hi9 : i ≤ 100000000 := by omega
      clear hc hr
      unfold sv at q0
      go_wp2_with (at_builtin; refine append1 rfl (.tmp 13) (.tmp 20) 130 rfl w.heap.size 197 _ 4 48 Tryz.underlying130 infoCo rfl (by decide) (by decide) _ i _ rfl (own_keepX (unhide HG).1 (alX (Below.refl wr.heap.size wr) (.cells (coC tab c).toArray 197))) wr.heap.size (coC tab c) rfl (heap_alloc_new _ _) rfl (by intro u hu; simp only [coC, List.mem_cons, List.not_mem_nil, or_false] at hu; rcases hu with rfl | rfl | rfl | rfl <;> rfl) hi9 (Nat.le_trans (unhide HG).2.size (alX (Below.refl wr.heap.size wr) (.cells (coC tab c).toArray 197)).size) ?_; intro ad4 k4 w4 ho4 hb4; have HO4 := hide ho4; have HB4 := hide hb4; clear ho4 hb4)
      have HNX : Hid (w4.ownsRow w.heap.size 197 4 (.slice ad4 (i + 1) k4) (i + 1) ((cs.take (i + 1)).flatMap (coC tab)) ∧ Below w.heap.size w w4) := by
        refine ⟨by rw [unhide HTK]; exact unhide HO4, ?_⟩
        exact ((unhide HG).2.trans ((alX (Below.refl wr.heap.size wr) (.cells (coC tab c).toArray 197)).mono (unhide HG).2.size)).trans (unhide HB4)
      go_roundg (cs.length - (i + 1))
      case rel => exact ⟨i + 1, ad4, k4, rfl, rfl, by rw [show ((i + 1 : Nat) : Int) = (i : Int) + 1 from rfl], by omega, HNX⟩
      case measure => omega
    · have hiI : ¬ (i : Int) < (cs.length : Int) := by omega
      have hie : i = cs.length := by omega
      subst hie
      have HE := hide (unhide HG)
      clear HG
      go_wp2_with fail
      have h := unhide HE
      rw [List.take_length] at h
      first
        | exact ⟨a, k, rfl, h.1, h.2⟩
        | (go_ret; exact ⟨a, k, rfl, h.1, h.2⟩)
end Go.Proofs.YtehgoioinogmkaaGreatDoor
/- The document's Expr over the statements' columns. -/
namespace Go.Proofs.YtehgoioinogmkaaGreatDoor
open Go.RowKit Go.Lib

def exprS (E : Ex) : Except Int Ex := if isE E = true then resE E else .error 20
set_option linter.unusedSimpArgs false in
set_option linter.unusedVariables false in
set_option maxHeartbeats 12800000 in
set_option maxRecDepth 100000 in
theorem rexpr_any (w : World) (bc kc : Nat) (hct : CtAt w bc fiveC) (hbc : bc < w.heap.size) (Q : Nat → Prop) (M : List Value) (E : Ex) (h : ExM w Q M E) (hok : exOk E) (hsim : isE E = true → simE E = true) :
    Calls Tryz.prog 31 #[.slice (some ⟨bc, 0, none⟩) 5 kc, .agg M.toArray] w (ReP (fun b => w.heap.size ≤ b) w (exprS E)) := by
  have hlM := h.len
  have HXI : Hid (∀ W, ExM W (fun b => b < W.heap.size) M E → Calls Tryz.prog 52 #[.agg M.toArray] W fun e w' => e = .returned (.bool (isE E)) ∧ Below W.heap.size W w') := fun W h => isE_any W _ M E h hok
  obtain ⟨args, rfl, hs⟩ := h
  obtain ⟨n, F⟩ := E
  dsimp only at hs hlM
  obtain ⟨a, k, rfl⟩ := slAt_slice hs
  have HSI := hide hsim
  have HCT : Hid (∀ W, Below w.heap.size w W → CtAt W.drew bc fiveC) := fun W hb i c hc => rangeAt_blk (hct i c hc) (fun hl => hb.block bc hl) (by simp [ctC])
  have HBC : Hid (∀ W, Below w.heap.size w W → bc < W.drew.heap.size) := fun W hb => Nat.lt_of_lt_of_le hbc hb.size
  have HT0 := hide (TY.new (n := n) hs)
  have HX0 := hide (unhide HXI _ ⟨_, rfl, (unhide HT0).sl.keep (fun _ _ _ => rfl) (fun b hl _ => hl)⟩)
  obtain ⟨R, hR⟩ : ∃ R, R = exprS (n, F) := ⟨_, rfl⟩
  have HRE := hide hR
  obtain ⟨PP, hPP⟩ : ∃ PP, PP = ReP (fun b => w.heap.size ≤ b) w R := ⟨_, rfl⟩
  have HPP := hide hPP
  rw [← hR, ← hPP]
  obtain ⟨M, hM⟩ : ∃ M, M = (ndC n (.slice a (cnt F) k)) := ⟨_, rfl⟩
  have HMM := hide hM
  rw [← hM] at hlM ⊢
  clear hR hPP hM hs hct hbc hsim HXI
  go_enter Tryz.func31, Tryz.ntmps31
  go_upto_region 1 with fail
  rw [unhide HMM] at *
  have HT1 : Hid (TY Q w ((w.alloc (.cells (ndC n (.slice a (cnt F) k)).toArray 29)).alloc (.cells zL.toArray 29)) w.heap.size (w.heap.size + 1) n F a k) := HT0
  clear HT0
  have HISE := HX0
  clear HX0
  obtain ⟨w1, hw1⟩ : ∃ w1, w1 = (w.alloc (.cells (ndC n (.slice a (cnt F) k)).toArray 29)).alloc (.cells zL.toArray 29) := ⟨_, rfl⟩
  rw [← hw1] at HT1 HISE
  unfold zL at hw1
  rw [← hw1]
  clear hw1
  refine wp_region_list ?_
  refine wpList_load_mid rfl 29 (.tmp 3) rfl w.heap.size 0 rfl (ndC n (.slice a (cnt F) k)) _ (unhide HT1).va.range Tryz.underlying29 rfl sizeEx ?_
  simp only [Act.put, sA, sB, sC]
  refine list_call rfl (some 7) rfl 52 #[.agg (ndC n (.slice a (cnt F) k)).toArray] (by kernel_rfl) (unhide HISE) ?_
  clear HISE
  rintro e w2 ⟨rfl, hb2⟩
  refine ⟨_, rfl, ?_⟩
  simp only [Act.put, sA, sB, sC]
  have HT2 := hide ((unhide HT1).below hb2)
  clear hb2
  cases hE : isE (n, F) with
  | true =>
    skip
    as_aux_lemma =>
      have HF : Hid (R = resE (n, F)) := by show R = _; rw [unhide HRE]; unfold exprS; rw [hE]; rfl
      have HIE := hide hE
      clear hE
      go_upto_region 3 with fail
      have HTd := hide ((unhide HT2).below (Below.refl _ _).drew)
      have HVI := hide (view_any [] fiveC)
      refine wp_region_held_drew (S := fun w' => VrX w' w.heap.size (ndC n (.slice a (cnt F) k))) (by kernel_rfl) (unhide HTd).va (fun hHeld => ?_)
      refine hand_to (i := 0) (d := 15) (v := (.slice (some ⟨bc, 0, none⟩) 5 kc)) rfl rfl (by kernel_rfl) (by kernel_rfl) (by kernel_rfl) (fun _ _ _ h => h) (Or.inl ⟨by rfl, ?_⟩) hHeld ?_
      · (intro w' hSw; kernel_rfl)
      simp only [Act.put, sA, sB, sC]
      refine hand_to (i := 3) (d := 18) (v := .agg (ndC n (.slice a (cnt F) k)).toArray) rfl rfl (by kernel_rfl) (by kernel_rfl) (by kernel_rfl) (fun _ _ _ h => h) (yieldsIf_load_mid (by rfl) 29 (.tmp 3) rfl w.heap.size 0 rfl (ndC n (.slice a (cnt F) k)) _ (fun w' hw => hw.range) Tryz.underlying29 rfl sizeEx) hHeld ?_
      simp only [Act.put, sA, sB, sC]
      refine wpAnyH_ready (rs := [1]) (by kernel_rfl) (by simp) ?_
      refine AllReadyH.cons rfl (fun K hK => ?_) AllReadyH.nil
      rw [if_pos (by rfl)]
      refine op_call (some 16) rfl 47 #[sv [], .slice (some ⟨bc, 0, none⟩) 5 kc] (by kernel_rfl) (unhide HVI w2.drew bc kc (unhide HCT w2 (unhide HT2).low) (by decide) (unhide HBC w2 (unhide HT2).low)) ?_
      rintro e w3 ⟨av, kv, rfl, _, hb3⟩
      refine ⟨_, rfl, ?_⟩
      have HT3 := hide ((unhide HTd).below hb3)
      refine hK.out _ _ (unhide HT3).va (fun hHeld2 => ?_)
      clear hK K hHeld
      have hHeld := hHeld2
      clear hHeld2
      try simp only [Act.put, sA, sB, sC]
      refine hand_to (i := 2) (d := 17) (v := (.agg #[.slice av 5 kv, .bool false, .bool false, .slice none 0 0, .bool true])) rfl rfl (by kernel_rfl) (by kernel_rfl) (by kernel_rfl) (fun _ _ _ h => h) (Or.inl ⟨by rfl, ?_⟩) hHeld ?_
      · (intro w' hSw; kernel_rfl)
      simp only [Act.put, sA, sB, sC]
      have HZ3 : Hid (w.heap.size + 1 < w3.heap.size) := ltX (unhide HT3).out.1
      have HCX : Hid (Calls Tryz.prog 53 #[.agg #[.slice av 5 kv, .bool false, .bool false, .slice none 0 0, .bool true], .agg (ndC n (.slice a (cnt F) k)).toArray] w3 (ReP (fun b => w3.heap.size ≤ b) w3 (resE (n, F)))) := res_all (szF F + 1) w3 (ndC n (.slice a (cnt F) k)) (n, F) (.slice av 5 kv) (.slice none 0 0) rfl rfl ⟨_, rfl, (unhide HT3).sl.keep (fun _ _ _ => rfl) (fun b hl _ => hl)⟩ (unhide HSI (unhide HIE)) (unhide HIE) (Nat.lt_succ_self _)
      refine wpAnyH_ready (rs := [4]) (by kernel_rfl) (by simp) ?_
      refine AllReadyH.cons rfl (fun K hK => ?_) AllReadyH.nil
      rw [if_pos (by rfl)]
      refine op_call (some 19) rfl 53 #[.agg #[.slice av 5 kv, .bool false, .bool false, .slice none 0 0, .bool true], .agg (ndC n (.slice a (cnt F) k)).toArray] (by kernel_rfl) (unhide HCX) ?_
      clear HCX
      rintro e w4 ⟨hb4, hpost⟩
      have HT4 := hide ((unhide HT3).below hb4)
      cases hT : resE (n, F) with
      | error c =>
        rw [hT] at hpost
        have hp2 : e = .returned (.tuple #[.agg zL.toArray, .int .i64 c]) := hpost
        subst hp2
        refine ⟨_, rfl, ?_⟩
        refine hK.out _ _ (unhide HT4).va (fun hHeld2 => ?_)
        clear hK K hHeld
        have hHeld := hHeld2
        clear hHeld2
        try simp only [Act.put, sA, sB, sC]
        refine hand_to (i := 5) (d := 20) (v := (.agg zL.toArray)) rfl rfl (by kernel_rfl) (by kernel_rfl) (by kernel_rfl) (fun _ _ _ h => h) (Or.inl ⟨by rfl, ?_⟩) hHeld ?_
        · (intro w' hSw; kernel_rfl)
        simp only [Act.put, sA, sB, sC]
        refine hand_to (i := 6) (d := 21) (v := (.int .i64 c)) rfl rfl (by kernel_rfl) (by kernel_rfl) (by kernel_rfl) (fun _ _ _ h => h) (Or.inl ⟨by rfl, ?_⟩) hHeld ?_
        · (intro w' hSw; kernel_rfl)
        simp only [Act.put, sA, sB, sC]
        refine wpAnyH_ready (rs := [7]) (by kernel_rfl) (by simp) ?_
        refine AllReadyH.cons rfl (fun K hK => ?_) AllReadyH.nil
        rw [if_pos (by rfl)]
        have hzN : zL.toArray.size = 10 := by rfl
        have hout := (unhide HT4).out
        refine op_store rfl 29 (.tmp 4) (.tmp 20) rfl (w.heap.size + 1) 0 zL rfl rfl (by rw [hzN]; exact hout.there) (by rw [hzN]; exact sizeEx) (all_oneCell_toArray (by decide)) ?_
        have hva5 := (unhide HT4).va.keep (setCells_heap (w.heap.size + 1) zL 0 w4 w.heap.size (by omega))
        refine hK.out _ _ hva5 (fun hHeld2 => ?_)
        clear hK K hHeld
        have hHeld := hHeld2
        clear hHeld2
        try simp only [Act.put, sA, sB, sC]
        refine hand_to (i := 8) (d := 5) (v := (.int .i64 c)) rfl rfl (by kernel_rfl) (by kernel_rfl) (by kernel_rfl) (fun _ _ _ h => h) (Or.inl ⟨by rfl, ?_⟩) hHeld ?_
        · (intro w' hSw; kernel_rfl)
        simp only [Act.put, sA, sB, sC]
        refine wpAnyH_done (by kernel_rfl) ?_ _
        go_wp2_with fail
        have hs := hout.set (M' := zL) rfl
        refine bodyPost_ret (hs.result2 rfl _ rfl) rfl ?_
        rw [unhide HPP, unhide HF, hT]
        exact ⟨below_setCells (unhide HT4).low (by omega) 0 zL, rfl⟩
      | ok E2 =>
        rw [hT] at hpost
        obtain ⟨N, rfl, hxN⟩ := hpost
        refine ⟨_, rfl, ?_⟩
        refine hK.out _ _ (unhide HT4).va (fun hHeld2 => ?_)
        clear hK K hHeld
        have hHeld := hHeld2
        clear hHeld2
        try simp only [Act.put, sA, sB, sC]
        refine hand_to (i := 5) (d := 20) (v := (.agg N.toArray)) rfl rfl (by kernel_rfl) (by kernel_rfl) (by kernel_rfl) (fun _ _ _ h => h) (Or.inl ⟨by rfl, ?_⟩) hHeld ?_
        · (intro w' hSw; kernel_rfl)
        simp only [Act.put, sA, sB, sC]
        refine hand_to (i := 6) (d := 21) (v := (.int .i64 0)) rfl rfl (by kernel_rfl) (by kernel_rfl) (by kernel_rfl) (fun _ _ _ h => h) (Or.inl ⟨by rfl, ?_⟩) hHeld ?_
        · (intro w' hSw; kernel_rfl)
        simp only [Act.put, sA, sB, sC]
        refine wpAnyH_ready (rs := [7]) (by kernel_rfl) (by simp) ?_
        refine AllReadyH.cons rfl (fun K hK => ?_) AllReadyH.nil
        rw [if_pos (by rfl)]
        have hzN : N.toArray.size = 10 := by simpa using hxN.len
        have hout := (unhide HT4).out
        refine op_store rfl 29 (.tmp 4) (.tmp 20) rfl (w.heap.size + 1) 0 N rfl rfl (by rw [hzN]; exact hout.there) (by rw [hzN]; exact sizeEx) (all_oneCell_toArray hxN.one) ?_
        have hva5 := (unhide HT4).va.keep (setCells_heap (w.heap.size + 1) N 0 w4 w.heap.size (by omega))
        refine hK.out _ _ hva5 (fun hHeld2 => ?_)
        clear hK K hHeld
        have hHeld := hHeld2
        clear hHeld2
        try simp only [Act.put, sA, sB, sC]
        refine hand_to (i := 8) (d := 5) (v := (.int .i64 0)) rfl rfl (by kernel_rfl) (by kernel_rfl) (by kernel_rfl) (fun _ _ _ h => h) (Or.inl ⟨by rfl, ?_⟩) hHeld ?_
        · (intro w' hSw; kernel_rfl)
        simp only [Act.put, sA, sB, sC]
        refine wpAnyH_done (by kernel_rfl) ?_ _
        go_wp2_with fail
        have hs := hout.set (M' := N) hxN.len
        refine bodyPost_ret (hs.result2 rfl _ rfl) rfl ?_
        rw [unhide HPP, unhide HF, hT]
        exact ⟨below_setCells (unhide HT4).low (by omega) 0 N, N, rfl, (hxN.setCells (fun h => absurd h (by have := (unhide HZ3); omega)) N).keep (fun _ _ _ => rfl) (fun b _ q => by have q2 : w3.heap.size ≤ b := q; have := (unhide HZ3); omega)⟩
  | false =>
    skip
    as_aux_lemma =>
      have HF : Hid (R = .error 20) := by show R = _; rw [unhide HRE]; unfold exprS; rw [hE]; rfl
      have HIE := hide hE
      clear hE
      go_upto_region 2 with fail
      refine wp_region_list ?_
      refine list_to (d := 14) (v := .agg zL.toArray) rfl rfl (by kernel_rfl) ?_
      simp only [Act.put, sA, sB, sC]
      refine wpList_store_mid rfl 29 (.tmp 4) (.tmp 14) rfl (w.heap.size + 1) 0 zL.toArray rfl rfl (unhide HT2).out.there sizeEx (all_oneCell_toArray (by decide)) ?_
      show wpList _ _ _ _ _ (w2.setCells (w.heap.size + 1) 0 zL)
      simp only [Act.put, sA, sB, sC]
      refine list_to (d := 5) (v := .int .i64 20) rfl rfl (by kernel_rfl) ?_
      simp only [Act.put, sA, sB, sC]
      go_wp2_with fail
      have hs := (unhide HT2).out.set (M' := zL) rfl
      refine bodyPost_ret (hs.result2 rfl _ rfl) rfl ?_
      rw [unhide HPP, unhide HF]
      exact ⟨below_setCells (unhide HT2).low (by omega) 0 zL, rfl⟩
end Go.Proofs.YtehgoioinogmkaaGreatDoor
