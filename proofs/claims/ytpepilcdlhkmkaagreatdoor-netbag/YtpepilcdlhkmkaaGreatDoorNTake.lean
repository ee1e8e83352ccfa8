/- A net: Take of a message that is in flight. -/
import Derived.Test.YtpepilcdlhkmkaaGreatDoorNPeek
import Derived.Test.YtpepilcdlhkmkaaGreatDoorJHandNDel
namespace Go.Proofs.YtpepilcdlhkmkaaGreatDoor
open Go.RowKit Go.Lib Go.Maps

theorem range_same {w w' : World} {b o : Nat} {cs : List Value} (h : w.rangeAt b o cs) (hb : w'.heap[b]? = w.heap[b]?) : w'.rangeAt b o cs := fun j v hj => (cell_same hb _).trans (h j v hj)
theorem there_same {w w' : World} {b o n : Nat} (h : w.there b o n) (hb : w'.heap[b]? = w.heap[b]?) : w'.there b o n := fun j hj => by
  have e2 : w'.frozen? ⟨b, o + j, none⟩ = w.frozen? ⟨b, o + j, none⟩ := by simp [World.frozen?, hb]
  rw [cell_same hb, e2]
  exact h j hj
/-- A net in a world whose blocks of O are the same. -/
theorem NX.swap {w w' : World} {p : Nat} {vf : Value} {L : List Fl} {O : Nat → Prop} (h : NX w p vf L O) (hz : w'.heap.size = w.heap.size) (hb : ∀ k, O k → w'.heap[k]? = w.heap[k]?) : NX w' p vf L O := by
  refine ⟨(hb p h.oP).trans h.blk, ?_, fun e he => (h.dat e he).keep (fun k hk _ _ => hb k hk) (fun _ hk => hk) (fun _ _ hh => hh), h.few, h.oP, h.oF, fun k hk => by rw [hz]; exact h.lt k hk⟩
  obtain ⟨r1, r2 | ⟨g, cap, cur, e1, hb', hc, rr⟩⟩ := h.row
  · exact ⟨r1, .inl r2⟩
  · exact ⟨r1, .inr ⟨g, cap, cur, e1, hb', (hb g (h.oF g (by rw [e1]; rfl))).trans hc, rr⟩⟩
/-- A store of a struct of many cells, as one step of a region that draws. -/
theorem step_store {P : Program} {ops : Array Oper} {o : Oper} {a : Act} {w : World} {K : Act → World → Prop} {Q : Exit → Act → World → Prop} {E : Prop}
    (hgd : o.guard = none) (hd : o.dst = none) (ty : TypeId) (x y : Operand) (ho : o.op = .store ty x y) (b : Nat) (cells : Array Value) (hx : a.eval x = .pointer (some ⟨b, 0, none⟩)) (hy : a.eval y = .agg cells)
    (ht : w.there b 0 cells.size) (hi : (P.info? ty).map (·.size) = some cells.size) (h1 : cells.all (·.oneCell') = true) (h : K (a.put none undef) (w.setCells b 0 cells.toList)) :
    if Region.wanted o (yielded ops a.tmps) = true then Oper.wp P o a w K Q else E := by
  have hw : Region.wanted o (yielded ops a.tmps) = true := by simp [Region.wanted, hgd]
  rw [if_pos hw]
  exact wp_store_mid ty x y ho b 0 cells hx hy ht hi h1 (by rw [hd]; exact h)

set_option maxHeartbeats 3200000 in
set_option maxRecDepth 100000 in
theorem ntake_any {w : World} {p i sq : Nat} {vf : Value} {L : List Fl} {O : Nat → Prop} (e : Fl) (hE : ET w) (h : NX w p vf L O) (hi : L[i]? = some e) (hg : GF e sq) :
    Calls Tryz.prog 11 #[.pointer (some ⟨p, 0, none⟩), .int .i64 (i : Int)] w fun ev w' => ∃ M vf', ev = .returned (.tuple #[.agg M.toArray, .nilIface]) ∧ MS M e.to' sq ∧ NX w' p vf' (L.eraseIdx i) O ∧ FrO O w w' := by
  obtain ⟨W, hW⟩ : ∃ W, W = w.alloc (.cells zM 43) := ⟨_, rfl⟩
  have hbW : Below w.heap.size w W := by rw [hW]; exact (Below.refl _ _).alloc (Nat.le_refl _) _
  have hWz : W.heap.size = w.heap.size + 1 := by rw [hW]; simp
  have hWt : W.there w.heap.size 0 23 := by rw [hW]; exact there_new w 43 zM 23 rfl
  have HP : Hid (Calls Tryz.prog 16 #[.pointer (some ⟨p, 0, none⟩), .int .i64 (i : Int)] W fun ev w1 => ∃ M, ev = .returned (.tuple #[.agg M.toArray, .nilIface]) ∧ MS M e.to' sq ∧ w.heap.size + 1 ≤ w1.heap.size ∧
      Hid ((w1.alloc (.cells M.toArray 43)).drew.rangeAt w1.heap.size 0 M ∧ (w1.alloc (.cells M.toArray 43)).drew.there w.heap.size 0 23) ∧
      Hid (Calls Tryz.prog 12 #[.pointer (some ⟨p, 0, none⟩), .int .i64 (i : Int)] (w1.alloc (.cells M.toArray 43)).drew fun ev w3 => ev = .returned .nilIface ∧ Hid (w3.rangeAt w1.heap.size 0 M ∧ w3.there w.heap.size 0 23) ∧ Hid (∃ vf', NX w3 p vf' (L.eraseIdx i) O ∧ FrO O w w3 ∧ w.heap.size < w3.heap.size))) := by
    refine (npeek_any e (hE.below hbW hE.lt) (h.below hbW) hi hg).mono ?_
    rintro ev w1 ⟨M, rfl, hM, hb1⟩
    have hz1 := hb1.size
    have hb2 : Below W.heap.size W (w1.alloc (.cells M.toArray 43)).drew := (hb1.alloc hb1.size _).drew
    have hb3 : Below w.heap.size w (w1.alloc (.cells M.toArray 43)).drew := hbW.trans (hb2.mono hbW.size)
    have hr1 : (w1.alloc (.cells M.toArray 43)).drew.rangeAt w1.heap.size 0 M := range_new w1 43 M
    have ht1 : (w1.alloc (.cells M.toArray 43)).drew.there w.heap.size 0 23 := there_same hWt (hb2.block _ (by omega))
    refine ⟨M, rfl, hM, by omega, ⟨hr1, ht1⟩, (ndrop_any e (h.below hb3) hi).mono ?_⟩
    rintro ev w3 ⟨vf', rfl, hx, hf⟩
    have hz3 := hf.size
    have hz2 : (w1.alloc (.cells M.toArray 43)).drew.heap.size = w1.heap.size + 1 := by simp
    refine ⟨rfl, ⟨range_same hr1 (hf.blk _ (by omega) (fun hh => ?_)), there_same ht1 (hf.blk _ (by omega) (fun hh => ?_))⟩, vf', hx, (FrO.of_below hb3).trans hf (fun _ _ hh => hh), by omega⟩
    · have := h.lt _ hh; omega
    · have := h.lt _ hh; omega
  have hO := hide (fun hh => Nat.lt_irrefl _ (h.lt w.heap.size hh))
  clear h hi hE hg hWt hbW
  go_enter Tryz.func11, Tryz.ntmps11
  go_upto_region 1 with fail
  rw [← hW]
  clear hW
  go_wp2_with fail
  refine (unhide HP).mono ?_
  rintro e0 w1 ⟨M, rfl, hM, hz1, HS, PD⟩
  clear HP
  rename_i K0 hK0
  refine hK0 _ _ ?_
  refine list_to (d := 8) (v := .tuple #[.agg M.toArray, .nilIface]) rfl rfl (by go_simp) ?_
  simp only [Act.put, List.setIfInBounds_toArray, List.set_cons_zero, List.set_cons_succ]
  refine list_to (d := 12) (v := .agg M.toArray) rfl rfl (by go_simp) ?_
  simp only [Act.put, List.setIfInBounds_toArray, List.set_cons_zero, List.set_cons_succ]
  refine list_to (d := 13) (v := .nilIface) rfl rfl (by go_simp) ?_
  simp only [Act.put, List.setIfInBounds_toArray, List.set_cons_zero, List.set_cons_succ]
  refine wpList_alloc_new rfl 43 rfl zM (zero_of_info Tryz.zeroM).1 ?_
  refine wpList_store_mid rfl 43 (.tmp 6) (.tmp 12) rfl w1.heap.size 0 M.toArray rfl rfl (hM.there (there_new w1 43 zM 23 rfl)).1 hM.sizeA (all_oneCell_toArray hM.one) ?_
  rw [List.toList_toArray, setCells_new w1 43 zM M (by rw [hM.len]; rfl)]
  obtain ⟨W2, hW2⟩ : ∃ W2, W2 = w1.alloc (.cells M.toArray 43) := ⟨_, rfl⟩
  rw [← hW2] at HS PD ⊢
  clear hW2
  go_wp2
  refine wp_region_held_drew (S := fun w' => w'.rangeAt w1.heap.size 0 M ∧ w'.there w.heap.size 0 23) (by kernel_rfl) (unhide HS) (fun hHeld => ?_)
  refine hand_to (i := 0) (d := 18) (v := .agg M.toArray) rfl rfl (by kernel_rfl) (by kernel_rfl) (by kernel_rfl) (fun _ _ _ h => h) (yieldsIf_load_mid rfl 43 (.tmp 6) rfl w1.heap.size 0 rfl M _ (fun _ hh => hh.1) Tryz.underlying43 rfl hM.size) hHeld ?_
  simp only [Act.put, List.setIfInBounds_toArray, List.set_cons_zero, List.set_cons_succ]
  refine hand_to (i := 1) (d := 19) (v := .pointer (some ⟨p, 0, none⟩)) rfl rfl (by kernel_rfl) (by kernel_rfl) (by kernel_rfl) (fun _ _ _ h => h) (Or.inl ⟨by rfl, ?_⟩) hHeld ?_
  · (intro w' hSw; obtain _ := hSw; go_simp)
  simp only [Act.put, List.setIfInBounds_toArray, List.set_cons_zero, List.set_cons_succ]
  refine hand_to (i := 2) (d := 20) (v := .int .i64 (i : Int)) rfl rfl (by kernel_rfl) (by kernel_rfl) (by kernel_rfl) (fun _ _ _ h => h) (Or.inl ⟨by rfl, ?_⟩) hHeld ?_
  · (intro w' hSw; obtain _ := hSw; go_simp)
  simp only [Act.put, List.setIfInBounds_toArray, List.set_cons_zero, List.set_cons_succ]
  refine wpAnyH_ready (rs := [3]) (by kernel_rfl) (by simp) ?_
  refine AllReadyH.cons rfl (fun K hK => ?_) AllReadyH.nil
  go_simp
  (go_at_call 12; refine (unhide PD).mono ?_; rintro e0 w3 ⟨rfl, S3, F3⟩; clear PD)
  (go_wp2_with fail)
  refine hK.out _ _ (unhide S3) (fun hHeld2 => ?_)
  clear hK K hHeld
  have hHeld := hHeld2
  clear hHeld2
  refine wpAnyH_ready (rs := [4]) (by kernel_rfl) (by simp) ?_
  refine AllReadyH.cons rfl (fun K hK => ?_) AllReadyH.nil
  refine step_store rfl rfl 43 (.tmp 4) (.tmp 18) rfl w.heap.size M.toArray rfl rfl (hM.there hHeld.2).1 hM.sizeA (all_oneCell_toArray hM.one) ?_
  rw [List.toList_toArray]
  have hr5 := World.rangeAt_setCells_same w3 w.heap.size 0 M (hM.there hHeld.2).2
  have hr6 := World.rangeAt_setCells_apart hHeld.1 w.heap.size 0 M (.inl (by omega))
  have ht6 := World.there_setCells hHeld.2 w.heap.size 0 M
  refine hK.out _ _ ⟨hr6, ht6⟩ (fun hHeld2 => ?_)
  clear hK K hHeld
  have hHeld := hHeld2
  clear hHeld2
  simp only [Act.put]
  refine hand_to (i := 5) (d := 5) (v := .nilIface) rfl rfl (by kernel_rfl) (by kernel_rfl) (by kernel_rfl) (fun _ _ _ h => h) (Or.inl ⟨by rfl, ?_⟩) hHeld ?_
  · (intro w' hSw; obtain _ := hSw; go_simp)
  simp only [Act.put, List.setIfInBounds_toArray, List.set_cons_zero, List.set_cons_succ]
  refine wpAnyH_done (by kernel_rfl) ?_ _
  go_wp2
  obtain ⟨vf', hx, hf, hzz⟩ := unhide F3
  have hnp : ∀ k, O k → k ≠ w.heap.size := fun k hk ek => unhide hO (ek ▸ hk)
  refine bodyPost_ret (v := .tuple #[.agg M.toArray, .nilIface]) ?_ rfl ⟨M, vf', rfl, hM, ?_, ?_⟩
  · rw [results_cell_tmp rfl]
    refine (res_addr (b := w.heap.size) ?_).trans ?_
    · rfl
    · rw [run_loadVar_mid _ w.heap.size 0 43 M _ hr5 Tryz.underlying43 rfl hM.size]
      rfl
  · exact hx.swap (setCells_size _ _ _) (fun k hk => setCells_other _ _ _ k (hnp k hk))
  · exact ⟨by rw [setCells_size]; exact hf.size, fun k hk hn => (setCells_other _ _ _ k (by omega)).trans (hf.blk k hk hn), hf.env.trans (setCells_env _ _ _)⟩
end Go.Proofs.YtpepilcdlhkmkaaGreatDoor
