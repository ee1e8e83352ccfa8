/- A net: Peek at a message that is in flight. -/
import Derived.Test.YtahpfhnekmilmaaGreatDoorJNMsgNBigNMkHandNDel
import Derived.Test.YtahpfhnekmilmaaGreatDoorNDrop
namespace Go.Proofs.YtahpfhnekmilmaaGreatDoor
open Go.RowKit Go.Lib Go.Maps

/-- The cells of a message that is read: as many as a message has, its kind, its end, its number. -/
structure MS (M : List Value) (to' : Int) (sq : Nat) : Prop where
  len : M.length = 23
  one : ∀ v ∈ M, v.oneCell' = true
  kind : M[0]? = some (.int .i64 1)
  end' : M[2]? = some (.int .i64 to')
  seq : M[14]? = some (.int .u64 (sq : Int))
theorem MS.size {M : List Value} {to' : Int} {sq : Nat} (h : MS M to' sq) : (Tryz.prog.info? 43).map (·.size) = some M.length := by rw [h.len]; exact Tryz.sizeM
theorem MS.asize {M : List Value} {to' : Int} {sq : Nat} (h : MS M to' sq) : M.toArray.size = 23 := by simp [h.len]
theorem MS.sizeA {M : List Value} {to' : Int} {sq : Nat} (h : MS M to' sq) : (Tryz.prog.info? 43).map (·.size) = some M.toArray.size := by rw [h.asize]; exact Tryz.sizeM
theorem MS.there {M : List Value} {to' : Int} {sq : Nat} (h : MS M to' sq) {w : World} {b : Nat} (ht : w.there b 0 23) : w.there b 0 M.toArray.size ∧ w.there b 0 M.length := by rw [h.asize, h.len]; exact ⟨ht, ht⟩
/-- A flight of the statements': its bytes are those of its message. -/
structure GF (e : Fl) (sq : Nat) : Prop where
  fr : e.fr = 1
  lt : sq < 18446744073709551616
  data : eMsg (1, 1, e.to', 0, 0, 0, [], 0, 0, false, 0, [], false, 0, sq, ⟨#[]⟩, (0, 0, [], [], 0, 0), 0) = some e.d
theorem nread_any {w : World} {to' : Int} {sq : Nat} {v : Value} {d : List UInt8} (hE : ET w) (hv : RBp w w.heap.size v d) (hsq : sq < 18446744073709551616) (hd : eMsg (1, 1, to', 0, 0, 0, [], 0, 0, false, 0, [], false, 0, sq, ⟨#[]⟩, (0, 0, [], [], 0, 0), 0) = some d) :
    Calls Tryz.prog 22 #[v] w fun e w' => ∃ M, e = .returned (.tuple #[.agg M.toArray, .nilIface]) ∧ MS M to' sq ∧ Below w.heap.size w w' := by
  refine (msg_good 1 1 to' 0 0 0 [] 0 0 false 0 [] false 0 sq ⟨#[]⟩ 0 0 [] [] 0 0 0 v d w hE hv (nmsg_back to' sq d hsq hd)).mono ?_
  rintro e w' ⟨a6, m6, k6, aD, mD, kD, a2, m2, k2, a3, m3, k3, rfl, _, hb⟩
  refine ⟨[.int .i64 1, .int .i64 1, .int .i64 to', .int .u64 0, .int .u64 0, .int .u64 0, .slice a6 m6 k6, .int .u64 0, .int .u64 0, .bool false, .int .i64 0, .slice aD mD kD, .bool false, .int .u64 0, .int .u64 (sq : Int), .string ⟨#[]⟩, .int .u64 0, .int .i64 0, .slice a2 m2 k2, .slice a3 m3 k3, .int .i64 0, .int .u64 0, .int .i64 0], rfl, ⟨rfl, ?_, rfl, rfl, rfl⟩, hb⟩
  intro x hx
  simp at hx
  rcases hx with rfl | rfl | rfl | rfl | rfl | rfl | rfl | rfl | rfl | rfl | rfl | rfl | rfl | rfl | rfl | rfl | rfl | rfl | rfl | rfl | rfl | rfl | rfl <;> rfl
theorem fb_rb {w : World} {O : Nat → Prop} {p : Nat} {vf v : Value} {l : List UInt8} (h : FB w O p vf v l) (hl : ∀ k, O k → k < w.heap.size) (hm : l.length ≤ 1000000000000) : RBp w w.heap.size v l := by
  rcases h with ⟨rfl, rfl⟩ | ⟨b, off, cap, h1, _, _, h4, h5, rfl, h7⟩
  · exact ⟨by simp, .inl ⟨rfl, rfl⟩⟩
  · exact ⟨by omega, .inr ⟨b, off, cap, hl b h1, h4, h5, rfl, h7⟩⟩

set_option maxHeartbeats 3200000 in
set_option maxRecDepth 100000 in
theorem npeek_any {w : World} {p i sq : Nat} {vf : Value} {L : List Fl} {O : Nat → Prop} (e : Fl) (hE : ET w) (h : NX w p vf L O) (hi : L[i]? = some e) (hg : GF e sq) :
    Calls Tryz.prog 14 #[.pointer (some ⟨p, 0, none⟩), .int .i64 (i : Int)] w fun ev w' => ∃ M, ev = .returned (.tuple #[.agg M.toArray, .nilIface]) ∧ MS M e.to' sq ∧ Below w.heap.size w w' := by
  obtain ⟨ea, ek, hev⟩ := (h.dat e (List.mem_of_getElem? hi)).slice
  obtain ⟨W, hW⟩ : ∃ W, W = w.alloc (.cells zM 43) := ⟨_, rfl⟩
  have hbW : Below w.heap.size w W := by rw [hW]; exact (Below.refl _ _).alloc (Nat.le_refl _) _
  have hWz : W.heap.size = w.heap.size + 1 := by rw [hW]; simp
  have hWt : W.there w.heap.size 0 23 := by rw [hW]; exact there_new w 43 zM 23 rfl
  have HA := hide (nat_good i e (h.below hbW) hi)
  rw [hev] at HA
  have HM : Hid (∀ w1, Below W.heap.size W w1 → Calls Tryz.prog 22 #[.slice ea e.d.length ek] (w1.alloc (.cells #[.int .i64 e.fr, .int .i64 e.to', .slice ea e.d.length ek] 60)) fun ev w3 => ∃ M, ev = .returned (.tuple #[.agg M.toArray, .nilIface]) ∧ MS M e.to' sq ∧ Hid (w3.there w.heap.size 0 23) ∧ Hid (Below w.heap.size w w3)) := by
    intro w1 hb1
    have hb2 : Below W.heap.size W (w1.alloc (.cells #[.int .i64 e.fr, .int .i64 e.to', .slice ea e.d.length ek] 60)) := hb1.alloc hb1.size _
    have hb3 : Below w.heap.size w (w1.alloc (.cells #[.int .i64 e.fr, .int .i64 e.to', .slice ea e.d.length ek] 60)) := hbW.trans (hb2.mono hbW.size)
    have h3 := h.below hb3
    have hl := nmsg_len _ _ _ hg.lt hg.data
    have hrb := fb_rb (h3.dat e (List.mem_of_getElem? hi)) h3.lt (by omega)
    rw [hev] at hrb
    refine (nread_any (hE.below hb3 hE.lt) hrb hg.lt hg.data).mono ?_
    rintro ev w3 ⟨M, rfl, hM, hb4⟩
    have hb5 : Below w.heap.size w w3 := hb3.trans (hb4.mono hb3.size)
    refine ⟨M, rfl, hM, fun j hj => ?_, hb5⟩
    have hbl : w3.heap[w.heap.size]? = W.heap[w.heap.size]? := (hb4.block _ (by have := hb2.size; omega)).trans (hb2.block _ (by omega))
    have := hWt j hj
    exact ⟨by rw [cell_same hbl]; exact this.1, by have e2 : w3.frozen? ⟨w.heap.size, 0 + j, none⟩ = W.frozen? ⟨w.heap.size, 0 + j, none⟩ := by simp [World.frozen?, hbl]
                                                   rw [e2]; exact this.2⟩
  clear h hi hev hE hg hWt hbW
  go_enter Tryz.func14, Tryz.ntmps14
  go_upto_region 1 with fail
  rw [← hW]
  clear hW
  go_wp2_with (first
    | (go_at_call 20; refine (unhide HA).mono ?_; rintro e0 w1 ⟨rfl, hb1⟩; have P1 := hide (unhide HM w1 hb1); clear hb1 HA HM))
  refine (unhide P1).mono ?_
  rintro e0 w3 ⟨M, rfl, hM, HT, HB⟩
  clear P1
  rename_i K0 hK0
  refine hK0 _ _ ?_
  refine list_to (d := 21) (v := .agg M.toArray) rfl rfl (by go_simp) ?_
  simp only [Act.put, List.setIfInBounds_toArray, List.set_cons_zero, List.set_cons_succ]
  refine list_to (d := 22) (v := .nilIface) rfl rfl (by go_simp) ?_
  simp only [Act.put, List.setIfInBounds_toArray, List.set_cons_zero, List.set_cons_succ]
  refine wpList_store_mid rfl 43 (.tmp 4) (.tmp 21) rfl w.heap.size 0 M.toArray rfl rfl (hM.there (unhide HT)).1 hM.sizeA (all_oneCell_toArray hM.one) ?_
  rw [List.toList_toArray]
  have hr3 := World.rangeAt_setCells_same w3 w.heap.size 0 M (hM.there (unhide HT)).2
  have hb3 : Below w.heap.size w (w3.setCells w.heap.size 0 M) := Below.over (Nat.le_refl _) M _ 0 (unhide HB)
  generalize w3.setCells w.heap.size 0 M = W3 at hr3 hb3 ⊢
  have HR := hide hr3
  clear hr3
  go_wp2
  refine bodyPost_ret (v := .tuple #[.agg M.toArray, .nilIface]) ?_ rfl ⟨M, rfl, hM, hb3⟩
  rw [results_cell_tmp rfl]
  refine (res_addr (b := w.heap.size) ?_).trans ?_
  · rfl
  · rw [run_loadVar_mid W3 w.heap.size 0 43 M _ (unhide HR) Tryz.underlying43 rfl hM.size]
    rfl
end Go.Proofs.YtahpfhnekmilmaaGreatDoor
/- A net: Take of a message that is in flight. -/
namespace Go.Proofs.YtahpfhnekmilmaaGreatDoor
open Go.RowKit Go.Lib Go.Maps

theorem range_same {w w' : World} {b o : Nat} {cs : List Value} (h : w.rangeAt b o cs) (hb : w'.heap[b]? = w.heap[b]?) : w'.rangeAt b o cs := fun j v hj => (cell_same hb _).trans (h j v hj)
theorem there_same {w w' : World} {b o n : Nat} (h : w.there b o n) (hb : w'.heap[b]? = w.heap[b]?) : w'.there b o n := fun j hj => by
  have e2 : w'.frozen? ⟨b, o + j, none⟩ = w.frozen? ⟨b, o + j, none⟩ := by simp [World.frozen?, hb]
  rw [cell_same hb, e2]
  exact h j hj
/-- A net in a world whose blocks of O are the same. -/
theorem NX.swap {w w' : World} {p : Nat} {vf : Value} {L : List Fl} {O : Nat → Prop} (h : NX w p vf L O) (hz : w'.heap.size = w.heap.size) (hb : ∀ k, O k → w'.heap[k]? = w.heap[k]?) : NX w' p vf L O := by
  refine ⟨(hb p h.oP).trans h.blk, ?_, fun e he => (h.dat e he).keep (fun k hk _ _ => hb k hk) (fun _ hk => hk) (fun _ _ hh => hh), h.few, h.oP, h.oF, fun k hk => by rw [hz]; exact h.lt k hk⟩
  obtain ⟨r1, r2 | ⟨g, cap, cur, e1, hb', hc, rr⟩⟩ := h.row
  · exact ⟨r1, .inl r2⟩
  · exact ⟨r1, .inr ⟨g, cap, cur, e1, hb', (hb g (h.oF g (by rw [e1]; rfl))).trans hc, rr⟩⟩
/-- A store of a struct of many cells, as one step of a region that draws. -/
theorem step_store {P : Program} {ops : Array Oper} {o : Oper} {a : Act} {w : World} {K : Act → World → Prop} {Q : Exit → Act → World → Prop} {E : Prop}
    (hgd : o.guard = none) (hd : o.dst = none) (ty : TypeId) (x y : Operand) (ho : o.op = .store ty x y) (b : Nat) (cells : Array Value) (hx : a.eval x = .pointer (some ⟨b, 0, none⟩)) (hy : a.eval y = .agg cells)
    (ht : w.there b 0 cells.size) (hi : (P.info? ty).map (·.size) = some cells.size) (h1 : cells.all (·.oneCell') = true) (h : K (a.put none undef) (w.setCells b 0 cells.toList)) :
    if Region.wanted o (yielded ops a.tmps) = true then Oper.wp P o a w K Q else E := by
  have hw : Region.wanted o (yielded ops a.tmps) = true := by simp [Region.wanted, hgd]
  rw [if_pos hw]
  exact wp_store_mid ty x y ho b 0 cells hx hy ht hi h1 (by rw [hd]; exact h)

set_option maxHeartbeats 3200000 in
set_option maxRecDepth 100000 in
theorem ntake_any {w : World} {p i sq : Nat} {vf : Value} {L : List Fl} {O : Nat → Prop} (e : Fl) (hE : ET w) (h : NX w p vf L O) (hi : L[i]? = some e) (hg : GF e sq) :
    Calls Tryz.prog 9 #[.pointer (some ⟨p, 0, none⟩), .int .i64 (i : Int)] w fun ev w' => ∃ M vf', ev = .returned (.tuple #[.agg M.toArray, .nilIface]) ∧ MS M e.to' sq ∧ NX w' p vf' (L.eraseIdx i) O ∧ FrO O w w' := by
  obtain ⟨W, hW⟩ : ∃ W, W = w.alloc (.cells zM 43) := ⟨_, rfl⟩
  have hbW : Below w.heap.size w W := by rw [hW]; exact (Below.refl _ _).alloc (Nat.le_refl _) _
  have hWz : W.heap.size = w.heap.size + 1 := by rw [hW]; simp
  have hWt : W.there w.heap.size 0 23 := by rw [hW]; exact there_new w 43 zM 23 rfl
  have HP : Hid (Calls Tryz.prog 14 #[.pointer (some ⟨p, 0, none⟩), .int .i64 (i : Int)] W fun ev w1 => ∃ M, ev = .returned (.tuple #[.agg M.toArray, .nilIface]) ∧ MS M e.to' sq ∧ w.heap.size + 1 ≤ w1.heap.size ∧
      Hid ((w1.alloc (.cells M.toArray 43)).drew.rangeAt w1.heap.size 0 M ∧ (w1.alloc (.cells M.toArray 43)).drew.there w.heap.size 0 23) ∧
      Hid (Calls Tryz.prog 10 #[.pointer (some ⟨p, 0, none⟩), .int .i64 (i : Int)] (w1.alloc (.cells M.toArray 43)).drew fun ev w3 => ev = .returned .nilIface ∧ Hid (w3.rangeAt w1.heap.size 0 M ∧ w3.there w.heap.size 0 23) ∧ Hid (∃ vf', NX w3 p vf' (L.eraseIdx i) O ∧ FrO O w w3 ∧ w.heap.size < w3.heap.size))) := by
    refine (npeek_any e (hE.below hbW hE.lt) (h.below hbW) hi hg).mono ?_
    rintro ev w1 ⟨M, rfl, hM, hb1⟩
    have hz1 := hb1.size
    have hb2 : Below W.heap.size W (w1.alloc (.cells M.toArray 43)).drew := (hb1.alloc hb1.size _).drew
    have hb3 : Below w.heap.size w (w1.alloc (.cells M.toArray 43)).drew := hbW.trans (hb2.mono hbW.size)
    have hr1 : (w1.alloc (.cells M.toArray 43)).drew.rangeAt w1.heap.size 0 M := range_new w1 43 M
    have ht1 : (w1.alloc (.cells M.toArray 43)).drew.there w.heap.size 0 23 := there_same hWt (hb2.block _ (by omega))
    refine ⟨M, rfl, hM, by omega, ⟨hr1, ht1⟩, (ndrop_any e (h.below hb3) hi).mono ?_⟩
    rintro ev w3 ⟨vf', rfl, hx, hf⟩
    have hz3 := hf.size
    have hz2 : (w1.alloc (.cells M.toArray 43)).drew.heap.size = w1.heap.size + 1 := by simp
    refine ⟨rfl, ⟨range_same hr1 (hf.blk _ (by omega) (fun hh => ?_)), there_same ht1 (hf.blk _ (by omega) (fun hh => ?_))⟩, vf', hx, (FrO.of_below hb3).trans hf (fun _ _ hh => hh), by omega⟩
    · have := h.lt _ hh; omega
    · have := h.lt _ hh; omega
  have hO := hide (fun hh => Nat.lt_irrefl _ (h.lt w.heap.size hh))
  clear h hi hE hg hWt hbW
  go_enter Tryz.func9, Tryz.ntmps9
  go_upto_region 1 with fail
  rw [← hW]
  clear hW
  go_wp2_with fail
  refine (unhide HP).mono ?_
  rintro e0 w1 ⟨M, rfl, hM, hz1, HS, PD⟩
  clear HP
  rename_i K0 hK0
  refine hK0 _ _ ?_
  refine list_to (d := 8) (v := .tuple #[.agg M.toArray, .nilIface]) rfl rfl (by go_simp) ?_
  simp only [Act.put, List.setIfInBounds_toArray, List.set_cons_zero, List.set_cons_succ]
  refine list_to (d := 12) (v := .agg M.toArray) rfl rfl (by go_simp) ?_
  simp only [Act.put, List.setIfInBounds_toArray, List.set_cons_zero, List.set_cons_succ]
  refine list_to (d := 13) (v := .nilIface) rfl rfl (by go_simp) ?_
  simp only [Act.put, List.setIfInBounds_toArray, List.set_cons_zero, List.set_cons_succ]
  refine wpList_alloc_new rfl 43 rfl zM (zero_of_info Tryz.zeroM).1 ?_
  refine wpList_store_mid rfl 43 (.tmp 6) (.tmp 12) rfl w1.heap.size 0 M.toArray rfl rfl (hM.there (there_new w1 43 zM 23 rfl)).1 hM.sizeA (all_oneCell_toArray hM.one) ?_
  rw [List.toList_toArray, setCells_new w1 43 zM M (by rw [hM.len]; rfl)]
  obtain ⟨W2, hW2⟩ : ∃ W2, W2 = w1.alloc (.cells M.toArray 43) := ⟨_, rfl⟩
  rw [← hW2] at HS PD ⊢
  clear hW2
  go_wp2
  refine wp_region_held_drew (S := fun w' => w'.rangeAt w1.heap.size 0 M ∧ w'.there w.heap.size 0 23) (by kernel_rfl) (unhide HS) (fun hHeld => ?_)
  refine hand_to (i := 0) (d := 18) (v := .agg M.toArray) rfl rfl (by kernel_rfl) (by kernel_rfl) (by kernel_rfl) (fun _ _ _ h => h) (yieldsIf_load_mid rfl 43 (.tmp 6) rfl w1.heap.size 0 rfl M _ (fun _ hh => hh.1) Tryz.underlying43 rfl hM.size) hHeld ?_
  simp only [Act.put, List.setIfInBounds_toArray, List.set_cons_zero, List.set_cons_succ]
  refine hand_to (i := 1) (d := 19) (v := .pointer (some ⟨p, 0, none⟩)) rfl rfl (by kernel_rfl) (by kernel_rfl) (by kernel_rfl) (fun _ _ _ h => h) (Or.inl ⟨by rfl, ?_⟩) hHeld ?_
  · (intro w' hSw; obtain _ := hSw; go_simp)
  simp only [Act.put, List.setIfInBounds_toArray, List.set_cons_zero, List.set_cons_succ]
  refine hand_to (i := 2) (d := 20) (v := .int .i64 (i : Int)) rfl rfl (by kernel_rfl) (by kernel_rfl) (by kernel_rfl) (fun _ _ _ h => h) (Or.inl ⟨by rfl, ?_⟩) hHeld ?_
  · (intro w' hSw; obtain _ := hSw; go_simp)
  simp only [Act.put, List.setIfInBounds_toArray, List.set_cons_zero, List.set_cons_succ]
  refine wpAnyH_ready (rs := [3]) (by kernel_rfl) (by simp) ?_
  refine AllReadyH.cons rfl (fun K hK => ?_) AllReadyH.nil
  go_simp
  (go_at_call 10; refine (unhide PD).mono ?_; rintro e0 w3 ⟨rfl, S3, F3⟩; clear PD)
  (go_wp2_with fail)
  refine hK.out _ _ (unhide S3) (fun hHeld2 => ?_)
  clear hK K hHeld
  have hHeld := hHeld2
  clear hHeld2
  refine wpAnyH_ready (rs := [4]) (by kernel_rfl) (by simp) ?_
  refine AllReadyH.cons rfl (fun K hK => ?_) AllReadyH.nil
  refine step_store rfl rfl 43 (.tmp 4) (.tmp 18) rfl w.heap.size M.toArray rfl rfl (hM.there hHeld.2).1 hM.sizeA (all_oneCell_toArray hM.one) ?_
  rw [List.toList_toArray]
  have hr5 := World.rangeAt_setCells_same w3 w.heap.size 0 M (hM.there hHeld.2).2
  have hr6 := World.rangeAt_setCells_apart hHeld.1 w.heap.size 0 M (.inl (by omega))
  have ht6 := World.there_setCells hHeld.2 w.heap.size 0 M
  refine hK.out _ _ ⟨hr6, ht6⟩ (fun hHeld2 => ?_)
  clear hK K hHeld
  have hHeld := hHeld2
  clear hHeld2
  simp only [Act.put]
  refine hand_to (i := 5) (d := 5) (v := .nilIface) rfl rfl (by kernel_rfl) (by kernel_rfl) (by kernel_rfl) (fun _ _ _ h => h) (Or.inl ⟨by rfl, ?_⟩) hHeld ?_
  · (intro w' hSw; obtain _ := hSw; go_simp)
  simp only [Act.put, List.setIfInBounds_toArray, List.set_cons_zero, List.set_cons_succ]
  refine wpAnyH_done (by kernel_rfl) ?_ _
  go_wp2
  obtain ⟨vf', hx, hf, hzz⟩ := unhide F3
  have hnp : ∀ k, O k → k ≠ w.heap.size := fun k hk ek => unhide hO (ek ▸ hk)
  refine bodyPost_ret (v := .tuple #[.agg M.toArray, .nilIface]) ?_ rfl ⟨M, vf', rfl, hM, ?_, ?_⟩
  · rw [results_cell_tmp rfl]
    refine (res_addr (b := w.heap.size) ?_).trans ?_
    · rfl
    · rw [run_loadVar_mid _ w.heap.size 0 43 M _ hr5 Tryz.underlying43 rfl hM.size]
      rfl
  · exact hx.swap (setCells_size _ _ _) (fun k hk => setCells_other _ _ _ k (hnp k hk))
  · exact ⟨by rw [setCells_size]; exact hf.size, fun k hk hn => (setCells_other _ _ _ k (by omega)).trans (hf.blk k hk hn), hf.env.trans (setCells_env _ _ _)⟩
end Go.Proofs.YtahpfhnekmilmaaGreatDoor
