/- The library's contract on strings.Clone: its laying at this program's numbers (by the library's own tool, in plain words). -/
import Derived.Shelf.Pu.Clone
import Derived.Ground.MpProg
import Derived.Test.YtehgoioinogmkabGreatDoorProg
import Derived.Test.YtehgoioinogmkabGreatDoorXEv6
namespace Go.Proofs.YtehgoioinogmkabGreatDoor
open Go.Shelf
def Tryz.clone_ren : Go.Shelf.Ren := ⟨fun | 25 => 80 | n => n, fun | 9 => 9 | 3 => 3 | 4 => 4 | 37 => 22 | 0 => 0 | 47 => 233 | 5 => 5 | n => n, fun | n => n⟩

theorem Tryz.clone : Go.Proofs.LaysPu.n25 Tryz.prog Tryz.clone_ren := {
  mixed := by kernel_rfl
  f25 := Tryz.func80.trans (congrArg some (by kernel_rfl))
  t0 := Tryz.underlying0
  a0 := Tryz.isAgg0
  z0 := Tryz.sizeOf0
  v0 := Tryz.zeroValue0
  i0 := by kernel_rfl
  t3 := Tryz.underlying3
  a3 := Tryz.isAgg3
  z3 := Tryz.sizeOf3
  v3 := Tryz.zeroValue3
  i3 := by kernel_rfl
  t4 := Tryz.underlying4
  a4 := Tryz.isAgg4
  z4 := Tryz.sizeOf4
  v4 := Tryz.zeroValue4
  i4 := by kernel_rfl
  t5 := Tryz.underlying5
  a5 := Tryz.isAgg5
  z5 := Tryz.sizeOf5
  v5 := Tryz.zeroValue5
  i5 := by kernel_rfl
  t9 := Tryz.underlying9
  a9 := Tryz.isAgg9
  z9 := Tryz.sizeOf9
  v9 := Tryz.zeroValue9
  i9 := by kernel_rfl
  t37 := Tryz.underlying22
  a37 := Tryz.isAgg22
  z37 := Tryz.sizeOf22
  v37 := Tryz.zeroValue22
  i37 := by kernel_rfl
  t47 := Tryz.underlying233
  a47 := Tryz.isAgg233
  z47 := Tryz.sizeOf233
  v47 := Tryz.zeroValue233
  i47 := by kernel_rfl }
end Go.Proofs.YtehgoioinogmkabGreatDoor
/- Package expr: answer, Eval. -/
namespace Go.Proofs.YtehgoioinogmkabGreatDoor
open Go.RowKit Go.Lib

theorem list_run {P : Program} {ops : Array Oper} {rest : List Oper} {o : Oper} {a : Act} {w w' : World} {Q : Exit → Act → World → Prop} {d : Nat} {v : Value} (hg : o.guard = none) (hd : o.dst = some d) (hrun : (execOp a.eval o).run P w = .ok (.value v) w') (h : wpList P ops Q rest (a.put (some d) v) w') : wpList P ops Q (o :: rest) a w :=
  wpList_plain hg fun K hK => by
    unfold Oper.wp
    rw [hrun]
    show K (a.put o.dst v) w'
    rw [hd]
    exact hK _ _ h
set_option linter.unusedSimpArgs false in
set_option linter.unusedVariables false in
set_option maxHeartbeats 6400000 in
set_option maxRecDepth 20000 in
theorem sclone_any (s : ByteArray) (w : World) (h : s.size ≤ 281474976710656) : Calls Tryz.prog 32 #[.string s] w fun e w' => e = .returned (.string s) ∧ Below w.heap.size w w' := by
  have HC : Hid (Calls Tryz.prog 80 #[.string s] w fun e w' => e = .returned (.string s) ∧ Below w.heap.size w w') := AnyPu.stringslite_Clone Tryz.clone s w h
  go_enter Tryz.func32, Tryz.ntmps32
  go_upto_region 1 with fail
  refine wp_region_list ?_
  refine list_to (d := 3) (v := .string s) rfl rfl (by kernel_rfl) ?_
  simp only [Act.put, List.setIfInBounds_toArray, List.set_cons_zero, List.set_cons_succ]
  refine list_call rfl (some 4) rfl 80 #[.string s] (by kernel_rfl) (unhide HC) ?_
  rintro e w1 ⟨rfl, hb⟩
  refine ⟨_, rfl, ?_⟩
  simp only [Act.put, List.setIfInBounds_toArray, List.set_cons_zero, List.set_cons_succ]
  refine list_to (d := 2) (v := .string s) rfl rfl (by kernel_rfl) ?_
  simp only [Act.put, List.setIfInBounds_toArray, List.set_cons_zero, List.set_cons_succ]
  go_wp2_with fail
  go_ret
  exact ⟨rfl, hb⟩
set_option linter.unusedSimpArgs false in
set_option linter.unusedVariables false in
set_option maxHeartbeats 6400000 in
set_option maxRecDepth 20000 in
theorem answer_of (w : World) (pg be oe : Nat) (r : GV × Int) (hr : r.1.text.size ≤ 281474976710656) (hev : EvAt w pg be oe r) : Calls Tryz.prog 14 #[.pointer (some ⟨pg, 0, none⟩), .pointer (some ⟨be, oe, none⟩)] w (GeP w r) := by
  have HEV := hide hev
  have HTX : Hid (∀ W : World, Calls Tryz.prog 32 #[.string r.1.text] W fun e w' => e = .returned (.string r.1.text) ∧ Below W.heap.size W w') := fun W => sclone_any _ W hr
  obtain ⟨PP, hPP⟩ : ∃ PP, PP = GeP w r := ⟨_, rfl⟩
  have HPP := hide hPP
  rw [← hPP]
  clear hPP hev hr
  go_enter Tryz.func14, Tryz.ntmps14
  go_upto_region 1 with fail
  obtain ⟨w0, hw0⟩ : ∃ w0, w0 = w.alloc (.cells (gvC nullG).toArray 26) := ⟨_, rfl⟩
  have hb0 : Below w.heap.size w w0 := by rw [hw0]; exact alX (Below.refl _ _) _
  have HV := hide (show VV w0 w.heap.size nullG by rw [hw0]; exact VV.new w nullG)
  have HB := hide hb0
  rw [show (gvC nullG).toArray = #[.int .i64 0, .int .i64 0, .string ⟨#[]⟩] from rfl] at hw0
  rw [← hw0]
  clear hw0 hb0
  refine wp_region_list ?_
  refine list_to (d := 9) (v := .pointer (some ⟨pg, 0, none⟩)) rfl rfl (by kernel_rfl) ?_
  simp only [Act.put, List.setIfInBounds_toArray, List.set_cons_zero, List.set_cons_succ]
  refine list_to (d := 10) (v := .pointer (some ⟨be, oe, none⟩)) rfl rfl (by kernel_rfl) ?_
  simp only [Act.put, List.setIfInBounds_toArray, List.set_cons_zero, List.set_cons_succ]
  refine list_call rfl (some 11) rfl 31 #[.pointer (some ⟨pg, 0, none⟩), .pointer (some ⟨be, oe, none⟩)] (by kernel_rfl) (unhide HEV w0 (unhide HB)) ?_
  rintro e q1 ⟨rfl, hb⟩
  refine ⟨_, rfl, ?_⟩
  simp only [Act.put, List.setIfInBounds_toArray, List.set_cons_zero, List.set_cons_succ]
  have HB := hide (trX (unhide HB) hb)
  have HV := hide ((unhide HV).below hb)
  clear hb
  refine list_to (d := 8) (v := .tuple #[r.1.agg, errG r.2]) rfl rfl (by kernel_rfl) ?_
  simp only [Act.put, List.setIfInBounds_toArray, List.set_cons_zero, List.set_cons_succ]
  refine list_to (d := 12) (v := .agg (gvC r.1).toArray) rfl rfl (by kernel_rfl) ?_
  simp only [Act.put, List.setIfInBounds_toArray, List.set_cons_zero, List.set_cons_succ]
  refine list_to (d := 13) (v := errG r.2) rfl rfl (by kernel_rfl) ?_
  simp only [Act.put, List.setIfInBounds_toArray, List.set_cons_zero, List.set_cons_succ]
  refine list_new rfl 26 rfl (gvC nullG).toArray (zero_of_info zeroV).1 ?_
  simp only [Act.put, List.setIfInBounds_toArray, List.set_cons_zero, List.set_cons_succ]
  refine wpList_store_mid rfl 26 (.tmp 6) (.tmp 12) rfl q1.heap.size 0 (gvC r.1).toArray rfl rfl (VV.new q1 nullG).there sizeV (all_oneCell_toArray (gvC_one _)) ?_
  show wpList _ _ _ _ _ ((q1.alloc (.cells (gvC nullG).toArray 26)).setCells q1.heap.size 0 (gvC r.1))
  rw [setV_new q1 r.1]
  simp only [Act.put, List.setIfInBounds_toArray, List.set_cons_zero, List.set_cons_succ]
  refine list_to (d := 7) (v := errG r.2) rfl rfl (by kernel_rfl) ?_
  simp only [Act.put, List.setIfInBounds_toArray, List.set_cons_zero, List.set_cons_succ]
  have LHX : Hid (w.heap.size < q1.heap.size) := ltX (unhide HV)
  have HX := hide (VV.new q1 r.1)
  have hb : Below q1.heap.size q1 (q1.alloc (.cells (gvC r.1).toArray 26)) := alX (Below.refl _ _) _
  have HB := hide (trX (unhide HB) hb)
  have HV := hide ((unhide HV).below hb)
  obtain ⟨bHX, hb9⟩ : ∃ bHX, bHX = q1.heap.size := ⟨_, rfl⟩
  obtain ⟨w1, hw9⟩ : ∃ w1, w1 = q1.alloc (.cells (gvC r.1).toArray 26) := ⟨_, rfl⟩
  rw [← hw9] at HB HX HV
  rw [← hw9]
  rw [← hb9] at HX LHX
  rw [← hb9]
  clear hb hw9 hb9
  have c2 : w1.cell? ⟨bHX, 2, none⟩ = some (.string r.1.text) := cellX (unhide HX) 2
  have HTX := hide (unhide HTX w1)
  go_upto_region 3 with (first | (go_at_call 32; refine (unhide HTX).mono ?_; rintro e w2 ⟨rfl, hb⟩; have HX2 := hide ((unhide HX).below hb); have d2 := (cellX (unhide HX2) 2 : w2.cell? ⟨bHX, 2, none⟩ = some (.string r.1.text)); have f2 := frzX (unhide HX2) 2))
  clear c2 d2 f2 HX
  have HX := hide (show VV (w2.setCell ⟨bHX, 2, none⟩ (.string r.1.text)) bHX r.1 from (setX (unhide HX2) 2 _).trans rfl)
  have HV := hide (((unhide HV).below hb).keep (Below.heap_setCell w2 ⟨bHX, 2, none⟩ (.string r.1.text) w.heap.size (by have := unhide LHX; show w.heap.size ≠ bHX; omega)))
  have HB := hide ((trX (unhide HB) hb).setCell (p := ⟨bHX, 2, none⟩) (by have := unhide LHX; show w.heap.size ≤ bHX; omega) (.string r.1.text))
  clear hb HX2
  obtain ⟨w3, hw3⟩ : ∃ w3, w3 = w2.setCell ⟨bHX, 2, none⟩ (.string r.1.text) := ⟨_, rfl⟩
  rw [← hw3] at HX HV HB
  rw [← hw3]
  clear hw3
  refine wp_region_list ?_
  refine wpList_load_mid rfl 26 (.tmp 6) rfl bHX 0 rfl (gvC r.1) _ (unhide HX).range Tryz.underlying26 rfl sizeV ?_
  simp only [Act.put, List.setIfInBounds_toArray, List.set_cons_zero, List.set_cons_succ]
  refine list_to (d := 19) (v := errG r.2) rfl rfl (by kernel_rfl) ?_
  simp only [Act.put, List.setIfInBounds_toArray, List.set_cons_zero, List.set_cons_succ]
  refine wpList_store_mid rfl 26 (.tmp 4) (.tmp 18) rfl w.heap.size 0 (gvC r.1).toArray rfl rfl (unhide HV).there sizeV (all_oneCell_toArray (gvC_one _)) ?_
  show wpList _ _ _ _ _ (w3.setCells w.heap.size 0 (gvC r.1))
  simp only [Act.put, List.setIfInBounds_toArray, List.set_cons_zero, List.set_cons_succ]
  refine list_to (d := 5) (v := errG r.2) rfl rfl (by kernel_rfl) ?_
  simp only [Act.put, List.setIfInBounds_toArray, List.set_cons_zero, List.set_cons_succ]
  go_wp2_with fail
  refine bodyPost_ret (((unhide HV).set r.1).result2 rfl _ rfl) rfl ?_
  rw [unhide HPP]
  exact ⟨rfl, below_setCells0 (unhide HB) (Nat.le_refl _) _⟩
set_option linter.unusedSimpArgs false in
set_option linter.unusedVariables false in
set_option maxHeartbeats 6400000 in
set_option maxRecDepth 20000 in
theorem evalp_any (row : List GV) (hrow : ∀ g ∈ row, g.ok) (w : World) (Q : Nat → Prop) (M : List Value) (E : Ex) (a : Option Addr) (n k : Nat) (h : ExM w Q M E) (hok : exOk E) (hsim : simE E = true) (htx : (evE row E).1.text.size ≤ 281474976710656) : Calls Tryz.prog 6 #[.agg M.toArray, .slice a n k] w (GeP w (evE row E)) := by
  have hM := h.len
  obtain ⟨w1, hw1⟩ : ∃ w1, w1 = w.alloc (.cells M.toArray 29) := ⟨_, rfl⟩
  have hv1 : VrX w1 w.heap.size M := by rw [hw1]; exact VrX.new w hM
  have hb1 : Below w.heap.size w w1 := by rw [hw1]; exact alX (Below.refl _ _) _
  have hz1 : w1.heap.size = w.heap.size + 1 := by rw [hw1]; simp
  have hx1 := h.below hb1
  obtain ⟨R, hR⟩ : ∃ R, R = evE row E := ⟨_, rfl⟩
  have HAN : Hid (∀ (W : World) (pg : Nat), Below w1.heap.size w1 W → Calls Tryz.prog 14 #[.pointer (some ⟨pg, 0, none⟩), .pointer (some ⟨w.heap.size, 0, none⟩)] W (GeP W R)) := by
    intro W pg hb
    obtain ⟨args, hM2, hs⟩ := hx1
    refine answer_of W pg w.heap.size 0 R ?_ ?_
    · rw [hR]
      exact htx
    · rw [hR]
      refine (eval_all row hrow pg (szF E.2 + 1) w1 Q w.heap.size 0 E args ?_ hs hok hsim (Nat.lt_succ_self _)).mono hb
      rw [← hM2]
      exact hv1.range
  obtain ⟨PP, hPP⟩ : ∃ PP, PP = GeP w R := ⟨_, rfl⟩
  have HPP := hide hPP
  have HB1 := hide hb1
  have HW1 := hide hw1
  have HZ1 := hide hz1
  have HR := hide hR
  rw [← hR, ← hPP]
  clear hPP hb1 hw1 hz1 hv1 hx1 hR h hok hsim hrow htx
  go_enter Tryz.func6, Tryz.ntmps6
  go_upto_region 1 with fail
  rw [← unhide HW1]
  obtain ⟨w0, hw0⟩ : ∃ w0, w0 = w1.alloc (.cells (gvC nullG).toArray 26) := ⟨_, rfl⟩
  have hb0 : Below w1.heap.size w1 w0 := by rw [hw0]; exact alX (Below.refl _ _) _
  have HV := hide (show VV w0 (w.heap.size + 1) nullG by rw [← unhide HZ1, hw0]; exact VV.new w1 nullG)
  have HB := hide hb0
  rw [show (gvC nullG).toArray = #[.int .i64 0, .int .i64 0, .string ⟨#[]⟩] from rfl] at hw0
  rw [← hw0]
  clear hw0 hb0
  refine wp_region_list ?_
  refine list_to (d := 6) (v := (.slice a n k)) rfl rfl (by kernel_rfl) ?_
  simp only [Act.put, List.setIfInBounds_toArray, List.set_cons_zero, List.set_cons_succ]
  refine list_to (d := 7) (v := .agg #[(.slice a n k), .bool false, .slice none 0 0]) rfl rfl (by kernel_rfl) ?_
  simp only [Act.put, List.setIfInBounds_toArray, List.set_cons_zero, List.set_cons_succ]
  refine list_run (d := 8) (v := .pointer (some ⟨w0.heap.size, 0, none⟩)) (w' := w0.alloc (.cells #[(.slice a n k), .bool false, .slice none 0 0] 76)) rfl rfl (by rfl) ?_
  simp only [Act.put, List.setIfInBounds_toArray, List.set_cons_zero, List.set_cons_succ]
  have hb3 : Below w0.heap.size w0 (w0.alloc (.cells #[(.slice a n k), .bool false, .slice none 0 0] 76)) := alX (Below.refl _ _) _
  obtain ⟨w3, hw3⟩ : ∃ w3, w3 = w0.alloc (.cells #[(.slice a n k), .bool false, .slice none 0 0] 76) := ⟨_, rfl⟩
  rw [← hw3] at hb3
  rw [← hw3]
  clear hw3
  have HB := hide (trX (unhide HB) hb3)
  have HV := hide ((unhide HV).below hb3)
  clear hb3
  refine list_call rfl (some 9) rfl 14 #[.pointer (some ⟨w0.heap.size, 0, none⟩), .pointer (some ⟨w.heap.size, 0, none⟩)] (by kernel_rfl) (unhide HAN w3 w0.heap.size (unhide HB)) ?_
  rintro e w5 ⟨rfl, hb⟩
  refine ⟨_, rfl, ?_⟩
  simp only [Act.put, List.setIfInBounds_toArray, List.set_cons_zero, List.set_cons_succ]
  have HB := hide (trX (unhide HB) hb)
  have HV := hide ((unhide HV).below hb)
  clear hb
  refine list_to (d := 10) (v := .agg (gvC R.1).toArray) rfl rfl (by kernel_rfl) ?_
  simp only [Act.put, List.setIfInBounds_toArray, List.set_cons_zero, List.set_cons_succ]
  refine list_to (d := 11) (v := errG R.2) rfl rfl (by kernel_rfl) ?_
  simp only [Act.put, List.setIfInBounds_toArray, List.set_cons_zero, List.set_cons_succ]
  refine wpList_store_mid rfl 26 (.tmp 4) (.tmp 10) rfl (w.heap.size + 1) 0 (gvC R.1).toArray rfl rfl (unhide HV).there sizeV (all_oneCell_toArray (gvC_one _)) ?_
  show wpList _ _ _ _ _ (w5.setCells (w.heap.size + 1) 0 (gvC R.1))
  simp only [Act.put, List.setIfInBounds_toArray, List.set_cons_zero, List.set_cons_succ]
  refine list_to (d := 5) (v := errG R.2) rfl rfl (by kernel_rfl) ?_
  simp only [Act.put, List.setIfInBounds_toArray, List.set_cons_zero, List.set_cons_succ]
  go_wp2_with fail
  refine bodyPost_ret (((unhide HV).set R.1).result2 rfl _ rfl) rfl ?_
  rw [unhide HPP]
  exact ⟨rfl, below_setCells0 (trX (unhide HB1) (unhide HB)) (by omega) _⟩
end Go.Proofs.YtehgoioinogmkabGreatDoor
