/- The statement ExprShort. -/
import Derived.Test.YtehgoioinogmkaaGreatDoorXKn
namespace Go.Proofs.YtehgoioinogmkaaGreatDoor
open Go.RowKit Go.Lib

theorem list_wload {P : Program} {ops : Array Oper} {rest : List Oper} {o : Oper} {a : Act} {w : World} {Q : Exit → Act → World → Prop} {d : Nat} (hd : o.dst = some d) (hg : Region.wanted o (yielded ops a.tmps) = true) (ty : TypeId) (x : Operand) (ho : o.op = .load ty x)
    (b i : Nat) (hx : a.eval x = .pointer (some ⟨b, i, none⟩)) (cs : List Value) (t : TypeDesc) (hc : w.rangeAt b i cs) (hu : P.underlying ty = some t) (ht : t.isRow = true) (hi : (P.info? ty).map (·.size) = some cs.length)
    (h : wpList P ops Q rest (a.put (some d) (.agg cs.toArray)) w) : wpList P ops Q (o :: rest) a w :=
  wpList_step fun K hK => by
    rw [if_pos hg]
    exact wp_load_mid ty x ho b i hx cs t hc hu ht hi (by rw [hd]; exact hK _ _ h)
def truS (x : Int) : List UInt8 := if x = 0 then [70, 65, 76, 83, 69] else if x = 1 then [84, 82, 85, 69] else if x = 2 then [78, 85, 76, 76] else [49, 32, 47, 32, 48, 32, 61, 32, 49]
def opS (o : Bool) : List UInt8 := if o = true then [32, 79, 82, 32] else [32, 65, 78, 68, 32]
def txtS (x y : Int) (o : Bool) : List UInt8 := (truS x ++ opS o) ++ truS y
def stopS (o : Bool) : Int := if o = true then 1 else 0
def wantS (x y : Int) (o : Bool) : GV × Int :=
  if x = 3 ∨ (x ≠ stopS o ∧ y = 3) then (nullG, 7)
  else (ofTruthG (if x ≠ stopS o ∧ y ≠ stopS o then (if x = 2 ∨ y = 2 then 2 else 1 - stopS o) else stopS o), 0)
def oneT : GV := ⟨1, 1, ⟨#[]⟩⟩
theorem wantS_text (x y : Int) (o : Bool) : (wantS x y o).1.text.size ≤ 281474976710656 := by
  have h : ∀ n, (ofTruthG n).text.size = 0 := fun n => by unfold ofTruthG; split <;> rfl
  unfold wantS
  split
  · exact Nat.zero_le _
  · show (ofTruthG _).text.size ≤ _
    rw [h]
    exact Nat.zero_le _
theorem truS_len (x : Int) : (truS x).length ≤ 9 := by unfold truS; repeat (first | decide | split)
theorem opS_len (o : Bool) : (opS o).length ≤ 5 := by cases o <;> decide
theorem whole_s {x y : Int} (hx : x = 0 ∨ x = 1 ∨ x = 2 ∨ x = 3) (hy : y = 0 ∨ y = 1 ∨ y = 2 ∨ y = 3) (o : Bool) : whole (txtS x y o) (wantS x y o) = true := by
  rcases hx with rfl | rfl | rfl | rfl <;> rcases hy with rfl | rfl | rfl | rfl <;> cases o <;> kernel_rfl
set_option linter.unusedSimpArgs false in
set_option linter.unusedVariables false in
set_option maxHeartbeats 6400000 in
set_option maxRecDepth 20000 in
theorem of_one (w : World) : Calls Tryz.prog 24 #[.int .i64 1] w fun e w' => e = .returned oneT.agg ∧ Below w.heap.size w w' := by
  go_enter Tryz.func24, Tryz.ntmps24
  go_upto_region 3 with fail
  obtain ⟨w0, hw0⟩ : ∃ w0, w0 = w.alloc (.cells (gvC nullG).toArray 26) := ⟨_, rfl⟩
  have HV := hide (show VV w0 w.heap.size nullG by rw [hw0]; exact VV.new w nullG)
  have HB := hide (show Below w.heap.size w w0 by rw [hw0]; exact alX (Below.refl _ _) _)
  unfold gvC nullG at hw0
  rw [← hw0]
  clear hw0
  refine wp_region_list ?_
  refine list_to (d := 6) (v := .agg (gvC oneT).toArray) rfl rfl (by kernel_rfl) ?_
  simp only [Act.put, List.setIfInBounds_toArray, List.set_cons_zero, List.set_cons_succ]
  refine wpList_store_mid rfl 26 (.tmp 2) (.tmp 6) rfl w.heap.size 0 (gvC oneT).toArray rfl rfl (unhide HV).there sizeV (all_oneCell_toArray (gvC_one _)) ?_
  show wpList _ _ _ _ _ (w0.setCells w.heap.size 0 (gvC oneT))
  simp only [Act.put, List.setIfInBounds_toArray, List.set_cons_zero, List.set_cons_succ]
  go_wp2_with fail
  exact bodyPost_ret (((unhide HV).set oneT).result rfl _ rfl) rfl ⟨rfl, VV.below_set (unhide HB) _⟩
set_option linter.unusedSimpArgs false in
set_option linter.unusedVariables false in
set_option maxHeartbeats 6400000 in
set_option maxRecDepth 20000 in
theorem of_two (w : World) : Calls Tryz.prog 24 #[.int .i64 2] w fun e w' => e = .returned nullG.agg ∧ Below w.heap.size w w' := by
  go_enter Tryz.func24, Tryz.ntmps24
  go_upto_region 6 with fail
  obtain ⟨w0, hw0⟩ : ∃ w0, w0 = w.alloc (.cells (gvC nullG).toArray 26) := ⟨_, rfl⟩
  have HV := hide (show VV w0 w.heap.size nullG by rw [hw0]; exact VV.new w nullG)
  have HB := hide (show Below w.heap.size w w0 by rw [hw0]; exact alX (Below.refl _ _) _)
  unfold gvC nullG at hw0
  rw [← hw0]
  clear hw0
  refine wp_region_list ?_
  refine list_to (d := 10) (v := .agg (gvC nullG).toArray) rfl rfl (by kernel_rfl) ?_
  simp only [Act.put, List.setIfInBounds_toArray, List.set_cons_zero, List.set_cons_succ]
  refine wpList_store_mid rfl 26 (.tmp 2) (.tmp 10) rfl w.heap.size 0 (gvC nullG).toArray rfl rfl (unhide HV).there sizeV (all_oneCell_toArray (gvC_one _)) ?_
  show wpList _ _ _ _ _ (w0.setCells w.heap.size 0 (gvC nullG))
  simp only [Act.put, List.setIfInBounds_toArray, List.set_cons_zero, List.set_cons_succ]
  go_wp2_with fail
  exact bodyPost_ret (((unhide HV).set nullG).result rfl _ rfl) rfl ⟨rfl, VV.below_set (unhide HB) _⟩
set_option linter.unusedSimpArgs false in
set_option linter.unusedVariables false in
set_option maxHeartbeats 6400000 in
set_option maxRecDepth 20000 in
theorem truths_any (x : Int) (h : x = 0 ∨ x = 1 ∨ x = 2 ∨ x = 3) (w : World) : Calls Tryz.prog 23 #[.int .i64 x] w fun e w' => e = .returned (sv (truS x)) ∧ Below w.heap.size w w' := by
  rcases h with rfl | rfl | rfl | rfl
  · go_enter Tryz.func23, Tryz.ntmps23
    go_wp2_with fail
    go_ret
    exact ⟨rfl, by first | exact alX (Below.refl _ _) _ | (refine Below.setRow ?_ ?_ <;> simp)⟩
  · go_enter Tryz.func23, Tryz.ntmps23
    go_wp2_with fail
    go_ret
    exact ⟨rfl, by first | exact alX (Below.refl _ _) _ | (refine Below.setRow ?_ ?_ <;> simp)⟩
  · go_enter Tryz.func23, Tryz.ntmps23
    go_wp2_with fail
    go_ret
    exact ⟨rfl, by first | exact alX (Below.refl _ _) _ | (refine Below.setRow ?_ ?_ <;> simp)⟩
  · go_enter Tryz.func23, Tryz.ntmps23
    go_wp2_with fail
    go_ret
    exact ⟨rfl, by first | exact alX (Below.refl _ _) _ | (refine Below.setRow ?_ ?_ <;> simp)⟩
set_option linter.unusedSimpArgs false in
set_option linter.unusedVariables false in
set_option maxHeartbeats 25600000 in
set_option maxRecDepth 20000 in
theorem short_any (a b : Int) (ha0 : 0 ≤ a) (ha : a < 256) (hb0 : 0 ≤ b) (hb : b < 256) (o : Bool) (w : World) (hE : ET w) : Calls Tryz.prog 7 #[.int .u8 a, .int .u8 b, .bool o] w fun e w' => e = .returned (.bool true) ∧ Below w.heap.size w w' := by
  have HKN := hide (xknown_any w hE)
  have HEr : Hid (∀ W, Below w.heap.size w W → ET W) := fun W hb => hE.below hb hE.lt
  obtain ⟨x, hxa⟩ : ∃ x, x = a.tmod 4 := ⟨_, rfl⟩
  obtain ⟨y, hya⟩ : ∃ y, y = b.tmod 4 := ⟨_, rfl⟩
  have hx : x = 0 ∨ x = 1 ∨ x = 2 ∨ x = 3 := by rw [Int.tmod_eq_emod_of_nonneg ha0] at hxa; omega
  have hy : y = 0 ∨ y = 1 ∨ y = 2 ∨ y = 3 := by rw [Int.tmod_eq_emod_of_nonneg hb0] at hya; omega
  have HWx : Hid (IntKind.wrap .i64 x = x) := by rcases hx with rfl | rfl | rfl | rfl <;> rfl
  have HWy : Hid (IntKind.wrap .i64 y = y) := by rcases hy with rfl | rfl | rfl | rfl <;> rfl
  obtain ⟨hoa, hsa, Ea, hta, hoka, hsia, heva⟩ := whole_ok (whole_s hx hy o)
  have hlx : ((truS x).length : Int) ≤ 9 := by have := truS_len x; omega
  have hly : ((truS y).length : Int) ≤ 9 := by have := truS_len y; omega
  have hlo : ((opS o).length : Int) ≤ 5 := by have := opS_len o; omega
  have hlt : (txtS x y o).length ≤ 1900 := by unfold txtS; rw [List.length_append, List.length_append]; omega
  have HTa : Hid (∀ W, Calls Tryz.prog 11 #[sv (txtS x y o), .bool false] W (Ty14 (txtS x y o) W)) := fun W => typed14_any _ W hlt hoa (fun _ => hsa)
  have HTYa := hide hta
  have HOKa := hide hoka
  have HSIa := hide hsia
  have HEVa := hide heva
  have HTRx := hide (truths_any x hx)
  have HTRy := hide (truths_any y hy)
  have HX := hide hx
  have HY := hide hy
  have HXA := hide hxa
  have HYA := hide hya
  clear hE hoa hsa hta hoka hsia heva hlt hx hy hxa hya
  go_enter Tryz.func7, Tryz.ntmps7
  go_upto_region 3 with (first | (go_at_call 9; refine (unhide HKN).mono ?_; rintro e w1 ⟨rfl, hb⟩))
  clear HKN
  have HB := hide hb
  clear hb
  refine wp_region_list ?_
  refine list_to (d := 18) (v := .int .u8 a) rfl rfl (by kernel_rfl) ?_
  simp only [Act.put, List.setIfInBounds_toArray, List.set_cons_zero, List.set_cons_succ]
  refine list_to (d := 19) (v := .int .u8 (a.tmod 4)) rfl rfl (by go_simp) ?_
  simp only [Act.put, List.setIfInBounds_toArray, List.set_cons_zero, List.set_cons_succ]
  rw [← unhide HXA]
  refine list_to (d := 20) (v := .int .i64 x) rfl rfl (by (go_simp; exact unhide HWx)) ?_
  simp only [Act.put, List.setIfInBounds_toArray, List.set_cons_zero, List.set_cons_succ]
  refine list_to (d := 21) (v := .int .u8 b) rfl rfl (by kernel_rfl) ?_
  simp only [Act.put, List.setIfInBounds_toArray, List.set_cons_zero, List.set_cons_succ]
  refine list_to (d := 22) (v := .int .u8 (b.tmod 4)) rfl rfl (by go_simp) ?_
  simp only [Act.put, List.setIfInBounds_toArray, List.set_cons_zero, List.set_cons_succ]
  rw [← unhide HYA]
  refine list_to (d := 23) (v := .int .i64 y) rfl rfl (by (go_simp; exact unhide HWy)) ?_
  simp only [Act.put, List.setIfInBounds_toArray, List.set_cons_zero, List.set_cons_succ]
  refine list_to (d := 7) (v := .int .i64 x) rfl rfl (by kernel_rfl) ?_
  simp only [Act.put, List.setIfInBounds_toArray, List.set_cons_zero, List.set_cons_succ]
  refine list_to (d := 8) (v := .int .i64 y) rfl rfl (by kernel_rfl) ?_
  simp only [Act.put, List.setIfInBounds_toArray, List.set_cons_zero, List.set_cons_succ]
  cases o
  · skip
    as_aux_lemma =>
      go_upto_region 7 with fail
      refine wp_region_list ?_
      refine list_to (d := 26) (v := .int .i64 x) rfl rfl (by kernel_rfl) ?_
      simp only [Act.put, List.setIfInBounds_toArray, List.set_cons_zero, List.set_cons_succ]
      refine list_call rfl (some 27) rfl 23 #[.int .i64 x] (by kernel_rfl) (unhide HTRx w1) ?_
      rintro e w2 ⟨rfl, hb⟩
      refine ⟨_, rfl, ?_⟩
      simp only [Act.put, List.setIfInBounds_toArray, List.set_cons_zero, List.set_cons_succ]
      have HB := hide (trX (unhide HB) hb)
      clear hb
      refine list_to (d := 28) (v := sv (opS false)) rfl rfl (by kernel_rfl) ?_
      simp only [Act.put, List.setIfInBounds_toArray, List.set_cons_zero, List.set_cons_succ]
      refine list_to (d := 29) (v := sv (truS x ++ opS false)) rfl rfl (by (unfold sv; go_simp; rw [if_neg (by omega), cat_bytes]; simp)) ?_
      simp only [Act.put, List.setIfInBounds_toArray, List.set_cons_zero, List.set_cons_succ]
      refine list_to (d := 30) (v := .int .i64 y) rfl rfl (by kernel_rfl) ?_
      simp only [Act.put, List.setIfInBounds_toArray, List.set_cons_zero, List.set_cons_succ]
      refine list_call rfl (some 31) rfl 23 #[.int .i64 y] (by kernel_rfl) (unhide HTRy w2) ?_
      rintro e w3 ⟨rfl, hb⟩
      refine ⟨_, rfl, ?_⟩
      simp only [Act.put, List.setIfInBounds_toArray, List.set_cons_zero, List.set_cons_succ]
      have HB := hide (trX (unhide HB) hb)
      clear hb
      refine list_to (d := 32) (v := sv (txtS x y false)) rfl rfl (by (unfold sv txtS; go_simp; rw [if_neg (by first | omega | (simp only [List.length_append]; omega) | (simp; omega)), cat_bytes]; simp)) ?_
      simp only [Act.put, List.setIfInBounds_toArray, List.set_cons_zero, List.set_cons_succ]
      refine list_call rfl (some 33) rfl 11 #[sv (txtS x y false), .bool false] (by kernel_rfl) (unhide HTa w3) ?_
      rintro e q ⟨hb, hpost⟩
      rw [unhide HTYa] at hpost
      obtain ⟨Na, rfl, hxN⟩ := hpost
      refine ⟨_, rfl, ?_⟩
      simp only [Act.put, List.setIfInBounds_toArray, List.set_cons_zero, List.set_cons_succ]
      have HB := hide (trX (unhide HB) hb)
      clear hb
      refine list_to (d := 25) (v := .tuple #[.agg Na.toArray, .bool true]) rfl rfl (by kernel_rfl) ?_
      simp only [Act.put, List.setIfInBounds_toArray, List.set_cons_zero, List.set_cons_succ]
      refine list_to (d := 34) (v := .agg Na.toArray) rfl rfl (by kernel_rfl) ?_
      simp only [Act.put, List.setIfInBounds_toArray, List.set_cons_zero, List.set_cons_succ]
      refine list_to (d := 35) (v := .bool true) rfl rfl (by kernel_rfl) ?_
      simp only [Act.put, List.setIfInBounds_toArray, List.set_cons_zero, List.set_cons_succ]
      have hza : Na.toArray.size = 10 := by simpa using hxN.len
      have hla : Na.length = 10 := hxN.len
      have hvn := VrX.new q (M := zL) rfl
      have hal : Below q.heap.size q (q.alloc (.cells Na.toArray 29)) := alX (Below.refl _ _) _
      refine list_new rfl 29 rfl zL.toArray (zero_of_info zeroEx).1 ?_
      simp only [Act.put, List.setIfInBounds_toArray, List.set_cons_zero, List.set_cons_succ]
      refine wpList_store_mid rfl 29 (.tmp 10) (.tmp 34) rfl q.heap.size 0 Na.toArray rfl rfl (by rw [hza]; exact hvn.there) (by rw [hza]; exact sizeEx) (all_oneCell_toArray hxN.one) ?_
      show wpList _ _ _ _ _ ((q.alloc (.cells zL.toArray 29)).setCells q.heap.size 0 Na)
      rw [setCells_new q _ _ _ (by rw [hla]; rfl)]
      simp only [Act.put, List.setIfInBounds_toArray, List.set_cons_zero, List.set_cons_succ]
      refine list_to (d := 11) (v := .bool true) rfl rfl (by kernel_rfl) ?_
      simp only [Act.put, List.setIfInBounds_toArray, List.set_cons_zero, List.set_cons_succ]
      have HB := hide (trX (unhide HB) hal)
      have HVa := hide (VrX.new q hla)
      have HXa := hide (hxN.below hal)
      obtain ⟨ba, hb9⟩ : ∃ ba, ba = q.heap.size := ⟨_, rfl⟩
      obtain ⟨w4, hw9⟩ : ∃ w4, w4 = q.alloc (.cells Na.toArray 29) := ⟨_, rfl⟩
      rw [← hw9] at HB HVa HXa 
      rw [← hw9]
      rw [← hb9] at HVa
      rw [← hb9]
      clear hw9 hb9 hal hvn hxN
      go_upto_region 10 with fail
      refine wp_region_list ?_
      refine wpList_load_mid rfl 29 (.tmp 10) rfl ba 0 rfl Na _ (unhide HVa).range Tryz.underlying29 rfl (by rw [hla]; exact sizeEx) ?_
      simp only [Act.put, List.setIfInBounds_toArray, List.set_cons_zero, List.set_cons_succ]
      refine list_call rfl (some 40) rfl 12 #[.agg Na.toArray, .slice none 0 0] (by kernel_rfl) (evalp_any [] (fun _ h => absurd h (by simp)) w4 _ Na Ea none 0 0 (unhide HXa) (unhide HOKa) (unhide HSIa) (by rw [unhide HEVa]; exact wantS_text _ _ _)) ?_
      rw [unhide HEVa]
      rintro e q ⟨rfl, hb⟩
      refine ⟨_, rfl, ?_⟩
      simp only [Act.put, List.setIfInBounds_toArray, List.set_cons_zero, List.set_cons_succ]
      have HB := hide (trX (unhide HB) hb)
      clear hb
      refine list_to (d := 38) (v := .tuple #[.agg (gvC (wantS x y false).1).toArray, errG (wantS x y false).2]) rfl rfl (by kernel_rfl) ?_
      simp only [Act.put, List.setIfInBounds_toArray, List.set_cons_zero, List.set_cons_succ]
      refine list_to (d := 41) (v := .agg (gvC (wantS x y false).1).toArray) rfl rfl (by kernel_rfl) ?_
      simp only [Act.put, List.setIfInBounds_toArray, List.set_cons_zero, List.set_cons_succ]
      refine list_to (d := 42) (v := errG (wantS x y false).2) rfl rfl (by kernel_rfl) ?_
      simp only [Act.put, List.setIfInBounds_toArray, List.set_cons_zero, List.set_cons_succ]
      refine list_new rfl 26 rfl (gvC nullG).toArray (zero_of_info zeroV).1 ?_
      simp only [Act.put, List.setIfInBounds_toArray, List.set_cons_zero, List.set_cons_succ]
      refine wpList_store_mid rfl 26 (.tmp 12) (.tmp 41) rfl q.heap.size 0 (gvC (wantS x y false).1).toArray rfl rfl (VV.new q nullG).there sizeV (all_oneCell_toArray (gvC_one _)) ?_
      show wpList _ _ _ _ _ ((q.alloc (.cells (gvC nullG).toArray 26)).setCells q.heap.size 0 (gvC (wantS x y false).1))
      rw [setV_new q (wantS x y false).1]
      simp only [Act.put, List.setIfInBounds_toArray, List.set_cons_zero, List.set_cons_succ]
      refine list_to (d := 13) (v := errG (wantS x y false).2) rfl rfl (by kernel_rfl) ?_
      simp only [Act.put, List.setIfInBounds_toArray, List.set_cons_zero, List.set_cons_succ]
      have HGa := hide (VV.new q (wantS x y false).1)
      have hb : Below q.heap.size q (q.alloc (.cells (gvC (wantS x y false).1).toArray 26)) := alX (Below.refl _ _) _
      have HB := hide (trX (unhide HB) hb)
      obtain ⟨ga, hb9⟩ : ∃ ga, ga = q.heap.size := ⟨_, rfl⟩
      obtain ⟨w5, hw9⟩ : ∃ w5, w5 = q.alloc (.cells (gvC (wantS x y false).1).toArray 26) := ⟨_, rfl⟩
      rw [← hw9] at HB HGa 
      rw [← hw9]
      rw [← hb9] at HGa
      rw [← hb9]
      clear hb hw9 hb9
      rcases unhide HX with rfl | rfl | rfl | rfl
      · rcases unhide HY with rfl | rfl | rfl | rfl
        · skip
          as_aux_lemma =>
            have hw : wantS 0 0 false = (oneF, 0) := by kernel_rfl
            rw [hw] at HGa ⊢
            clear hw
            go_upto_region 21 with fail
            have HGd := hide ((unhide HGa).below (Below.refl _ _).drew)
            have HBd := hide (trX (unhide HB) (Below.refl _ _).drew)
            refine wp_region_held_drew (S := fun w' => VV w' ga oneF) (by kernel_rfl) (unhide HGd) (fun hHeld => ?_)
            refine hand_to (i := 0) (d := 80) (v := .nilIface) rfl rfl (by kernel_rfl) (by kernel_rfl) (by kernel_rfl) (fun _ _ _ h => h) (Or.inl ⟨by rfl, ?_⟩) hHeld ?_
            · (intro w' hSw; kernel_rfl)
            simp only [Act.put, List.setIfInBounds_toArray, List.set_cons_zero, List.set_cons_succ]
            refine hand_to (i := 1) (d := 81) (v := (.bool true)) rfl rfl (by kernel_rfl) (by kernel_rfl) (by kernel_rfl) (fun _ _ _ h => h) (Or.inl ⟨by rfl, ?_⟩) hHeld ?_
            · (intro w' hSw; kernel_rfl)
            simp only [Act.put, List.setIfInBounds_toArray, List.set_cons_zero, List.set_cons_succ]
            refine hand_to (i := 2) (d := 82) (v := (.bool true)) rfl rfl (by kernel_rfl) (by kernel_rfl) (by kernel_rfl) (fun _ _ _ h => h) (Or.inl ⟨by rfl, ?_⟩) hHeld ?_
            · (intro w' hSw; kernel_rfl)
            simp only [Act.put, List.setIfInBounds_toArray, List.set_cons_zero, List.set_cons_succ]
            refine hand_to (i := 3) (d := 83) (v := .agg (gvC oneF).toArray) rfl rfl (by kernel_rfl) (by kernel_rfl) (by kernel_rfl) (fun _ _ _ h => h) (yieldsIf_load_mid (by rfl) 26 (.tmp 12) rfl ga 0 rfl (gvC oneF) _ (fun w hw => hw.range) Tryz.underlying26 rfl sizeV) hHeld ?_
            simp only [Act.put, List.setIfInBounds_toArray, List.set_cons_zero, List.set_cons_succ]
            refine hand_to (i := 4) (d := 84) (v := (.int .i64 0)) rfl rfl (by kernel_rfl) (by kernel_rfl) (by kernel_rfl) (fun _ _ _ h => h) (Or.inl ⟨by rfl, ?_⟩) hHeld ?_
            · (intro w' hSw; kernel_rfl)
            simp only [Act.put, List.setIfInBounds_toArray, List.set_cons_zero, List.set_cons_succ]
            refine wpAnyH_ready (rs := [5]) (by kernel_rfl) (by simp) ?_
            refine AllReadyH.cons rfl (fun K hK => ?_) AllReadyH.nil
            rw [if_pos (by rfl)]
            refine op_call (some 85) rfl 24 #[.int .i64 0] (by kernel_rfl) (of_false _) ?_
            rintro e w6 ⟨rfl, hb⟩
            refine ⟨_, rfl, ?_⟩
            have HG6 := hide ((unhide HGd).below hb)
            have HB6 := hide (trX (unhide HBd) hb)
            clear hb
            refine hK.out _ _ (unhide HG6) (fun hHeld2 => ?_)
            clear hK K hHeld
            have hHeld := hHeld2
            clear hHeld2
            try simp only [Act.put, List.setIfInBounds_toArray, List.set_cons_zero, List.set_cons_succ]
            refine hand_to (i := 6) (d := 86) (v := (.bool true)) rfl rfl (by kernel_rfl) (by kernel_rfl) (by kernel_rfl) (fun _ _ _ h => h) (Or.inl ⟨by rfl, ?_⟩) hHeld ?_
            · (intro w' hSw; kernel_rfl)
            simp only [Act.put, List.setIfInBounds_toArray, List.set_cons_zero, List.set_cons_succ]
            refine hand_to (i := 7) (d := 87) (v := (.bool true)) rfl rfl (by kernel_rfl) (by kernel_rfl) (by kernel_rfl) (fun _ _ _ h => h) (Or.inl ⟨by rfl, ?_⟩) hHeld ?_
            · (intro w' hSw; kernel_rfl)
            simp only [Act.put, List.setIfInBounds_toArray, List.set_cons_zero, List.set_cons_succ]
            refine hand_to (i := 8) (d := 6) (v := (.bool true)) rfl rfl (by kernel_rfl) (by kernel_rfl) (by kernel_rfl) (fun _ _ _ h => h) (Or.inl ⟨by rfl, ?_⟩) hHeld ?_
            · (intro w' hSw; kernel_rfl)
            simp only [Act.put, List.setIfInBounds_toArray, List.set_cons_zero, List.set_cons_succ]
            refine wpAnyH_done (by kernel_rfl) ?_ _
            go_wp2_with fail
            go_ret
            exact ⟨rfl, unhide HB6⟩
        · skip
          as_aux_lemma =>
            have hw : wantS 0 1 false = (oneF, 0) := by kernel_rfl
            rw [hw] at HGa ⊢
            clear hw
            go_upto_region 21 with fail
            have HGd := hide ((unhide HGa).below (Below.refl _ _).drew)
            have HBd := hide (trX (unhide HB) (Below.refl _ _).drew)
            refine wp_region_held_drew (S := fun w' => VV w' ga oneF) (by kernel_rfl) (unhide HGd) (fun hHeld => ?_)
            refine hand_to (i := 0) (d := 80) (v := .nilIface) rfl rfl (by kernel_rfl) (by kernel_rfl) (by kernel_rfl) (fun _ _ _ h => h) (Or.inl ⟨by rfl, ?_⟩) hHeld ?_
            · (intro w' hSw; kernel_rfl)
            simp only [Act.put, List.setIfInBounds_toArray, List.set_cons_zero, List.set_cons_succ]
            refine hand_to (i := 1) (d := 81) (v := (.bool true)) rfl rfl (by kernel_rfl) (by kernel_rfl) (by kernel_rfl) (fun _ _ _ h => h) (Or.inl ⟨by rfl, ?_⟩) hHeld ?_
            · (intro w' hSw; kernel_rfl)
            simp only [Act.put, List.setIfInBounds_toArray, List.set_cons_zero, List.set_cons_succ]
            refine hand_to (i := 2) (d := 82) (v := (.bool true)) rfl rfl (by kernel_rfl) (by kernel_rfl) (by kernel_rfl) (fun _ _ _ h => h) (Or.inl ⟨by rfl, ?_⟩) hHeld ?_
            · (intro w' hSw; kernel_rfl)
            simp only [Act.put, List.setIfInBounds_toArray, List.set_cons_zero, List.set_cons_succ]
            refine hand_to (i := 3) (d := 83) (v := .agg (gvC oneF).toArray) rfl rfl (by kernel_rfl) (by kernel_rfl) (by kernel_rfl) (fun _ _ _ h => h) (yieldsIf_load_mid (by rfl) 26 (.tmp 12) rfl ga 0 rfl (gvC oneF) _ (fun w hw => hw.range) Tryz.underlying26 rfl sizeV) hHeld ?_
            simp only [Act.put, List.setIfInBounds_toArray, List.set_cons_zero, List.set_cons_succ]
            refine hand_to (i := 4) (d := 84) (v := (.int .i64 0)) rfl rfl (by kernel_rfl) (by kernel_rfl) (by kernel_rfl) (fun _ _ _ h => h) (Or.inl ⟨by rfl, ?_⟩) hHeld ?_
            · (intro w' hSw; kernel_rfl)
            simp only [Act.put, List.setIfInBounds_toArray, List.set_cons_zero, List.set_cons_succ]
            refine wpAnyH_ready (rs := [5]) (by kernel_rfl) (by simp) ?_
            refine AllReadyH.cons rfl (fun K hK => ?_) AllReadyH.nil
            rw [if_pos (by rfl)]
            refine op_call (some 85) rfl 24 #[.int .i64 0] (by kernel_rfl) (of_false _) ?_
            rintro e w6 ⟨rfl, hb⟩
            refine ⟨_, rfl, ?_⟩
            have HG6 := hide ((unhide HGd).below hb)
            have HB6 := hide (trX (unhide HBd) hb)
            clear hb
            refine hK.out _ _ (unhide HG6) (fun hHeld2 => ?_)
            clear hK K hHeld
            have hHeld := hHeld2
            clear hHeld2
            try simp only [Act.put, List.setIfInBounds_toArray, List.set_cons_zero, List.set_cons_succ]
            refine hand_to (i := 6) (d := 86) (v := (.bool true)) rfl rfl (by kernel_rfl) (by kernel_rfl) (by kernel_rfl) (fun _ _ _ h => h) (Or.inl ⟨by rfl, ?_⟩) hHeld ?_
            · (intro w' hSw; kernel_rfl)
            simp only [Act.put, List.setIfInBounds_toArray, List.set_cons_zero, List.set_cons_succ]
            refine hand_to (i := 7) (d := 87) (v := (.bool true)) rfl rfl (by kernel_rfl) (by kernel_rfl) (by kernel_rfl) (fun _ _ _ h => h) (Or.inl ⟨by rfl, ?_⟩) hHeld ?_
            · (intro w' hSw; kernel_rfl)
            simp only [Act.put, List.setIfInBounds_toArray, List.set_cons_zero, List.set_cons_succ]
            refine hand_to (i := 8) (d := 6) (v := (.bool true)) rfl rfl (by kernel_rfl) (by kernel_rfl) (by kernel_rfl) (fun _ _ _ h => h) (Or.inl ⟨by rfl, ?_⟩) hHeld ?_
            · (intro w' hSw; kernel_rfl)
            simp only [Act.put, List.setIfInBounds_toArray, List.set_cons_zero, List.set_cons_succ]
            refine wpAnyH_done (by kernel_rfl) ?_ _
            go_wp2_with fail
            go_ret
            exact ⟨rfl, unhide HB6⟩
        · skip
          as_aux_lemma =>
            have hw : wantS 0 2 false = (oneF, 0) := by kernel_rfl
            rw [hw] at HGa ⊢
            clear hw
            go_upto_region 21 with fail
            have HGd := hide ((unhide HGa).below (Below.refl _ _).drew)
            have HBd := hide (trX (unhide HB) (Below.refl _ _).drew)
            refine wp_region_held_drew (S := fun w' => VV w' ga oneF) (by kernel_rfl) (unhide HGd) (fun hHeld => ?_)
            refine hand_to (i := 0) (d := 80) (v := .nilIface) rfl rfl (by kernel_rfl) (by kernel_rfl) (by kernel_rfl) (fun _ _ _ h => h) (Or.inl ⟨by rfl, ?_⟩) hHeld ?_
            · (intro w' hSw; kernel_rfl)
            simp only [Act.put, List.setIfInBounds_toArray, List.set_cons_zero, List.set_cons_succ]
            refine hand_to (i := 1) (d := 81) (v := (.bool true)) rfl rfl (by kernel_rfl) (by kernel_rfl) (by kernel_rfl) (fun _ _ _ h => h) (Or.inl ⟨by rfl, ?_⟩) hHeld ?_
            · (intro w' hSw; kernel_rfl)
            simp only [Act.put, List.setIfInBounds_toArray, List.set_cons_zero, List.set_cons_succ]
            refine hand_to (i := 2) (d := 82) (v := (.bool true)) rfl rfl (by kernel_rfl) (by kernel_rfl) (by kernel_rfl) (fun _ _ _ h => h) (Or.inl ⟨by rfl, ?_⟩) hHeld ?_
            · (intro w' hSw; kernel_rfl)
            simp only [Act.put, List.setIfInBounds_toArray, List.set_cons_zero, List.set_cons_succ]
            refine hand_to (i := 3) (d := 83) (v := .agg (gvC oneF).toArray) rfl rfl (by kernel_rfl) (by kernel_rfl) (by kernel_rfl) (fun _ _ _ h => h) (yieldsIf_load_mid (by rfl) 26 (.tmp 12) rfl ga 0 rfl (gvC oneF) _ (fun w hw => hw.range) Tryz.underlying26 rfl sizeV) hHeld ?_
            simp only [Act.put, List.setIfInBounds_toArray, List.set_cons_zero, List.set_cons_succ]
            refine hand_to (i := 4) (d := 84) (v := (.int .i64 0)) rfl rfl (by kernel_rfl) (by kernel_rfl) (by kernel_rfl) (fun _ _ _ h => h) (Or.inl ⟨by rfl, ?_⟩) hHeld ?_
            · (intro w' hSw; kernel_rfl)
            simp only [Act.put, List.setIfInBounds_toArray, List.set_cons_zero, List.set_cons_succ]
            refine wpAnyH_ready (rs := [5]) (by kernel_rfl) (by simp) ?_
            refine AllReadyH.cons rfl (fun K hK => ?_) AllReadyH.nil
            rw [if_pos (by rfl)]
            refine op_call (some 85) rfl 24 #[.int .i64 0] (by kernel_rfl) (of_false _) ?_
            rintro e w6 ⟨rfl, hb⟩
            refine ⟨_, rfl, ?_⟩
            have HG6 := hide ((unhide HGd).below hb)
            have HB6 := hide (trX (unhide HBd) hb)
            clear hb
            refine hK.out _ _ (unhide HG6) (fun hHeld2 => ?_)
            clear hK K hHeld
            have hHeld := hHeld2
            clear hHeld2
            try simp only [Act.put, List.setIfInBounds_toArray, List.set_cons_zero, List.set_cons_succ]
            refine hand_to (i := 6) (d := 86) (v := (.bool true)) rfl rfl (by kernel_rfl) (by kernel_rfl) (by kernel_rfl) (fun _ _ _ h => h) (Or.inl ⟨by rfl, ?_⟩) hHeld ?_
            · (intro w' hSw; kernel_rfl)
            simp only [Act.put, List.setIfInBounds_toArray, List.set_cons_zero, List.set_cons_succ]
            refine hand_to (i := 7) (d := 87) (v := (.bool true)) rfl rfl (by kernel_rfl) (by kernel_rfl) (by kernel_rfl) (fun _ _ _ h => h) (Or.inl ⟨by rfl, ?_⟩) hHeld ?_
            · (intro w' hSw; kernel_rfl)
            simp only [Act.put, List.setIfInBounds_toArray, List.set_cons_zero, List.set_cons_succ]
            refine hand_to (i := 8) (d := 6) (v := (.bool true)) rfl rfl (by kernel_rfl) (by kernel_rfl) (by kernel_rfl) (fun _ _ _ h => h) (Or.inl ⟨by rfl, ?_⟩) hHeld ?_
            · (intro w' hSw; kernel_rfl)
            simp only [Act.put, List.setIfInBounds_toArray, List.set_cons_zero, List.set_cons_succ]
            refine wpAnyH_done (by kernel_rfl) ?_ _
            go_wp2_with fail
            go_ret
            exact ⟨rfl, unhide HB6⟩
        · skip
          as_aux_lemma =>
            have hw : wantS 0 3 false = (oneF, 0) := by kernel_rfl
            rw [hw] at HGa ⊢
            clear hw
            go_upto_region 21 with fail
            have HGd := hide ((unhide HGa).below (Below.refl _ _).drew)
            have HBd := hide (trX (unhide HB) (Below.refl _ _).drew)
            refine wp_region_held_drew (S := fun w' => VV w' ga oneF) (by kernel_rfl) (unhide HGd) (fun hHeld => ?_)
            refine hand_to (i := 0) (d := 80) (v := .nilIface) rfl rfl (by kernel_rfl) (by kernel_rfl) (by kernel_rfl) (fun _ _ _ h => h) (Or.inl ⟨by rfl, ?_⟩) hHeld ?_
            · (intro w' hSw; kernel_rfl)
            simp only [Act.put, List.setIfInBounds_toArray, List.set_cons_zero, List.set_cons_succ]
            refine hand_to (i := 1) (d := 81) (v := (.bool true)) rfl rfl (by kernel_rfl) (by kernel_rfl) (by kernel_rfl) (fun _ _ _ h => h) (Or.inl ⟨by rfl, ?_⟩) hHeld ?_
            · (intro w' hSw; kernel_rfl)
            simp only [Act.put, List.setIfInBounds_toArray, List.set_cons_zero, List.set_cons_succ]
            refine hand_to (i := 2) (d := 82) (v := (.bool true)) rfl rfl (by kernel_rfl) (by kernel_rfl) (by kernel_rfl) (fun _ _ _ h => h) (Or.inl ⟨by rfl, ?_⟩) hHeld ?_
            · (intro w' hSw; kernel_rfl)
            simp only [Act.put, List.setIfInBounds_toArray, List.set_cons_zero, List.set_cons_succ]
            refine hand_to (i := 3) (d := 83) (v := .agg (gvC oneF).toArray) rfl rfl (by kernel_rfl) (by kernel_rfl) (by kernel_rfl) (fun _ _ _ h => h) (yieldsIf_load_mid (by rfl) 26 (.tmp 12) rfl ga 0 rfl (gvC oneF) _ (fun w hw => hw.range) Tryz.underlying26 rfl sizeV) hHeld ?_
            simp only [Act.put, List.setIfInBounds_toArray, List.set_cons_zero, List.set_cons_succ]
            refine hand_to (i := 4) (d := 84) (v := (.int .i64 0)) rfl rfl (by kernel_rfl) (by kernel_rfl) (by kernel_rfl) (fun _ _ _ h => h) (Or.inl ⟨by rfl, ?_⟩) hHeld ?_
            · (intro w' hSw; kernel_rfl)
            simp only [Act.put, List.setIfInBounds_toArray, List.set_cons_zero, List.set_cons_succ]
            refine wpAnyH_ready (rs := [5]) (by kernel_rfl) (by simp) ?_
            refine AllReadyH.cons rfl (fun K hK => ?_) AllReadyH.nil
            rw [if_pos (by rfl)]
            refine op_call (some 85) rfl 24 #[.int .i64 0] (by kernel_rfl) (of_false _) ?_
            rintro e w6 ⟨rfl, hb⟩
            refine ⟨_, rfl, ?_⟩
            have HG6 := hide ((unhide HGd).below hb)
            have HB6 := hide (trX (unhide HBd) hb)
            clear hb
            refine hK.out _ _ (unhide HG6) (fun hHeld2 => ?_)
            clear hK K hHeld
            have hHeld := hHeld2
            clear hHeld2
            try simp only [Act.put, List.setIfInBounds_toArray, List.set_cons_zero, List.set_cons_succ]
            refine hand_to (i := 6) (d := 86) (v := (.bool true)) rfl rfl (by kernel_rfl) (by kernel_rfl) (by kernel_rfl) (fun _ _ _ h => h) (Or.inl ⟨by rfl, ?_⟩) hHeld ?_
            · (intro w' hSw; kernel_rfl)
            simp only [Act.put, List.setIfInBounds_toArray, List.set_cons_zero, List.set_cons_succ]
            refine hand_to (i := 7) (d := 87) (v := (.bool true)) rfl rfl (by kernel_rfl) (by kernel_rfl) (by kernel_rfl) (fun _ _ _ h => h) (Or.inl ⟨by rfl, ?_⟩) hHeld ?_
            · (intro w' hSw; kernel_rfl)
            simp only [Act.put, List.setIfInBounds_toArray, List.set_cons_zero, List.set_cons_succ]
            refine hand_to (i := 8) (d := 6) (v := (.bool true)) rfl rfl (by kernel_rfl) (by kernel_rfl) (by kernel_rfl) (fun _ _ _ h => h) (Or.inl ⟨by rfl, ?_⟩) hHeld ?_
            · (intro w' hSw; kernel_rfl)
            simp only [Act.put, List.setIfInBounds_toArray, List.set_cons_zero, List.set_cons_succ]
            refine wpAnyH_done (by kernel_rfl) ?_ _
            go_wp2_with fail
            go_ret
            exact ⟨rfl, unhide HB6⟩
      · rcases unhide HY with rfl | rfl | rfl | rfl
        · skip
          as_aux_lemma =>
            have hw : wantS 1 0 false = (oneF, 0) := by kernel_rfl
            rw [hw] at HGa ⊢
            clear hw
            go_upto_region 21 with fail
            have HGd := hide ((unhide HGa).below (Below.refl _ _).drew)
            have HBd := hide (trX (unhide HB) (Below.refl _ _).drew)
            refine wp_region_held_drew (S := fun w' => VV w' ga oneF) (by kernel_rfl) (unhide HGd) (fun hHeld => ?_)
            refine hand_to (i := 0) (d := 80) (v := .nilIface) rfl rfl (by kernel_rfl) (by kernel_rfl) (by kernel_rfl) (fun _ _ _ h => h) (Or.inl ⟨by rfl, ?_⟩) hHeld ?_
            · (intro w' hSw; kernel_rfl)
            simp only [Act.put, List.setIfInBounds_toArray, List.set_cons_zero, List.set_cons_succ]
            refine hand_to (i := 1) (d := 81) (v := (.bool true)) rfl rfl (by kernel_rfl) (by kernel_rfl) (by kernel_rfl) (fun _ _ _ h => h) (Or.inl ⟨by rfl, ?_⟩) hHeld ?_
            · (intro w' hSw; kernel_rfl)
            simp only [Act.put, List.setIfInBounds_toArray, List.set_cons_zero, List.set_cons_succ]
            refine hand_to (i := 2) (d := 82) (v := (.bool true)) rfl rfl (by kernel_rfl) (by kernel_rfl) (by kernel_rfl) (fun _ _ _ h => h) (Or.inl ⟨by rfl, ?_⟩) hHeld ?_
            · (intro w' hSw; kernel_rfl)
            simp only [Act.put, List.setIfInBounds_toArray, List.set_cons_zero, List.set_cons_succ]
            refine hand_to (i := 3) (d := 83) (v := .agg (gvC oneF).toArray) rfl rfl (by kernel_rfl) (by kernel_rfl) (by kernel_rfl) (fun _ _ _ h => h) (yieldsIf_load_mid (by rfl) 26 (.tmp 12) rfl ga 0 rfl (gvC oneF) _ (fun w hw => hw.range) Tryz.underlying26 rfl sizeV) hHeld ?_
            simp only [Act.put, List.setIfInBounds_toArray, List.set_cons_zero, List.set_cons_succ]
            refine hand_to (i := 4) (d := 84) (v := (.int .i64 0)) rfl rfl (by kernel_rfl) (by kernel_rfl) (by kernel_rfl) (fun _ _ _ h => h) (Or.inl ⟨by rfl, ?_⟩) hHeld ?_
            · (intro w' hSw; kernel_rfl)
            simp only [Act.put, List.setIfInBounds_toArray, List.set_cons_zero, List.set_cons_succ]
            refine wpAnyH_ready (rs := [5]) (by kernel_rfl) (by simp) ?_
            refine AllReadyH.cons rfl (fun K hK => ?_) AllReadyH.nil
            rw [if_pos (by rfl)]
            refine op_call (some 85) rfl 24 #[.int .i64 0] (by kernel_rfl) (of_false _) ?_
            rintro e w6 ⟨rfl, hb⟩
            refine ⟨_, rfl, ?_⟩
            have HG6 := hide ((unhide HGd).below hb)
            have HB6 := hide (trX (unhide HBd) hb)
            clear hb
            refine hK.out _ _ (unhide HG6) (fun hHeld2 => ?_)
            clear hK K hHeld
            have hHeld := hHeld2
            clear hHeld2
            try simp only [Act.put, List.setIfInBounds_toArray, List.set_cons_zero, List.set_cons_succ]
            refine hand_to (i := 6) (d := 86) (v := (.bool true)) rfl rfl (by kernel_rfl) (by kernel_rfl) (by kernel_rfl) (fun _ _ _ h => h) (Or.inl ⟨by rfl, ?_⟩) hHeld ?_
            · (intro w' hSw; kernel_rfl)
            simp only [Act.put, List.setIfInBounds_toArray, List.set_cons_zero, List.set_cons_succ]
            refine hand_to (i := 7) (d := 87) (v := (.bool true)) rfl rfl (by kernel_rfl) (by kernel_rfl) (by kernel_rfl) (fun _ _ _ h => h) (Or.inl ⟨by rfl, ?_⟩) hHeld ?_
            · (intro w' hSw; kernel_rfl)
            simp only [Act.put, List.setIfInBounds_toArray, List.set_cons_zero, List.set_cons_succ]
            refine hand_to (i := 8) (d := 6) (v := (.bool true)) rfl rfl (by kernel_rfl) (by kernel_rfl) (by kernel_rfl) (fun _ _ _ h => h) (Or.inl ⟨by rfl, ?_⟩) hHeld ?_
            · (intro w' hSw; kernel_rfl)
            simp only [Act.put, List.setIfInBounds_toArray, List.set_cons_zero, List.set_cons_succ]
            refine wpAnyH_done (by kernel_rfl) ?_ _
            go_wp2_with fail
            go_ret
            exact ⟨rfl, unhide HB6⟩
        · skip
          as_aux_lemma =>
            have hw : wantS 1 1 false = (oneT, 0) := by kernel_rfl
            rw [hw] at HGa ⊢
            clear hw
            go_upto_region 21 with fail
            have HGd := hide ((unhide HGa).below (Below.refl _ _).drew)
            have HBd := hide (trX (unhide HB) (Below.refl _ _).drew)
            refine wp_region_held_drew (S := fun w' => VV w' ga oneT) (by kernel_rfl) (unhide HGd) (fun hHeld => ?_)
            refine hand_to (i := 0) (d := 80) (v := .nilIface) rfl rfl (by kernel_rfl) (by kernel_rfl) (by kernel_rfl) (fun _ _ _ h => h) (Or.inl ⟨by rfl, ?_⟩) hHeld ?_
            · (intro w' hSw; kernel_rfl)
            simp only [Act.put, List.setIfInBounds_toArray, List.set_cons_zero, List.set_cons_succ]
            refine hand_to (i := 1) (d := 81) (v := (.bool true)) rfl rfl (by kernel_rfl) (by kernel_rfl) (by kernel_rfl) (fun _ _ _ h => h) (Or.inl ⟨by rfl, ?_⟩) hHeld ?_
            · (intro w' hSw; kernel_rfl)
            simp only [Act.put, List.setIfInBounds_toArray, List.set_cons_zero, List.set_cons_succ]
            refine hand_to (i := 2) (d := 82) (v := (.bool true)) rfl rfl (by kernel_rfl) (by kernel_rfl) (by kernel_rfl) (fun _ _ _ h => h) (Or.inl ⟨by rfl, ?_⟩) hHeld ?_
            · (intro w' hSw; kernel_rfl)
            simp only [Act.put, List.setIfInBounds_toArray, List.set_cons_zero, List.set_cons_succ]
            refine hand_to (i := 3) (d := 83) (v := .agg (gvC oneT).toArray) rfl rfl (by kernel_rfl) (by kernel_rfl) (by kernel_rfl) (fun _ _ _ h => h) (yieldsIf_load_mid (by rfl) 26 (.tmp 12) rfl ga 0 rfl (gvC oneT) _ (fun w hw => hw.range) Tryz.underlying26 rfl sizeV) hHeld ?_
            simp only [Act.put, List.setIfInBounds_toArray, List.set_cons_zero, List.set_cons_succ]
            refine hand_to (i := 4) (d := 84) (v := (.int .i64 1)) rfl rfl (by kernel_rfl) (by kernel_rfl) (by kernel_rfl) (fun _ _ _ h => h) (Or.inl ⟨by rfl, ?_⟩) hHeld ?_
            · (intro w' hSw; kernel_rfl)
            simp only [Act.put, List.setIfInBounds_toArray, List.set_cons_zero, List.set_cons_succ]
            refine wpAnyH_ready (rs := [5]) (by kernel_rfl) (by simp) ?_
            refine AllReadyH.cons rfl (fun K hK => ?_) AllReadyH.nil
            rw [if_pos (by rfl)]
            refine op_call (some 85) rfl 24 #[.int .i64 1] (by kernel_rfl) (of_one _) ?_
            rintro e w6 ⟨rfl, hb⟩
            refine ⟨_, rfl, ?_⟩
            have HG6 := hide ((unhide HGd).below hb)
            have HB6 := hide (trX (unhide HBd) hb)
            clear hb
            refine hK.out _ _ (unhide HG6) (fun hHeld2 => ?_)
            clear hK K hHeld
            have hHeld := hHeld2
            clear hHeld2
            try simp only [Act.put, List.setIfInBounds_toArray, List.set_cons_zero, List.set_cons_succ]
            refine hand_to (i := 6) (d := 86) (v := (.bool true)) rfl rfl (by kernel_rfl) (by kernel_rfl) (by kernel_rfl) (fun _ _ _ h => h) (Or.inl ⟨by rfl, ?_⟩) hHeld ?_
            · (intro w' hSw; kernel_rfl)
            simp only [Act.put, List.setIfInBounds_toArray, List.set_cons_zero, List.set_cons_succ]
            refine hand_to (i := 7) (d := 87) (v := (.bool true)) rfl rfl (by kernel_rfl) (by kernel_rfl) (by kernel_rfl) (fun _ _ _ h => h) (Or.inl ⟨by rfl, ?_⟩) hHeld ?_
            · (intro w' hSw; kernel_rfl)
            simp only [Act.put, List.setIfInBounds_toArray, List.set_cons_zero, List.set_cons_succ]
            refine hand_to (i := 8) (d := 6) (v := (.bool true)) rfl rfl (by kernel_rfl) (by kernel_rfl) (by kernel_rfl) (fun _ _ _ h => h) (Or.inl ⟨by rfl, ?_⟩) hHeld ?_
            · (intro w' hSw; kernel_rfl)
            simp only [Act.put, List.setIfInBounds_toArray, List.set_cons_zero, List.set_cons_succ]
            refine wpAnyH_done (by kernel_rfl) ?_ _
            go_wp2_with fail
            go_ret
            exact ⟨rfl, unhide HB6⟩
        · skip
          as_aux_lemma =>
            have hw : wantS 1 2 false = (nullG, 0) := by kernel_rfl
            rw [hw] at HGa ⊢
            clear hw
            go_upto_region 21 with fail
            have HGd := hide ((unhide HGa).below (Below.refl _ _).drew)
            have HBd := hide (trX (unhide HB) (Below.refl _ _).drew)
            refine wp_region_held_drew (S := fun w' => VV w' ga nullG) (by kernel_rfl) (unhide HGd) (fun hHeld => ?_)
            refine hand_to (i := 0) (d := 80) (v := .nilIface) rfl rfl (by kernel_rfl) (by kernel_rfl) (by kernel_rfl) (fun _ _ _ h => h) (Or.inl ⟨by rfl, ?_⟩) hHeld ?_
            · (intro w' hSw; kernel_rfl)
            simp only [Act.put, List.setIfInBounds_toArray, List.set_cons_zero, List.set_cons_succ]
            refine hand_to (i := 1) (d := 81) (v := (.bool true)) rfl rfl (by kernel_rfl) (by kernel_rfl) (by kernel_rfl) (fun _ _ _ h => h) (Or.inl ⟨by rfl, ?_⟩) hHeld ?_
            · (intro w' hSw; kernel_rfl)
            simp only [Act.put, List.setIfInBounds_toArray, List.set_cons_zero, List.set_cons_succ]
            refine hand_to (i := 2) (d := 82) (v := (.bool true)) rfl rfl (by kernel_rfl) (by kernel_rfl) (by kernel_rfl) (fun _ _ _ h => h) (Or.inl ⟨by rfl, ?_⟩) hHeld ?_
            · (intro w' hSw; kernel_rfl)
            simp only [Act.put, List.setIfInBounds_toArray, List.set_cons_zero, List.set_cons_succ]
            refine hand_to (i := 3) (d := 83) (v := .agg (gvC nullG).toArray) rfl rfl (by kernel_rfl) (by kernel_rfl) (by kernel_rfl) (fun _ _ _ h => h) (yieldsIf_load_mid (by rfl) 26 (.tmp 12) rfl ga 0 rfl (gvC nullG) _ (fun w hw => hw.range) Tryz.underlying26 rfl sizeV) hHeld ?_
            simp only [Act.put, List.setIfInBounds_toArray, List.set_cons_zero, List.set_cons_succ]
            refine hand_to (i := 4) (d := 84) (v := (.int .i64 2)) rfl rfl (by kernel_rfl) (by kernel_rfl) (by kernel_rfl) (fun _ _ _ h => h) (Or.inl ⟨by rfl, ?_⟩) hHeld ?_
            · (intro w' hSw; kernel_rfl)
            simp only [Act.put, List.setIfInBounds_toArray, List.set_cons_zero, List.set_cons_succ]
            refine wpAnyH_ready (rs := [5]) (by kernel_rfl) (by simp) ?_
            refine AllReadyH.cons rfl (fun K hK => ?_) AllReadyH.nil
            rw [if_pos (by rfl)]
            refine op_call (some 85) rfl 24 #[.int .i64 2] (by kernel_rfl) (of_two _) ?_
            rintro e w6 ⟨rfl, hb⟩
            refine ⟨_, rfl, ?_⟩
            have HG6 := hide ((unhide HGd).below hb)
            have HB6 := hide (trX (unhide HBd) hb)
            clear hb
            refine hK.out _ _ (unhide HG6) (fun hHeld2 => ?_)
            clear hK K hHeld
            have hHeld := hHeld2
            clear hHeld2
            try simp only [Act.put, List.setIfInBounds_toArray, List.set_cons_zero, List.set_cons_succ]
            refine hand_to (i := 6) (d := 86) (v := (.bool true)) rfl rfl (by kernel_rfl) (by kernel_rfl) (by kernel_rfl) (fun _ _ _ h => h) (Or.inl ⟨by rfl, ?_⟩) hHeld ?_
            · (intro w' hSw; kernel_rfl)
            simp only [Act.put, List.setIfInBounds_toArray, List.set_cons_zero, List.set_cons_succ]
            refine hand_to (i := 7) (d := 87) (v := (.bool true)) rfl rfl (by kernel_rfl) (by kernel_rfl) (by kernel_rfl) (fun _ _ _ h => h) (Or.inl ⟨by rfl, ?_⟩) hHeld ?_
            · (intro w' hSw; kernel_rfl)
            simp only [Act.put, List.setIfInBounds_toArray, List.set_cons_zero, List.set_cons_succ]
            refine hand_to (i := 8) (d := 6) (v := (.bool true)) rfl rfl (by kernel_rfl) (by kernel_rfl) (by kernel_rfl) (fun _ _ _ h => h) (Or.inl ⟨by rfl, ?_⟩) hHeld ?_
            · (intro w' hSw; kernel_rfl)
            simp only [Act.put, List.setIfInBounds_toArray, List.set_cons_zero, List.set_cons_succ]
            refine wpAnyH_done (by kernel_rfl) ?_ _
            go_wp2_with fail
            go_ret
            exact ⟨rfl, unhide HB6⟩
        · skip
          as_aux_lemma =>
            have hw : wantS 1 3 false = (nullG, 7) := by kernel_rfl
            rw [hw] at HGa ⊢
            clear hw
            go_upto_region 15 with fail
            refine wp_region_list ?_
            refine list_to (d := 55) (v := .iface 102 (.int .i64 7)) rfl rfl (by kernel_rfl) ?_
            simp only [Act.put, List.setIfInBounds_toArray, List.set_cons_zero, List.set_cons_succ]
            refine list_call rfl (some 56) rfl 14 #[.iface 102 (.int .i64 7)] (by kernel_rfl) (class_g 7 w5 (unhide HEr w5 (unhide HB))) ?_
            rintro e w6 ⟨rfl, hb⟩
            refine ⟨_, rfl, ?_⟩
            simp only [Act.put, List.setIfInBounds_toArray, List.set_cons_zero, List.set_cons_succ]
            have HB := hide (trX (unhide HB) hb)
            have HGa := hide ((unhide HGa).below hb)
            clear hb
            refine list_to (d := 57) (v := .bool true) rfl rfl (by kernel_rfl) ?_
            simp only [Act.put, List.setIfInBounds_toArray, List.set_cons_zero, List.set_cons_succ]
            refine list_to (d := 58) (v := .bool true) rfl rfl (by kernel_rfl) ?_
            simp only [Act.put, List.setIfInBounds_toArray, List.set_cons_zero, List.set_cons_succ]
            refine list_wload (d := 59) rfl (by kernel_rfl) 26 (.tmp 12) rfl ga 0 rfl (gvC nullG) _ (unhide HGa).range Tryz.underlying26 rfl sizeV ?_
            simp only [Act.put, List.setIfInBounds_toArray, List.set_cons_zero, List.set_cons_succ]
            refine list_want (d := 60) (v := .agg (gvC nullG).toArray) rfl (by kernel_rfl) (by kernel_rfl) ?_
            simp only [Act.put, List.setIfInBounds_toArray, List.set_cons_zero, List.set_cons_succ]
            refine list_want (d := 61) (v := .bool true) rfl (by kernel_rfl) (by kernel_rfl) ?_
            simp only [Act.put, List.setIfInBounds_toArray, List.set_cons_zero, List.set_cons_succ]
            refine list_to (d := 62) (v := .bool true) rfl rfl (by kernel_rfl) ?_
            simp only [Act.put, List.setIfInBounds_toArray, List.set_cons_zero, List.set_cons_succ]
            refine list_to (d := 6) (v := .bool true) rfl rfl (by kernel_rfl) ?_
            simp only [Act.put, List.setIfInBounds_toArray, List.set_cons_zero, List.set_cons_succ]
            go_wp2_with fail
            go_ret
            exact ⟨rfl, unhide HB⟩
      · rcases unhide HY with rfl | rfl | rfl | rfl
        · skip
          as_aux_lemma =>
            have hw : wantS 2 0 false = (oneF, 0) := by kernel_rfl
            rw [hw] at HGa ⊢
            clear hw
            go_upto_region 21 with fail
            have HGd := hide ((unhide HGa).below (Below.refl _ _).drew)
            have HBd := hide (trX (unhide HB) (Below.refl _ _).drew)
            refine wp_region_held_drew (S := fun w' => VV w' ga oneF) (by kernel_rfl) (unhide HGd) (fun hHeld => ?_)
            refine hand_to (i := 0) (d := 80) (v := .nilIface) rfl rfl (by kernel_rfl) (by kernel_rfl) (by kernel_rfl) (fun _ _ _ h => h) (Or.inl ⟨by rfl, ?_⟩) hHeld ?_
            · (intro w' hSw; kernel_rfl)
            simp only [Act.put, List.setIfInBounds_toArray, List.set_cons_zero, List.set_cons_succ]
            refine hand_to (i := 1) (d := 81) (v := (.bool true)) rfl rfl (by kernel_rfl) (by kernel_rfl) (by kernel_rfl) (fun _ _ _ h => h) (Or.inl ⟨by rfl, ?_⟩) hHeld ?_
            · (intro w' hSw; kernel_rfl)
            simp only [Act.put, List.setIfInBounds_toArray, List.set_cons_zero, List.set_cons_succ]
            refine hand_to (i := 2) (d := 82) (v := (.bool true)) rfl rfl (by kernel_rfl) (by kernel_rfl) (by kernel_rfl) (fun _ _ _ h => h) (Or.inl ⟨by rfl, ?_⟩) hHeld ?_
            · (intro w' hSw; kernel_rfl)
            simp only [Act.put, List.setIfInBounds_toArray, List.set_cons_zero, List.set_cons_succ]
            refine hand_to (i := 3) (d := 83) (v := .agg (gvC oneF).toArray) rfl rfl (by kernel_rfl) (by kernel_rfl) (by kernel_rfl) (fun _ _ _ h => h) (yieldsIf_load_mid (by rfl) 26 (.tmp 12) rfl ga 0 rfl (gvC oneF) _ (fun w hw => hw.range) Tryz.underlying26 rfl sizeV) hHeld ?_
            simp only [Act.put, List.setIfInBounds_toArray, List.set_cons_zero, List.set_cons_succ]
            refine hand_to (i := 4) (d := 84) (v := (.int .i64 0)) rfl rfl (by kernel_rfl) (by kernel_rfl) (by kernel_rfl) (fun _ _ _ h => h) (Or.inl ⟨by rfl, ?_⟩) hHeld ?_
            · (intro w' hSw; kernel_rfl)
            simp only [Act.put, List.setIfInBounds_toArray, List.set_cons_zero, List.set_cons_succ]
            refine wpAnyH_ready (rs := [5]) (by kernel_rfl) (by simp) ?_
            refine AllReadyH.cons rfl (fun K hK => ?_) AllReadyH.nil
            rw [if_pos (by rfl)]
            refine op_call (some 85) rfl 24 #[.int .i64 0] (by kernel_rfl) (of_false _) ?_
            rintro e w6 ⟨rfl, hb⟩
            refine ⟨_, rfl, ?_⟩
            have HG6 := hide ((unhide HGd).below hb)
            have HB6 := hide (trX (unhide HBd) hb)
            clear hb
            refine hK.out _ _ (unhide HG6) (fun hHeld2 => ?_)
            clear hK K hHeld
            have hHeld := hHeld2
            clear hHeld2
            try simp only [Act.put, List.setIfInBounds_toArray, List.set_cons_zero, List.set_cons_succ]
            refine hand_to (i := 6) (d := 86) (v := (.bool true)) rfl rfl (by kernel_rfl) (by kernel_rfl) (by kernel_rfl) (fun _ _ _ h => h) (Or.inl ⟨by rfl, ?_⟩) hHeld ?_
            · (intro w' hSw; kernel_rfl)
            simp only [Act.put, List.setIfInBounds_toArray, List.set_cons_zero, List.set_cons_succ]
            refine hand_to (i := 7) (d := 87) (v := (.bool true)) rfl rfl (by kernel_rfl) (by kernel_rfl) (by kernel_rfl) (fun _ _ _ h => h) (Or.inl ⟨by rfl, ?_⟩) hHeld ?_
            · (intro w' hSw; kernel_rfl)
            simp only [Act.put, List.setIfInBounds_toArray, List.set_cons_zero, List.set_cons_succ]
            refine hand_to (i := 8) (d := 6) (v := (.bool true)) rfl rfl (by kernel_rfl) (by kernel_rfl) (by kernel_rfl) (fun _ _ _ h => h) (Or.inl ⟨by rfl, ?_⟩) hHeld ?_
            · (intro w' hSw; kernel_rfl)
            simp only [Act.put, List.setIfInBounds_toArray, List.set_cons_zero, List.set_cons_succ]
            refine wpAnyH_done (by kernel_rfl) ?_ _
            go_wp2_with fail
            go_ret
            exact ⟨rfl, unhide HB6⟩
        · skip
          as_aux_lemma =>
            have hw : wantS 2 1 false = (nullG, 0) := by kernel_rfl
            rw [hw] at HGa ⊢
            clear hw
            go_upto_region 21 with fail
            have HGd := hide ((unhide HGa).below (Below.refl _ _).drew)
            have HBd := hide (trX (unhide HB) (Below.refl _ _).drew)
            refine wp_region_held_drew (S := fun w' => VV w' ga nullG) (by kernel_rfl) (unhide HGd) (fun hHeld => ?_)
            refine hand_to (i := 0) (d := 80) (v := .nilIface) rfl rfl (by kernel_rfl) (by kernel_rfl) (by kernel_rfl) (fun _ _ _ h => h) (Or.inl ⟨by rfl, ?_⟩) hHeld ?_
            · (intro w' hSw; kernel_rfl)
            simp only [Act.put, List.setIfInBounds_toArray, List.set_cons_zero, List.set_cons_succ]
            refine hand_to (i := 1) (d := 81) (v := (.bool true)) rfl rfl (by kernel_rfl) (by kernel_rfl) (by kernel_rfl) (fun _ _ _ h => h) (Or.inl ⟨by rfl, ?_⟩) hHeld ?_
            · (intro w' hSw; kernel_rfl)
            simp only [Act.put, List.setIfInBounds_toArray, List.set_cons_zero, List.set_cons_succ]
            refine hand_to (i := 2) (d := 82) (v := (.bool true)) rfl rfl (by kernel_rfl) (by kernel_rfl) (by kernel_rfl) (fun _ _ _ h => h) (Or.inl ⟨by rfl, ?_⟩) hHeld ?_
            · (intro w' hSw; kernel_rfl)
            simp only [Act.put, List.setIfInBounds_toArray, List.set_cons_zero, List.set_cons_succ]
            refine hand_to (i := 3) (d := 83) (v := .agg (gvC nullG).toArray) rfl rfl (by kernel_rfl) (by kernel_rfl) (by kernel_rfl) (fun _ _ _ h => h) (yieldsIf_load_mid (by rfl) 26 (.tmp 12) rfl ga 0 rfl (gvC nullG) _ (fun w hw => hw.range) Tryz.underlying26 rfl sizeV) hHeld ?_
            simp only [Act.put, List.setIfInBounds_toArray, List.set_cons_zero, List.set_cons_succ]
            refine hand_to (i := 4) (d := 84) (v := (.int .i64 2)) rfl rfl (by kernel_rfl) (by kernel_rfl) (by kernel_rfl) (fun _ _ _ h => h) (Or.inl ⟨by rfl, ?_⟩) hHeld ?_
            · (intro w' hSw; kernel_rfl)
            simp only [Act.put, List.setIfInBounds_toArray, List.set_cons_zero, List.set_cons_succ]
            refine wpAnyH_ready (rs := [5]) (by kernel_rfl) (by simp) ?_
            refine AllReadyH.cons rfl (fun K hK => ?_) AllReadyH.nil
            rw [if_pos (by rfl)]
            refine op_call (some 85) rfl 24 #[.int .i64 2] (by kernel_rfl) (of_two _) ?_
            rintro e w6 ⟨rfl, hb⟩
            refine ⟨_, rfl, ?_⟩
            have HG6 := hide ((unhide HGd).below hb)
            have HB6 := hide (trX (unhide HBd) hb)
            clear hb
            refine hK.out _ _ (unhide HG6) (fun hHeld2 => ?_)
            clear hK K hHeld
            have hHeld := hHeld2
            clear hHeld2
            try simp only [Act.put, List.setIfInBounds_toArray, List.set_cons_zero, List.set_cons_succ]
            refine hand_to (i := 6) (d := 86) (v := (.bool true)) rfl rfl (by kernel_rfl) (by kernel_rfl) (by kernel_rfl) (fun _ _ _ h => h) (Or.inl ⟨by rfl, ?_⟩) hHeld ?_
            · (intro w' hSw; kernel_rfl)
            simp only [Act.put, List.setIfInBounds_toArray, List.set_cons_zero, List.set_cons_succ]
            refine hand_to (i := 7) (d := 87) (v := (.bool true)) rfl rfl (by kernel_rfl) (by kernel_rfl) (by kernel_rfl) (fun _ _ _ h => h) (Or.inl ⟨by rfl, ?_⟩) hHeld ?_
            · (intro w' hSw; kernel_rfl)
            simp only [Act.put, List.setIfInBounds_toArray, List.set_cons_zero, List.set_cons_succ]
            refine hand_to (i := 8) (d := 6) (v := (.bool true)) rfl rfl (by kernel_rfl) (by kernel_rfl) (by kernel_rfl) (fun _ _ _ h => h) (Or.inl ⟨by rfl, ?_⟩) hHeld ?_
            · (intro w' hSw; kernel_rfl)
            simp only [Act.put, List.setIfInBounds_toArray, List.set_cons_zero, List.set_cons_succ]
            refine wpAnyH_done (by kernel_rfl) ?_ _
            go_wp2_with fail
            go_ret
            exact ⟨rfl, unhide HB6⟩
        · skip
          as_aux_lemma =>
            have hw : wantS 2 2 false = (nullG, 0) := by kernel_rfl
            rw [hw] at HGa ⊢
            clear hw
            go_upto_region 21 with fail
            have HGd := hide ((unhide HGa).below (Below.refl _ _).drew)
            have HBd := hide (trX (unhide HB) (Below.refl _ _).drew)
            refine wp_region_held_drew (S := fun w' => VV w' ga nullG) (by kernel_rfl) (unhide HGd) (fun hHeld => ?_)
            refine hand_to (i := 0) (d := 80) (v := .nilIface) rfl rfl (by kernel_rfl) (by kernel_rfl) (by kernel_rfl) (fun _ _ _ h => h) (Or.inl ⟨by rfl, ?_⟩) hHeld ?_
            · (intro w' hSw; kernel_rfl)
            simp only [Act.put, List.setIfInBounds_toArray, List.set_cons_zero, List.set_cons_succ]
            refine hand_to (i := 1) (d := 81) (v := (.bool true)) rfl rfl (by kernel_rfl) (by kernel_rfl) (by kernel_rfl) (fun _ _ _ h => h) (Or.inl ⟨by rfl, ?_⟩) hHeld ?_
            · (intro w' hSw; kernel_rfl)
            simp only [Act.put, List.setIfInBounds_toArray, List.set_cons_zero, List.set_cons_succ]
            refine hand_to (i := 2) (d := 82) (v := (.bool true)) rfl rfl (by kernel_rfl) (by kernel_rfl) (by kernel_rfl) (fun _ _ _ h => h) (Or.inl ⟨by rfl, ?_⟩) hHeld ?_
            · (intro w' hSw; kernel_rfl)
            simp only [Act.put, List.setIfInBounds_toArray, List.set_cons_zero, List.set_cons_succ]
            refine hand_to (i := 3) (d := 83) (v := .agg (gvC nullG).toArray) rfl rfl (by kernel_rfl) (by kernel_rfl) (by kernel_rfl) (fun _ _ _ h => h) (yieldsIf_load_mid (by rfl) 26 (.tmp 12) rfl ga 0 rfl (gvC nullG) _ (fun w hw => hw.range) Tryz.underlying26 rfl sizeV) hHeld ?_
            simp only [Act.put, List.setIfInBounds_toArray, List.set_cons_zero, List.set_cons_succ]
            refine hand_to (i := 4) (d := 84) (v := (.int .i64 2)) rfl rfl (by kernel_rfl) (by kernel_rfl) (by kernel_rfl) (fun _ _ _ h => h) (Or.inl ⟨by rfl, ?_⟩) hHeld ?_
            · (intro w' hSw; kernel_rfl)
            simp only [Act.put, List.setIfInBounds_toArray, List.set_cons_zero, List.set_cons_succ]
            refine wpAnyH_ready (rs := [5]) (by kernel_rfl) (by simp) ?_
            refine AllReadyH.cons rfl (fun K hK => ?_) AllReadyH.nil
            rw [if_pos (by rfl)]
            refine op_call (some 85) rfl 24 #[.int .i64 2] (by kernel_rfl) (of_two _) ?_
            rintro e w6 ⟨rfl, hb⟩
            refine ⟨_, rfl, ?_⟩
            have HG6 := hide ((unhide HGd).below hb)
            have HB6 := hide (trX (unhide HBd) hb)
            clear hb
            refine hK.out _ _ (unhide HG6) (fun hHeld2 => ?_)
            clear hK K hHeld
            have hHeld := hHeld2
            clear hHeld2
            try simp only [Act.put, List.setIfInBounds_toArray, List.set_cons_zero, List.set_cons_succ]
            refine hand_to (i := 6) (d := 86) (v := (.bool true)) rfl rfl (by kernel_rfl) (by kernel_rfl) (by kernel_rfl) (fun _ _ _ h => h) (Or.inl ⟨by rfl, ?_⟩) hHeld ?_
            · (intro w' hSw; kernel_rfl)
            simp only [Act.put, List.setIfInBounds_toArray, List.set_cons_zero, List.set_cons_succ]
            refine hand_to (i := 7) (d := 87) (v := (.bool true)) rfl rfl (by kernel_rfl) (by kernel_rfl) (by kernel_rfl) (fun _ _ _ h => h) (Or.inl ⟨by rfl, ?_⟩) hHeld ?_
            · (intro w' hSw; kernel_rfl)
            simp only [Act.put, List.setIfInBounds_toArray, List.set_cons_zero, List.set_cons_succ]
            refine hand_to (i := 8) (d := 6) (v := (.bool true)) rfl rfl (by kernel_rfl) (by kernel_rfl) (by kernel_rfl) (fun _ _ _ h => h) (Or.inl ⟨by rfl, ?_⟩) hHeld ?_
            · (intro w' hSw; kernel_rfl)
            simp only [Act.put, List.setIfInBounds_toArray, List.set_cons_zero, List.set_cons_succ]
            refine wpAnyH_done (by kernel_rfl) ?_ _
            go_wp2_with fail
            go_ret
            exact ⟨rfl, unhide HB6⟩
        · skip
          as_aux_lemma =>
            have hw : wantS 2 3 false = (nullG, 7) := by kernel_rfl
            rw [hw] at HGa ⊢
            clear hw
            go_upto_region 15 with fail
            refine wp_region_list ?_
            refine list_to (d := 55) (v := .iface 102 (.int .i64 7)) rfl rfl (by kernel_rfl) ?_
            simp only [Act.put, List.setIfInBounds_toArray, List.set_cons_zero, List.set_cons_succ]
            refine list_call rfl (some 56) rfl 14 #[.iface 102 (.int .i64 7)] (by kernel_rfl) (class_g 7 w5 (unhide HEr w5 (unhide HB))) ?_
            rintro e w6 ⟨rfl, hb⟩
            refine ⟨_, rfl, ?_⟩
            simp only [Act.put, List.setIfInBounds_toArray, List.set_cons_zero, List.set_cons_succ]
            have HB := hide (trX (unhide HB) hb)
            have HGa := hide ((unhide HGa).below hb)
            clear hb
            refine list_to (d := 57) (v := .bool true) rfl rfl (by kernel_rfl) ?_
            simp only [Act.put, List.setIfInBounds_toArray, List.set_cons_zero, List.set_cons_succ]
            refine list_to (d := 58) (v := .bool true) rfl rfl (by kernel_rfl) ?_
            simp only [Act.put, List.setIfInBounds_toArray, List.set_cons_zero, List.set_cons_succ]
            refine list_wload (d := 59) rfl (by kernel_rfl) 26 (.tmp 12) rfl ga 0 rfl (gvC nullG) _ (unhide HGa).range Tryz.underlying26 rfl sizeV ?_
            simp only [Act.put, List.setIfInBounds_toArray, List.set_cons_zero, List.set_cons_succ]
            refine list_want (d := 60) (v := .agg (gvC nullG).toArray) rfl (by kernel_rfl) (by kernel_rfl) ?_
            simp only [Act.put, List.setIfInBounds_toArray, List.set_cons_zero, List.set_cons_succ]
            refine list_want (d := 61) (v := .bool true) rfl (by kernel_rfl) (by kernel_rfl) ?_
            simp only [Act.put, List.setIfInBounds_toArray, List.set_cons_zero, List.set_cons_succ]
            refine list_to (d := 62) (v := .bool true) rfl rfl (by kernel_rfl) ?_
            simp only [Act.put, List.setIfInBounds_toArray, List.set_cons_zero, List.set_cons_succ]
            refine list_to (d := 6) (v := .bool true) rfl rfl (by kernel_rfl) ?_
            simp only [Act.put, List.setIfInBounds_toArray, List.set_cons_zero, List.set_cons_succ]
            go_wp2_with fail
            go_ret
            exact ⟨rfl, unhide HB⟩
      · rcases unhide HY with rfl | rfl | rfl | rfl
        · skip
          as_aux_lemma =>
            have hw : wantS 3 0 false = (nullG, 7) := by kernel_rfl
            rw [hw] at HGa ⊢
            clear hw
            go_upto_region 15 with fail
            refine wp_region_list ?_
            refine list_to (d := 55) (v := .iface 102 (.int .i64 7)) rfl rfl (by kernel_rfl) ?_
            simp only [Act.put, List.setIfInBounds_toArray, List.set_cons_zero, List.set_cons_succ]
            refine list_call rfl (some 56) rfl 14 #[.iface 102 (.int .i64 7)] (by kernel_rfl) (class_g 7 w5 (unhide HEr w5 (unhide HB))) ?_
            rintro e w6 ⟨rfl, hb⟩
            refine ⟨_, rfl, ?_⟩
            simp only [Act.put, List.setIfInBounds_toArray, List.set_cons_zero, List.set_cons_succ]
            have HB := hide (trX (unhide HB) hb)
            have HGa := hide ((unhide HGa).below hb)
            clear hb
            refine list_to (d := 57) (v := .bool true) rfl rfl (by kernel_rfl) ?_
            simp only [Act.put, List.setIfInBounds_toArray, List.set_cons_zero, List.set_cons_succ]
            refine list_to (d := 58) (v := .bool true) rfl rfl (by kernel_rfl) ?_
            simp only [Act.put, List.setIfInBounds_toArray, List.set_cons_zero, List.set_cons_succ]
            refine list_wload (d := 59) rfl (by kernel_rfl) 26 (.tmp 12) rfl ga 0 rfl (gvC nullG) _ (unhide HGa).range Tryz.underlying26 rfl sizeV ?_
            simp only [Act.put, List.setIfInBounds_toArray, List.set_cons_zero, List.set_cons_succ]
            refine list_want (d := 60) (v := .agg (gvC nullG).toArray) rfl (by kernel_rfl) (by kernel_rfl) ?_
            simp only [Act.put, List.setIfInBounds_toArray, List.set_cons_zero, List.set_cons_succ]
            refine list_want (d := 61) (v := .bool true) rfl (by kernel_rfl) (by kernel_rfl) ?_
            simp only [Act.put, List.setIfInBounds_toArray, List.set_cons_zero, List.set_cons_succ]
            refine list_to (d := 62) (v := .bool true) rfl rfl (by kernel_rfl) ?_
            simp only [Act.put, List.setIfInBounds_toArray, List.set_cons_zero, List.set_cons_succ]
            refine list_to (d := 6) (v := .bool true) rfl rfl (by kernel_rfl) ?_
            simp only [Act.put, List.setIfInBounds_toArray, List.set_cons_zero, List.set_cons_succ]
            go_wp2_with fail
            go_ret
            exact ⟨rfl, unhide HB⟩
        · skip
          as_aux_lemma =>
            have hw : wantS 3 1 false = (nullG, 7) := by kernel_rfl
            rw [hw] at HGa ⊢
            clear hw
            go_upto_region 15 with fail
            refine wp_region_list ?_
            refine list_to (d := 55) (v := .iface 102 (.int .i64 7)) rfl rfl (by kernel_rfl) ?_
            simp only [Act.put, List.setIfInBounds_toArray, List.set_cons_zero, List.set_cons_succ]
            refine list_call rfl (some 56) rfl 14 #[.iface 102 (.int .i64 7)] (by kernel_rfl) (class_g 7 w5 (unhide HEr w5 (unhide HB))) ?_
            rintro e w6 ⟨rfl, hb⟩
            refine ⟨_, rfl, ?_⟩
            simp only [Act.put, List.setIfInBounds_toArray, List.set_cons_zero, List.set_cons_succ]
            have HB := hide (trX (unhide HB) hb)
            have HGa := hide ((unhide HGa).below hb)
            clear hb
            refine list_to (d := 57) (v := .bool true) rfl rfl (by kernel_rfl) ?_
            simp only [Act.put, List.setIfInBounds_toArray, List.set_cons_zero, List.set_cons_succ]
            refine list_to (d := 58) (v := .bool true) rfl rfl (by kernel_rfl) ?_
            simp only [Act.put, List.setIfInBounds_toArray, List.set_cons_zero, List.set_cons_succ]
            refine list_wload (d := 59) rfl (by kernel_rfl) 26 (.tmp 12) rfl ga 0 rfl (gvC nullG) _ (unhide HGa).range Tryz.underlying26 rfl sizeV ?_
            simp only [Act.put, List.setIfInBounds_toArray, List.set_cons_zero, List.set_cons_succ]
            refine list_want (d := 60) (v := .agg (gvC nullG).toArray) rfl (by kernel_rfl) (by kernel_rfl) ?_
            simp only [Act.put, List.setIfInBounds_toArray, List.set_cons_zero, List.set_cons_succ]
            refine list_want (d := 61) (v := .bool true) rfl (by kernel_rfl) (by kernel_rfl) ?_
            simp only [Act.put, List.setIfInBounds_toArray, List.set_cons_zero, List.set_cons_succ]
            refine list_to (d := 62) (v := .bool true) rfl rfl (by kernel_rfl) ?_
            simp only [Act.put, List.setIfInBounds_toArray, List.set_cons_zero, List.set_cons_succ]
            refine list_to (d := 6) (v := .bool true) rfl rfl (by kernel_rfl) ?_
            simp only [Act.put, List.setIfInBounds_toArray, List.set_cons_zero, List.set_cons_succ]
            go_wp2_with fail
            go_ret
            exact ⟨rfl, unhide HB⟩
        · skip
          as_aux_lemma =>
            have hw : wantS 3 2 false = (nullG, 7) := by kernel_rfl
            rw [hw] at HGa ⊢
            clear hw
            go_upto_region 15 with fail
            refine wp_region_list ?_
            refine list_to (d := 55) (v := .iface 102 (.int .i64 7)) rfl rfl (by kernel_rfl) ?_
            simp only [Act.put, List.setIfInBounds_toArray, List.set_cons_zero, List.set_cons_succ]
            refine list_call rfl (some 56) rfl 14 #[.iface 102 (.int .i64 7)] (by kernel_rfl) (class_g 7 w5 (unhide HEr w5 (unhide HB))) ?_
            rintro e w6 ⟨rfl, hb⟩
            refine ⟨_, rfl, ?_⟩
            simp only [Act.put, List.setIfInBounds_toArray, List.set_cons_zero, List.set_cons_succ]
            have HB := hide (trX (unhide HB) hb)
            have HGa := hide ((unhide HGa).below hb)
            clear hb
            refine list_to (d := 57) (v := .bool true) rfl rfl (by kernel_rfl) ?_
            simp only [Act.put, List.setIfInBounds_toArray, List.set_cons_zero, List.set_cons_succ]
            refine list_to (d := 58) (v := .bool true) rfl rfl (by kernel_rfl) ?_
            simp only [Act.put, List.setIfInBounds_toArray, List.set_cons_zero, List.set_cons_succ]
            refine list_wload (d := 59) rfl (by kernel_rfl) 26 (.tmp 12) rfl ga 0 rfl (gvC nullG) _ (unhide HGa).range Tryz.underlying26 rfl sizeV ?_
            simp only [Act.put, List.setIfInBounds_toArray, List.set_cons_zero, List.set_cons_succ]
            refine list_want (d := 60) (v := .agg (gvC nullG).toArray) rfl (by kernel_rfl) (by kernel_rfl) ?_
            simp only [Act.put, List.setIfInBounds_toArray, List.set_cons_zero, List.set_cons_succ]
            refine list_want (d := 61) (v := .bool true) rfl (by kernel_rfl) (by kernel_rfl) ?_
            simp only [Act.put, List.setIfInBounds_toArray, List.set_cons_zero, List.set_cons_succ]
            refine list_to (d := 62) (v := .bool true) rfl rfl (by kernel_rfl) ?_
            simp only [Act.put, List.setIfInBounds_toArray, List.set_cons_zero, List.set_cons_succ]
            refine list_to (d := 6) (v := .bool true) rfl rfl (by kernel_rfl) ?_
            simp only [Act.put, List.setIfInBounds_toArray, List.set_cons_zero, List.set_cons_succ]
            go_wp2_with fail
            go_ret
            exact ⟨rfl, unhide HB⟩
        · skip
          as_aux_lemma =>
            have hw : wantS 3 3 false = (nullG, 7) := by kernel_rfl
            rw [hw] at HGa ⊢
            clear hw
            go_upto_region 15 with fail
            refine wp_region_list ?_
            refine list_to (d := 55) (v := .iface 102 (.int .i64 7)) rfl rfl (by kernel_rfl) ?_
            simp only [Act.put, List.setIfInBounds_toArray, List.set_cons_zero, List.set_cons_succ]
            refine list_call rfl (some 56) rfl 14 #[.iface 102 (.int .i64 7)] (by kernel_rfl) (class_g 7 w5 (unhide HEr w5 (unhide HB))) ?_
            rintro e w6 ⟨rfl, hb⟩
            refine ⟨_, rfl, ?_⟩
            simp only [Act.put, List.setIfInBounds_toArray, List.set_cons_zero, List.set_cons_succ]
            have HB := hide (trX (unhide HB) hb)
            have HGa := hide ((unhide HGa).below hb)
            clear hb
            refine list_to (d := 57) (v := .bool true) rfl rfl (by kernel_rfl) ?_
            simp only [Act.put, List.setIfInBounds_toArray, List.set_cons_zero, List.set_cons_succ]
            refine list_to (d := 58) (v := .bool true) rfl rfl (by kernel_rfl) ?_
            simp only [Act.put, List.setIfInBounds_toArray, List.set_cons_zero, List.set_cons_succ]
            refine list_wload (d := 59) rfl (by kernel_rfl) 26 (.tmp 12) rfl ga 0 rfl (gvC nullG) _ (unhide HGa).range Tryz.underlying26 rfl sizeV ?_
            simp only [Act.put, List.setIfInBounds_toArray, List.set_cons_zero, List.set_cons_succ]
            refine list_want (d := 60) (v := .agg (gvC nullG).toArray) rfl (by kernel_rfl) (by kernel_rfl) ?_
            simp only [Act.put, List.setIfInBounds_toArray, List.set_cons_zero, List.set_cons_succ]
            refine list_want (d := 61) (v := .bool true) rfl (by kernel_rfl) (by kernel_rfl) ?_
            simp only [Act.put, List.setIfInBounds_toArray, List.set_cons_zero, List.set_cons_succ]
            refine list_to (d := 62) (v := .bool true) rfl rfl (by kernel_rfl) ?_
            simp only [Act.put, List.setIfInBounds_toArray, List.set_cons_zero, List.set_cons_succ]
            refine list_to (d := 6) (v := .bool true) rfl rfl (by kernel_rfl) ?_
            simp only [Act.put, List.setIfInBounds_toArray, List.set_cons_zero, List.set_cons_succ]
            go_wp2_with fail
            go_ret
            exact ⟨rfl, unhide HB⟩
  · skip
    as_aux_lemma =>
      go_upto_region 7 with fail
      refine wp_region_list ?_
      refine list_to (d := 26) (v := .int .i64 x) rfl rfl (by kernel_rfl) ?_
      simp only [Act.put, List.setIfInBounds_toArray, List.set_cons_zero, List.set_cons_succ]
      refine list_call rfl (some 27) rfl 23 #[.int .i64 x] (by kernel_rfl) (unhide HTRx w1) ?_
      rintro e w2 ⟨rfl, hb⟩
      refine ⟨_, rfl, ?_⟩
      simp only [Act.put, List.setIfInBounds_toArray, List.set_cons_zero, List.set_cons_succ]
      have HB := hide (trX (unhide HB) hb)
      clear hb
      refine list_to (d := 28) (v := sv (opS true)) rfl rfl (by kernel_rfl) ?_
      simp only [Act.put, List.setIfInBounds_toArray, List.set_cons_zero, List.set_cons_succ]
      refine list_to (d := 29) (v := sv (truS x ++ opS true)) rfl rfl (by (unfold sv; go_simp; rw [if_neg (by omega), cat_bytes]; simp)) ?_
      simp only [Act.put, List.setIfInBounds_toArray, List.set_cons_zero, List.set_cons_succ]
      refine list_to (d := 30) (v := .int .i64 y) rfl rfl (by kernel_rfl) ?_
      simp only [Act.put, List.setIfInBounds_toArray, List.set_cons_zero, List.set_cons_succ]
      refine list_call rfl (some 31) rfl 23 #[.int .i64 y] (by kernel_rfl) (unhide HTRy w2) ?_
      rintro e w3 ⟨rfl, hb⟩
      refine ⟨_, rfl, ?_⟩
      simp only [Act.put, List.setIfInBounds_toArray, List.set_cons_zero, List.set_cons_succ]
      have HB := hide (trX (unhide HB) hb)
      clear hb
      refine list_to (d := 32) (v := sv (txtS x y true)) rfl rfl (by (unfold sv txtS; go_simp; rw [if_neg (by first | omega | (simp only [List.length_append]; omega) | (simp; omega)), cat_bytes]; simp)) ?_
      simp only [Act.put, List.setIfInBounds_toArray, List.set_cons_zero, List.set_cons_succ]
      refine list_call rfl (some 33) rfl 11 #[sv (txtS x y true), .bool false] (by kernel_rfl) (unhide HTa w3) ?_
      rintro e q ⟨hb, hpost⟩
      rw [unhide HTYa] at hpost
      obtain ⟨Na, rfl, hxN⟩ := hpost
      refine ⟨_, rfl, ?_⟩
      simp only [Act.put, List.setIfInBounds_toArray, List.set_cons_zero, List.set_cons_succ]
      have HB := hide (trX (unhide HB) hb)
      clear hb
      refine list_to (d := 25) (v := .tuple #[.agg Na.toArray, .bool true]) rfl rfl (by kernel_rfl) ?_
      simp only [Act.put, List.setIfInBounds_toArray, List.set_cons_zero, List.set_cons_succ]
      refine list_to (d := 34) (v := .agg Na.toArray) rfl rfl (by kernel_rfl) ?_
      simp only [Act.put, List.setIfInBounds_toArray, List.set_cons_zero, List.set_cons_succ]
      refine list_to (d := 35) (v := .bool true) rfl rfl (by kernel_rfl) ?_
      simp only [Act.put, List.setIfInBounds_toArray, List.set_cons_zero, List.set_cons_succ]
      have hza : Na.toArray.size = 10 := by simpa using hxN.len
      have hla : Na.length = 10 := hxN.len
      have hvn := VrX.new q (M := zL) rfl
      have hal : Below q.heap.size q (q.alloc (.cells Na.toArray 29)) := alX (Below.refl _ _) _
      refine list_new rfl 29 rfl zL.toArray (zero_of_info zeroEx).1 ?_
      simp only [Act.put, List.setIfInBounds_toArray, List.set_cons_zero, List.set_cons_succ]
      refine wpList_store_mid rfl 29 (.tmp 10) (.tmp 34) rfl q.heap.size 0 Na.toArray rfl rfl (by rw [hza]; exact hvn.there) (by rw [hza]; exact sizeEx) (all_oneCell_toArray hxN.one) ?_
      show wpList _ _ _ _ _ ((q.alloc (.cells zL.toArray 29)).setCells q.heap.size 0 Na)
      rw [setCells_new q _ _ _ (by rw [hla]; rfl)]
      simp only [Act.put, List.setIfInBounds_toArray, List.set_cons_zero, List.set_cons_succ]
      refine list_to (d := 11) (v := .bool true) rfl rfl (by kernel_rfl) ?_
      simp only [Act.put, List.setIfInBounds_toArray, List.set_cons_zero, List.set_cons_succ]
      have HB := hide (trX (unhide HB) hal)
      have HVa := hide (VrX.new q hla)
      have HXa := hide (hxN.below hal)
      obtain ⟨ba, hb9⟩ : ∃ ba, ba = q.heap.size := ⟨_, rfl⟩
      obtain ⟨w4, hw9⟩ : ∃ w4, w4 = q.alloc (.cells Na.toArray 29) := ⟨_, rfl⟩
      rw [← hw9] at HB HVa HXa 
      rw [← hw9]
      rw [← hb9] at HVa
      rw [← hb9]
      clear hw9 hb9 hal hvn hxN
      go_upto_region 10 with fail
      refine wp_region_list ?_
      refine wpList_load_mid rfl 29 (.tmp 10) rfl ba 0 rfl Na _ (unhide HVa).range Tryz.underlying29 rfl (by rw [hla]; exact sizeEx) ?_
      simp only [Act.put, List.setIfInBounds_toArray, List.set_cons_zero, List.set_cons_succ]
      refine list_call rfl (some 40) rfl 12 #[.agg Na.toArray, .slice none 0 0] (by kernel_rfl) (evalp_any [] (fun _ h => absurd h (by simp)) w4 _ Na Ea none 0 0 (unhide HXa) (unhide HOKa) (unhide HSIa) (by rw [unhide HEVa]; exact wantS_text _ _ _)) ?_
      rw [unhide HEVa]
      rintro e q ⟨rfl, hb⟩
      refine ⟨_, rfl, ?_⟩
      simp only [Act.put, List.setIfInBounds_toArray, List.set_cons_zero, List.set_cons_succ]
      have HB := hide (trX (unhide HB) hb)
      clear hb
      refine list_to (d := 38) (v := .tuple #[.agg (gvC (wantS x y true).1).toArray, errG (wantS x y true).2]) rfl rfl (by kernel_rfl) ?_
      simp only [Act.put, List.setIfInBounds_toArray, List.set_cons_zero, List.set_cons_succ]
      refine list_to (d := 41) (v := .agg (gvC (wantS x y true).1).toArray) rfl rfl (by kernel_rfl) ?_
      simp only [Act.put, List.setIfInBounds_toArray, List.set_cons_zero, List.set_cons_succ]
      refine list_to (d := 42) (v := errG (wantS x y true).2) rfl rfl (by kernel_rfl) ?_
      simp only [Act.put, List.setIfInBounds_toArray, List.set_cons_zero, List.set_cons_succ]
      refine list_new rfl 26 rfl (gvC nullG).toArray (zero_of_info zeroV).1 ?_
      simp only [Act.put, List.setIfInBounds_toArray, List.set_cons_zero, List.set_cons_succ]
      refine wpList_store_mid rfl 26 (.tmp 12) (.tmp 41) rfl q.heap.size 0 (gvC (wantS x y true).1).toArray rfl rfl (VV.new q nullG).there sizeV (all_oneCell_toArray (gvC_one _)) ?_
      show wpList _ _ _ _ _ ((q.alloc (.cells (gvC nullG).toArray 26)).setCells q.heap.size 0 (gvC (wantS x y true).1))
      rw [setV_new q (wantS x y true).1]
      simp only [Act.put, List.setIfInBounds_toArray, List.set_cons_zero, List.set_cons_succ]
      refine list_to (d := 13) (v := errG (wantS x y true).2) rfl rfl (by kernel_rfl) ?_
      simp only [Act.put, List.setIfInBounds_toArray, List.set_cons_zero, List.set_cons_succ]
      have HGa := hide (VV.new q (wantS x y true).1)
      have hb : Below q.heap.size q (q.alloc (.cells (gvC (wantS x y true).1).toArray 26)) := alX (Below.refl _ _) _
      have HB := hide (trX (unhide HB) hb)
      obtain ⟨ga, hb9⟩ : ∃ ga, ga = q.heap.size := ⟨_, rfl⟩
      obtain ⟨w5, hw9⟩ : ∃ w5, w5 = q.alloc (.cells (gvC (wantS x y true).1).toArray 26) := ⟨_, rfl⟩
      rw [← hw9] at HB HGa 
      rw [← hw9]
      rw [← hb9] at HGa
      rw [← hb9]
      clear hb hw9 hb9
      rcases unhide HX with rfl | rfl | rfl | rfl
      · rcases unhide HY with rfl | rfl | rfl | rfl
        · skip
          as_aux_lemma =>
            have hw : wantS 0 0 true = (oneF, 0) := by kernel_rfl
            rw [hw] at HGa ⊢
            clear hw
            go_upto_region 21 with fail
            have HGd := hide ((unhide HGa).below (Below.refl _ _).drew)
            have HBd := hide (trX (unhide HB) (Below.refl _ _).drew)
            refine wp_region_held_drew (S := fun w' => VV w' ga oneF) (by kernel_rfl) (unhide HGd) (fun hHeld => ?_)
            refine hand_to (i := 0) (d := 80) (v := .nilIface) rfl rfl (by kernel_rfl) (by kernel_rfl) (by kernel_rfl) (fun _ _ _ h => h) (Or.inl ⟨by rfl, ?_⟩) hHeld ?_
            · (intro w' hSw; kernel_rfl)
            simp only [Act.put, List.setIfInBounds_toArray, List.set_cons_zero, List.set_cons_succ]
            refine hand_to (i := 1) (d := 81) (v := (.bool true)) rfl rfl (by kernel_rfl) (by kernel_rfl) (by kernel_rfl) (fun _ _ _ h => h) (Or.inl ⟨by rfl, ?_⟩) hHeld ?_
            · (intro w' hSw; kernel_rfl)
            simp only [Act.put, List.setIfInBounds_toArray, List.set_cons_zero, List.set_cons_succ]
            refine hand_to (i := 2) (d := 82) (v := (.bool true)) rfl rfl (by kernel_rfl) (by kernel_rfl) (by kernel_rfl) (fun _ _ _ h => h) (Or.inl ⟨by rfl, ?_⟩) hHeld ?_
            · (intro w' hSw; kernel_rfl)
            simp only [Act.put, List.setIfInBounds_toArray, List.set_cons_zero, List.set_cons_succ]
            refine hand_to (i := 3) (d := 83) (v := .agg (gvC oneF).toArray) rfl rfl (by kernel_rfl) (by kernel_rfl) (by kernel_rfl) (fun _ _ _ h => h) (yieldsIf_load_mid (by rfl) 26 (.tmp 12) rfl ga 0 rfl (gvC oneF) _ (fun w hw => hw.range) Tryz.underlying26 rfl sizeV) hHeld ?_
            simp only [Act.put, List.setIfInBounds_toArray, List.set_cons_zero, List.set_cons_succ]
            refine hand_to (i := 4) (d := 84) (v := (.int .i64 0)) rfl rfl (by kernel_rfl) (by kernel_rfl) (by kernel_rfl) (fun _ _ _ h => h) (Or.inl ⟨by rfl, ?_⟩) hHeld ?_
            · (intro w' hSw; kernel_rfl)
            simp only [Act.put, List.setIfInBounds_toArray, List.set_cons_zero, List.set_cons_succ]
            refine wpAnyH_ready (rs := [5]) (by kernel_rfl) (by simp) ?_
            refine AllReadyH.cons rfl (fun K hK => ?_) AllReadyH.nil
            rw [if_pos (by rfl)]
            refine op_call (some 85) rfl 24 #[.int .i64 0] (by kernel_rfl) (of_false _) ?_
            rintro e w6 ⟨rfl, hb⟩
            refine ⟨_, rfl, ?_⟩
            have HG6 := hide ((unhide HGd).below hb)
            have HB6 := hide (trX (unhide HBd) hb)
            clear hb
            refine hK.out _ _ (unhide HG6) (fun hHeld2 => ?_)
            clear hK K hHeld
            have hHeld := hHeld2
            clear hHeld2
            try simp only [Act.put, List.setIfInBounds_toArray, List.set_cons_zero, List.set_cons_succ]
            refine hand_to (i := 6) (d := 86) (v := (.bool true)) rfl rfl (by kernel_rfl) (by kernel_rfl) (by kernel_rfl) (fun _ _ _ h => h) (Or.inl ⟨by rfl, ?_⟩) hHeld ?_
            · (intro w' hSw; kernel_rfl)
            simp only [Act.put, List.setIfInBounds_toArray, List.set_cons_zero, List.set_cons_succ]
            refine hand_to (i := 7) (d := 87) (v := (.bool true)) rfl rfl (by kernel_rfl) (by kernel_rfl) (by kernel_rfl) (fun _ _ _ h => h) (Or.inl ⟨by rfl, ?_⟩) hHeld ?_
            · (intro w' hSw; kernel_rfl)
            simp only [Act.put, List.setIfInBounds_toArray, List.set_cons_zero, List.set_cons_succ]
            refine hand_to (i := 8) (d := 6) (v := (.bool true)) rfl rfl (by kernel_rfl) (by kernel_rfl) (by kernel_rfl) (fun _ _ _ h => h) (Or.inl ⟨by rfl, ?_⟩) hHeld ?_
            · (intro w' hSw; kernel_rfl)
            simp only [Act.put, List.setIfInBounds_toArray, List.set_cons_zero, List.set_cons_succ]
            refine wpAnyH_done (by kernel_rfl) ?_ _
            go_wp2_with fail
            go_ret
            exact ⟨rfl, unhide HB6⟩
        · skip
          as_aux_lemma =>
            have hw : wantS 0 1 true = (oneT, 0) := by kernel_rfl
            rw [hw] at HGa ⊢
            clear hw
            go_upto_region 21 with fail
            have HGd := hide ((unhide HGa).below (Below.refl _ _).drew)
            have HBd := hide (trX (unhide HB) (Below.refl _ _).drew)
            refine wp_region_held_drew (S := fun w' => VV w' ga oneT) (by kernel_rfl) (unhide HGd) (fun hHeld => ?_)
            refine hand_to (i := 0) (d := 80) (v := .nilIface) rfl rfl (by kernel_rfl) (by kernel_rfl) (by kernel_rfl) (fun _ _ _ h => h) (Or.inl ⟨by rfl, ?_⟩) hHeld ?_
            · (intro w' hSw; kernel_rfl)
            simp only [Act.put, List.setIfInBounds_toArray, List.set_cons_zero, List.set_cons_succ]
            refine hand_to (i := 1) (d := 81) (v := (.bool true)) rfl rfl (by kernel_rfl) (by kernel_rfl) (by kernel_rfl) (fun _ _ _ h => h) (Or.inl ⟨by rfl, ?_⟩) hHeld ?_
            · (intro w' hSw; kernel_rfl)
            simp only [Act.put, List.setIfInBounds_toArray, List.set_cons_zero, List.set_cons_succ]
            refine hand_to (i := 2) (d := 82) (v := (.bool true)) rfl rfl (by kernel_rfl) (by kernel_rfl) (by kernel_rfl) (fun _ _ _ h => h) (Or.inl ⟨by rfl, ?_⟩) hHeld ?_
            · (intro w' hSw; kernel_rfl)
            simp only [Act.put, List.setIfInBounds_toArray, List.set_cons_zero, List.set_cons_succ]
            refine hand_to (i := 3) (d := 83) (v := .agg (gvC oneT).toArray) rfl rfl (by kernel_rfl) (by kernel_rfl) (by kernel_rfl) (fun _ _ _ h => h) (yieldsIf_load_mid (by rfl) 26 (.tmp 12) rfl ga 0 rfl (gvC oneT) _ (fun w hw => hw.range) Tryz.underlying26 rfl sizeV) hHeld ?_
            simp only [Act.put, List.setIfInBounds_toArray, List.set_cons_zero, List.set_cons_succ]
            refine hand_to (i := 4) (d := 84) (v := (.int .i64 1)) rfl rfl (by kernel_rfl) (by kernel_rfl) (by kernel_rfl) (fun _ _ _ h => h) (Or.inl ⟨by rfl, ?_⟩) hHeld ?_
            · (intro w' hSw; kernel_rfl)
            simp only [Act.put, List.setIfInBounds_toArray, List.set_cons_zero, List.set_cons_succ]
            refine wpAnyH_ready (rs := [5]) (by kernel_rfl) (by simp) ?_
            refine AllReadyH.cons rfl (fun K hK => ?_) AllReadyH.nil
            rw [if_pos (by rfl)]
            refine op_call (some 85) rfl 24 #[.int .i64 1] (by kernel_rfl) (of_one _) ?_
            rintro e w6 ⟨rfl, hb⟩
            refine ⟨_, rfl, ?_⟩
            have HG6 := hide ((unhide HGd).below hb)
            have HB6 := hide (trX (unhide HBd) hb)
            clear hb
            refine hK.out _ _ (unhide HG6) (fun hHeld2 => ?_)
            clear hK K hHeld
            have hHeld := hHeld2
            clear hHeld2
            try simp only [Act.put, List.setIfInBounds_toArray, List.set_cons_zero, List.set_cons_succ]
            refine hand_to (i := 6) (d := 86) (v := (.bool true)) rfl rfl (by kernel_rfl) (by kernel_rfl) (by kernel_rfl) (fun _ _ _ h => h) (Or.inl ⟨by rfl, ?_⟩) hHeld ?_
            · (intro w' hSw; kernel_rfl)
            simp only [Act.put, List.setIfInBounds_toArray, List.set_cons_zero, List.set_cons_succ]
            refine hand_to (i := 7) (d := 87) (v := (.bool true)) rfl rfl (by kernel_rfl) (by kernel_rfl) (by kernel_rfl) (fun _ _ _ h => h) (Or.inl ⟨by rfl, ?_⟩) hHeld ?_
            · (intro w' hSw; kernel_rfl)
            simp only [Act.put, List.setIfInBounds_toArray, List.set_cons_zero, List.set_cons_succ]
            refine hand_to (i := 8) (d := 6) (v := (.bool true)) rfl rfl (by kernel_rfl) (by kernel_rfl) (by kernel_rfl) (fun _ _ _ h => h) (Or.inl ⟨by rfl, ?_⟩) hHeld ?_
            · (intro w' hSw; kernel_rfl)
            simp only [Act.put, List.setIfInBounds_toArray, List.set_cons_zero, List.set_cons_succ]
            refine wpAnyH_done (by kernel_rfl) ?_ _
            go_wp2_with fail
            go_ret
            exact ⟨rfl, unhide HB6⟩
        · skip
          as_aux_lemma =>
            have hw : wantS 0 2 true = (nullG, 0) := by kernel_rfl
            rw [hw] at HGa ⊢
            clear hw
            go_upto_region 21 with fail
            have HGd := hide ((unhide HGa).below (Below.refl _ _).drew)
            have HBd := hide (trX (unhide HB) (Below.refl _ _).drew)
            refine wp_region_held_drew (S := fun w' => VV w' ga nullG) (by kernel_rfl) (unhide HGd) (fun hHeld => ?_)
            refine hand_to (i := 0) (d := 80) (v := .nilIface) rfl rfl (by kernel_rfl) (by kernel_rfl) (by kernel_rfl) (fun _ _ _ h => h) (Or.inl ⟨by rfl, ?_⟩) hHeld ?_
            · (intro w' hSw; kernel_rfl)
            simp only [Act.put, List.setIfInBounds_toArray, List.set_cons_zero, List.set_cons_succ]
            refine hand_to (i := 1) (d := 81) (v := (.bool true)) rfl rfl (by kernel_rfl) (by kernel_rfl) (by kernel_rfl) (fun _ _ _ h => h) (Or.inl ⟨by rfl, ?_⟩) hHeld ?_
            · (intro w' hSw; kernel_rfl)
            simp only [Act.put, List.setIfInBounds_toArray, List.set_cons_zero, List.set_cons_succ]
            refine hand_to (i := 2) (d := 82) (v := (.bool true)) rfl rfl (by kernel_rfl) (by kernel_rfl) (by kernel_rfl) (fun _ _ _ h => h) (Or.inl ⟨by rfl, ?_⟩) hHeld ?_
            · (intro w' hSw; kernel_rfl)
            simp only [Act.put, List.setIfInBounds_toArray, List.set_cons_zero, List.set_cons_succ]
            refine hand_to (i := 3) (d := 83) (v := .agg (gvC nullG).toArray) rfl rfl (by kernel_rfl) (by kernel_rfl) (by kernel_rfl) (fun _ _ _ h => h) (yieldsIf_load_mid (by rfl) 26 (.tmp 12) rfl ga 0 rfl (gvC nullG) _ (fun w hw => hw.range) Tryz.underlying26 rfl sizeV) hHeld ?_
            simp only [Act.put, List.setIfInBounds_toArray, List.set_cons_zero, List.set_cons_succ]
            refine hand_to (i := 4) (d := 84) (v := (.int .i64 2)) rfl rfl (by kernel_rfl) (by kernel_rfl) (by kernel_rfl) (fun _ _ _ h => h) (Or.inl ⟨by rfl, ?_⟩) hHeld ?_
            · (intro w' hSw; kernel_rfl)
            simp only [Act.put, List.setIfInBounds_toArray, List.set_cons_zero, List.set_cons_succ]
            refine wpAnyH_ready (rs := [5]) (by kernel_rfl) (by simp) ?_
            refine AllReadyH.cons rfl (fun K hK => ?_) AllReadyH.nil
            rw [if_pos (by rfl)]
            refine op_call (some 85) rfl 24 #[.int .i64 2] (by kernel_rfl) (of_two _) ?_
            rintro e w6 ⟨rfl, hb⟩
            refine ⟨_, rfl, ?_⟩
            have HG6 := hide ((unhide HGd).below hb)
            have HB6 := hide (trX (unhide HBd) hb)
            clear hb
            refine hK.out _ _ (unhide HG6) (fun hHeld2 => ?_)
            clear hK K hHeld
            have hHeld := hHeld2
            clear hHeld2
            try simp only [Act.put, List.setIfInBounds_toArray, List.set_cons_zero, List.set_cons_succ]
            refine hand_to (i := 6) (d := 86) (v := (.bool true)) rfl rfl (by kernel_rfl) (by kernel_rfl) (by kernel_rfl) (fun _ _ _ h => h) (Or.inl ⟨by rfl, ?_⟩) hHeld ?_
            · (intro w' hSw; kernel_rfl)
            simp only [Act.put, List.setIfInBounds_toArray, List.set_cons_zero, List.set_cons_succ]
            refine hand_to (i := 7) (d := 87) (v := (.bool true)) rfl rfl (by kernel_rfl) (by kernel_rfl) (by kernel_rfl) (fun _ _ _ h => h) (Or.inl ⟨by rfl, ?_⟩) hHeld ?_
            · (intro w' hSw; kernel_rfl)
            simp only [Act.put, List.setIfInBounds_toArray, List.set_cons_zero, List.set_cons_succ]
            refine hand_to (i := 8) (d := 6) (v := (.bool true)) rfl rfl (by kernel_rfl) (by kernel_rfl) (by kernel_rfl) (fun _ _ _ h => h) (Or.inl ⟨by rfl, ?_⟩) hHeld ?_
            · (intro w' hSw; kernel_rfl)
            simp only [Act.put, List.setIfInBounds_toArray, List.set_cons_zero, List.set_cons_succ]
            refine wpAnyH_done (by kernel_rfl) ?_ _
            go_wp2_with fail
            go_ret
            exact ⟨rfl, unhide HB6⟩
        · skip
          as_aux_lemma =>
            have hw : wantS 0 3 true = (nullG, 7) := by kernel_rfl
            rw [hw] at HGa ⊢
            clear hw
            go_upto_region 15 with fail
            refine wp_region_list ?_
            refine list_to (d := 55) (v := .iface 102 (.int .i64 7)) rfl rfl (by kernel_rfl) ?_
            simp only [Act.put, List.setIfInBounds_toArray, List.set_cons_zero, List.set_cons_succ]
            refine list_call rfl (some 56) rfl 14 #[.iface 102 (.int .i64 7)] (by kernel_rfl) (class_g 7 w5 (unhide HEr w5 (unhide HB))) ?_
            rintro e w6 ⟨rfl, hb⟩
            refine ⟨_, rfl, ?_⟩
            simp only [Act.put, List.setIfInBounds_toArray, List.set_cons_zero, List.set_cons_succ]
            have HB := hide (trX (unhide HB) hb)
            have HGa := hide ((unhide HGa).below hb)
            clear hb
            refine list_to (d := 57) (v := .bool true) rfl rfl (by kernel_rfl) ?_
            simp only [Act.put, List.setIfInBounds_toArray, List.set_cons_zero, List.set_cons_succ]
            refine list_to (d := 58) (v := .bool true) rfl rfl (by kernel_rfl) ?_
            simp only [Act.put, List.setIfInBounds_toArray, List.set_cons_zero, List.set_cons_succ]
            refine list_wload (d := 59) rfl (by kernel_rfl) 26 (.tmp 12) rfl ga 0 rfl (gvC nullG) _ (unhide HGa).range Tryz.underlying26 rfl sizeV ?_
            simp only [Act.put, List.setIfInBounds_toArray, List.set_cons_zero, List.set_cons_succ]
            refine list_want (d := 60) (v := .agg (gvC nullG).toArray) rfl (by kernel_rfl) (by kernel_rfl) ?_
            simp only [Act.put, List.setIfInBounds_toArray, List.set_cons_zero, List.set_cons_succ]
            refine list_want (d := 61) (v := .bool true) rfl (by kernel_rfl) (by kernel_rfl) ?_
            simp only [Act.put, List.setIfInBounds_toArray, List.set_cons_zero, List.set_cons_succ]
            refine list_to (d := 62) (v := .bool true) rfl rfl (by kernel_rfl) ?_
            simp only [Act.put, List.setIfInBounds_toArray, List.set_cons_zero, List.set_cons_succ]
            refine list_to (d := 6) (v := .bool true) rfl rfl (by kernel_rfl) ?_
            simp only [Act.put, List.setIfInBounds_toArray, List.set_cons_zero, List.set_cons_succ]
            go_wp2_with fail
            go_ret
            exact ⟨rfl, unhide HB⟩
      · rcases unhide HY with rfl | rfl | rfl | rfl
        · skip
          as_aux_lemma =>
            have hw : wantS 1 0 true = (oneT, 0) := by kernel_rfl
            rw [hw] at HGa ⊢
            clear hw
            go_upto_region 21 with fail
            have HGd := hide ((unhide HGa).below (Below.refl _ _).drew)
            have HBd := hide (trX (unhide HB) (Below.refl _ _).drew)
            refine wp_region_held_drew (S := fun w' => VV w' ga oneT) (by kernel_rfl) (unhide HGd) (fun hHeld => ?_)
            refine hand_to (i := 0) (d := 80) (v := .nilIface) rfl rfl (by kernel_rfl) (by kernel_rfl) (by kernel_rfl) (fun _ _ _ h => h) (Or.inl ⟨by rfl, ?_⟩) hHeld ?_
            · (intro w' hSw; kernel_rfl)
            simp only [Act.put, List.setIfInBounds_toArray, List.set_cons_zero, List.set_cons_succ]
            refine hand_to (i := 1) (d := 81) (v := (.bool true)) rfl rfl (by kernel_rfl) (by kernel_rfl) (by kernel_rfl) (fun _ _ _ h => h) (Or.inl ⟨by rfl, ?_⟩) hHeld ?_
            · (intro w' hSw; kernel_rfl)
            simp only [Act.put, List.setIfInBounds_toArray, List.set_cons_zero, List.set_cons_succ]
            refine hand_to (i := 2) (d := 82) (v := (.bool true)) rfl rfl (by kernel_rfl) (by kernel_rfl) (by kernel_rfl) (fun _ _ _ h => h) (Or.inl ⟨by rfl, ?_⟩) hHeld ?_
            · (intro w' hSw; kernel_rfl)
            simp only [Act.put, List.setIfInBounds_toArray, List.set_cons_zero, List.set_cons_succ]
            refine hand_to (i := 3) (d := 83) (v := .agg (gvC oneT).toArray) rfl rfl (by kernel_rfl) (by kernel_rfl) (by kernel_rfl) (fun _ _ _ h => h) (yieldsIf_load_mid (by rfl) 26 (.tmp 12) rfl ga 0 rfl (gvC oneT) _ (fun w hw => hw.range) Tryz.underlying26 rfl sizeV) hHeld ?_
            simp only [Act.put, List.setIfInBounds_toArray, List.set_cons_zero, List.set_cons_succ]
            refine hand_to (i := 4) (d := 84) (v := (.int .i64 1)) rfl rfl (by kernel_rfl) (by kernel_rfl) (by kernel_rfl) (fun _ _ _ h => h) (Or.inl ⟨by rfl, ?_⟩) hHeld ?_
            · (intro w' hSw; kernel_rfl)
            simp only [Act.put, List.setIfInBounds_toArray, List.set_cons_zero, List.set_cons_succ]
            refine wpAnyH_ready (rs := [5]) (by kernel_rfl) (by simp) ?_
            refine AllReadyH.cons rfl (fun K hK => ?_) AllReadyH.nil
            rw [if_pos (by rfl)]
            refine op_call (some 85) rfl 24 #[.int .i64 1] (by kernel_rfl) (of_one _) ?_
            rintro e w6 ⟨rfl, hb⟩
            refine ⟨_, rfl, ?_⟩
            have HG6 := hide ((unhide HGd).below hb)
            have HB6 := hide (trX (unhide HBd) hb)
            clear hb
            refine hK.out _ _ (unhide HG6) (fun hHeld2 => ?_)
            clear hK K hHeld
            have hHeld := hHeld2
            clear hHeld2
            try simp only [Act.put, List.setIfInBounds_toArray, List.set_cons_zero, List.set_cons_succ]
            refine hand_to (i := 6) (d := 86) (v := (.bool true)) rfl rfl (by kernel_rfl) (by kernel_rfl) (by kernel_rfl) (fun _ _ _ h => h) (Or.inl ⟨by rfl, ?_⟩) hHeld ?_
            · (intro w' hSw; kernel_rfl)
            simp only [Act.put, List.setIfInBounds_toArray, List.set_cons_zero, List.set_cons_succ]
            refine hand_to (i := 7) (d := 87) (v := (.bool true)) rfl rfl (by kernel_rfl) (by kernel_rfl) (by kernel_rfl) (fun _ _ _ h => h) (Or.inl ⟨by rfl, ?_⟩) hHeld ?_
            · (intro w' hSw; kernel_rfl)
            simp only [Act.put, List.setIfInBounds_toArray, List.set_cons_zero, List.set_cons_succ]
            refine hand_to (i := 8) (d := 6) (v := (.bool true)) rfl rfl (by kernel_rfl) (by kernel_rfl) (by kernel_rfl) (fun _ _ _ h => h) (Or.inl ⟨by rfl, ?_⟩) hHeld ?_
            · (intro w' hSw; kernel_rfl)
            simp only [Act.put, List.setIfInBounds_toArray, List.set_cons_zero, List.set_cons_succ]
            refine wpAnyH_done (by kernel_rfl) ?_ _
            go_wp2_with fail
            go_ret
            exact ⟨rfl, unhide HB6⟩
        · skip
          as_aux_lemma =>
            have hw : wantS 1 1 true = (oneT, 0) := by kernel_rfl
            rw [hw] at HGa ⊢
            clear hw
            go_upto_region 21 with fail
            have HGd := hide ((unhide HGa).below (Below.refl _ _).drew)
            have HBd := hide (trX (unhide HB) (Below.refl _ _).drew)
            refine wp_region_held_drew (S := fun w' => VV w' ga oneT) (by kernel_rfl) (unhide HGd) (fun hHeld => ?_)
            refine hand_to (i := 0) (d := 80) (v := .nilIface) rfl rfl (by kernel_rfl) (by kernel_rfl) (by kernel_rfl) (fun _ _ _ h => h) (Or.inl ⟨by rfl, ?_⟩) hHeld ?_
            · (intro w' hSw; kernel_rfl)
            simp only [Act.put, List.setIfInBounds_toArray, List.set_cons_zero, List.set_cons_succ]
            refine hand_to (i := 1) (d := 81) (v := (.bool true)) rfl rfl (by kernel_rfl) (by kernel_rfl) (by kernel_rfl) (fun _ _ _ h => h) (Or.inl ⟨by rfl, ?_⟩) hHeld ?_
            · (intro w' hSw; kernel_rfl)
            simp only [Act.put, List.setIfInBounds_toArray, List.set_cons_zero, List.set_cons_succ]
            refine hand_to (i := 2) (d := 82) (v := (.bool true)) rfl rfl (by kernel_rfl) (by kernel_rfl) (by kernel_rfl) (fun _ _ _ h => h) (Or.inl ⟨by rfl, ?_⟩) hHeld ?_
            · (intro w' hSw; kernel_rfl)
            simp only [Act.put, List.setIfInBounds_toArray, List.set_cons_zero, List.set_cons_succ]
            refine hand_to (i := 3) (d := 83) (v := .agg (gvC oneT).toArray) rfl rfl (by kernel_rfl) (by kernel_rfl) (by kernel_rfl) (fun _ _ _ h => h) (yieldsIf_load_mid (by rfl) 26 (.tmp 12) rfl ga 0 rfl (gvC oneT) _ (fun w hw => hw.range) Tryz.underlying26 rfl sizeV) hHeld ?_
            simp only [Act.put, List.setIfInBounds_toArray, List.set_cons_zero, List.set_cons_succ]
            refine hand_to (i := 4) (d := 84) (v := (.int .i64 1)) rfl rfl (by kernel_rfl) (by kernel_rfl) (by kernel_rfl) (fun _ _ _ h => h) (Or.inl ⟨by rfl, ?_⟩) hHeld ?_
            · (intro w' hSw; kernel_rfl)
            simp only [Act.put, List.setIfInBounds_toArray, List.set_cons_zero, List.set_cons_succ]
            refine wpAnyH_ready (rs := [5]) (by kernel_rfl) (by simp) ?_
            refine AllReadyH.cons rfl (fun K hK => ?_) AllReadyH.nil
            rw [if_pos (by rfl)]
            refine op_call (some 85) rfl 24 #[.int .i64 1] (by kernel_rfl) (of_one _) ?_
            rintro e w6 ⟨rfl, hb⟩
            refine ⟨_, rfl, ?_⟩
            have HG6 := hide ((unhide HGd).below hb)
            have HB6 := hide (trX (unhide HBd) hb)
            clear hb
            refine hK.out _ _ (unhide HG6) (fun hHeld2 => ?_)
            clear hK K hHeld
            have hHeld := hHeld2
            clear hHeld2
            try simp only [Act.put, List.setIfInBounds_toArray, List.set_cons_zero, List.set_cons_succ]
            refine hand_to (i := 6) (d := 86) (v := (.bool true)) rfl rfl (by kernel_rfl) (by kernel_rfl) (by kernel_rfl) (fun _ _ _ h => h) (Or.inl ⟨by rfl, ?_⟩) hHeld ?_
            · (intro w' hSw; kernel_rfl)
            simp only [Act.put, List.setIfInBounds_toArray, List.set_cons_zero, List.set_cons_succ]
            refine hand_to (i := 7) (d := 87) (v := (.bool true)) rfl rfl (by kernel_rfl) (by kernel_rfl) (by kernel_rfl) (fun _ _ _ h => h) (Or.inl ⟨by rfl, ?_⟩) hHeld ?_
            · (intro w' hSw; kernel_rfl)
            simp only [Act.put, List.setIfInBounds_toArray, List.set_cons_zero, List.set_cons_succ]
            refine hand_to (i := 8) (d := 6) (v := (.bool true)) rfl rfl (by kernel_rfl) (by kernel_rfl) (by kernel_rfl) (fun _ _ _ h => h) (Or.inl ⟨by rfl, ?_⟩) hHeld ?_
            · (intro w' hSw; kernel_rfl)
            simp only [Act.put, List.setIfInBounds_toArray, List.set_cons_zero, List.set_cons_succ]
            refine wpAnyH_done (by kernel_rfl) ?_ _
            go_wp2_with fail
            go_ret
            exact ⟨rfl, unhide HB6⟩
        · skip
          as_aux_lemma =>
            have hw : wantS 1 2 true = (oneT, 0) := by kernel_rfl
            rw [hw] at HGa ⊢
            clear hw
            go_upto_region 21 with fail
            have HGd := hide ((unhide HGa).below (Below.refl _ _).drew)
            have HBd := hide (trX (unhide HB) (Below.refl _ _).drew)
            refine wp_region_held_drew (S := fun w' => VV w' ga oneT) (by kernel_rfl) (unhide HGd) (fun hHeld => ?_)
            refine hand_to (i := 0) (d := 80) (v := .nilIface) rfl rfl (by kernel_rfl) (by kernel_rfl) (by kernel_rfl) (fun _ _ _ h => h) (Or.inl ⟨by rfl, ?_⟩) hHeld ?_
            · (intro w' hSw; kernel_rfl)
            simp only [Act.put, List.setIfInBounds_toArray, List.set_cons_zero, List.set_cons_succ]
            refine hand_to (i := 1) (d := 81) (v := (.bool true)) rfl rfl (by kernel_rfl) (by kernel_rfl) (by kernel_rfl) (fun _ _ _ h => h) (Or.inl ⟨by rfl, ?_⟩) hHeld ?_
            · (intro w' hSw; kernel_rfl)
            simp only [Act.put, List.setIfInBounds_toArray, List.set_cons_zero, List.set_cons_succ]
            refine hand_to (i := 2) (d := 82) (v := (.bool true)) rfl rfl (by kernel_rfl) (by kernel_rfl) (by kernel_rfl) (fun _ _ _ h => h) (Or.inl ⟨by rfl, ?_⟩) hHeld ?_
            · (intro w' hSw; kernel_rfl)
            simp only [Act.put, List.setIfInBounds_toArray, List.set_cons_zero, List.set_cons_succ]
            refine hand_to (i := 3) (d := 83) (v := .agg (gvC oneT).toArray) rfl rfl (by kernel_rfl) (by kernel_rfl) (by kernel_rfl) (fun _ _ _ h => h) (yieldsIf_load_mid (by rfl) 26 (.tmp 12) rfl ga 0 rfl (gvC oneT) _ (fun w hw => hw.range) Tryz.underlying26 rfl sizeV) hHeld ?_
            simp only [Act.put, List.setIfInBounds_toArray, List.set_cons_zero, List.set_cons_succ]
            refine hand_to (i := 4) (d := 84) (v := (.int .i64 1)) rfl rfl (by kernel_rfl) (by kernel_rfl) (by kernel_rfl) (fun _ _ _ h => h) (Or.inl ⟨by rfl, ?_⟩) hHeld ?_
            · (intro w' hSw; kernel_rfl)
            simp only [Act.put, List.setIfInBounds_toArray, List.set_cons_zero, List.set_cons_succ]
            refine wpAnyH_ready (rs := [5]) (by kernel_rfl) (by simp) ?_
            refine AllReadyH.cons rfl (fun K hK => ?_) AllReadyH.nil
            rw [if_pos (by rfl)]
            refine op_call (some 85) rfl 24 #[.int .i64 1] (by kernel_rfl) (of_one _) ?_
            rintro e w6 ⟨rfl, hb⟩
            refine ⟨_, rfl, ?_⟩
            have HG6 := hide ((unhide HGd).below hb)
            have HB6 := hide (trX (unhide HBd) hb)
            clear hb
            refine hK.out _ _ (unhide HG6) (fun hHeld2 => ?_)
            clear hK K hHeld
            have hHeld := hHeld2
            clear hHeld2
            try simp only [Act.put, List.setIfInBounds_toArray, List.set_cons_zero, List.set_cons_succ]
            refine hand_to (i := 6) (d := 86) (v := (.bool true)) rfl rfl (by kernel_rfl) (by kernel_rfl) (by kernel_rfl) (fun _ _ _ h => h) (Or.inl ⟨by rfl, ?_⟩) hHeld ?_
            · (intro w' hSw; kernel_rfl)
            simp only [Act.put, List.setIfInBounds_toArray, List.set_cons_zero, List.set_cons_succ]
            refine hand_to (i := 7) (d := 87) (v := (.bool true)) rfl rfl (by kernel_rfl) (by kernel_rfl) (by kernel_rfl) (fun _ _ _ h => h) (Or.inl ⟨by rfl, ?_⟩) hHeld ?_
            · (intro w' hSw; kernel_rfl)
            simp only [Act.put, List.setIfInBounds_toArray, List.set_cons_zero, List.set_cons_succ]
            refine hand_to (i := 8) (d := 6) (v := (.bool true)) rfl rfl (by kernel_rfl) (by kernel_rfl) (by kernel_rfl) (fun _ _ _ h => h) (Or.inl ⟨by rfl, ?_⟩) hHeld ?_
            · (intro w' hSw; kernel_rfl)
            simp only [Act.put, List.setIfInBounds_toArray, List.set_cons_zero, List.set_cons_succ]
            refine wpAnyH_done (by kernel_rfl) ?_ _
            go_wp2_with fail
            go_ret
            exact ⟨rfl, unhide HB6⟩
        · skip
          as_aux_lemma =>
            have hw : wantS 1 3 true = (oneT, 0) := by kernel_rfl
            rw [hw] at HGa ⊢
            clear hw
            go_upto_region 21 with fail
            have HGd := hide ((unhide HGa).below (Below.refl _ _).drew)
            have HBd := hide (trX (unhide HB) (Below.refl _ _).drew)
            refine wp_region_held_drew (S := fun w' => VV w' ga oneT) (by kernel_rfl) (unhide HGd) (fun hHeld => ?_)
            refine hand_to (i := 0) (d := 80) (v := .nilIface) rfl rfl (by kernel_rfl) (by kernel_rfl) (by kernel_rfl) (fun _ _ _ h => h) (Or.inl ⟨by rfl, ?_⟩) hHeld ?_
            · (intro w' hSw; kernel_rfl)
            simp only [Act.put, List.setIfInBounds_toArray, List.set_cons_zero, List.set_cons_succ]
            refine hand_to (i := 1) (d := 81) (v := (.bool true)) rfl rfl (by kernel_rfl) (by kernel_rfl) (by kernel_rfl) (fun _ _ _ h => h) (Or.inl ⟨by rfl, ?_⟩) hHeld ?_
            · (intro w' hSw; kernel_rfl)
            simp only [Act.put, List.setIfInBounds_toArray, List.set_cons_zero, List.set_cons_succ]
            refine hand_to (i := 2) (d := 82) (v := (.bool true)) rfl rfl (by kernel_rfl) (by kernel_rfl) (by kernel_rfl) (fun _ _ _ h => h) (Or.inl ⟨by rfl, ?_⟩) hHeld ?_
            · (intro w' hSw; kernel_rfl)
            simp only [Act.put, List.setIfInBounds_toArray, List.set_cons_zero, List.set_cons_succ]
            refine hand_to (i := 3) (d := 83) (v := .agg (gvC oneT).toArray) rfl rfl (by kernel_rfl) (by kernel_rfl) (by kernel_rfl) (fun _ _ _ h => h) (yieldsIf_load_mid (by rfl) 26 (.tmp 12) rfl ga 0 rfl (gvC oneT) _ (fun w hw => hw.range) Tryz.underlying26 rfl sizeV) hHeld ?_
            simp only [Act.put, List.setIfInBounds_toArray, List.set_cons_zero, List.set_cons_succ]
            refine hand_to (i := 4) (d := 84) (v := (.int .i64 1)) rfl rfl (by kernel_rfl) (by kernel_rfl) (by kernel_rfl) (fun _ _ _ h => h) (Or.inl ⟨by rfl, ?_⟩) hHeld ?_
            · (intro w' hSw; kernel_rfl)
            simp only [Act.put, List.setIfInBounds_toArray, List.set_cons_zero, List.set_cons_succ]
            refine wpAnyH_ready (rs := [5]) (by kernel_rfl) (by simp) ?_
            refine AllReadyH.cons rfl (fun K hK => ?_) AllReadyH.nil
            rw [if_pos (by rfl)]
            refine op_call (some 85) rfl 24 #[.int .i64 1] (by kernel_rfl) (of_one _) ?_
            rintro e w6 ⟨rfl, hb⟩
            refine ⟨_, rfl, ?_⟩
            have HG6 := hide ((unhide HGd).below hb)
            have HB6 := hide (trX (unhide HBd) hb)
            clear hb
            refine hK.out _ _ (unhide HG6) (fun hHeld2 => ?_)
            clear hK K hHeld
            have hHeld := hHeld2
            clear hHeld2
            try simp only [Act.put, List.setIfInBounds_toArray, List.set_cons_zero, List.set_cons_succ]
            refine hand_to (i := 6) (d := 86) (v := (.bool true)) rfl rfl (by kernel_rfl) (by kernel_rfl) (by kernel_rfl) (fun _ _ _ h => h) (Or.inl ⟨by rfl, ?_⟩) hHeld ?_
            · (intro w' hSw; kernel_rfl)
            simp only [Act.put, List.setIfInBounds_toArray, List.set_cons_zero, List.set_cons_succ]
            refine hand_to (i := 7) (d := 87) (v := (.bool true)) rfl rfl (by kernel_rfl) (by kernel_rfl) (by kernel_rfl) (fun _ _ _ h => h) (Or.inl ⟨by rfl, ?_⟩) hHeld ?_
            · (intro w' hSw; kernel_rfl)
            simp only [Act.put, List.setIfInBounds_toArray, List.set_cons_zero, List.set_cons_succ]
            refine hand_to (i := 8) (d := 6) (v := (.bool true)) rfl rfl (by kernel_rfl) (by kernel_rfl) (by kernel_rfl) (fun _ _ _ h => h) (Or.inl ⟨by rfl, ?_⟩) hHeld ?_
            · (intro w' hSw; kernel_rfl)
            simp only [Act.put, List.setIfInBounds_toArray, List.set_cons_zero, List.set_cons_succ]
            refine wpAnyH_done (by kernel_rfl) ?_ _
            go_wp2_with fail
            go_ret
            exact ⟨rfl, unhide HB6⟩
      · rcases unhide HY with rfl | rfl | rfl | rfl
        · skip
          as_aux_lemma =>
            have hw : wantS 2 0 true = (nullG, 0) := by kernel_rfl
            rw [hw] at HGa ⊢
            clear hw
            go_upto_region 21 with fail
            have HGd := hide ((unhide HGa).below (Below.refl _ _).drew)
            have HBd := hide (trX (unhide HB) (Below.refl _ _).drew)
            refine wp_region_held_drew (S := fun w' => VV w' ga nullG) (by kernel_rfl) (unhide HGd) (fun hHeld => ?_)
            refine hand_to (i := 0) (d := 80) (v := .nilIface) rfl rfl (by kernel_rfl) (by kernel_rfl) (by kernel_rfl) (fun _ _ _ h => h) (Or.inl ⟨by rfl, ?_⟩) hHeld ?_
            · (intro w' hSw; kernel_rfl)
            simp only [Act.put, List.setIfInBounds_toArray, List.set_cons_zero, List.set_cons_succ]
            refine hand_to (i := 1) (d := 81) (v := (.bool true)) rfl rfl (by kernel_rfl) (by kernel_rfl) (by kernel_rfl) (fun _ _ _ h => h) (Or.inl ⟨by rfl, ?_⟩) hHeld ?_
            · (intro w' hSw; kernel_rfl)
            simp only [Act.put, List.setIfInBounds_toArray, List.set_cons_zero, List.set_cons_succ]
            refine hand_to (i := 2) (d := 82) (v := (.bool true)) rfl rfl (by kernel_rfl) (by kernel_rfl) (by kernel_rfl) (fun _ _ _ h => h) (Or.inl ⟨by rfl, ?_⟩) hHeld ?_
            · (intro w' hSw; kernel_rfl)
            simp only [Act.put, List.setIfInBounds_toArray, List.set_cons_zero, List.set_cons_succ]
            refine hand_to (i := 3) (d := 83) (v := .agg (gvC nullG).toArray) rfl rfl (by kernel_rfl) (by kernel_rfl) (by kernel_rfl) (fun _ _ _ h => h) (yieldsIf_load_mid (by rfl) 26 (.tmp 12) rfl ga 0 rfl (gvC nullG) _ (fun w hw => hw.range) Tryz.underlying26 rfl sizeV) hHeld ?_
            simp only [Act.put, List.setIfInBounds_toArray, List.set_cons_zero, List.set_cons_succ]
            refine hand_to (i := 4) (d := 84) (v := (.int .i64 2)) rfl rfl (by kernel_rfl) (by kernel_rfl) (by kernel_rfl) (fun _ _ _ h => h) (Or.inl ⟨by rfl, ?_⟩) hHeld ?_
            · (intro w' hSw; kernel_rfl)
            simp only [Act.put, List.setIfInBounds_toArray, List.set_cons_zero, List.set_cons_succ]
            refine wpAnyH_ready (rs := [5]) (by kernel_rfl) (by simp) ?_
            refine AllReadyH.cons rfl (fun K hK => ?_) AllReadyH.nil
            rw [if_pos (by rfl)]
            refine op_call (some 85) rfl 24 #[.int .i64 2] (by kernel_rfl) (of_two _) ?_
            rintro e w6 ⟨rfl, hb⟩
            refine ⟨_, rfl, ?_⟩
            have HG6 := hide ((unhide HGd).below hb)
            have HB6 := hide (trX (unhide HBd) hb)
            clear hb
            refine hK.out _ _ (unhide HG6) (fun hHeld2 => ?_)
            clear hK K hHeld
            have hHeld := hHeld2
            clear hHeld2
            try simp only [Act.put, List.setIfInBounds_toArray, List.set_cons_zero, List.set_cons_succ]
            refine hand_to (i := 6) (d := 86) (v := (.bool true)) rfl rfl (by kernel_rfl) (by kernel_rfl) (by kernel_rfl) (fun _ _ _ h => h) (Or.inl ⟨by rfl, ?_⟩) hHeld ?_
            · (intro w' hSw; kernel_rfl)
            simp only [Act.put, List.setIfInBounds_toArray, List.set_cons_zero, List.set_cons_succ]
            refine hand_to (i := 7) (d := 87) (v := (.bool true)) rfl rfl (by kernel_rfl) (by kernel_rfl) (by kernel_rfl) (fun _ _ _ h => h) (Or.inl ⟨by rfl, ?_⟩) hHeld ?_
            · (intro w' hSw; kernel_rfl)
            simp only [Act.put, List.setIfInBounds_toArray, List.set_cons_zero, List.set_cons_succ]
            refine hand_to (i := 8) (d := 6) (v := (.bool true)) rfl rfl (by kernel_rfl) (by kernel_rfl) (by kernel_rfl) (fun _ _ _ h => h) (Or.inl ⟨by rfl, ?_⟩) hHeld ?_
            · (intro w' hSw; kernel_rfl)
            simp only [Act.put, List.setIfInBounds_toArray, List.set_cons_zero, List.set_cons_succ]
            refine wpAnyH_done (by kernel_rfl) ?_ _
            go_wp2_with fail
            go_ret
            exact ⟨rfl, unhide HB6⟩
        · skip
          as_aux_lemma =>
            have hw : wantS 2 1 true = (oneT, 0) := by kernel_rfl
            rw [hw] at HGa ⊢
            clear hw
            go_upto_region 21 with fail
            have HGd := hide ((unhide HGa).below (Below.refl _ _).drew)
            have HBd := hide (trX (unhide HB) (Below.refl _ _).drew)
            refine wp_region_held_drew (S := fun w' => VV w' ga oneT) (by kernel_rfl) (unhide HGd) (fun hHeld => ?_)
            refine hand_to (i := 0) (d := 80) (v := .nilIface) rfl rfl (by kernel_rfl) (by kernel_rfl) (by kernel_rfl) (fun _ _ _ h => h) (Or.inl ⟨by rfl, ?_⟩) hHeld ?_
            · (intro w' hSw; kernel_rfl)
            simp only [Act.put, List.setIfInBounds_toArray, List.set_cons_zero, List.set_cons_succ]
            refine hand_to (i := 1) (d := 81) (v := (.bool true)) rfl rfl (by kernel_rfl) (by kernel_rfl) (by kernel_rfl) (fun _ _ _ h => h) (Or.inl ⟨by rfl, ?_⟩) hHeld ?_
            · (intro w' hSw; kernel_rfl)
            simp only [Act.put, List.setIfInBounds_toArray, List.set_cons_zero, List.set_cons_succ]
            refine hand_to (i := 2) (d := 82) (v := (.bool true)) rfl rfl (by kernel_rfl) (by kernel_rfl) (by kernel_rfl) (fun _ _ _ h => h) (Or.inl ⟨by rfl, ?_⟩) hHeld ?_
            · (intro w' hSw; kernel_rfl)
            simp only [Act.put, List.setIfInBounds_toArray, List.set_cons_zero, List.set_cons_succ]
            refine hand_to (i := 3) (d := 83) (v := .agg (gvC oneT).toArray) rfl rfl (by kernel_rfl) (by kernel_rfl) (by kernel_rfl) (fun _ _ _ h => h) (yieldsIf_load_mid (by rfl) 26 (.tmp 12) rfl ga 0 rfl (gvC oneT) _ (fun w hw => hw.range) Tryz.underlying26 rfl sizeV) hHeld ?_
            simp only [Act.put, List.setIfInBounds_toArray, List.set_cons_zero, List.set_cons_succ]
            refine hand_to (i := 4) (d := 84) (v := (.int .i64 1)) rfl rfl (by kernel_rfl) (by kernel_rfl) (by kernel_rfl) (fun _ _ _ h => h) (Or.inl ⟨by rfl, ?_⟩) hHeld ?_
            · (intro w' hSw; kernel_rfl)
            simp only [Act.put, List.setIfInBounds_toArray, List.set_cons_zero, List.set_cons_succ]
            refine wpAnyH_ready (rs := [5]) (by kernel_rfl) (by simp) ?_
            refine AllReadyH.cons rfl (fun K hK => ?_) AllReadyH.nil
            rw [if_pos (by rfl)]
            refine op_call (some 85) rfl 24 #[.int .i64 1] (by kernel_rfl) (of_one _) ?_
            rintro e w6 ⟨rfl, hb⟩
            refine ⟨_, rfl, ?_⟩
            have HG6 := hide ((unhide HGd).below hb)
            have HB6 := hide (trX (unhide HBd) hb)
            clear hb
            refine hK.out _ _ (unhide HG6) (fun hHeld2 => ?_)
            clear hK K hHeld
            have hHeld := hHeld2
            clear hHeld2
            try simp only [Act.put, List.setIfInBounds_toArray, List.set_cons_zero, List.set_cons_succ]
            refine hand_to (i := 6) (d := 86) (v := (.bool true)) rfl rfl (by kernel_rfl) (by kernel_rfl) (by kernel_rfl) (fun _ _ _ h => h) (Or.inl ⟨by rfl, ?_⟩) hHeld ?_
            · (intro w' hSw; kernel_rfl)
            simp only [Act.put, List.setIfInBounds_toArray, List.set_cons_zero, List.set_cons_succ]
            refine hand_to (i := 7) (d := 87) (v := (.bool true)) rfl rfl (by kernel_rfl) (by kernel_rfl) (by kernel_rfl) (fun _ _ _ h => h) (Or.inl ⟨by rfl, ?_⟩) hHeld ?_
            · (intro w' hSw; kernel_rfl)
            simp only [Act.put, List.setIfInBounds_toArray, List.set_cons_zero, List.set_cons_succ]
            refine hand_to (i := 8) (d := 6) (v := (.bool true)) rfl rfl (by kernel_rfl) (by kernel_rfl) (by kernel_rfl) (fun _ _ _ h => h) (Or.inl ⟨by rfl, ?_⟩) hHeld ?_
            · (intro w' hSw; kernel_rfl)
            simp only [Act.put, List.setIfInBounds_toArray, List.set_cons_zero, List.set_cons_succ]
            refine wpAnyH_done (by kernel_rfl) ?_ _
            go_wp2_with fail
            go_ret
            exact ⟨rfl, unhide HB6⟩
        · skip
          as_aux_lemma =>
            have hw : wantS 2 2 true = (nullG, 0) := by kernel_rfl
            rw [hw] at HGa ⊢
            clear hw
            go_upto_region 21 with fail
            have HGd := hide ((unhide HGa).below (Below.refl _ _).drew)
            have HBd := hide (trX (unhide HB) (Below.refl _ _).drew)
            refine wp_region_held_drew (S := fun w' => VV w' ga nullG) (by kernel_rfl) (unhide HGd) (fun hHeld => ?_)
            refine hand_to (i := 0) (d := 80) (v := .nilIface) rfl rfl (by kernel_rfl) (by kernel_rfl) (by kernel_rfl) (fun _ _ _ h => h) (Or.inl ⟨by rfl, ?_⟩) hHeld ?_
            · (intro w' hSw; kernel_rfl)
            simp only [Act.put, List.setIfInBounds_toArray, List.set_cons_zero, List.set_cons_succ]
            refine hand_to (i := 1) (d := 81) (v := (.bool true)) rfl rfl (by kernel_rfl) (by kernel_rfl) (by kernel_rfl) (fun _ _ _ h => h) (Or.inl ⟨by rfl, ?_⟩) hHeld ?_
            · (intro w' hSw; kernel_rfl)
            simp only [Act.put, List.setIfInBounds_toArray, List.set_cons_zero, List.set_cons_succ]
            refine hand_to (i := 2) (d := 82) (v := (.bool true)) rfl rfl (by kernel_rfl) (by kernel_rfl) (by kernel_rfl) (fun _ _ _ h => h) (Or.inl ⟨by rfl, ?_⟩) hHeld ?_
            · (intro w' hSw; kernel_rfl)
            simp only [Act.put, List.setIfInBounds_toArray, List.set_cons_zero, List.set_cons_succ]
            refine hand_to (i := 3) (d := 83) (v := .agg (gvC nullG).toArray) rfl rfl (by kernel_rfl) (by kernel_rfl) (by kernel_rfl) (fun _ _ _ h => h) (yieldsIf_load_mid (by rfl) 26 (.tmp 12) rfl ga 0 rfl (gvC nullG) _ (fun w hw => hw.range) Tryz.underlying26 rfl sizeV) hHeld ?_
            simp only [Act.put, List.setIfInBounds_toArray, List.set_cons_zero, List.set_cons_succ]
            refine hand_to (i := 4) (d := 84) (v := (.int .i64 2)) rfl rfl (by kernel_rfl) (by kernel_rfl) (by kernel_rfl) (fun _ _ _ h => h) (Or.inl ⟨by rfl, ?_⟩) hHeld ?_
            · (intro w' hSw; kernel_rfl)
            simp only [Act.put, List.setIfInBounds_toArray, List.set_cons_zero, List.set_cons_succ]
            refine wpAnyH_ready (rs := [5]) (by kernel_rfl) (by simp) ?_
            refine AllReadyH.cons rfl (fun K hK => ?_) AllReadyH.nil
            rw [if_pos (by rfl)]
            refine op_call (some 85) rfl 24 #[.int .i64 2] (by kernel_rfl) (of_two _) ?_
            rintro e w6 ⟨rfl, hb⟩
            refine ⟨_, rfl, ?_⟩
            have HG6 := hide ((unhide HGd).below hb)
            have HB6 := hide (trX (unhide HBd) hb)
            clear hb
            refine hK.out _ _ (unhide HG6) (fun hHeld2 => ?_)
            clear hK K hHeld
            have hHeld := hHeld2
            clear hHeld2
            try simp only [Act.put, List.setIfInBounds_toArray, List.set_cons_zero, List.set_cons_succ]
            refine hand_to (i := 6) (d := 86) (v := (.bool true)) rfl rfl (by kernel_rfl) (by kernel_rfl) (by kernel_rfl) (fun _ _ _ h => h) (Or.inl ⟨by rfl, ?_⟩) hHeld ?_
            · (intro w' hSw; kernel_rfl)
            simp only [Act.put, List.setIfInBounds_toArray, List.set_cons_zero, List.set_cons_succ]
            refine hand_to (i := 7) (d := 87) (v := (.bool true)) rfl rfl (by kernel_rfl) (by kernel_rfl) (by kernel_rfl) (fun _ _ _ h => h) (Or.inl ⟨by rfl, ?_⟩) hHeld ?_
            · (intro w' hSw; kernel_rfl)
            simp only [Act.put, List.setIfInBounds_toArray, List.set_cons_zero, List.set_cons_succ]
            refine hand_to (i := 8) (d := 6) (v := (.bool true)) rfl rfl (by kernel_rfl) (by kernel_rfl) (by kernel_rfl) (fun _ _ _ h => h) (Or.inl ⟨by rfl, ?_⟩) hHeld ?_
            · (intro w' hSw; kernel_rfl)
            simp only [Act.put, List.setIfInBounds_toArray, List.set_cons_zero, List.set_cons_succ]
            refine wpAnyH_done (by kernel_rfl) ?_ _
            go_wp2_with fail
            go_ret
            exact ⟨rfl, unhide HB6⟩
        · skip
          as_aux_lemma =>
            have hw : wantS 2 3 true = (nullG, 7) := by kernel_rfl
            rw [hw] at HGa ⊢
            clear hw
            go_upto_region 15 with fail
            refine wp_region_list ?_
            refine list_to (d := 55) (v := .iface 102 (.int .i64 7)) rfl rfl (by kernel_rfl) ?_
            simp only [Act.put, List.setIfInBounds_toArray, List.set_cons_zero, List.set_cons_succ]
            refine list_call rfl (some 56) rfl 14 #[.iface 102 (.int .i64 7)] (by kernel_rfl) (class_g 7 w5 (unhide HEr w5 (unhide HB))) ?_
            rintro e w6 ⟨rfl, hb⟩
            refine ⟨_, rfl, ?_⟩
            simp only [Act.put, List.setIfInBounds_toArray, List.set_cons_zero, List.set_cons_succ]
            have HB := hide (trX (unhide HB) hb)
            have HGa := hide ((unhide HGa).below hb)
            clear hb
            refine list_to (d := 57) (v := .bool true) rfl rfl (by kernel_rfl) ?_
            simp only [Act.put, List.setIfInBounds_toArray, List.set_cons_zero, List.set_cons_succ]
            refine list_to (d := 58) (v := .bool true) rfl rfl (by kernel_rfl) ?_
            simp only [Act.put, List.setIfInBounds_toArray, List.set_cons_zero, List.set_cons_succ]
            refine list_wload (d := 59) rfl (by kernel_rfl) 26 (.tmp 12) rfl ga 0 rfl (gvC nullG) _ (unhide HGa).range Tryz.underlying26 rfl sizeV ?_
            simp only [Act.put, List.setIfInBounds_toArray, List.set_cons_zero, List.set_cons_succ]
            refine list_want (d := 60) (v := .agg (gvC nullG).toArray) rfl (by kernel_rfl) (by kernel_rfl) ?_
            simp only [Act.put, List.setIfInBounds_toArray, List.set_cons_zero, List.set_cons_succ]
            refine list_want (d := 61) (v := .bool true) rfl (by kernel_rfl) (by kernel_rfl) ?_
            simp only [Act.put, List.setIfInBounds_toArray, List.set_cons_zero, List.set_cons_succ]
            refine list_to (d := 62) (v := .bool true) rfl rfl (by kernel_rfl) ?_
            simp only [Act.put, List.setIfInBounds_toArray, List.set_cons_zero, List.set_cons_succ]
            refine list_to (d := 6) (v := .bool true) rfl rfl (by kernel_rfl) ?_
            simp only [Act.put, List.setIfInBounds_toArray, List.set_cons_zero, List.set_cons_succ]
            go_wp2_with fail
            go_ret
            exact ⟨rfl, unhide HB⟩
      · rcases unhide HY with rfl | rfl | rfl | rfl
        · skip
          as_aux_lemma =>
            have hw : wantS 3 0 true = (nullG, 7) := by kernel_rfl
            rw [hw] at HGa ⊢
            clear hw
            go_upto_region 15 with fail
            refine wp_region_list ?_
            refine list_to (d := 55) (v := .iface 102 (.int .i64 7)) rfl rfl (by kernel_rfl) ?_
            simp only [Act.put, List.setIfInBounds_toArray, List.set_cons_zero, List.set_cons_succ]
            refine list_call rfl (some 56) rfl 14 #[.iface 102 (.int .i64 7)] (by kernel_rfl) (class_g 7 w5 (unhide HEr w5 (unhide HB))) ?_
            rintro e w6 ⟨rfl, hb⟩
            refine ⟨_, rfl, ?_⟩
            simp only [Act.put, List.setIfInBounds_toArray, List.set_cons_zero, List.set_cons_succ]
            have HB := hide (trX (unhide HB) hb)
            have HGa := hide ((unhide HGa).below hb)
            clear hb
            refine list_to (d := 57) (v := .bool true) rfl rfl (by kernel_rfl) ?_
            simp only [Act.put, List.setIfInBounds_toArray, List.set_cons_zero, List.set_cons_succ]
            refine list_to (d := 58) (v := .bool true) rfl rfl (by kernel_rfl) ?_
            simp only [Act.put, List.setIfInBounds_toArray, List.set_cons_zero, List.set_cons_succ]
            refine list_wload (d := 59) rfl (by kernel_rfl) 26 (.tmp 12) rfl ga 0 rfl (gvC nullG) _ (unhide HGa).range Tryz.underlying26 rfl sizeV ?_
            simp only [Act.put, List.setIfInBounds_toArray, List.set_cons_zero, List.set_cons_succ]
            refine list_want (d := 60) (v := .agg (gvC nullG).toArray) rfl (by kernel_rfl) (by kernel_rfl) ?_
            simp only [Act.put, List.setIfInBounds_toArray, List.set_cons_zero, List.set_cons_succ]
            refine list_want (d := 61) (v := .bool true) rfl (by kernel_rfl) (by kernel_rfl) ?_
            simp only [Act.put, List.setIfInBounds_toArray, List.set_cons_zero, List.set_cons_succ]
            refine list_to (d := 62) (v := .bool true) rfl rfl (by kernel_rfl) ?_
            simp only [Act.put, List.setIfInBounds_toArray, List.set_cons_zero, List.set_cons_succ]
            refine list_to (d := 6) (v := .bool true) rfl rfl (by kernel_rfl) ?_
            simp only [Act.put, List.setIfInBounds_toArray, List.set_cons_zero, List.set_cons_succ]
            go_wp2_with fail
            go_ret
            exact ⟨rfl, unhide HB⟩
        · skip
          as_aux_lemma =>
            have hw : wantS 3 1 true = (nullG, 7) := by kernel_rfl
            rw [hw] at HGa ⊢
            clear hw
            go_upto_region 15 with fail
            refine wp_region_list ?_
            refine list_to (d := 55) (v := .iface 102 (.int .i64 7)) rfl rfl (by kernel_rfl) ?_
            simp only [Act.put, List.setIfInBounds_toArray, List.set_cons_zero, List.set_cons_succ]
            refine list_call rfl (some 56) rfl 14 #[.iface 102 (.int .i64 7)] (by kernel_rfl) (class_g 7 w5 (unhide HEr w5 (unhide HB))) ?_
            rintro e w6 ⟨rfl, hb⟩
            refine ⟨_, rfl, ?_⟩
            simp only [Act.put, List.setIfInBounds_toArray, List.set_cons_zero, List.set_cons_succ]
            have HB := hide (trX (unhide HB) hb)
            have HGa := hide ((unhide HGa).below hb)
            clear hb
            refine list_to (d := 57) (v := .bool true) rfl rfl (by kernel_rfl) ?_
            simp only [Act.put, List.setIfInBounds_toArray, List.set_cons_zero, List.set_cons_succ]
            refine list_to (d := 58) (v := .bool true) rfl rfl (by kernel_rfl) ?_
            simp only [Act.put, List.setIfInBounds_toArray, List.set_cons_zero, List.set_cons_succ]
            refine list_wload (d := 59) rfl (by kernel_rfl) 26 (.tmp 12) rfl ga 0 rfl (gvC nullG) _ (unhide HGa).range Tryz.underlying26 rfl sizeV ?_
            simp only [Act.put, List.setIfInBounds_toArray, List.set_cons_zero, List.set_cons_succ]
            refine list_want (d := 60) (v := .agg (gvC nullG).toArray) rfl (by kernel_rfl) (by kernel_rfl) ?_
            simp only [Act.put, List.setIfInBounds_toArray, List.set_cons_zero, List.set_cons_succ]
            refine list_want (d := 61) (v := .bool true) rfl (by kernel_rfl) (by kernel_rfl) ?_
            simp only [Act.put, List.setIfInBounds_toArray, List.set_cons_zero, List.set_cons_succ]
            refine list_to (d := 62) (v := .bool true) rfl rfl (by kernel_rfl) ?_
            simp only [Act.put, List.setIfInBounds_toArray, List.set_cons_zero, List.set_cons_succ]
            refine list_to (d := 6) (v := .bool true) rfl rfl (by kernel_rfl) ?_
            simp only [Act.put, List.setIfInBounds_toArray, List.set_cons_zero, List.set_cons_succ]
            go_wp2_with fail
            go_ret
            exact ⟨rfl, unhide HB⟩
        · skip
          as_aux_lemma =>
            have hw : wantS 3 2 true = (nullG, 7) := by kernel_rfl
            rw [hw] at HGa ⊢
            clear hw
            go_upto_region 15 with fail
            refine wp_region_list ?_
            refine list_to (d := 55) (v := .iface 102 (.int .i64 7)) rfl rfl (by kernel_rfl) ?_
            simp only [Act.put, List.setIfInBounds_toArray, List.set_cons_zero, List.set_cons_succ]
            refine list_call rfl (some 56) rfl 14 #[.iface 102 (.int .i64 7)] (by kernel_rfl) (class_g 7 w5 (unhide HEr w5 (unhide HB))) ?_
            rintro e w6 ⟨rfl, hb⟩
            refine ⟨_, rfl, ?_⟩
            simp only [Act.put, List.setIfInBounds_toArray, List.set_cons_zero, List.set_cons_succ]
            have HB := hide (trX (unhide HB) hb)
            have HGa := hide ((unhide HGa).below hb)
            clear hb
            refine list_to (d := 57) (v := .bool true) rfl rfl (by kernel_rfl) ?_
            simp only [Act.put, List.setIfInBounds_toArray, List.set_cons_zero, List.set_cons_succ]
            refine list_to (d := 58) (v := .bool true) rfl rfl (by kernel_rfl) ?_
            simp only [Act.put, List.setIfInBounds_toArray, List.set_cons_zero, List.set_cons_succ]
            refine list_wload (d := 59) rfl (by kernel_rfl) 26 (.tmp 12) rfl ga 0 rfl (gvC nullG) _ (unhide HGa).range Tryz.underlying26 rfl sizeV ?_
            simp only [Act.put, List.setIfInBounds_toArray, List.set_cons_zero, List.set_cons_succ]
            refine list_want (d := 60) (v := .agg (gvC nullG).toArray) rfl (by kernel_rfl) (by kernel_rfl) ?_
            simp only [Act.put, List.setIfInBounds_toArray, List.set_cons_zero, List.set_cons_succ]
            refine list_want (d := 61) (v := .bool true) rfl (by kernel_rfl) (by kernel_rfl) ?_
            simp only [Act.put, List.setIfInBounds_toArray, List.set_cons_zero, List.set_cons_succ]
            refine list_to (d := 62) (v := .bool true) rfl rfl (by kernel_rfl) ?_
            simp only [Act.put, List.setIfInBounds_toArray, List.set_cons_zero, List.set_cons_succ]
            refine list_to (d := 6) (v := .bool true) rfl rfl (by kernel_rfl) ?_
            simp only [Act.put, List.setIfInBounds_toArray, List.set_cons_zero, List.set_cons_succ]
            go_wp2_with fail
            go_ret
            exact ⟨rfl, unhide HB⟩
        · skip
          as_aux_lemma =>
            have hw : wantS 3 3 true = (nullG, 7) := by kernel_rfl
            rw [hw] at HGa ⊢
            clear hw
            go_upto_region 15 with fail
            refine wp_region_list ?_
            refine list_to (d := 55) (v := .iface 102 (.int .i64 7)) rfl rfl (by kernel_rfl) ?_
            simp only [Act.put, List.setIfInBounds_toArray, List.set_cons_zero, List.set_cons_succ]
            refine list_call rfl (some 56) rfl 14 #[.iface 102 (.int .i64 7)] (by kernel_rfl) (class_g 7 w5 (unhide HEr w5 (unhide HB))) ?_
            rintro e w6 ⟨rfl, hb⟩
            refine ⟨_, rfl, ?_⟩
            simp only [Act.put, List.setIfInBounds_toArray, List.set_cons_zero, List.set_cons_succ]
            have HB := hide (trX (unhide HB) hb)
            have HGa := hide ((unhide HGa).below hb)
            clear hb
            refine list_to (d := 57) (v := .bool true) rfl rfl (by kernel_rfl) ?_
            simp only [Act.put, List.setIfInBounds_toArray, List.set_cons_zero, List.set_cons_succ]
            refine list_to (d := 58) (v := .bool true) rfl rfl (by kernel_rfl) ?_
            simp only [Act.put, List.setIfInBounds_toArray, List.set_cons_zero, List.set_cons_succ]
            refine list_wload (d := 59) rfl (by kernel_rfl) 26 (.tmp 12) rfl ga 0 rfl (gvC nullG) _ (unhide HGa).range Tryz.underlying26 rfl sizeV ?_
            simp only [Act.put, List.setIfInBounds_toArray, List.set_cons_zero, List.set_cons_succ]
            refine list_want (d := 60) (v := .agg (gvC nullG).toArray) rfl (by kernel_rfl) (by kernel_rfl) ?_
            simp only [Act.put, List.setIfInBounds_toArray, List.set_cons_zero, List.set_cons_succ]
            refine list_want (d := 61) (v := .bool true) rfl (by kernel_rfl) (by kernel_rfl) ?_
            simp only [Act.put, List.setIfInBounds_toArray, List.set_cons_zero, List.set_cons_succ]
            refine list_to (d := 62) (v := .bool true) rfl rfl (by kernel_rfl) ?_
            simp only [Act.put, List.setIfInBounds_toArray, List.set_cons_zero, List.set_cons_succ]
            refine list_to (d := 6) (v := .bool true) rfl rfl (by kernel_rfl) ?_
            simp only [Act.put, List.setIfInBounds_toArray, List.set_cons_zero, List.set_cons_succ]
            go_wp2_with fail
            go_ret
            exact ⟨rfl, unhide HB⟩
end Go.Proofs.YtehgoioinogmkaaGreatDoor
