/- consistorylaw14.typed without a group. -/
import Derived.Test.YtehgoioinogmkaaGreatDoorJXViewXExpr
import Derived.Test.YtehgoioinogmkaaGreatDoorJXWStmtXDl
import Derived.Test.YtehgoioinogmkaaGreatDoorXEv1
namespace Go.Proofs.YtehgoioinogmkaaGreatDoor
open Go.RowKit Go.Lib

/-- The condition of a text; its types. -/
def condL (l : List UInt8) : Ex := whereL (dlL ++ l)
def typL (l : List UInt8) : Except Int Ex := exprS (condL l)
def Ty14 (l : List UInt8) (w : World) (e : Ending) (w' : World) : Prop := Below w.heap.size w w' ∧ match typL l with
  | .ok E => ∃ M, e = .returned (.tuple #[.agg M.toArray, .bool true]) ∧ ExM w' (fun b => w.heap.size ≤ b) M E
  | .error _ => e = .returned (.tuple #[.agg zL.toArray, .bool false])
theorem exprS_err {E : Ex} {c : Int} (h : exprS E = .error c) : c ≠ 0 := by
  unfold exprS at h
  split at h
  · have := resE_err E c h; omega
  · injection h with h; omega
theorem cat_bytes (a b : Array UInt8) : (⟨a⟩ ++ ⟨b⟩ : ByteArray) = ⟨a ++ b⟩ := by
  apply ByteArray.ext
  simp
theorem field_where (k : Int) (nm : List UInt8) {M : List Value} (h : M.length = 10) (w : World) : (Instr.field 79 (.agg (stC k nm M).toArray) 9).run Tryz.prog w = .ok (.agg M.toArray) w :=
  match M, h with
  | [_, _, _, _, _, _, _, _, _, _], _ => by kernel_rfl
set_option linter.unusedSimpArgs false in
set_option linter.unusedVariables false in
set_option maxHeartbeats 12800000 in
set_option maxRecDepth 100000 in
theorem typed14_any (l : List UInt8) (w : World) (hl : l.length ≤ 1900) (hok : exOk (condL l)) (hsim : isE (condL l) = true → simE (condL l) = true) :
    Calls Tryz.prog 11 #[sv l, .bool false] w (Ty14 l w) := by
  have HOK := hide hok
  have HSI := hide hsim
  have HLL : Hid ((dlL ++ l).length ≤ 2000) := by show _ ≤ _; rw [List.length_append]; have : dlL.length = 20 := rfl; omega
  have hl9 : (l.length : Int) ≤ 1900 := by omega
  obtain ⟨PP, hPP⟩ : ∃ PP, PP = Ty14 l w := ⟨_, rfl⟩
  have HPP := hide hPP
  rw [← hPP]
  clear hPP hok hsim hl
  go_enter Tryz.func11, Tryz.ntmps11
  go_upto_region 7 with fail
  have HO0 : Hid (VrX (w.alloc (.cells zL.toArray 29)) w.heap.size zL) := VrX.new w rfl
  have HL0 := hide (alX (Below.refl w.heap.size w) (.cells zL.toArray 29))
  obtain ⟨w0, hw0⟩ : ∃ w0, w0 = w.alloc (.cells zL.toArray 29) := ⟨_, rfl⟩
  rw [← hw0] at HO0 HL0
  unfold zL at hw0
  rw [← hw0]
  clear hw0
  refine wp_region_list ?_
  refine list_call rfl (some 53) rfl 27 #[] (by kernel_rfl) (cols_any w0) ?_
  rintro e w1 ⟨rfl, hct, hb1⟩
  refine ⟨_, rfl, ?_⟩
  simp only [Act.put, sA, sB, sC]
  have HO1 := hide ((unhide HO0).below hb1)
  have HL1 := hide (trX (unhide HL0) hb1)
  have HCT := hide hct
  have hbc : w0.heap.size < w1.heap.size := by
    have h := hct 0 _ rfl
    exact World.block_lt_of_cell? w1 _ (h 0 _ rfl)
  have HBC := hide hbc
  have HZ0 : Hid (w.heap.size < w0.heap.size) := ltX (unhide HO0).1
  obtain ⟨bc, hbce⟩ : ∃ bc, bc = w0.heap.size := ⟨_, rfl⟩
  rw [← hbce] at HCT HBC HZ0
  rw [← hbce]
  clear hct hb1 hbc hbce HO0 HL0
  refine list_to (d := 54) (v := sv l) rfl rfl (by kernel_rfl) ?_
  simp only [Act.put, sA, sB, sC]
  refine list_to (d := 55) (v := sv (dlL ++ l)) rfl rfl (by (unfold sv dlL; go_simp; rw [if_neg (by omega), cat_bytes]; simp)) ?_
  simp only [Act.put, sA, sB, sC]
  refine list_call rfl (some 56) rfl 30 #[sv (dlL ++ l)] (by kernel_rfl) (wstmt_any (dlL ++ l) w1 (unhide HLL) (delete_first l)) ?_
  rintro e w2 ⟨kk, nm, M, rfl, hx2, hb2⟩
  refine ⟨_, rfl, ?_⟩
  simp only [Act.put, sA, sB, sC]
  have HO2 := hide ((unhide HO1).below hb2)
  have HL2 := hide (trX (unhide HL1) hb2)
  have hct2 : CtAt w2 bc fiveC := fun i c hc => rangeAt_blk (unhide HCT i c hc) (fun hl => hb2.block bc hl) (by simp [ctC])
  have hbc2 : bc < w2.heap.size := Nat.lt_of_lt_of_le (unhide HBC) hb2.size
  have HZ2 : Hid (w.heap.size < w2.heap.size) := ltX (unhide HO2).1
  have HXE := hide (rexpr_any w2 bc 5 hct2 hbc2 _ M (condL l) hx2 (unhide HOK) (unhide HSI))
  have hlM := hx2.len
  clear hct2 hbc2 hx2 hb2 HO1 HL1 HCT HBC
  refine list_to (d := 57) (v := .agg M.toArray) rfl rfl (by (go_simp; rw [field_where kk nm hlM w2]; rfl)) ?_
  simp only [Act.put, sA, sB, sC]
  refine list_call rfl (some 58) rfl 31 #[.slice (some ⟨bc, 0, none⟩) 5 5, .agg M.toArray] (by kernel_rfl) (unhide HXE) ?_
  clear HXE
  rintro e w3 ⟨hb3, hpost⟩
  have HO3 := hide ((unhide HO2).below hb3)
  have HL3 := hide (trX (unhide HL2) hb3)
  cases hT : exprS (condL l) with
  | error c =>
    rw [hT] at hpost
    have hp2 : e = .returned (.tuple #[.agg zL.toArray, .int .i64 c]) := hpost
    subst hp2
    have hc0 := exprS_err hT
    have hcb : (c == 0) = false := beq_eq_false_iff_ne.2 hc0
    have hT : typL l = .error c := hT
    refine ⟨_, rfl, ?_⟩
    simp only [Act.put, sA, sB, sC]
    clear hb3
    as_aux_lemma =>
      refine list_to (d := 52) (v := .tuple #[.agg zL.toArray, .int .i64 c]) rfl rfl (by kernel_rfl) ?_
      simp only [Act.put, sA, sB, sC]
      refine list_to (d := 59) (v := .agg zL.toArray) rfl rfl (by kernel_rfl) ?_
      simp only [Act.put, sA, sB, sC]
      refine list_to (d := 60) (v := .int .i64 c) rfl rfl (by kernel_rfl) ?_
      simp only [Act.put, sA, sB, sC]
      have hzN : zL.toArray.size = 10 := by rfl
      have hlN : zL.length = 10 := rfl
      have hvn := VrX.new w3 (M := zL) rfl
      have hal : Below w3.heap.size w3 (w3.alloc (.cells zL.toArray 29)) := alX (Below.refl _ _) _
      refine list_new rfl 29 rfl zL.toArray (zero_of_info zeroEx).1 ?_
      simp only [Act.put, sA, sB, sC]
      refine wpList_store_mid rfl 29 (.tmp 9) (.tmp 59) rfl w3.heap.size 0 zL.toArray rfl rfl (by rw [hzN]; exact hvn.there) (by rw [hzN]; exact sizeEx) (all_oneCell_toArray (by decide)) ?_
      show wpList _ _ _ _ _ ((w3.alloc (.cells zL.toArray 29)).setCells w3.heap.size 0 zL)
      rw [setCells_new w3 _ _ _ (by rw [hlN]; rfl)]
      simp only [Act.put, sA, sB, sC]
      refine list_to (d := 10) (v := .int .i64 c) rfl rfl (by kernel_rfl) ?_
      simp only [Act.put, sA, sB, sC]
      have hal2 : Below w3.heap.size w3 (w3.alloc (.cells zL.toArray 29)) := alX (Below.refl _ _) _
      have HV9 := hide (VrX.new w3 hlN)
      have HO4 := hide ((unhide HO3).below hal2)
      have HL4 := hide (trX (unhide HL3) hal2)
      have HLT : Hid (w.heap.size < w3.heap.size) := ltX (unhide HO3).1

      obtain ⟨w4, hw4⟩ : ∃ w4, w4 = w3.alloc (.cells zL.toArray 29) := ⟨_, rfl⟩
      rw [← hw4] at HV9 HO4 HL4
      rw [← hw4]
      obtain ⟨b9, hb9⟩ : ∃ b9, b9 = w3.heap.size := ⟨_, rfl⟩
      rw [← hb9] at HV9 HLT
      rw [← hb9]
      clear hw4 hb9 hvn hal hal2 HO3 HL3
      go_upto_region 8 with fail
      refine wp_region_list ?_
      refine wpList_load_mid rfl 29 (.tmp 9) rfl b9 0 rfl zL _ (unhide HV9).range Tryz.underlying29 rfl (by rw [hlN]; exact sizeEx) ?_
      simp only [Act.put, sA, sB, sC]
      refine list_to (d := 62) (v := .int .i64 c) rfl rfl (by kernel_rfl) ?_
      simp only [Act.put, sA, sB, sC]
      refine list_to (d := 63) (v := .bool false) rfl rfl (by rw [show (Value.int IntKind.i64 c) = .int .i64 c from rfl]; go_simp) ?_
      simp only [Act.put, sA, sB, sC]
      refine wpList_store_mid rfl 29 (.tmp 4) (.tmp 61) rfl w.heap.size 0 zL.toArray rfl rfl (by rw [hzN]; exact (unhide HO4).there) (by rw [hzN]; exact sizeEx) (all_oneCell_toArray (by decide)) ?_
      show wpList _ _ _ _ _ (w4.setCells w.heap.size 0 zL)
      simp only [Act.put, sA, sB, sC]
      refine list_to (d := 5) (v := .bool false) rfl rfl (by kernel_rfl) ?_
      simp only [Act.put, sA, sB, sC]
      go_wp2_with fail
      have hs := (unhide HO4).set (M' := zL) hlN
      refine bodyPost_ret (hs.result2 rfl _ rfl) rfl ?_
      rw [unhide HPP]
      refine ⟨below_setCells (unhide HL4) (Nat.le_refl _) 0 zL, ?_⟩
      rw [hT]
      rfl
  | ok E2 =>
    rw [hT] at hpost
    obtain ⟨N, rfl, hxN⟩ := hpost
    have hT : typL l = .ok E2 := hT
    refine ⟨_, rfl, ?_⟩
    simp only [Act.put, sA, sB, sC]
    clear hb3
    as_aux_lemma =>
      refine list_to (d := 52) (v := .tuple #[.agg N.toArray, .int .i64 0]) rfl rfl (by kernel_rfl) ?_
      simp only [Act.put, sA, sB, sC]
      refine list_to (d := 59) (v := .agg N.toArray) rfl rfl (by kernel_rfl) ?_
      simp only [Act.put, sA, sB, sC]
      refine list_to (d := 60) (v := .int .i64 0) rfl rfl (by kernel_rfl) ?_
      simp only [Act.put, sA, sB, sC]
      have hzN : N.toArray.size = 10 := by simpa using hxN.len
      have hlN : N.length = 10 := hxN.len
      have hvn := VrX.new w3 (M := zL) rfl
      have hal : Below w3.heap.size w3 (w3.alloc (.cells zL.toArray 29)) := alX (Below.refl _ _) _
      refine list_new rfl 29 rfl zL.toArray (zero_of_info zeroEx).1 ?_
      simp only [Act.put, sA, sB, sC]
      refine wpList_store_mid rfl 29 (.tmp 9) (.tmp 59) rfl w3.heap.size 0 N.toArray rfl rfl (by rw [hzN]; exact hvn.there) (by rw [hzN]; exact sizeEx) (all_oneCell_toArray hxN.one) ?_
      show wpList _ _ _ _ _ ((w3.alloc (.cells zL.toArray 29)).setCells w3.heap.size 0 N)
      rw [setCells_new w3 _ _ _ (by rw [hlN]; rfl)]
      simp only [Act.put, sA, sB, sC]
      refine list_to (d := 10) (v := .int .i64 0) rfl rfl (by kernel_rfl) ?_
      simp only [Act.put, sA, sB, sC]
      have hal2 : Below w3.heap.size w3 (w3.alloc (.cells N.toArray 29)) := alX (Below.refl _ _) _
      have HV9 := hide (VrX.new w3 hlN)
      have HO4 := hide ((unhide HO3).below hal2)
      have HL4 := hide (trX (unhide HL3) hal2)
      have HLT : Hid (w.heap.size < w3.heap.size) := ltX (unhide HO3).1
      have HX4 := hide (hxN.below hal2)
      obtain ⟨w4, hw4⟩ : ∃ w4, w4 = w3.alloc (.cells N.toArray 29) := ⟨_, rfl⟩
      rw [← hw4] at HV9 HO4 HL4 HX4
      rw [← hw4]
      obtain ⟨b9, hb9⟩ : ∃ b9, b9 = w3.heap.size := ⟨_, rfl⟩
      rw [← hb9] at HV9 HLT
      rw [← hb9]
      clear hw4 hb9 hvn hal hal2 HO3 HL3
      go_upto_region 8 with fail
      refine wp_region_list ?_
      refine wpList_load_mid rfl 29 (.tmp 9) rfl b9 0 rfl N _ (unhide HV9).range Tryz.underlying29 rfl (by rw [hlN]; exact sizeEx) ?_
      simp only [Act.put, sA, sB, sC]
      refine list_to (d := 62) (v := .int .i64 0) rfl rfl (by kernel_rfl) ?_
      simp only [Act.put, sA, sB, sC]
      refine list_to (d := 63) (v := .bool true) rfl rfl (by kernel_rfl) ?_
      simp only [Act.put, sA, sB, sC]
      refine wpList_store_mid rfl 29 (.tmp 4) (.tmp 61) rfl w.heap.size 0 N.toArray rfl rfl (by rw [hzN]; exact (unhide HO4).there) (by rw [hzN]; exact sizeEx) (all_oneCell_toArray hxN.one) ?_
      show wpList _ _ _ _ _ (w4.setCells w.heap.size 0 N)
      simp only [Act.put, sA, sB, sC]
      refine list_to (d := 5) (v := .bool true) rfl rfl (by kernel_rfl) ?_
      simp only [Act.put, sA, sB, sC]
      go_wp2_with fail
      have hs := (unhide HO4).set (M' := N) hlN
      refine bodyPost_ret (hs.result2 rfl _ rfl) rfl ?_
      rw [unhide HPP]
      refine ⟨below_setCells (unhide HL4) (Nat.le_refl _) 0 N, ?_⟩
      rw [hT]
      exact ⟨N, rfl, ((unhide HX4).setCells (fun h => by have q : w2.heap.size ≤ w.heap.size := h; have := unhide HZ2; omega) N).keep (fun _ _ _ => rfl) (fun b _ q => by have q2 : w2.heap.size ≤ b := q; have := unhide HZ2; omega)⟩
end Go.Proofs.YtehgoioinogmkaaGreatDoor
/- Package expr: how many arguments; what an expression tells, as plain functions. -/
namespace Go.Proofs.YtehgoioinogmkaaGreatDoor
open Go.RowKit Go.Lib

def argK (kind op : Int) : Int × Int :=
  if kind = 7 then (if op = 19 then (0, 1) else (1, 1)) else if kind = 3 then (1, 1) else if kind = 4 then (2, 2) else if kind = 5 then (2, 11) else if kind = 6 then (2, 21) else (0, 0)
set_option linter.unusedSimpArgs false in
set_option maxHeartbeats 3200000 in
set_option maxRecDepth 20000 in
theorem args_any (w : World) (be oe : Nat) (kind op : Int) (c0 : w.cell? ⟨be, oe, none⟩ = some (.int .i64 kind)) (c1 : w.cell? ⟨be, oe + 1, none⟩ = some (.int .i64 op)) :
    Calls Tryz.prog 68 #[.pointer (some ⟨be, oe, none⟩)] w fun e w' => e = .returned (.tuple #[.int .i64 (argK kind op).1, .int .i64 (argK kind op).2]) ∧ w' = w := by
  by_cases h7 : kind = 7
  · subst h7
    by_cases h19 : op = 19
    · subst h19
      go_enter Tryz.func68, Tryz.ntmps68
      go_wp2_with fail
      go_ret2
      exact ⟨rfl, rfl⟩
    · have hg : argK 7 op = (1, 1) := by unfold argK; rw [if_pos rfl, if_neg h19]
      have e19 : (op == 19) = false := beq_eq_false_iff_ne.2 h19
      rw [hg]
      clear hg
      go_enter Tryz.func68, Tryz.ntmps68
      go_wp2_with fail
      go_ret2
      exact ⟨rfl, rfl⟩
  · have e7 : (kind == 7) = false := beq_eq_false_iff_ne.2 h7
    by_cases h3 : kind = 3
    · subst h3
      go_enter Tryz.func68, Tryz.ntmps68
      go_wp2_with fail
      go_ret2
      exact ⟨rfl, rfl⟩
    have e3 : (kind == 3) = false := beq_eq_false_iff_ne.2 h3
    by_cases h4 : kind = 4
    · subst h4
      go_enter Tryz.func68, Tryz.ntmps68
      go_wp2_with fail
      go_ret2
      exact ⟨rfl, rfl⟩
    have e4 : (kind == 4) = false := beq_eq_false_iff_ne.2 h4
    by_cases h5 : kind = 5
    · subst h5
      go_enter Tryz.func68, Tryz.ntmps68
      go_wp2_with fail
      go_ret2
      exact ⟨rfl, rfl⟩
    have e5 : (kind == 5) = false := beq_eq_false_iff_ne.2 h5
    by_cases h6 : kind = 6
    · subst h6
      go_enter Tryz.func68, Tryz.ntmps68
      go_wp2_with fail
      go_ret2
      exact ⟨rfl, rfl⟩
    have e6 : (kind == 6) = false := beq_eq_false_iff_ne.2 h6
    have hg : argK kind op = (0, 0) := by unfold argK; rw [if_neg h7, if_neg h3, if_neg h4, if_neg h5, if_neg h6]
    rw [hg]
    clear hg
    go_enter Tryz.func68, Tryz.ntmps68
    go_wp2_with fail
    go_ret2
    exact ⟨rfl, rfl⟩
/-- A part that must be a truth. -/
def trE (r : GV × Int) : Int × Int := if r.2 = 0 then truthG r.1 else (0, r.2)
/-- IN: what was found so far, what is left. -/
def amongG (x : GV) : Int → List (GV × Int) → GV × Int
  | found, [] => (ofTruthG found, 0)
  | found, r :: l =>
    if found = 1 then (ofTruthG found, 0)
    else if r.2 ≠ 0 then (nullG, r.2)
    else if (testG 5 x r.1).2 ≠ 0 then testedG (testG 5 x r.1).1 (testG 5 x r.1).2
    else amongG x (orG found (testG 5 x r.1).1) l
/-- CASE: the first condition that is True. -/
def choiceG : List (GV × Int) → GV × Int
  | [] => (nullG, 0)
  | [v] => v
  | c :: v :: l => if (trE c).2 ≠ 0 then (nullG, (trE c).2) else if (trE c).1 = 1 then v else choiceG l
def unaryG (op : Int) (x : GV × Int) : GV × Int :=
  if x.2 ≠ 0 then (nullG, x.2)
  else if op = 1 then recG (doG 1 x.1 nullG).1 (doG 1 x.1 nullG).2
  else if op = 2 then testedG (notG (truthG x.1).1) (truthG x.1).2
  else if op = 3 then (ofTruthG (if x.1.kind = 0 then 1 else 0), 0)
  else if op = 4 then (ofTruthG (if x.1.kind = 0 then 0 else 1), 0)
  else (nullG, 20)
def logicG (op : Int) (x y : GV × Int) : GV × Int :=
  if (trE x).2 ≠ 0 ∨ (trE x).1 = (if op = 18 then 1 else 0) then testedG (trE x).1 (trE x).2
  else testedG (if op = 18 then orG (trE x).1 (trE y).1 else andG (trE x).1 (trE y).1) (trE y).2
def binaryG (op : Int) (x y : GV × Int) : GV × Int :=
  if op = 17 ∨ op = 18 then logicG op x y
  else if x.2 ≠ 0 then (nullG, x.2)
  else if y.2 ≠ 0 then (nullG, y.2)
  else if 5 ≤ op ∧ op ≤ 10 then testedG (testG op x.1 y.1).1 (testG op x.1 y.1).2
  else if 11 ≤ op ∧ op ≤ 16 then recG (doG op x.1 y.1).1 (doG op x.1 y.1).2
  else (nullG, 20)
/-- A node, its arguments reckoned; columns by row. -/
def evN (row : List GV) (a : Nd) (L : List (GV × Int)) : GV × Int :=
  if (L.length : Int) < (argK a.kind a.op).1 ∨ (argK a.kind a.op).2 < (L.length : Int) then (nullG, 20)
  else if a.kind = 1 then soundE (gvN a)
  else if a.kind = 2 then (match row[a.at'.toNat]? with | some g => if a.at' < 0 then (nullG, 20) else soundE g | none => (nullG, 20))
  else match a.kind, L with
    | 3, [x] => unaryG a.op x
    | 4, [x, y] => binaryG a.op x y
    | 5, x :: l => if x.2 ≠ 0 ∨ x.1.kind = 0 then (nullG, x.2) else amongG x.1 0 l
    | 6, L => choiceG L
    | _, _ => (nullG, 20)
def evL (row : List GV) : Fo → List (GV × Int)
  | .nil => []
  | .node _ _ a kids rest => evN row a (evL row kids) :: evL row rest
def evE (row : List GV) (E : Ex) : GV × Int := evN row E.1 (evL row E.2)
theorem evL_len (row : List GV) : ∀ F : Fo, (evL row F).length = cnt F
  | .nil => rfl
  | .node _ _ _ _ rest => by show (evL row rest).length + 1 = cnt rest + 1; rw [evL_len row rest]
theorem evL_get (row : List GV) : ∀ (F : Fo) (i : Nat) (x : Ex), (toL F)[i]? = some x → (evL row F)[i]? = some (evE row x)
  | .nil, i, x, h => by simp [toL] at h
  | .node _ _ a kids rest, 0, x, h => by
    simp [toL] at h
    subst h
    rfl
  | .node _ _ a kids rest, i + 1, x, h => by
    have := evL_get row rest i x (by simpa [toL] using h)
    simpa [evL] using this
end Go.Proofs.YtehgoioinogmkaaGreatDoor
