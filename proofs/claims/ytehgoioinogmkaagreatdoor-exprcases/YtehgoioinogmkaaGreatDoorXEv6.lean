/- Package expr: eval. -/
import Derived.Test.YtehgoioinogmkaaGreatDoorXEv5
namespace Go.Proofs.YtehgoioinogmkaaGreatDoor
open Go.RowKit Go.Lib

set_option linter.unusedSimpArgs false in
set_option linter.unusedVariables false in
set_option maxHeartbeats 6400000 in
set_option maxRecDepth 20000 in
theorem binary_l17 (w : World) (pg be oe : Nat) (R : GV × Int) (c1 : w.cell? ⟨be, oe + 1, none⟩ = some (.int .i64 17)) (hin : ∀ W, Below w.heap.size w W → Calls Tryz.prog 124 #[.pointer (some ⟨pg, 0, none⟩), .pointer (some ⟨be, oe, none⟩)] W (GeP W R)) : Calls Tryz.prog 72 #[.pointer (some ⟨pg, 0, none⟩), .pointer (some ⟨be, oe, none⟩)] w (GeP w R) := by
  have HC1 : Hid (w.cell? ⟨be, oe + 1, none⟩ = some (.int .i64 17)) := c1
  have HBE : Hid (be < w.heap.size) := World.block_lt_of_cell? w _ c1
  have HIN := hide hin
  clear c1 hin
  obtain ⟨PP, hPP⟩ : ∃ PP, PP = GeP w R := ⟨_, rfl⟩
  have HPP := hide hPP
  rw [← hPP]
  clear hPP
  go_enter Tryz.func72, Tryz.ntmps72
  go_upto_region 1 with fail
  obtain ⟨w0, hw0⟩ : ∃ w0, w0 = w.alloc (.cells (gvC nullG).toArray 26) := ⟨_, rfl⟩
  have hb0 : Below w.heap.size w w0 := by rw [hw0]; exact alX (Below.refl _ _) _
  have HV := hide (show VV w0 w.heap.size nullG by rw [hw0]; exact VV.new w nullG)
  have HB := hide hb0
  rw [show (gvC nullG).toArray = #[.int .i64 0, .int .i64 0, .string ⟨#[]⟩] from rfl] at hw0
  rw [← hw0]
  clear hw0 hb0
  have HC1 := hide (((unhide HB).cell (p := ⟨be, oe + 1, none⟩) (unhide HBE)).trans (unhide HC1))
  refine wp_region_list ?_
  have c1 := unhide HC1
  refine list_to (d := 9) (v := .pointer (some ⟨be, oe, none⟩)) rfl rfl (by kernel_rfl) ?_
  simp only [Act.put, sA, sB, sC]
  refine list_to (d := 10) (v := .pointer (some ⟨be, oe, none⟩)) rfl rfl (by kernel_rfl) ?_
  simp only [Act.put, sA, sB, sC]
  refine list_to (d := 11) (v := .pointer (some ⟨be, oe + 1, none⟩)) rfl rfl (by kernel_rfl) ?_
  simp only [Act.put, sA, sB, sC]
  refine list_to (d := 12) (v := .int .i64 17) rfl rfl (by go_simp) ?_
  simp only [Act.put, sA, sB, sC]
  clear c1
  refine list_to (d := 13) (v := .bool true) rfl rfl (by kernel_rfl) ?_
  simp only [Act.put, sA, sB, sC]
  refine list_to (d := 14) (v := .bool true) rfl rfl (by kernel_rfl) ?_
  simp only [Act.put, sA, sB, sC]
  refine list_skip (d := 15) rfl (by kernel_rfl) ?_
  simp only [Act.put, sA, sB, sC]
  refine list_skip (d := 16) rfl (by kernel_rfl) ?_
  simp only [Act.put, sA, sB, sC]
  refine list_skip (d := 17) rfl (by kernel_rfl) ?_
  simp only [Act.put, sA, sB, sC]
  refine list_skip (d := 18) rfl (by kernel_rfl) ?_
  simp only [Act.put, sA, sB, sC]
  refine list_skip (d := 19) rfl (by kernel_rfl) ?_
  simp only [Act.put, sA, sB, sC]
  refine list_to (d := 20) (v := .bool true) rfl rfl (by kernel_rfl) ?_
  simp only [Act.put, sA, sB, sC]
  as_aux_lemma =>
    go_upto_region 2 with fail
    refine wp_region_list ?_
    refine list_to (d := 21) (v := .pointer (some ⟨pg, 0, none⟩)) rfl rfl (by kernel_rfl) ?_
    simp only [Act.put, sA, sB, sC]
    refine list_to (d := 22) (v := .pointer (some ⟨be, oe, none⟩)) rfl rfl (by kernel_rfl) ?_
    simp only [Act.put, sA, sB, sC]
    refine list_call rfl (some 23) rfl 124 #[.pointer (some ⟨pg, 0, none⟩), .pointer (some ⟨be, oe, none⟩)] (by kernel_rfl) (unhide HIN w0 (unhide HB)) ?_
    rintro e w5 ⟨rfl, hb⟩
    refine ⟨_, rfl, ?_⟩
    simp only [Act.put, sA, sB, sC]
    have HB := hide (trX (unhide HB) hb)
    have HV := hide ((unhide HV).below hb)
    clear hb
    refine list_to (d := 24) (v := .agg (gvC R.1).toArray) rfl rfl (by kernel_rfl) ?_
    simp only [Act.put, sA, sB, sC]
    refine list_to (d := 25) (v := errG R.2) rfl rfl (by kernel_rfl) ?_
    simp only [Act.put, sA, sB, sC]
    refine wpList_store_mid rfl 26 (.tmp 4) (.tmp 24) rfl w.heap.size 0 (gvC R.1).toArray rfl rfl (unhide HV).there sizeV (all_oneCell_toArray (gvC_one _)) ?_
    show wpList _ _ _ _ _ (w5.setCells w.heap.size 0 (gvC R.1))
    simp only [Act.put, sA, sB, sC]
    refine list_to (d := 5) (v := errG R.2) rfl rfl (by kernel_rfl) ?_
    simp only [Act.put, sA, sB, sC]
    go_wp2_with fail
    refine bodyPost_ret (((unhide HV).set R.1).result2 rfl _ rfl) rfl ?_
    rw [unhide HPP]
    exact ⟨rfl, below_setCells0 (unhide HB) (Nat.le_refl _) _⟩
set_option linter.unusedSimpArgs false in
set_option linter.unusedVariables false in
set_option maxHeartbeats 6400000 in
set_option maxRecDepth 20000 in
theorem binary_l18 (w : World) (pg be oe : Nat) (R : GV × Int) (c1 : w.cell? ⟨be, oe + 1, none⟩ = some (.int .i64 18)) (hin : ∀ W, Below w.heap.size w W → Calls Tryz.prog 124 #[.pointer (some ⟨pg, 0, none⟩), .pointer (some ⟨be, oe, none⟩)] W (GeP W R)) : Calls Tryz.prog 72 #[.pointer (some ⟨pg, 0, none⟩), .pointer (some ⟨be, oe, none⟩)] w (GeP w R) := by
  have HC1 : Hid (w.cell? ⟨be, oe + 1, none⟩ = some (.int .i64 18)) := c1
  have HBE : Hid (be < w.heap.size) := World.block_lt_of_cell? w _ c1
  have HIN := hide hin
  clear c1 hin
  obtain ⟨PP, hPP⟩ : ∃ PP, PP = GeP w R := ⟨_, rfl⟩
  have HPP := hide hPP
  rw [← hPP]
  clear hPP
  go_enter Tryz.func72, Tryz.ntmps72
  go_upto_region 1 with fail
  obtain ⟨w0, hw0⟩ : ∃ w0, w0 = w.alloc (.cells (gvC nullG).toArray 26) := ⟨_, rfl⟩
  have hb0 : Below w.heap.size w w0 := by rw [hw0]; exact alX (Below.refl _ _) _
  have HV := hide (show VV w0 w.heap.size nullG by rw [hw0]; exact VV.new w nullG)
  have HB := hide hb0
  rw [show (gvC nullG).toArray = #[.int .i64 0, .int .i64 0, .string ⟨#[]⟩] from rfl] at hw0
  rw [← hw0]
  clear hw0 hb0
  have HC1 := hide (((unhide HB).cell (p := ⟨be, oe + 1, none⟩) (unhide HBE)).trans (unhide HC1))
  refine wp_region_list ?_
  have c1 := unhide HC1
  refine list_to (d := 9) (v := .pointer (some ⟨be, oe, none⟩)) rfl rfl (by kernel_rfl) ?_
  simp only [Act.put, sA, sB, sC]
  refine list_to (d := 10) (v := .pointer (some ⟨be, oe, none⟩)) rfl rfl (by kernel_rfl) ?_
  simp only [Act.put, sA, sB, sC]
  refine list_to (d := 11) (v := .pointer (some ⟨be, oe + 1, none⟩)) rfl rfl (by kernel_rfl) ?_
  simp only [Act.put, sA, sB, sC]
  refine list_to (d := 12) (v := .int .i64 18) rfl rfl (by go_simp) ?_
  simp only [Act.put, sA, sB, sC]
  clear c1
  refine list_to (d := 13) (v := .bool false) rfl rfl (by kernel_rfl) ?_
  simp only [Act.put, sA, sB, sC]
  refine list_to (d := 14) (v := .bool false) rfl rfl (by kernel_rfl) ?_
  simp only [Act.put, sA, sB, sC]
  refine list_want (d := 15) (v := .pointer (some ⟨be, oe, none⟩)) rfl (by kernel_rfl) (by kernel_rfl) ?_
  simp only [Act.put, sA, sB, sC]
  refine list_want (d := 16) (v := .pointer (some ⟨be, oe, none⟩)) rfl (by kernel_rfl) (by kernel_rfl) ?_
  simp only [Act.put, sA, sB, sC]
  refine list_want (d := 17) (v := .pointer (some ⟨be, oe + 1, none⟩)) rfl (by kernel_rfl) (by kernel_rfl) ?_
  simp only [Act.put, sA, sB, sC]
  have c1 := unhide HC1
  refine list_want (d := 18) (v := .int .i64 18) rfl (by kernel_rfl) (by go_simp) ?_
  simp only [Act.put, sA, sB, sC]
  clear c1
  refine list_want (d := 19) (v := .bool true) rfl (by kernel_rfl) (by kernel_rfl) ?_
  simp only [Act.put, sA, sB, sC]
  refine list_to (d := 20) (v := .bool true) rfl rfl (by kernel_rfl) ?_
  simp only [Act.put, sA, sB, sC]
  as_aux_lemma =>
    go_upto_region 2 with fail
    refine wp_region_list ?_
    refine list_to (d := 21) (v := .pointer (some ⟨pg, 0, none⟩)) rfl rfl (by kernel_rfl) ?_
    simp only [Act.put, sA, sB, sC]
    refine list_to (d := 22) (v := .pointer (some ⟨be, oe, none⟩)) rfl rfl (by kernel_rfl) ?_
    simp only [Act.put, sA, sB, sC]
    refine list_call rfl (some 23) rfl 124 #[.pointer (some ⟨pg, 0, none⟩), .pointer (some ⟨be, oe, none⟩)] (by kernel_rfl) (unhide HIN w0 (unhide HB)) ?_
    rintro e w5 ⟨rfl, hb⟩
    refine ⟨_, rfl, ?_⟩
    simp only [Act.put, sA, sB, sC]
    have HB := hide (trX (unhide HB) hb)
    have HV := hide ((unhide HV).below hb)
    clear hb
    refine list_to (d := 24) (v := .agg (gvC R.1).toArray) rfl rfl (by kernel_rfl) ?_
    simp only [Act.put, sA, sB, sC]
    refine list_to (d := 25) (v := errG R.2) rfl rfl (by kernel_rfl) ?_
    simp only [Act.put, sA, sB, sC]
    refine wpList_store_mid rfl 26 (.tmp 4) (.tmp 24) rfl w.heap.size 0 (gvC R.1).toArray rfl rfl (unhide HV).there sizeV (all_oneCell_toArray (gvC_one _)) ?_
    show wpList _ _ _ _ _ (w5.setCells w.heap.size 0 (gvC R.1))
    simp only [Act.put, sA, sB, sC]
    refine list_to (d := 5) (v := errG R.2) rfl rfl (by kernel_rfl) ?_
    simp only [Act.put, sA, sB, sC]
    go_wp2_with fail
    refine bodyPost_ret (((unhide HV).set R.1).result2 rfl _ rfl) rfl ?_
    rw [unhide HPP]
    exact ⟨rfl, below_setCells0 (unhide HB) (Nat.le_refl _) _⟩
theorem nullG_ok : nullG.ok := by refine ⟨by decide, by decide, Nat.zero_le _⟩
theorem ofTruthG_ok {n : Int} (h0 : 0 ≤ n) (h2 : n ≤ 2) : (ofTruthG n).ok := by
  unfold ofTruthG
  by_cases h : n = 2
  · rw [if_pos h]; exact nullG_ok
  · rw [if_neg h]
    exact ⟨by show (_ : Int) ≤ n; omega, by show n < _; omega, Nat.zero_le _⟩
theorem notG_two (n : Int) : 0 ≤ notG n ∧ notG n ≤ 2 := by unfold notG; split <;> (try split) <;> omega
theorem andG_two (a b : Int) : 0 ≤ andG a b ∧ andG a b ≤ 2 := by unfold andG; split <;> (try split) <;> (try split) <;> omega
theorem orG_two (a b : Int) : 0 ≤ orG a b ∧ orG a b ≤ 2 := by
  unfold orG
  split
  · omega
  · exact notG_two _
theorem testG_two (op : Int) (a b : GV) : 0 ≤ (testG op a b).1 ∧ (testG op a b).1 ≤ 2 := by
  unfold testG
  split
  · exact ⟨by decide, by decide⟩
  split
  · exact ⟨by decide, by decide⟩
  split
  · exact ⟨by decide, by decide⟩
  split <;> exact ⟨by decide, by decide⟩
theorem recG_ok {g : GV} {c : Int} (h : g.ok) : (recG g c).1.ok := by
  unfold recG
  split
  · exact nullG_ok
  · exact h
theorem testedG_ok {n c : Int} (h : c = 0 → 0 ≤ n ∧ n ≤ 2) : (testedG n c).1.ok := by
  unfold testedG
  split
  · rename_i hc
    exact ofTruthG_ok (h hc).1 (h hc).2
  · exact recG_ok nullG_ok
theorem soundE_ok {g : GV} (h : g.ok) : (soundE g).1.ok := by
  unfold soundE
  split
  · exact h
  · exact nullG_ok
theorem fitG_ok (n : Int) (h : (fitG n).2 = 0) : -9223372036854775808 ≤ (fitG n).1 ∧ (fitG n).1 < 9223372036854775808 := by
  unfold fitG at h ⊢
  split
  · rename_i hn; exact hn
  · rename_i hn; rw [if_neg hn] at h; exact absurd h (by decide)
theorem tmod_ok {a b : Int} (h1 : -9223372036854775808 ≤ a) (h2 : a < 9223372036854775808) : -9223372036854775808 ≤ a.tmod b ∧ a.tmod b < 9223372036854775808 := by
  have hn : (a.tmod b).natAbs ≤ a.natAbs := by rw [Int.natAbs_tmod]; exact Nat.mod_le _ _
  by_cases h : 0 ≤ a
  · have := Int.tmod_nonneg b h
    omega
  · have h3 := Int.tmod_nonneg b (show 0 ≤ -a by omega)
    rw [Int.neg_tmod] at h3
    omega
theorem reckG_ok {op a b : Int} (h1 : -9223372036854775808 ≤ a) (h2 : a < 9223372036854775808) (h : (reckG op a b).2 = 0) : -9223372036854775808 ≤ (reckG op a b).1 ∧ (reckG op a b).1 < 9223372036854775808 := by
  revert h
  unfold reckG
  split
  · exact fitG_ok _
  split
  · exact fitG_ok _
  split
  · exact fitG_ok _
  split
  · exact fitG_ok _
  split
  · intro h; exact absurd h (by decide)
  split
  · intro _; exact tmod_ok h1 h2
  · exact fitG_ok _
theorem doG_ok {op : Int} {a b : GV} (h : a.ok) : (doG op a b).1.ok := by
  unfold doG
  simp only []
  generalize (if op = 1 then a else b) = b'
  split
  · exact nullG_ok
  split
  · exact nullG_ok
  split
  · exact nullG_ok
  split
  · unfold joinG
    split
    · exact nullG_ok
    · rename_i hj
      refine ⟨by show (_ : Int) ≤ 0; decide, by show (0 : Int) < _; decide, ?_⟩
      show (a.text ++ _ : ByteArray).size ≤ maxLen
      rw [ByteArray.size_append]
      unfold maxLen
      omega
  split
  · rename_i hr
    have := reckG_ok h.1 h.2.1 hr
    exact ⟨this.1, this.2, Nat.zero_le _⟩
  · exact nullG_ok
theorem unaryG_ok {op : Int} {x : GV × Int} (h : x.1.ok) : (unaryG op x).1.ok := by
  unfold unaryG
  split
  · exact nullG_ok
  split
  · exact recG_ok (doG_ok h)
  split
  · exact testedG_ok fun _ => notG_two _
  split
  · exact ofTruthG_ok (by split <;> decide) (by split <;> decide)
  split
  · exact ofTruthG_ok (by split <;> decide) (by split <;> decide)
  · exact nullG_ok
theorem logicG_ok {op : Int} {x y : GV × Int} : (logicG op x y).1.ok := by
  unfold logicG
  by_cases h : (trE x).2 ≠ 0 ∨ (trE x).1 = (if op = 18 then 1 else 0)
  · rw [if_pos h]
    refine testedG_ok fun hc => ?_
    have := h.resolve_left (fun q => q hc)
    rw [this]
    split <;> exact ⟨by decide, by decide⟩
  · rw [if_neg h]
    refine testedG_ok fun _ => ?_
    split
    · exact orG_two _ _
    · exact andG_two _ _
theorem binaryG_ok {op : Int} {x y : GV × Int} (h : x.1.ok) : (binaryG op x y).1.ok := by
  unfold binaryG
  split
  · exact logicG_ok
  split
  · exact nullG_ok
  split
  · exact nullG_ok
  split
  · exact testedG_ok fun _ => testG_two _ _ _
  split
  · exact recG_ok (doG_ok h)
  · exact nullG_ok
theorem amongG_ok {x : GV} : ∀ (l : List (GV × Int)) (found : Int), 0 ≤ found → found ≤ 2 → (amongG x found l).1.ok
  | [], found, h0, h2 => ofTruthG_ok h0 h2
  | r :: l, found, h0, h2 => by
    unfold amongG
    split
    · exact ofTruthG_ok h0 h2
    split
    · exact nullG_ok
    split
    · exact testedG_ok fun _ => testG_two _ _ _
    · exact amongG_ok l _ (orG_two _ _).1 (orG_two _ _).2
theorem choiceG_ok : ∀ l : List (GV × Int), (∀ r ∈ l, r.1.ok) → (choiceG l).1.ok
  | [], _ => nullG_ok
  | [v], h => h v (List.mem_cons_self ..)
  | c :: v :: l, h => by
    unfold choiceG
    split
    · exact nullG_ok
    split
    · exact h v (List.mem_cons_of_mem _ (List.mem_cons_self ..))
    · exact choiceG_ok l fun r hr => h r (List.mem_cons_of_mem _ (List.mem_cons_of_mem _ hr))
theorem gvN_ok {n : Nd} (h : ndOk n) : (gvN n).ok := by
  refine ⟨h.1, h.2.1, ?_⟩
  show n.vt.toArray.size ≤ maxLen
  have := h.2.2.1
  rw [List.size_toArray]
  unfold maxLen
  omega
theorem evN_ok {row : List GV} (hrow : ∀ g ∈ row, g.ok) {a : Nd} (ha : ndOk a) (L : List (GV × Int)) (h : ∀ r ∈ L, r.1.ok) : (evN row a L).1.ok := by
  unfold evN
  split
  · exact nullG_ok
  split
  · exact soundE_ok (gvN_ok ha)
  split
  · split
    · rename_i g hg
      split
      · exact nullG_ok
      · exact soundE_ok (hrow g (List.mem_of_getElem? hg))
    · exact nullG_ok
  · split
    · exact unaryG_ok (h _ (List.mem_cons_self ..))
    · exact binaryG_ok (h _ (List.mem_cons_self ..))
    · split
      · exact nullG_ok
      · exact amongG_ok _ _ (by decide) (by decide)
    · exact choiceG_ok _ h
    · exact nullG_ok
theorem evL_ok {row : List GV} (hrow : ∀ g ∈ row, g.ok) : ∀ F : Fo, foOk F → ∀ r ∈ evL row F, r.1.ok
  | .nil, _, r, h => by simp [evL] at h
  | .node _ _ a kids rest, hok, r, h => by
    rw [evL] at h
    rcases List.mem_cons.1 h with rfl | h
    · exact evN_ok hrow hok.1.1 _ (evL_ok hrow kids hok.1.2)
    · exact evL_ok hrow rest hok.2 r h
theorem evN1 {row : List GV} {a : Nd} {L : List (GV × Int)} (hc : ¬ ((L.length : Int) < (argK a.kind a.op).1 ∨ (argK a.kind a.op).2 < (L.length : Int))) (hk : a.kind = 1) : evN row a L = soundE (gvN a) := by
  unfold evN; rw [if_neg hc, if_pos hk]
theorem evN3 {row : List GV} {a : Nd} {x : GV × Int} (hc : ¬ (([x].length : Int) < (argK a.kind a.op).1 ∨ (argK a.kind a.op).2 < ([x].length : Int))) (hk : a.kind = 3) : evN row a [x] = unaryG a.op x := by
  unfold evN; rw [if_neg hc, if_neg (by rw [hk]; decide), if_neg (by rw [hk]; decide), hk]
  rfl
theorem evN4 {row : List GV} {a : Nd} {x y : GV × Int} (hc : ¬ (([x, y].length : Int) < (argK a.kind a.op).1 ∨ (argK a.kind a.op).2 < ([x, y].length : Int))) (hk : a.kind = 4) : evN row a [x, y] = binaryG a.op x y := by
  unfold evN; rw [if_neg hc, if_neg (by rw [hk]; decide), if_neg (by rw [hk]; decide), hk]
  rfl
theorem evN5 {row : List GV} {a : Nd} {x : GV × Int} {l : List (GV × Int)} (hc : ¬ (((x :: l).length : Int) < (argK a.kind a.op).1 ∨ (argK a.kind a.op).2 < ((x :: l).length : Int))) (hk : a.kind = 5) : evN row a (x :: l) = amongR x l := by
  unfold evN; rw [if_neg hc, if_neg (by rw [hk]; decide), if_neg (by rw [hk]; decide), hk]
  rfl
theorem EvAt.mono {w W : World} {pg b o : Nat} {r : GV × Int} (h : EvAt w pg b o r) (hb : Below w.heap.size w W) : EvAt W pg b o r := fun W' hb' => h W' (trX hb hb')
end Go.Proofs.YtehgoioinogmkaaGreatDoor
