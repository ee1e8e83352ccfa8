/- The statement ExprIns. -/
import Derived.Test.YtehgoioinogmkabGreatDoorJXInsXIns2
import Derived.Test.YtehgoioinogmkabGreatDoorXShort
import Derived.Deep.LoopGhost
namespace Go.Proofs.YtehgoioinogmkabGreatDoor
open Go.RowKit Go.Lib

theorem take_snoc (v : Nat) (vs : List Nat) (i : Nat) (h : vs[i]? = some v) : vs.take (i + 1) = vs.take i ++ [v] := by
  rw [List.getElem?_eq_some_iff] at h
  obtain ⟨h1, h2⟩ := h
  rw [List.take_succ_eq_append_getElem h1, h2]
theorem dropC (v : Nat) (vs : List Nat) (i : Nat) (h : vs[i]? = some v) : vs.drop i = v :: vs.drop (i + 1) := by
  rw [List.getElem?_eq_some_iff] at h
  obtain ⟨h1, h2⟩ := h
  rw [List.drop_eq_getElem_cons h1, h2]
/-- What stands at the loop's head: the text so far, what was found, whether something erred, whether it is done. -/
structure InI (k : Nat) (vs : List Nat) (no : Bool) (i : Nat) (s : List UInt8) (f : Int) (bad done : Bool) : Prop where
  txt : s = preB k no ++ joinB (vs.take i)
  won : done = true → bad = (finW k vs).2 ∧ (bad = false → f = (finW k vs).1)
  run : done = false → bad = false ∧ k ≠ 3 ∧ inW k f (vs.drop i) = finW k vs
theorem InI.zero (k : Nat) (vs : List Nat) (no : Bool) (h : k ≠ 3) : InI k vs no 0 (preB k no) 0 false false :=
  ⟨by rw [List.take_zero]; simp [joinB], fun h => (by cases h), fun _ => ⟨rfl, h, by unfold finW; rw [if_neg h]; rfl⟩⟩
theorem InI.zero3 (vs : List Nat) (no : Bool) : InI 3 vs no 0 (preB 3 no) 2 false true :=
  ⟨by rw [List.take_zero]; simp [joinB], fun _ => ⟨rfl, fun _ => rfl⟩, fun h => (by cases h)⟩
/-- The text behind a round. -/
theorem InI.grow {k : Nat} {vs : List Nat} {no : Bool} {i : Nat} {s : List UInt8} {v : Nat} (h : s = preB k no ++ joinB (vs.take i)) (hv : vs[i]? = some v) : (if i = 0 then s else s ++ [44, 32]) ++ eB v = preB k no ++ joinB (vs.take (i + 1)) := by
  rw [take_snoc v vs i hv]
  cases i with
  | zero => rw [if_pos rfl, h, List.take_zero]; simp [joinB]
  | succ i =>
    rw [if_neg (by omega), joinB_snoc v _ (by
      intro e
      have := congrArg List.length e
      rw [List.getElem?_eq_some_iff] at hv
      obtain ⟨h1, _⟩ := hv
      rw [List.length_take, List.length_nil] at this
      omega), h]
    simp
theorem InI.len {k : Nat} {vs : List Nat} {no : Bool} {i : Nat} {s : List UInt8} {f : Int} {bad done : Bool} (h : InI k vs no i s f bad done) (hl : vs.length ≤ 10) : s.length ≤ 84 := by
  have h1 := preB_len k no
  have h2 := joinB_len (vs.take i)
  rw [h.txt, List.length_append]
  rw [List.length_take] at h2
  omega
theorem InI.done {k : Nat} {vs : List Nat} {no : Bool} {i : Nat} {s s' : List UInt8} {f : Int} {bad : Bool} (h : InI k vs no i s f bad true) (hs : s' = preB k no ++ joinB (vs.take (i + 1))) : InI k vs no (i + 1) s' f bad true := ⟨hs, h.won, fun h => (by cases h)⟩
theorem InI.step {k : Nat} {vs : List Nat} {no : Bool} {i : Nat} {s s' : List UInt8} {f : Int} {bad : Bool} {v : Nat} (h : InI k vs no i s f bad false) (hs : s' = preB k no ++ joinB (vs.take (i + 1))) (hv : vs[i]? = some v) :
    (v = k → InI k vs no (i + 1) s' 1 false true) ∧ (v ≠ k → v = 3 → InI k vs no (i + 1) s' 2 false false) ∧ (v ≠ k → v ≠ 3 → v ≥ 4 → InI k vs no (i + 1) s' f true true) ∧ (v ≠ k → v ≠ 3 → v < 4 → InI k vs no (i + 1) s' f false false) := by
  obtain ⟨rfl, hk3, hr⟩ := h.run rfl
  rw [dropC v vs i hv, inW] at hr
  refine ⟨fun h1 => ?_, fun h1 h2 => ?_, fun h1 h2 h3 => ?_, fun h1 h2 h3 => ?_⟩
  · rw [if_pos h1] at hr
    exact ⟨hs, fun _ => by rw [← hr]; exact ⟨rfl, fun _ => rfl⟩, fun h => (by cases h)⟩
  · rw [if_neg h1, if_pos h2] at hr
    exact ⟨hs, fun h => (by cases h), fun _ => ⟨rfl, hk3, hr⟩⟩
  · rw [if_neg h1, if_neg h2, if_pos h3] at hr
    exact ⟨hs, fun _ => by rw [← hr]; exact ⟨rfl, fun h => (by cases h)⟩, fun h => (by cases h)⟩
  · rw [if_neg h1, if_neg h2, if_neg (by omega)] at hr
    exact ⟨hs, fun h => (by cases h), fun _ => ⟨rfl, hk3, hr⟩⟩
theorem InI.fin {k : Nat} {vs : List Nat} {no : Bool} {s : List UInt8} {f : Int} {bad done : Bool} (h : InI k vs no vs.length s f bad done) : s ++ [41] = insB k vs no ∧ bad = (finW k vs).2 ∧ (bad = false → f = (finW k vs).1) := by
  refine ⟨by rw [h.txt, List.take_length]; rfl, ?_⟩
  cases done with
  | true => exact h.won rfl
  | false =>
    obtain ⟨h1, _, h3⟩ := h.run rfl
    rw [List.drop_length] at h3
    rw [← h3]
    exact ⟨h1, fun _ => rfl⟩
set_option linter.unusedSimpArgs false in
set_option linter.unusedVariables false in
set_option maxHeartbeats 25600000 in
set_option maxRecDepth 20000 in
theorem ins_any (x : Int) (hx0 : 0 ≤ x) (hx : x < 256) (a : Option Addr) (len cap : Nat) (l : List UInt8) (hl : l.length = len) (hlc : len ≤ cap) (hcm : cap ≤ maxLen) (no : Bool) (w : World) (hE : ET w)
    (hcell : len ≠ 0 → ∃ b off, a = some ⟨b, off, none⟩ ∧ b < w.heap.size ∧ ∀ i, i < len → w.cell? ⟨b, off + i, none⟩ = some (.int .u8 ((l.getD i 0).toNat : Int))) :
    Calls Tryz.prog 3 #[.int .u8 x, .slice a len cap, .bool no] w fun e w' => e = .returned (.bool true) ∧ Below w.heap.size w w' := by
  have HKN := hide (xknown_any w hE)
  have HEr : Hid (∀ W, Below w.heap.size w W → ET W) := fun W hb => hE.below hb hE.lt
  have hlI : (len : Int) ≤ 9223372036854775807 := by unfold maxLen at hcm; omega
  by_cases h1 : len < 1
  · have h1I : (len : Int) < 1 := by omega
    clear hcell hE
    go_enter Tryz.func3, Tryz.ntmps3
    go_wp2_with (first | (go_at_call 4; refine (unhide HKN).mono ?_; rintro e w1 ⟨rfl, hb⟩))
    go_ret
    exact ⟨rfl, hb⟩
  have h1I : ¬ (len : Int) < 1 := by omega
  by_cases h2 : 10 < len
  · have h2I : (10 : Int) < (len : Int) := by omega
    clear hcell hE
    go_enter Tryz.func3, Tryz.ntmps3
    go_wp2_with (first | (go_at_call 4; refine (unhide HKN).mono ?_; rintro e w1 ⟨rfl, hb⟩))
    go_ret
    exact ⟨rfl, hb⟩
  have h2I : ¬ (10 : Int) < (len : Int) := by omega
  obtain ⟨b, off, rfl, hbl, hc⟩ := hcell (by omega)
  obtain ⟨k, hk⟩ : ∃ k : Nat, x.tmod 4 = (k : Int) := ⟨(x.tmod 4).toNat, (Int.toNat_of_nonneg (Int.tmod_nonneg 4 hx0)).symm⟩
  have hk4 : k ≤ 3 := by rw [Int.tmod_eq_emod_of_nonneg hx0] at hk; omega
  have hwk : IntKind.wrap .i64 (k : Int) = (k : Int) := by rw [IntKind.wrap_i64]; omega
  obtain ⟨vs, hvs⟩ : ∃ vs : List Nat, vs = l.map fun c => c.toNat % 5 := ⟨_, rfl⟩
  have hvl : vs.length = len := by rw [hvs, List.length_map, hl]
  have hvne : vs ≠ [] := by intro e; rw [e] at hvl; simp at hvl; omega
  obtain ⟨hoa, hsa, Ea, hta, hoka, hsia, heva⟩ := ins_all k hk4 vs no hvne (by omega)
  have hlt := insB_len k vs no (by omega)
  have HTa : Hid (∀ W, Calls Tryz.prog 5 #[sv (insB k vs no), .bool false] W (Ty14 (insB k vs no) W)) := fun W => typed14_any _ W (by omega) hoa (fun _ => hsa)
  have HTYa := hide hta
  have HOKa := hide hoka
  have HSIa := hide hsia
  have HEVa := hide heva
  clear hoa hsa hta hoka hsia heva hlt hE
  go_enter Tryz.func3, Tryz.ntmps3
  go_upto_region 6 with (first | (go_at_call 4; refine (unhide HKN).mono ?_; rintro e w1 ⟨rfl, hb⟩))
  clear HKN
  obtain ⟨bt, hbt⟩ : ∃ bt, bt = w1.heap.size := ⟨_, rfl⟩
  obtain ⟨w2, hw2⟩ : ∃ w2, w2 = w1.alloc (.cells #[.string ⟨#[49]⟩, .string ⟨#[50]⟩, .string ⟨#[51]⟩, .string ⟨#[78, 85, 76, 76]⟩, .string ⟨#[49, 32, 47, 32, 48]⟩] 24) := ⟨_, rfl⟩
  have hb2 : Below w.heap.size w w2 := by rw [hw2]; exact alX hb _
  have hct : ∀ v, v < 5 → w2.cell? ⟨bt, v, none⟩ = some (sv (eB v)) := by
    intro v hv
    rw [hw2, hbt]
    obtain rfl | rfl | rfl | rfl | rfl : v = 0 ∨ v = 1 ∨ v = 2 ∨ v = 3 ∨ v = 4 := by omega
    all_goals simp [sv, eB]
  have hcb : ∀ i, i < len → w2.cell? ⟨b, off + i, none⟩ = some (.int .u8 ((l.getD i 0).toNat : Int)) := fun i hi => (hb2.cell (p := ⟨b, off + i, none⟩) hbl).trans (hc i hi)
  have HB := hide hb2
  have HCT := hide hct
  have HCB := hide hcb
  rw [← hbt, ← hw2]
  clear hb hw2 hbt hb2 hct hcb hc hbl w1 hcell
  have hk0 : (0 : Int) ≤ (k : Int) := by omega
  have hk5 : (k : Int) < 5 := by omega
  go_upto_region 7 with fail
  refine wp_region_list ?_
  refine list_to (d := 33) (v := .int .i64 (k : Int)) rfl rfl (by kernel_rfl) ?_
  simp only [Act.put, List.setIfInBounds_toArray, List.set_cons_zero, List.set_cons_succ]
  have ck := unhide HCT k (by omega)
  refine list_to (d := 34) (v := .pointer (some ⟨bt, k, none⟩)) rfl rfl (by go_simp) ?_
  simp only [Act.put, List.setIfInBounds_toArray, List.set_cons_zero, List.set_cons_succ]
  refine list_to (d := 35) (v := sv (eB k)) rfl rfl (by go_simp) ?_
  simp only [Act.put, List.setIfInBounds_toArray, List.set_cons_zero, List.set_cons_succ]
  refine list_to (d := 9) (v := sv (eB k)) rfl rfl (by kernel_rfl) ?_
  simp only [Act.put, List.setIfInBounds_toArray, List.set_cons_zero, List.set_cons_succ]
  clear ck
  obtain ⟨s0, hs0⟩ : ∃ s0 : List UInt8, s0 = eB k ++ (if no = true then [32, 78, 79, 84] else []) := ⟨_, rfl⟩
  have hl0 : (s0.length : Int) ≤ 14 := by
    have := eB_len k
    rw [hs0]
    cases no <;> simp <;> omega
  have hle := eB_len k
  have hleI : ((eB k).length : Int) ≤ 5 := by omega
  have hS1 : preB k no = s0 ++ [32, 73, 78, 32, 40] := by rw [hs0]; rfl
  have HS1 := hide hS1
  go_upto_if 36 with fail
  go_cut [9] from 36 to 38 (fun s9 wx => s9 = sv s0 ∧ w2 = wx)
  case first =>
    cases no with
    | false =>
      have h1 := hide (show eB k = s0 by rw [hs0]; simp)
      clear hs0 hS1
      go_wp2_with fail
      go_meet
      exact ⟨by rw [unhide h1], rfl⟩
    | true =>
      have h1 := hide (show eB k ++ [32, 78, 79, 84] = s0 by rw [hs0]; rfl)
      clear hs0 hS1
      go_upto_region 9 with fail
      refine wp_region_list ?_
      refine list_to (d := 37) (v := sv (eB k)) rfl rfl (by kernel_rfl) ?_
      simp only [Act.put, List.setIfInBounds_toArray, List.set_cons_zero, List.set_cons_succ]
      refine list_to (d := 38) (v := sv (eB k ++ [32, 78, 79, 84])) rfl rfl (by (unfold sv; go_simp; rw [if_neg (by first | omega | (simp; omega)), cat_bytes, List.append_toArray])) ?_
      simp only [Act.put, List.setIfInBounds_toArray, List.set_cons_zero, List.set_cons_succ]
      refine list_to (d := 9) (v := sv (eB k ++ [32, 78, 79, 84])) rfl rfl (by kernel_rfl) ?_
      simp only [Act.put, List.setIfInBounds_toArray, List.set_cons_zero, List.set_cons_succ]
      go_wp2_with fail
      go_meet
      exact ⟨by rw [unhide h1], rfl⟩
  case rest =>
    obtain ⟨rfl, rfl⟩ := hcut
    clear hs0 hS1 hle hleI
    go_upto_region 10 with fail
    refine wp_region_list ?_
    refine list_to (d := 39) (v := sv s0) rfl rfl (by kernel_rfl) ?_
    simp only [Act.put, List.setIfInBounds_toArray, List.set_cons_zero, List.set_cons_succ]
    refine list_to (d := 40) (v := sv (s0 ++ [32, 73, 78, 32, 40])) rfl rfl (by (unfold sv; go_simp; rw [if_neg (by first | omega | (simp; omega)), cat_bytes, List.append_toArray])) ?_
    simp only [Act.put, List.setIfInBounds_toArray, List.set_cons_zero, List.set_cons_succ]
    refine list_to (d := 9) (v := sv (s0 ++ [32, 73, 78, 32, 40])) rfl rfl (by kernel_rfl) ?_
    simp only [Act.put, List.setIfInBounds_toArray, List.set_cons_zero, List.set_cons_succ]
    rw [← unhide HS1]
    clear HS1 hl0
    obtain ⟨f0, hf0⟩ : ∃ f0 : Int, f0 = if k = 3 then 2 else 0 := ⟨_, rfl⟩
    obtain ⟨d0, hd0⟩ : ∃ d0 : Bool, d0 = ((k : Int) == 3) := ⟨_, rfl⟩
    have HI0 : Hid (InI k vs no 0 (preB k no) f0 false d0) := by
      by_cases h3 : k = 3
      · subst h3
        rw [hf0, hd0]
        exact InI.zero3 vs no
      · rw [hf0, hd0, if_neg h3, show ((k : Int) == 3) = false from beq_eq_false_iff_ne.2 (by omega)]
        exact InI.zero k vs no h3
    go_upto_if 44 with fail
    rw [← hd0]
    go_cut [10, 12] from 41 to 44 (fun s10 s12 wx => s10 = .int .i64 f0 ∧ s12 = .bool d0 ∧ w2 = wx)
    case first =>
      by_cases h3 : k = 3
      · have e3 : ((k : Int) == 3) = true := by rw [h3]; rfl
        have hf : f0 = 2 := by rw [hf0, if_pos h3]
        have hd : d0 = true := by rw [hd0, e3]
        clear hf0 hd0 h3 e3
        rw [hd]
        go_wp2_with fail
        go_meet
        exact ⟨by rw [hf], by rw [hd], rfl⟩
      · have e3 : ((k : Int) == 3) = false := beq_eq_false_iff_ne.2 (by omega)
        have hf : f0 = 0 := by rw [hf0, if_neg h3]
        have hd : d0 = false := by rw [hd0, e3]
        clear hf0 hd0 h3 e3
        rw [hd]
        go_wp2_with fail
        go_meet
        exact ⟨by rw [hf], by rw [hd], rfl⟩
    case rest =>
      obtain ⟨rfl, rfl, rfl⟩ := hcut
      clear hf0 hd0
      go_wp2_with fail
      go_loopg [9, 10, 11, 12, 13] len (fun g s9 s10 s11 s12 s13 wr => ∃ (i : Nat) (s : List UInt8) (f : Int) (bad done : Bool), g = len - i ∧ s9 = sv s ∧ s10 = .int .i64 f ∧ s11 = .bool bad ∧ s12 = .bool done ∧ s13 = .int .i64 (i : Int) ∧ i ≤ len ∧ w2 = wr ∧ Hid (InI k vs no i s f bad done))
      case atStart => exact ⟨0, _, f0, false, d0, rfl, rfl, rfl, rfl, rfl, rfl, Nat.zero_le _, rfl, HI0⟩
      case round =>
        obtain ⟨i, s, f, bad, done, hg, rfl, rfl, rfl, rfl, rfl, hi, rfl, HI⟩ := hrel
        clear HI0
        have hi0 : (0 : Int) ≤ (i : Int) := by omega
        by_cases hlt : i < len
        · skip
          as_aux_lemma =>
            have hltI : (i : Int) < (len : Int) := by omega
            obtain ⟨v, hv⟩ : ∃ v, vs[i]? = some v := ⟨_, List.getElem?_eq_getElem (by omega)⟩
            obtain ⟨c, hcd⟩ : ∃ c : Nat, c = (l.getD i 0).toNat := ⟨_, rfl⟩
            have hvc : v = c % 5 := by
              rw [hvs, List.getElem?_map] at hv
              cases hl' : l[i]? with
              | none => rw [hl'] at hv; cases hv
              | some z =>
                rw [hl'] at hv
                injection hv with hv
                rw [hcd, List.getD_eq_getElem?_getD, hl', ← hv]
                rfl
            have hcx := unhide HCB i hlt
            rw [← hcd] at hcx
            have hv5 : v < 5 := by omega
            have htm : (c : Int).tmod 5 = (v : Int) := by rw [Int.tmod_eq_emod_of_nonneg (by omega), hvc]; omega
            have hwv : IntKind.wrap .i64 (v : Int) = (v : Int) := by rw [IntKind.wrap_i64]; omega
            have hwi : IntKind.wrap .i64 ((i : Int) + 1) = (i : Int) + 1 := by rw [IntKind.wrap_i64]; omega
            have hv0 : (0 : Int) ≤ (v : Int) := by omega
            have hv5I : (v : Int) < 5 := by omega
            have hls := (unhide HI).len (by omega)
            have HGR := hide (InI.grow (unhide HI).txt hv)
            have HVV := hide hv
            obtain ⟨s1, hs1⟩ : ∃ s1 : List UInt8, s1 = if i = 0 then s else s ++ [44, 32] := ⟨_, rfl⟩
            have hls1 : s1.length ≤ 86 := by
              rw [hs1]
              split
              · omega
              · rw [List.length_append]
                show s.length + 2 ≤ 86
                omega
            have hcat : s ++ [44, 32] = s1 ∨ i = 0 := by
              by_cases h : i = 0
              · exact .inr h
              · rw [hs1, if_neg h]; exact .inl rfl
            have hsame : i = 0 → s = s1 := fun h => by rw [hs1, if_pos h]
            have HGS : Hid (s1 ++ eB v = preB k no ++ joinB (vs.take (i + 1))) := by rw [hs1]; exact unhide HGR
            have HS := hide hsame
            have HC := hide hcat
            clear hcd hvc HGR hs1 hv hsame hcat
            go_upto_if 52 with fail
            go_cut [9] from 51 to 54 (fun s9 wx => s9 = sv s1 ∧ w2 = wx)
            case first =>
              clear hcx htm hwv
              by_cases h0 : i = 0
              · have hz : ¬ (0 : Int) < (i : Int) := by omega
                have h1 := hide (unhide HS h0)
                clear h0
                go_wp2_with fail
                go_meet
                exact ⟨by rw [unhide h1], rfl⟩
              · have hz : (0 : Int) < (i : Int) := by omega
                have h1 := hide ((unhide HC).resolve_right h0)
                clear h0
                go_upto_region 18 with fail
                refine wp_region_list ?_
                refine list_to (d := 53) (v := sv s) rfl rfl (by kernel_rfl) ?_
                simp only [Act.put, List.setIfInBounds_toArray, List.set_cons_zero, List.set_cons_succ]
                refine list_to (d := 54) (v := sv (s ++ [44, 32])) rfl rfl (by (unfold sv; go_simp; rw [if_neg (by first | omega | (simp only [List.length_append, List.length_cons, List.length_nil]; omega) | (simp; omega)), cat_bytes, List.append_toArray])) ?_
                simp only [Act.put, List.setIfInBounds_toArray, List.set_cons_zero, List.set_cons_succ]
                refine list_to (d := 9) (v := sv (s ++ [44, 32])) rfl rfl (by kernel_rfl) ?_
                simp only [Act.put, List.setIfInBounds_toArray, List.set_cons_zero, List.set_cons_succ]
                go_wp2_with fail
                go_meet
                exact ⟨by rw [unhide h1], rfl⟩
            case rest =>
              obtain ⟨rfl, rfl⟩ := hcut
              go_upto_region 20 with fail
              refine wp_region_list ?_
              refine list_to (d := 61) (v := sv s1) rfl rfl (by kernel_rfl) ?_
              simp only [Act.put, List.setIfInBounds_toArray, List.set_cons_zero, List.set_cons_succ]
              refine list_to (d := 62) (v := .int .i64 (v : Int)) rfl rfl (by kernel_rfl) ?_
              simp only [Act.put, List.setIfInBounds_toArray, List.set_cons_zero, List.set_cons_succ]
              have ck := unhide HCT v hv5
              refine list_to (d := 63) (v := .pointer (some ⟨bt, v, none⟩)) rfl rfl (by go_simp) ?_
              simp only [Act.put, List.setIfInBounds_toArray, List.set_cons_zero, List.set_cons_succ]
              refine list_to (d := 64) (v := sv (eB v)) rfl rfl (by go_simp) ?_
              simp only [Act.put, List.setIfInBounds_toArray, List.set_cons_zero, List.set_cons_succ]
              clear ck
              have hle := eB_len v
              refine list_to (d := 65) (v := sv (s1 ++ eB v)) rfl rfl (by (unfold sv; go_simp; rw [if_neg (by first | omega | (simp only [List.length_append, List.length_cons, List.length_nil]; omega) | (simp; omega)), cat_bytes, List.append_toArray])) ?_
              simp only [Act.put, List.setIfInBounds_toArray, List.set_cons_zero, List.set_cons_succ]
              refine list_to (d := 9) (v := sv (s1 ++ eB v)) rfl rfl (by kernel_rfl) ?_
              simp only [Act.put, List.setIfInBounds_toArray, List.set_cons_zero, List.set_cons_succ]
              clear hcx htm hwv hls hls1 hle
              obtain ⟨s2, hs2⟩ : ∃ s2, s2 = s1 ++ eB v := ⟨_, rfl⟩
              have HS2 : Hid (s2 = preB k no ++ joinB (vs.take (i + 1))) := by rw [hs2]; exact unhide HGS
              rw [← hs2]
              clear hs2 HGS
              cases done with
              | true =>
                go_wp2_with fail
                go_roundg (len - (i + 1))
                case rel => exact ⟨i + 1, s2, f, bad, true, rfl, rfl, rfl, rfl, rfl, by rw [show ((i + 1 : Nat) : Int) = (i : Int) + 1 from rfl], by omega, rfl, InI.done (unhide HI) (unhide HS2)⟩
                case measure => omega
              | false =>
                have HST := hide (InI.step (unhide HI) (unhide HS2) (unhide HVV))
                obtain ⟨rfl, -, -⟩ := (unhide HI).run rfl
                clear HI
                by_cases hk : v = k
                · have e1 : ((v : Int) == (k : Int)) = true := by rw [hk]; exact beq_self_eq_true _
                  have HN := hide ((unhide HST).1 hk)
                  clear hk
                  go_wp2_with fail
                  go_roundg (len - (i + 1))
                  case rel => exact ⟨i + 1, s2, 1, false, true, rfl, rfl, rfl, rfl, rfl, by rw [show ((i + 1 : Nat) : Int) = (i : Int) + 1 from rfl], by omega, rfl, unhide HN⟩
                  case measure => omega
                · have e1 : ((v : Int) == (k : Int)) = false := beq_eq_false_iff_ne.2 (by omega)
                  by_cases h3 : v = 3
                  · have e3 : ((v : Int) == 3) = true := by rw [h3]; rfl
                    have HN := hide ((unhide HST).2.1 hk h3)
                    clear hk h3
                    go_wp2_with fail
                    go_roundg (len - (i + 1))
                    case rel => exact ⟨i + 1, s2, 2, false, false, rfl, rfl, rfl, rfl, rfl, by rw [show ((i + 1 : Nat) : Int) = (i : Int) + 1 from rfl], by omega, rfl, unhide HN⟩
                    case measure => omega
                  · have e3 : ((v : Int) == 3) = false := beq_eq_false_iff_ne.2 (by omega)
                    by_cases h4 : v = 4
                    · have e4 : ((v : Int) == 4) = true := by rw [h4]; rfl
                      have HN := hide ((unhide HST).2.2.1 hk h3 (by omega))
                      clear hk h3 h4
                      go_wp2_with fail
                      go_roundg (len - (i + 1))
                      case rel => exact ⟨i + 1, s2, f, true, true, rfl, rfl, rfl, rfl, rfl, by rw [show ((i + 1 : Nat) : Int) = (i : Int) + 1 from rfl], by omega, rfl, unhide HN⟩
                      case measure => omega
                    · have e4 : ((v : Int) == 4) = false := beq_eq_false_iff_ne.2 (by omega)
                      have HN := hide ((unhide HST).2.2.2 hk h3 (by omega))
                      clear hk h3 h4
                      go_wp2_with fail
                      go_roundg (len - (i + 1))
                      case rel => exact ⟨i + 1, s2, f, false, false, rfl, rfl, rfl, rfl, rfl, by rw [show ((i + 1 : Nat) : Int) = (i : Int) + 1 from rfl], by omega, rfl, unhide HN⟩
                      case measure => omega
        · skip
          as_aux_lemma =>
            have hltI : ¬ (i : Int) < (len : Int) := by omega
            obtain rfl : i = vs.length := by omega
            obtain ⟨hS, hB, hF⟩ := (unhide HI).fin
            have hls := (unhide HI).len (by omega)
            have HSS := hide hS
            have HBB := hide hB
            have hfw := finW_in k vs
            clear HI hS hB
            go_upto_region 28 with fail
            refine wp_region_list ?_
            refine list_to (d := 78) (v := sv s) rfl rfl (by kernel_rfl) ?_
            simp only [Act.put, List.setIfInBounds_toArray, List.set_cons_zero, List.set_cons_succ]
            refine list_to (d := 79) (v := sv (s ++ [41])) rfl rfl (by (unfold sv; go_simp; rw [if_neg (by first | omega | (simp only [List.length_append, List.length_cons, List.length_nil]; omega) | (simp; omega)), cat_bytes, List.append_toArray])) ?_
            simp only [Act.put, List.setIfInBounds_toArray, List.set_cons_zero, List.set_cons_succ]
            rw [unhide HSS]
            refine list_call rfl (some 80) rfl 5 #[sv (insB k vs no), .bool false] (by kernel_rfl) (unhide HTa w2) ?_
            rintro e q ⟨hb, hpost⟩
            rw [unhide HTYa] at hpost
            obtain ⟨Na, rfl, hxN⟩ := hpost
            refine ⟨_, rfl, ?_⟩
            simp only [Act.put, List.setIfInBounds_toArray, List.set_cons_zero, List.set_cons_succ]
            have HB := hide (trX (unhide HB) hb)
            clear hb
            refine list_to (d := 77) (v := .tuple #[.agg Na.toArray, .bool true]) rfl rfl (by kernel_rfl) ?_
            simp only [Act.put, List.setIfInBounds_toArray, List.set_cons_zero, List.set_cons_succ]
            refine list_to (d := 81) (v := .agg Na.toArray) rfl rfl (by kernel_rfl) ?_
            simp only [Act.put, List.setIfInBounds_toArray, List.set_cons_zero, List.set_cons_succ]
            refine list_to (d := 82) (v := .bool true) rfl rfl (by kernel_rfl) ?_
            simp only [Act.put, List.setIfInBounds_toArray, List.set_cons_zero, List.set_cons_succ]
            have hza : Na.toArray.size = 10 := by simpa using hxN.len
            have hla : Na.length = 10 := hxN.len
            have hvn := VrX.new q (M := zL) rfl
            have hal : Below q.heap.size q (q.alloc (.cells Na.toArray 29)) := alX (Below.refl _ _) _
            refine list_new rfl 29 rfl zL.toArray (zero_of_info zeroEx).1 ?_
            simp only [Act.put, List.setIfInBounds_toArray, List.set_cons_zero, List.set_cons_succ]
            refine wpList_store_mid rfl 29 (.tmp 15) (.tmp 81) rfl q.heap.size 0 Na.toArray rfl rfl (by rw [hza]; exact hvn.there) (by rw [hza]; exact sizeEx) (all_oneCell_toArray hxN.one) ?_
            show wpList _ _ _ _ _ ((q.alloc (.cells zL.toArray 29)).setCells q.heap.size 0 Na)
            rw [setCells_new q _ _ _ (by rw [hla]; rfl)]
            simp only [Act.put, List.setIfInBounds_toArray, List.set_cons_zero, List.set_cons_succ]
            refine list_to (d := 16) (v := .bool true) rfl rfl (by kernel_rfl) ?_
            simp only [Act.put, List.setIfInBounds_toArray, List.set_cons_zero, List.set_cons_succ]
            have HB := hide (trX (unhide HB) hal)
            have HVa := hide (VrX.new q hla)
            have HXa := hide (hxN.below hal)
            obtain ⟨ba, hb9⟩ : ∃ ba, ba = q.heap.size := ⟨_, rfl⟩
            obtain ⟨w3, hw9⟩ : ∃ w3, w3 = q.alloc (.cells Na.toArray 29) := ⟨_, rfl⟩
            rw [← hw9] at HB HVa HXa 
            rw [← hw9]
            rw [← hb9] at HVa
            rw [← hb9]
            clear hw9 hb9 hal hvn hxN
            go_upto_region 31 with fail
            refine wp_region_list ?_
            refine wpList_load_mid rfl 29 (.tmp 15) rfl ba 0 rfl Na _ (unhide HVa).range Tryz.underlying29 rfl (by rw [hla]; exact sizeEx) ?_
            simp only [Act.put, List.setIfInBounds_toArray, List.set_cons_zero, List.set_cons_succ]
            refine list_call rfl (some 87) rfl 6 #[.agg Na.toArray, .slice none 0 0] (by kernel_rfl) (evalp_any [] (fun _ h => absurd h (by simp)) w3 _ Na Ea none 0 0 (unhide HXa) (unhide HOKa) (unhide HSIa) (by rw [unhide HEVa]; exact insG_text _ _ _)) ?_
            rw [unhide HEVa]
            rintro e q ⟨rfl, hb⟩
            refine ⟨_, rfl, ?_⟩
            simp only [Act.put, List.setIfInBounds_toArray, List.set_cons_zero, List.set_cons_succ]
            have HB := hide (trX (unhide HB) hb)
            clear hb
            refine list_to (d := 85) (v := .tuple #[.agg (gvC (insG k vs no).1).toArray, errG (insG k vs no).2]) rfl rfl (by kernel_rfl) ?_
            simp only [Act.put, List.setIfInBounds_toArray, List.set_cons_zero, List.set_cons_succ]
            refine list_to (d := 88) (v := .agg (gvC (insG k vs no).1).toArray) rfl rfl (by kernel_rfl) ?_
            simp only [Act.put, List.setIfInBounds_toArray, List.set_cons_zero, List.set_cons_succ]
            refine list_to (d := 89) (v := errG (insG k vs no).2) rfl rfl (by kernel_rfl) ?_
            simp only [Act.put, List.setIfInBounds_toArray, List.set_cons_zero, List.set_cons_succ]
            refine list_new rfl 26 rfl (gvC nullG).toArray (zero_of_info zeroV).1 ?_
            simp only [Act.put, List.setIfInBounds_toArray, List.set_cons_zero, List.set_cons_succ]
            refine wpList_store_mid rfl 26 (.tmp 17) (.tmp 88) rfl q.heap.size 0 (gvC (insG k vs no).1).toArray rfl rfl (VV.new q nullG).there sizeV (all_oneCell_toArray (gvC_one _)) ?_
            show wpList _ _ _ _ _ ((q.alloc (.cells (gvC nullG).toArray 26)).setCells q.heap.size 0 (gvC (insG k vs no).1))
            rw [setV_new q (insG k vs no).1]
            simp only [Act.put, List.setIfInBounds_toArray, List.set_cons_zero, List.set_cons_succ]
            refine list_to (d := 18) (v := errG (insG k vs no).2) rfl rfl (by kernel_rfl) ?_
            simp only [Act.put, List.setIfInBounds_toArray, List.set_cons_zero, List.set_cons_succ]
            have HGa := hide (VV.new q (insG k vs no).1)
            have hb : Below q.heap.size q (q.alloc (.cells (gvC (insG k vs no).1).toArray 26)) := alX (Below.refl _ _) _
            have HB := hide (trX (unhide HB) hb)
            obtain ⟨ga, hb9⟩ : ∃ ga, ga = q.heap.size := ⟨_, rfl⟩
            obtain ⟨w4, hw9⟩ : ∃ w4, w4 = q.alloc (.cells (gvC (insG k vs no).1).toArray 26) := ⟨_, rfl⟩
            rw [← hw9] at HB HGa 
            rw [← hw9]
            rw [← hb9] at HGa
            rw [← hb9]
            clear hb hw9 hb9
            cases bad with
            | true =>
              clear hfw hF
              as_aux_lemma =>
                have hg : insG k vs no = (nullG, 7) := by unfold insG; rw [if_pos (unhide HBB).symm]
                rw [hg] at HGa ⊢
                clear hg
                rw [show errG ((nullG, 7) : GV × Int).2 = .iface 78 (.int .i64 7) from rfl]
                go_wp2_with (go_at_call 7; refine (class_g 7 w4 (unhide HEr w4 (unhide HB))).mono ?_; rintro e w6 ⟨rfl, hb⟩)
                go_ret
                exact ⟨rfl, trX (unhide HB) hb⟩
            | false =>
              have hFe := hF rfl
              clear hF
              cases no with
              | false =>
                rcases hfw with h | h | h
                · obtain rfl : f = 0 := hFe.trans h
                  clear h
                  have HFF := hide hFe
                  clear hFe
                  as_aux_lemma =>
                    have hg : insG k vs false = (oneF, 0) := by
                      have hF := unhide HFF
                      unfold insG
                      rw [← unhide HBB, if_neg (by decide), ← hF]
                      rfl
                    rw [hg] at HGa ⊢
                    clear hg HFF
                    go_upto_region 36 with fail
                    have HGd := hide ((unhide HGa).below (Below.refl _ _).drew)
                    have HBd := hide (trX (unhide HB) (Below.refl _ _).drew)
                    refine wp_region_held_drew (S := fun w' => VV w' ga oneF) (by kernel_rfl) (unhide HGd) (fun hHeld => ?_)
                    refine hand_to (i := 0) (d := 101) (v := .nilIface) rfl rfl (by kernel_rfl) (by kernel_rfl) (by kernel_rfl) (fun _ _ _ h => h) (Or.inl ⟨by rfl, ?_⟩) hHeld ?_
                    · (intro w' hSw; kernel_rfl)
                    simp only [Act.put, List.setIfInBounds_toArray, List.set_cons_zero, List.set_cons_succ]
                    refine hand_to (i := 1) (d := 102) (v := (.bool true)) rfl rfl (by kernel_rfl) (by kernel_rfl) (by kernel_rfl) (fun _ _ _ h => h) (Or.inl ⟨by rfl, ?_⟩) hHeld ?_
                    · (intro w' hSw; kernel_rfl)
                    simp only [Act.put, List.setIfInBounds_toArray, List.set_cons_zero, List.set_cons_succ]
                    refine hand_to (i := 2) (d := 103) (v := (.bool true)) rfl rfl (by kernel_rfl) (by kernel_rfl) (by kernel_rfl) (fun _ _ _ h => h) (Or.inl ⟨by rfl, ?_⟩) hHeld ?_
                    · (intro w' hSw; kernel_rfl)
                    simp only [Act.put, List.setIfInBounds_toArray, List.set_cons_zero, List.set_cons_succ]
                    refine hand_to (i := 3) (d := 104) (v := .agg (gvC oneF).toArray) rfl rfl (by kernel_rfl) (by kernel_rfl) (by kernel_rfl) (fun _ _ _ h => h) (yieldsIf_load_mid (by rfl) 26 (.tmp 17) rfl ga 0 rfl (gvC oneF) _ (fun w hw => hw.range) Tryz.underlying26 rfl sizeV) hHeld ?_
                    simp only [Act.put, List.setIfInBounds_toArray, List.set_cons_zero, List.set_cons_succ]
                    refine hand_to (i := 4) (d := 105) (v := (.int .i64 0)) rfl rfl (by kernel_rfl) (by kernel_rfl) (by kernel_rfl) (fun _ _ _ h => h) (Or.inl ⟨by rfl, ?_⟩) hHeld ?_
                    · (intro w' hSw; kernel_rfl)
                    simp only [Act.put, List.setIfInBounds_toArray, List.set_cons_zero, List.set_cons_succ]
                    refine wpAnyH_ready (rs := [5]) (by kernel_rfl) (by simp) ?_
                    refine AllReadyH.cons rfl (fun K hK => ?_) AllReadyH.nil
                    rw [if_pos (by rfl)]
                    refine op_call (some 106) rfl 8 #[.int .i64 0] (by kernel_rfl) (of_false _) ?_
                    rintro e w6 ⟨rfl, hb⟩
                    refine ⟨_, rfl, ?_⟩
                    have HG6 := hide ((unhide HGd).below hb)
                    have HB6 := hide (trX (unhide HBd) hb)
                    clear hb
                    refine hK.out _ _ (unhide HG6) (fun hHeld2 => ?_)
                    clear hK K hHeld
                    have hHeld := hHeld2
                    clear hHeld2
                    try simp only [Act.put, List.setIfInBounds_toArray, List.set_cons_zero, List.set_cons_succ]
                    refine hand_to (i := 6) (d := 107) (v := (.bool true)) rfl rfl (by kernel_rfl) (by kernel_rfl) (by kernel_rfl) (fun _ _ _ h => h) (Or.inl ⟨by rfl, ?_⟩) hHeld ?_
                    · (intro w' hSw; kernel_rfl)
                    simp only [Act.put, List.setIfInBounds_toArray, List.set_cons_zero, List.set_cons_succ]
                    refine hand_to (i := 7) (d := 108) (v := (.bool true)) rfl rfl (by kernel_rfl) (by kernel_rfl) (by kernel_rfl) (fun _ _ _ h => h) (Or.inl ⟨by rfl, ?_⟩) hHeld ?_
                    · (intro w' hSw; kernel_rfl)
                    simp only [Act.put, List.setIfInBounds_toArray, List.set_cons_zero, List.set_cons_succ]
                    refine hand_to (i := 8) (d := 6) (v := (.bool true)) rfl rfl (by kernel_rfl) (by kernel_rfl) (by kernel_rfl) (fun _ _ _ h => h) (Or.inl ⟨by rfl, ?_⟩) hHeld ?_
                    · (intro w' hSw; kernel_rfl)
                    simp only [Act.put, List.setIfInBounds_toArray, List.set_cons_zero, List.set_cons_succ]
                    refine wpAnyH_done (by kernel_rfl) ?_ _
                    go_wp2_with fail
                    go_ret
                    exact ⟨rfl, unhide HB6⟩
                · obtain rfl : f = 1 := hFe.trans h
                  clear h
                  have HFF := hide hFe
                  clear hFe
                  as_aux_lemma =>
                    have hg : insG k vs false = (oneT, 0) := by
                      have hF := unhide HFF
                      unfold insG
                      rw [← unhide HBB, if_neg (by decide), ← hF]
                      rfl
                    rw [hg] at HGa ⊢
                    clear hg HFF
                    go_upto_region 36 with fail
                    have HGd := hide ((unhide HGa).below (Below.refl _ _).drew)
                    have HBd := hide (trX (unhide HB) (Below.refl _ _).drew)
                    refine wp_region_held_drew (S := fun w' => VV w' ga oneT) (by kernel_rfl) (unhide HGd) (fun hHeld => ?_)
                    refine hand_to (i := 0) (d := 101) (v := .nilIface) rfl rfl (by kernel_rfl) (by kernel_rfl) (by kernel_rfl) (fun _ _ _ h => h) (Or.inl ⟨by rfl, ?_⟩) hHeld ?_
                    · (intro w' hSw; kernel_rfl)
                    simp only [Act.put, List.setIfInBounds_toArray, List.set_cons_zero, List.set_cons_succ]
                    refine hand_to (i := 1) (d := 102) (v := (.bool true)) rfl rfl (by kernel_rfl) (by kernel_rfl) (by kernel_rfl) (fun _ _ _ h => h) (Or.inl ⟨by rfl, ?_⟩) hHeld ?_
                    · (intro w' hSw; kernel_rfl)
                    simp only [Act.put, List.setIfInBounds_toArray, List.set_cons_zero, List.set_cons_succ]
                    refine hand_to (i := 2) (d := 103) (v := (.bool true)) rfl rfl (by kernel_rfl) (by kernel_rfl) (by kernel_rfl) (fun _ _ _ h => h) (Or.inl ⟨by rfl, ?_⟩) hHeld ?_
                    · (intro w' hSw; kernel_rfl)
                    simp only [Act.put, List.setIfInBounds_toArray, List.set_cons_zero, List.set_cons_succ]
                    refine hand_to (i := 3) (d := 104) (v := .agg (gvC oneT).toArray) rfl rfl (by kernel_rfl) (by kernel_rfl) (by kernel_rfl) (fun _ _ _ h => h) (yieldsIf_load_mid (by rfl) 26 (.tmp 17) rfl ga 0 rfl (gvC oneT) _ (fun w hw => hw.range) Tryz.underlying26 rfl sizeV) hHeld ?_
                    simp only [Act.put, List.setIfInBounds_toArray, List.set_cons_zero, List.set_cons_succ]
                    refine hand_to (i := 4) (d := 105) (v := (.int .i64 1)) rfl rfl (by kernel_rfl) (by kernel_rfl) (by kernel_rfl) (fun _ _ _ h => h) (Or.inl ⟨by rfl, ?_⟩) hHeld ?_
                    · (intro w' hSw; kernel_rfl)
                    simp only [Act.put, List.setIfInBounds_toArray, List.set_cons_zero, List.set_cons_succ]
                    refine wpAnyH_ready (rs := [5]) (by kernel_rfl) (by simp) ?_
                    refine AllReadyH.cons rfl (fun K hK => ?_) AllReadyH.nil
                    rw [if_pos (by rfl)]
                    refine op_call (some 106) rfl 8 #[.int .i64 1] (by kernel_rfl) (of_one _) ?_
                    rintro e w6 ⟨rfl, hb⟩
                    refine ⟨_, rfl, ?_⟩
                    have HG6 := hide ((unhide HGd).below hb)
                    have HB6 := hide (trX (unhide HBd) hb)
                    clear hb
                    refine hK.out _ _ (unhide HG6) (fun hHeld2 => ?_)
                    clear hK K hHeld
                    have hHeld := hHeld2
                    clear hHeld2
                    try simp only [Act.put, List.setIfInBounds_toArray, List.set_cons_zero, List.set_cons_succ]
                    refine hand_to (i := 6) (d := 107) (v := (.bool true)) rfl rfl (by kernel_rfl) (by kernel_rfl) (by kernel_rfl) (fun _ _ _ h => h) (Or.inl ⟨by rfl, ?_⟩) hHeld ?_
                    · (intro w' hSw; kernel_rfl)
                    simp only [Act.put, List.setIfInBounds_toArray, List.set_cons_zero, List.set_cons_succ]
                    refine hand_to (i := 7) (d := 108) (v := (.bool true)) rfl rfl (by kernel_rfl) (by kernel_rfl) (by kernel_rfl) (fun _ _ _ h => h) (Or.inl ⟨by rfl, ?_⟩) hHeld ?_
                    · (intro w' hSw; kernel_rfl)
                    simp only [Act.put, List.setIfInBounds_toArray, List.set_cons_zero, List.set_cons_succ]
                    refine hand_to (i := 8) (d := 6) (v := (.bool true)) rfl rfl (by kernel_rfl) (by kernel_rfl) (by kernel_rfl) (fun _ _ _ h => h) (Or.inl ⟨by rfl, ?_⟩) hHeld ?_
                    · (intro w' hSw; kernel_rfl)
                    simp only [Act.put, List.setIfInBounds_toArray, List.set_cons_zero, List.set_cons_succ]
                    refine wpAnyH_done (by kernel_rfl) ?_ _
                    go_wp2_with fail
                    go_ret
                    exact ⟨rfl, unhide HB6⟩
                · obtain rfl : f = 2 := hFe.trans h
                  clear h
                  have HFF := hide hFe
                  clear hFe
                  as_aux_lemma =>
                    have hg : insG k vs false = (nullG, 0) := by
                      have hF := unhide HFF
                      unfold insG
                      rw [← unhide HBB, if_neg (by decide), ← hF]
                      rfl
                    rw [hg] at HGa ⊢
                    clear hg HFF
                    go_upto_region 36 with fail
                    have HGd := hide ((unhide HGa).below (Below.refl _ _).drew)
                    have HBd := hide (trX (unhide HB) (Below.refl _ _).drew)
                    refine wp_region_held_drew (S := fun w' => VV w' ga nullG) (by kernel_rfl) (unhide HGd) (fun hHeld => ?_)
                    refine hand_to (i := 0) (d := 101) (v := .nilIface) rfl rfl (by kernel_rfl) (by kernel_rfl) (by kernel_rfl) (fun _ _ _ h => h) (Or.inl ⟨by rfl, ?_⟩) hHeld ?_
                    · (intro w' hSw; kernel_rfl)
                    simp only [Act.put, List.setIfInBounds_toArray, List.set_cons_zero, List.set_cons_succ]
                    refine hand_to (i := 1) (d := 102) (v := (.bool true)) rfl rfl (by kernel_rfl) (by kernel_rfl) (by kernel_rfl) (fun _ _ _ h => h) (Or.inl ⟨by rfl, ?_⟩) hHeld ?_
                    · (intro w' hSw; kernel_rfl)
                    simp only [Act.put, List.setIfInBounds_toArray, List.set_cons_zero, List.set_cons_succ]
                    refine hand_to (i := 2) (d := 103) (v := (.bool true)) rfl rfl (by kernel_rfl) (by kernel_rfl) (by kernel_rfl) (fun _ _ _ h => h) (Or.inl ⟨by rfl, ?_⟩) hHeld ?_
                    · (intro w' hSw; kernel_rfl)
                    simp only [Act.put, List.setIfInBounds_toArray, List.set_cons_zero, List.set_cons_succ]
                    refine hand_to (i := 3) (d := 104) (v := .agg (gvC nullG).toArray) rfl rfl (by kernel_rfl) (by kernel_rfl) (by kernel_rfl) (fun _ _ _ h => h) (yieldsIf_load_mid (by rfl) 26 (.tmp 17) rfl ga 0 rfl (gvC nullG) _ (fun w hw => hw.range) Tryz.underlying26 rfl sizeV) hHeld ?_
                    simp only [Act.put, List.setIfInBounds_toArray, List.set_cons_zero, List.set_cons_succ]
                    refine hand_to (i := 4) (d := 105) (v := (.int .i64 2)) rfl rfl (by kernel_rfl) (by kernel_rfl) (by kernel_rfl) (fun _ _ _ h => h) (Or.inl ⟨by rfl, ?_⟩) hHeld ?_
                    · (intro w' hSw; kernel_rfl)
                    simp only [Act.put, List.setIfInBounds_toArray, List.set_cons_zero, List.set_cons_succ]
                    refine wpAnyH_ready (rs := [5]) (by kernel_rfl) (by simp) ?_
                    refine AllReadyH.cons rfl (fun K hK => ?_) AllReadyH.nil
                    rw [if_pos (by rfl)]
                    refine op_call (some 106) rfl 8 #[.int .i64 2] (by kernel_rfl) (of_two _) ?_
                    rintro e w6 ⟨rfl, hb⟩
                    refine ⟨_, rfl, ?_⟩
                    have HG6 := hide ((unhide HGd).below hb)
                    have HB6 := hide (trX (unhide HBd) hb)
                    clear hb
                    refine hK.out _ _ (unhide HG6) (fun hHeld2 => ?_)
                    clear hK K hHeld
                    have hHeld := hHeld2
                    clear hHeld2
                    try simp only [Act.put, List.setIfInBounds_toArray, List.set_cons_zero, List.set_cons_succ]
                    refine hand_to (i := 6) (d := 107) (v := (.bool true)) rfl rfl (by kernel_rfl) (by kernel_rfl) (by kernel_rfl) (fun _ _ _ h => h) (Or.inl ⟨by rfl, ?_⟩) hHeld ?_
                    · (intro w' hSw; kernel_rfl)
                    simp only [Act.put, List.setIfInBounds_toArray, List.set_cons_zero, List.set_cons_succ]
                    refine hand_to (i := 7) (d := 108) (v := (.bool true)) rfl rfl (by kernel_rfl) (by kernel_rfl) (by kernel_rfl) (fun _ _ _ h => h) (Or.inl ⟨by rfl, ?_⟩) hHeld ?_
                    · (intro w' hSw; kernel_rfl)
                    simp only [Act.put, List.setIfInBounds_toArray, List.set_cons_zero, List.set_cons_succ]
                    refine hand_to (i := 8) (d := 6) (v := (.bool true)) rfl rfl (by kernel_rfl) (by kernel_rfl) (by kernel_rfl) (fun _ _ _ h => h) (Or.inl ⟨by rfl, ?_⟩) hHeld ?_
                    · (intro w' hSw; kernel_rfl)
                    simp only [Act.put, List.setIfInBounds_toArray, List.set_cons_zero, List.set_cons_succ]
                    refine wpAnyH_done (by kernel_rfl) ?_ _
                    go_wp2_with fail
                    go_ret
                    exact ⟨rfl, unhide HB6⟩
              | true =>
                rcases hfw with h | h | h
                · obtain rfl : f = 0 := hFe.trans h
                  clear h
                  have HFF := hide hFe
                  clear hFe
                  as_aux_lemma =>
                    have hg : insG k vs true = (oneT, 0) := by
                      have hF := unhide HFF
                      unfold insG
                      rw [← unhide HBB, if_neg (by decide), ← hF]
                      rfl
                    rw [hg] at HGa ⊢
                    clear hg HFF
                    go_upto_region 36 with fail
                    have HGd := hide ((unhide HGa).below (Below.refl _ _).drew)
                    have HBd := hide (trX (unhide HB) (Below.refl _ _).drew)
                    refine wp_region_held_drew (S := fun w' => VV w' ga oneT) (by kernel_rfl) (unhide HGd) (fun hHeld => ?_)
                    refine hand_to (i := 0) (d := 101) (v := .nilIface) rfl rfl (by kernel_rfl) (by kernel_rfl) (by kernel_rfl) (fun _ _ _ h => h) (Or.inl ⟨by rfl, ?_⟩) hHeld ?_
                    · (intro w' hSw; kernel_rfl)
                    simp only [Act.put, List.setIfInBounds_toArray, List.set_cons_zero, List.set_cons_succ]
                    refine hand_to (i := 1) (d := 102) (v := (.bool true)) rfl rfl (by kernel_rfl) (by kernel_rfl) (by kernel_rfl) (fun _ _ _ h => h) (Or.inl ⟨by rfl, ?_⟩) hHeld ?_
                    · (intro w' hSw; kernel_rfl)
                    simp only [Act.put, List.setIfInBounds_toArray, List.set_cons_zero, List.set_cons_succ]
                    refine hand_to (i := 2) (d := 103) (v := (.bool true)) rfl rfl (by kernel_rfl) (by kernel_rfl) (by kernel_rfl) (fun _ _ _ h => h) (Or.inl ⟨by rfl, ?_⟩) hHeld ?_
                    · (intro w' hSw; kernel_rfl)
                    simp only [Act.put, List.setIfInBounds_toArray, List.set_cons_zero, List.set_cons_succ]
                    refine hand_to (i := 3) (d := 104) (v := .agg (gvC oneT).toArray) rfl rfl (by kernel_rfl) (by kernel_rfl) (by kernel_rfl) (fun _ _ _ h => h) (yieldsIf_load_mid (by rfl) 26 (.tmp 17) rfl ga 0 rfl (gvC oneT) _ (fun w hw => hw.range) Tryz.underlying26 rfl sizeV) hHeld ?_
                    simp only [Act.put, List.setIfInBounds_toArray, List.set_cons_zero, List.set_cons_succ]
                    refine hand_to (i := 4) (d := 105) (v := (.int .i64 1)) rfl rfl (by kernel_rfl) (by kernel_rfl) (by kernel_rfl) (fun _ _ _ h => h) (Or.inl ⟨by rfl, ?_⟩) hHeld ?_
                    · (intro w' hSw; kernel_rfl)
                    simp only [Act.put, List.setIfInBounds_toArray, List.set_cons_zero, List.set_cons_succ]
                    refine wpAnyH_ready (rs := [5]) (by kernel_rfl) (by simp) ?_
                    refine AllReadyH.cons rfl (fun K hK => ?_) AllReadyH.nil
                    rw [if_pos (by rfl)]
                    refine op_call (some 106) rfl 8 #[.int .i64 1] (by kernel_rfl) (of_one _) ?_
                    rintro e w6 ⟨rfl, hb⟩
                    refine ⟨_, rfl, ?_⟩
                    have HG6 := hide ((unhide HGd).below hb)
                    have HB6 := hide (trX (unhide HBd) hb)
                    clear hb
                    refine hK.out _ _ (unhide HG6) (fun hHeld2 => ?_)
                    clear hK K hHeld
                    have hHeld := hHeld2
                    clear hHeld2
                    try simp only [Act.put, List.setIfInBounds_toArray, List.set_cons_zero, List.set_cons_succ]
                    refine hand_to (i := 6) (d := 107) (v := (.bool true)) rfl rfl (by kernel_rfl) (by kernel_rfl) (by kernel_rfl) (fun _ _ _ h => h) (Or.inl ⟨by rfl, ?_⟩) hHeld ?_
                    · (intro w' hSw; kernel_rfl)
                    simp only [Act.put, List.setIfInBounds_toArray, List.set_cons_zero, List.set_cons_succ]
                    refine hand_to (i := 7) (d := 108) (v := (.bool true)) rfl rfl (by kernel_rfl) (by kernel_rfl) (by kernel_rfl) (fun _ _ _ h => h) (Or.inl ⟨by rfl, ?_⟩) hHeld ?_
                    · (intro w' hSw; kernel_rfl)
                    simp only [Act.put, List.setIfInBounds_toArray, List.set_cons_zero, List.set_cons_succ]
                    refine hand_to (i := 8) (d := 6) (v := (.bool true)) rfl rfl (by kernel_rfl) (by kernel_rfl) (by kernel_rfl) (fun _ _ _ h => h) (Or.inl ⟨by rfl, ?_⟩) hHeld ?_
                    · (intro w' hSw; kernel_rfl)
                    simp only [Act.put, List.setIfInBounds_toArray, List.set_cons_zero, List.set_cons_succ]
                    refine wpAnyH_done (by kernel_rfl) ?_ _
                    go_wp2_with fail
                    go_ret
                    exact ⟨rfl, unhide HB6⟩
                · obtain rfl : f = 1 := hFe.trans h
                  clear h
                  have HFF := hide hFe
                  clear hFe
                  as_aux_lemma =>
                    have hg : insG k vs true = (oneF, 0) := by
                      have hF := unhide HFF
                      unfold insG
                      rw [← unhide HBB, if_neg (by decide), ← hF]
                      rfl
                    rw [hg] at HGa ⊢
                    clear hg HFF
                    go_upto_region 36 with fail
                    have HGd := hide ((unhide HGa).below (Below.refl _ _).drew)
                    have HBd := hide (trX (unhide HB) (Below.refl _ _).drew)
                    refine wp_region_held_drew (S := fun w' => VV w' ga oneF) (by kernel_rfl) (unhide HGd) (fun hHeld => ?_)
                    refine hand_to (i := 0) (d := 101) (v := .nilIface) rfl rfl (by kernel_rfl) (by kernel_rfl) (by kernel_rfl) (fun _ _ _ h => h) (Or.inl ⟨by rfl, ?_⟩) hHeld ?_
                    · (intro w' hSw; kernel_rfl)
                    simp only [Act.put, List.setIfInBounds_toArray, List.set_cons_zero, List.set_cons_succ]
                    refine hand_to (i := 1) (d := 102) (v := (.bool true)) rfl rfl (by kernel_rfl) (by kernel_rfl) (by kernel_rfl) (fun _ _ _ h => h) (Or.inl ⟨by rfl, ?_⟩) hHeld ?_
                    · (intro w' hSw; kernel_rfl)
                    simp only [Act.put, List.setIfInBounds_toArray, List.set_cons_zero, List.set_cons_succ]
                    refine hand_to (i := 2) (d := 103) (v := (.bool true)) rfl rfl (by kernel_rfl) (by kernel_rfl) (by kernel_rfl) (fun _ _ _ h => h) (Or.inl ⟨by rfl, ?_⟩) hHeld ?_
                    · (intro w' hSw; kernel_rfl)
                    simp only [Act.put, List.setIfInBounds_toArray, List.set_cons_zero, List.set_cons_succ]
                    refine hand_to (i := 3) (d := 104) (v := .agg (gvC oneF).toArray) rfl rfl (by kernel_rfl) (by kernel_rfl) (by kernel_rfl) (fun _ _ _ h => h) (yieldsIf_load_mid (by rfl) 26 (.tmp 17) rfl ga 0 rfl (gvC oneF) _ (fun w hw => hw.range) Tryz.underlying26 rfl sizeV) hHeld ?_
                    simp only [Act.put, List.setIfInBounds_toArray, List.set_cons_zero, List.set_cons_succ]
                    refine hand_to (i := 4) (d := 105) (v := (.int .i64 0)) rfl rfl (by kernel_rfl) (by kernel_rfl) (by kernel_rfl) (fun _ _ _ h => h) (Or.inl ⟨by rfl, ?_⟩) hHeld ?_
                    · (intro w' hSw; kernel_rfl)
                    simp only [Act.put, List.setIfInBounds_toArray, List.set_cons_zero, List.set_cons_succ]
                    refine wpAnyH_ready (rs := [5]) (by kernel_rfl) (by simp) ?_
                    refine AllReadyH.cons rfl (fun K hK => ?_) AllReadyH.nil
                    rw [if_pos (by rfl)]
                    refine op_call (some 106) rfl 8 #[.int .i64 0] (by kernel_rfl) (of_false _) ?_
                    rintro e w6 ⟨rfl, hb⟩
                    refine ⟨_, rfl, ?_⟩
                    have HG6 := hide ((unhide HGd).below hb)
                    have HB6 := hide (trX (unhide HBd) hb)
                    clear hb
                    refine hK.out _ _ (unhide HG6) (fun hHeld2 => ?_)
                    clear hK K hHeld
                    have hHeld := hHeld2
                    clear hHeld2
                    try simp only [Act.put, List.setIfInBounds_toArray, List.set_cons_zero, List.set_cons_succ]
                    refine hand_to (i := 6) (d := 107) (v := (.bool true)) rfl rfl (by kernel_rfl) (by kernel_rfl) (by kernel_rfl) (fun _ _ _ h => h) (Or.inl ⟨by rfl, ?_⟩) hHeld ?_
                    · (intro w' hSw; kernel_rfl)
                    simp only [Act.put, List.setIfInBounds_toArray, List.set_cons_zero, List.set_cons_succ]
                    refine hand_to (i := 7) (d := 108) (v := (.bool true)) rfl rfl (by kernel_rfl) (by kernel_rfl) (by kernel_rfl) (fun _ _ _ h => h) (Or.inl ⟨by rfl, ?_⟩) hHeld ?_
                    · (intro w' hSw; kernel_rfl)
                    simp only [Act.put, List.setIfInBounds_toArray, List.set_cons_zero, List.set_cons_succ]
                    refine hand_to (i := 8) (d := 6) (v := (.bool true)) rfl rfl (by kernel_rfl) (by kernel_rfl) (by kernel_rfl) (fun _ _ _ h => h) (Or.inl ⟨by rfl, ?_⟩) hHeld ?_
                    · (intro w' hSw; kernel_rfl)
                    simp only [Act.put, List.setIfInBounds_toArray, List.set_cons_zero, List.set_cons_succ]
                    refine wpAnyH_done (by kernel_rfl) ?_ _
                    go_wp2_with fail
                    go_ret
                    exact ⟨rfl, unhide HB6⟩
                · obtain rfl : f = 2 := hFe.trans h
                  clear h
                  have HFF := hide hFe
                  clear hFe
                  as_aux_lemma =>
                    have hg : insG k vs true = (nullG, 0) := by
                      have hF := unhide HFF
                      unfold insG
                      rw [← unhide HBB, if_neg (by decide), ← hF]
                      rfl
                    rw [hg] at HGa ⊢
                    clear hg HFF
                    go_upto_region 36 with fail
                    have HGd := hide ((unhide HGa).below (Below.refl _ _).drew)
                    have HBd := hide (trX (unhide HB) (Below.refl _ _).drew)
                    refine wp_region_held_drew (S := fun w' => VV w' ga nullG) (by kernel_rfl) (unhide HGd) (fun hHeld => ?_)
                    refine hand_to (i := 0) (d := 101) (v := .nilIface) rfl rfl (by kernel_rfl) (by kernel_rfl) (by kernel_rfl) (fun _ _ _ h => h) (Or.inl ⟨by rfl, ?_⟩) hHeld ?_
                    · (intro w' hSw; kernel_rfl)
                    simp only [Act.put, List.setIfInBounds_toArray, List.set_cons_zero, List.set_cons_succ]
                    refine hand_to (i := 1) (d := 102) (v := (.bool true)) rfl rfl (by kernel_rfl) (by kernel_rfl) (by kernel_rfl) (fun _ _ _ h => h) (Or.inl ⟨by rfl, ?_⟩) hHeld ?_
                    · (intro w' hSw; kernel_rfl)
                    simp only [Act.put, List.setIfInBounds_toArray, List.set_cons_zero, List.set_cons_succ]
                    refine hand_to (i := 2) (d := 103) (v := (.bool true)) rfl rfl (by kernel_rfl) (by kernel_rfl) (by kernel_rfl) (fun _ _ _ h => h) (Or.inl ⟨by rfl, ?_⟩) hHeld ?_
                    · (intro w' hSw; kernel_rfl)
                    simp only [Act.put, List.setIfInBounds_toArray, List.set_cons_zero, List.set_cons_succ]
                    refine hand_to (i := 3) (d := 104) (v := .agg (gvC nullG).toArray) rfl rfl (by kernel_rfl) (by kernel_rfl) (by kernel_rfl) (fun _ _ _ h => h) (yieldsIf_load_mid (by rfl) 26 (.tmp 17) rfl ga 0 rfl (gvC nullG) _ (fun w hw => hw.range) Tryz.underlying26 rfl sizeV) hHeld ?_
                    simp only [Act.put, List.setIfInBounds_toArray, List.set_cons_zero, List.set_cons_succ]
                    refine hand_to (i := 4) (d := 105) (v := (.int .i64 2)) rfl rfl (by kernel_rfl) (by kernel_rfl) (by kernel_rfl) (fun _ _ _ h => h) (Or.inl ⟨by rfl, ?_⟩) hHeld ?_
                    · (intro w' hSw; kernel_rfl)
                    simp only [Act.put, List.setIfInBounds_toArray, List.set_cons_zero, List.set_cons_succ]
                    refine wpAnyH_ready (rs := [5]) (by kernel_rfl) (by simp) ?_
                    refine AllReadyH.cons rfl (fun K hK => ?_) AllReadyH.nil
                    rw [if_pos (by rfl)]
                    refine op_call (some 106) rfl 8 #[.int .i64 2] (by kernel_rfl) (of_two _) ?_
                    rintro e w6 ⟨rfl, hb⟩
                    refine ⟨_, rfl, ?_⟩
                    have HG6 := hide ((unhide HGd).below hb)
                    have HB6 := hide (trX (unhide HBd) hb)
                    clear hb
                    refine hK.out _ _ (unhide HG6) (fun hHeld2 => ?_)
                    clear hK K hHeld
                    have hHeld := hHeld2
                    clear hHeld2
                    try simp only [Act.put, List.setIfInBounds_toArray, List.set_cons_zero, List.set_cons_succ]
                    refine hand_to (i := 6) (d := 107) (v := (.bool true)) rfl rfl (by kernel_rfl) (by kernel_rfl) (by kernel_rfl) (fun _ _ _ h => h) (Or.inl ⟨by rfl, ?_⟩) hHeld ?_
                    · (intro w' hSw; kernel_rfl)
                    simp only [Act.put, List.setIfInBounds_toArray, List.set_cons_zero, List.set_cons_succ]
                    refine hand_to (i := 7) (d := 108) (v := (.bool true)) rfl rfl (by kernel_rfl) (by kernel_rfl) (by kernel_rfl) (fun _ _ _ h => h) (Or.inl ⟨by rfl, ?_⟩) hHeld ?_
                    · (intro w' hSw; kernel_rfl)
                    simp only [Act.put, List.setIfInBounds_toArray, List.set_cons_zero, List.set_cons_succ]
                    refine hand_to (i := 8) (d := 6) (v := (.bool true)) rfl rfl (by kernel_rfl) (by kernel_rfl) (by kernel_rfl) (fun _ _ _ h => h) (Or.inl ⟨by rfl, ?_⟩) hHeld ?_
                    · (intro w' hSw; kernel_rfl)
                    simp only [Act.put, List.setIfInBounds_toArray, List.set_cons_zero, List.set_cons_succ]
                    refine wpAnyH_done (by kernel_rfl) ?_ _
                    go_wp2_with fail
                    go_ret
                    exact ⟨rfl, unhide HB6⟩
end Go.Proofs.YtehgoioinogmkabGreatDoor
