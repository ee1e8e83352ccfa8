/- The statement ExprCases. -/
import Derived.Test.YtehgoioinogmkaaGreatDoorXCas3
import Derived.Test.YtehgoioinogmkaaGreatDoorJXKnXShort
import Derived.Test.YtehgoioinogmkaaGreatDoorJVKnownKRefVDigitsVLaidXBin
import Derived.Deep.LoopGhost
namespace Go.Proofs.YtehgoioinogmkaaGreatDoor
open Go.RowKit Go.Lib

/-- Conditions with their numbers. -/
def numd (vs : List Nat) : List (Nat × Nat) := vs.zipIdx
theorem numd_snoc (vs : List Nat) (v : Nat) : numd (vs ++ [v]) = numd vs ++ [(v, vs.length)] := by
  unfold numd
  rw [List.zipIdx_append]
  simp
theorem numd_lt (vs : List Nat) (h : vs.length ≤ 10) : ∀ x ∈ numd vs, x.2 < 10 := by
  intro x hx
  obtain ⟨k, d⟩ := x
  have := List.mem_zipIdx hx
  show d < 10
  omega
theorem numd_len (vs : List Nat) : (numd vs).length = vs.length := List.length_zipIdx
theorem numd_k (vs : List Nat) (h : ∀ v ∈ vs, v < 4) : ∀ x ∈ numd vs, x.1 < 4 := by
  intro x hx
  obtain ⟨k, d⟩ := x
  exact h k (List.fst_mem_of_mem_zipIdx hx)
/-- What the statement reckons itself: the value's number, or less than nothing; a fault. -/
def goW (f : Int) (b : Bool) : List (Nat × Nat) → Int × Bool
  | [] => (f, b)
  | x :: l => if f < 0 ∧ b = false then goW (if x.1 = 1 then (x.2 : Int) else f) (x.1 == 3) l else goW f b l
theorem goW_stop {f : Int} {b : Bool} (h : ¬ (f < 0 ∧ b = false)) : ∀ l, goW f b l = (f, b)
  | [] => rfl
  | x :: l => by rw [goW, if_neg h]; exact goW_stop h l
theorem goW_fin (last : Bool) : ∀ l : List (Nat × Nat), (∀ x ∈ l, x.1 < 4) → casW last l = if (goW (-1) false l).2 = true then (nullG, 7) else if (goW (-1) false l).1 < 0 then (if last = true then (⟨2, 77, ⟨#[]⟩⟩, 0) else (nullG, 0)) else (⟨2, (goW (-1) false l).1, ⟨#[]⟩⟩, 0)
  | [], _ => rfl
  | x :: l, h => by
    have ih := goW_fin last l (fun y hy => h y (List.mem_cons_of_mem _ hy))
    have hx := h x (List.mem_cons_self ..)
    have e : goW (-1) false (x :: l) = goW (if x.1 = 1 then (x.2 : Int) else -1) (x.1 == 3) l := by rw [goW, if_pos ⟨by decide, rfl⟩]
    rw [casW, e]
    by_cases h1 : x.1 = 1
    · rw [if_pos h1, if_pos h1, show (x.1 == 3) = false by rw [h1]; rfl, goW_stop (by omega)]
      rw [if_neg (show ¬ (false = true) by decide), if_neg (show ¬ ((x.2 : Int) < 0) by omega)]
    · rw [if_neg h1, if_neg h1]
      by_cases h3 : x.1 = 3
      · rw [if_pos (by omega), show (x.1 == 3) = true by rw [h3]; rfl, goW_stop (by simp)]
        rw [if_pos rfl]
      · rw [if_neg (by omega), show (x.1 == 3) = false from beq_eq_false_iff_ne.2 h3]
        exact ih
theorem goW_in (m : Nat) : ∀ (l : List (Nat × Nat)) (f : Int) (b : Bool), (∀ x ∈ l, x.2 < m) → -1 ≤ f → f < (m : Int) → -1 ≤ (goW f b l).1 ∧ (goW f b l).1 < (m : Int)
  | [], f, b, _, h1, h2 => ⟨h1, h2⟩
  | x :: l, f, b, h, h1, h2 => by
    have hx := h x (List.mem_cons_self ..)
    rw [goW]
    split
    · refine goW_in m l _ _ (fun y hy => h y (List.mem_cons_of_mem _ hy)) ?_ ?_ <;> split <;> omega
    · exact goW_in m l f b (fun y hy => h y (List.mem_cons_of_mem _ hy)) h1 h2
/-- What stands at the loop's head. -/
structure CaI (vs : List Nat) (i : Nat) (s : List UInt8) (f : Int) (bad : Bool) : Prop where
  txt : s = [67, 65, 83, 69] ++ (numd (vs.take i)).flatMap clB
  run : goW f bad ((numd vs).drop i) = goW (-1) false (numd vs)
theorem CaI.zero (vs : List Nat) : CaI vs 0 [67, 65, 83, 69] (-1) false := ⟨by rw [List.take_zero]; rfl, rfl⟩
theorem numd_get {vs : List Nat} {i v : Nat} (h : vs[i]? = some v) : (numd vs).drop i = (v, i) :: (numd vs).drop (i + 1) := by
  have hg : (numd vs)[i]? = some (v, i) := by
    unfold numd
    rw [List.getElem?_zipIdx, h]
    simp
  obtain ⟨h1, h2⟩ := List.getElem?_eq_some_iff.1 hg
  rw [List.drop_eq_getElem_cons h1, h2]
theorem CaI.grow {vs : List Nat} {i : Nat} {s : List UInt8} {f : Int} {bad : Bool} {v : Nat} (h : CaI vs i s f bad) (hv : vs[i]? = some v) : s ++ clB (v, i) = [67, 65, 83, 69] ++ (numd (vs.take (i + 1))).flatMap clB := by
  have hi := (List.getElem?_eq_some_iff.1 hv).1
  have ht : vs.take (i + 1) = vs.take i ++ [v] := by
    rw [List.take_succ_eq_append_getElem hi, (List.getElem?_eq_some_iff.1 hv).2]
  rw [ht, numd_snoc, List.length_take, Nat.min_eq_left (Nat.le_of_lt hi), List.flatMap_append, h.txt]
  simp
theorem clB_len (x : Nat × Nat) : (clB x).length ≤ 26 := by
  have h1 : (tB x.1).length ≤ 9 := by
    match x.1 with
    | 0 => decide
    | 1 => decide
    | 2 => decide
    | n + 3 => exact Nat.le_refl 9
  have h2 : (vB x.1 x.2).length ≤ 5 := by unfold vB; split <;> simp
  unfold clB
  simp only [List.length_append, List.length_cons, List.length_nil]
  omega
theorem cls_len : ∀ l : List (Nat × Nat), (l.flatMap clB).length ≤ 26 * l.length
  | [] => Nat.le_refl 0
  | x :: l => by
    have := clB_len x
    have := cls_len l
    rw [List.flatMap_cons, List.length_append, List.length_cons]
    omega
theorem CaI.len {vs : List Nat} {i : Nat} {s : List UInt8} {f : Int} {bad : Bool} (h : CaI vs i s f bad) (hl : vs.length ≤ 10) : s.length ≤ 264 := by
  have h1 := cls_len (numd (vs.take i))
  rw [numd_len, List.length_take] at h1
  rw [h.txt, List.length_append]
  simp only [List.length_cons, List.length_nil]
  omega
theorem CaI.skip {vs : List Nat} {i : Nat} {s s' : List UInt8} {f : Int} {bad : Bool} {v : Nat} (h : CaI vs i s f bad) (hs : s' = [67, 65, 83, 69] ++ (numd (vs.take (i + 1))).flatMap clB) (hv : vs[i]? = some v) (hn : ¬ (f < 0 ∧ bad = false)) : CaI vs (i + 1) s' f bad :=
  ⟨hs, by have := h.run; rw [numd_get hv, goW, if_neg hn] at this; exact this⟩
theorem CaI.step {vs : List Nat} {i : Nat} {s s' : List UInt8} {f : Int} {v : Nat} (h : CaI vs i s f false) (hs : s' = [67, 65, 83, 69] ++ (numd (vs.take (i + 1))).flatMap clB) (hv : vs[i]? = some v) (hn : f < 0) : CaI vs (i + 1) s' (if v = 1 then (i : Int) else f) (v == 3) :=
  ⟨hs, by have := h.run; rw [numd_get hv, goW, if_pos ⟨hn, rfl⟩] at this; exact this⟩
theorem CaI.fin {vs : List Nat} {s : List UInt8} {f : Int} {bad : Bool} (h : CaI vs vs.length s f bad) (last : Bool) : (s ++ elB last) ++ [32, 69, 78, 68, 32, 61, 32, 53] = casB (numd vs) last ∧ (f, bad) = goW (-1) false (numd vs) := by
  refine ⟨by rw [h.txt, List.take_length]; rfl, ?_⟩
  have := h.run
  rw [List.drop_eq_nil_of_le (by rw [numd_len]; exact Nat.le_refl _)] at this
  exact this
theorem dig_itoa {i : Nat} (h : i < 10) : itoa (i : Int) = [UInt8.ofNat (48 + i)] := by
  obtain rfl | rfl | rfl | rfl | rfl | rfl | rfl | rfl | rfl | rfl : i = 0 ∨ i = 1 ∨ i = 2 ∨ i = 3 ∨ i = 4 ∨ i = 5 ∨ i = 6 ∨ i = 7 ∨ i = 8 ∨ i = 9 := by omega
  all_goals (unfold itoa; rw [if_neg (by decide)]; first | rfl | decide | (simp [decDigits]))
theorem tru_tB {k : Nat} (h : k < 4) : truS (k : Int) = tB k := by
  obtain rfl | rfl | rfl | rfl : k = 0 ∨ k = 1 ∨ k = 2 ∨ k = 3 := by omega
  all_goals rfl
theorem num_g (n : Int) (w : World) : Calls Tryz.prog 22 #[.int .i64 n] w fun e w' => e = .returned (.agg (gvC (⟨2, n, ⟨#[]⟩⟩ : GV)).toArray) ∧ Below w.heap.size w w' := by
  refine (num_any n w).mono ?_
  rintro e w' ⟨rfl, rfl⟩
  exact ⟨rfl, alX (Below.refl _ _) _⟩
theorem casW_text (last : Bool) : ∀ l : List (Nat × Nat), (casW last l).1.text.size ≤ 281474976710656
  | [] => by cases last <;> exact Nat.zero_le _
  | x :: l => by
    rw [casW]
    split
    · exact Nat.zero_le _
    · split
      · exact Nat.zero_le _
      · exact casW_text last l
set_option linter.unusedSimpArgs false in
set_option linter.unusedVariables false in
set_option maxHeartbeats 25600000 in
set_option maxRecDepth 20000 in
theorem cases_any14 (a : Option Addr) (len cap : Nat) (l : List UInt8) (hl : l.length = len) (hlc : len ≤ cap) (hcm : cap ≤ maxLen) (last : Bool) (w : World) (hE : ET w)
    (hcell : len ≠ 0 → ∃ b off, a = some ⟨b, off, none⟩ ∧ b < w.heap.size ∧ ∀ i, i < len → w.cell? ⟨b, off + i, none⟩ = some (.int .u8 ((l.getD i 0).toNat : Int))) :
    Calls Tryz.prog 8 #[.slice a len cap, .bool last] w fun e w' => e = .returned (.bool true) ∧ Below w.heap.size w w' := by
  have HKN := hide (xknown_any w hE)
  have HEr : Hid (∀ W, Below w.heap.size w W → ET W) := fun W hb => hE.below hb hE.lt
  have hlI : (len : Int) ≤ 9223372036854775807 := by unfold maxLen at hcm; omega
  by_cases h1 : len < 1
  · have h1I : (len : Int) < 1 := by omega
    clear hcell hE
    go_enter Tryz.func8, Tryz.ntmps8
    go_wp2_with (first | (go_at_call 9; refine (unhide HKN).mono ?_; rintro e w1 ⟨rfl, hb⟩))
    go_ret
    exact ⟨rfl, hb⟩
  have h1I : ¬ (len : Int) < 1 := by omega
  by_cases h2 : 10 < len
  · have h2I : (10 : Int) < (len : Int) := by omega
    clear hcell hE
    go_enter Tryz.func8, Tryz.ntmps8
    go_wp2_with (first | (go_at_call 9; refine (unhide HKN).mono ?_; rintro e w1 ⟨rfl, hb⟩))
    go_ret
    exact ⟨rfl, hb⟩
  have h2I : ¬ (10 : Int) < (len : Int) := by omega
  obtain ⟨b, off, rfl, hbl, hc⟩ := hcell (by omega)
  obtain ⟨vs, hvs⟩ : ∃ vs : List Nat, vs = l.map fun c => c.toNat % 4 := ⟨_, rfl⟩
  have hvl : vs.length = len := by rw [hvs, List.length_map, hl]
  have hvk : ∀ v ∈ vs, v < 4 := by
    intro v hv
    rw [hvs] at hv
    obtain ⟨c, _, rfl⟩ := List.mem_map.1 hv
    omega
  have hnne : numd vs ≠ [] := by intro e; have := numd_len vs; rw [e] at this; simp at this; omega
  obtain ⟨hoa, hsa, hta, hoka, hsia, heva⟩ := cas_all (numd vs) last hnne (by rw [numd_len]; omega) (numd_lt vs (by omega))
  have hlt : (casB (numd vs) last).length ≤ 300 := by
    have h1 := cls_len (numd vs)
    rw [numd_len] at h1
    unfold casB
    have : (elB last).length ≤ 8 := by cases last <;> decide
    simp only [List.length_append, List.length_cons, List.length_nil]
    omega
  have HTa : Hid (∀ W, Calls Tryz.prog 11 #[sv (casB (numd vs) last), .bool false] W (Ty14 (casB (numd vs) last) W)) := fun W => typed14_any _ W (by omega) hoa (fun _ => hsa)
  have HTYa := hide hta
  have HOKa := hide hoka
  have HSIa := hide hsia
  have HEVa := hide heva
  have HCB := hide hc
  clear hoa hsa hta hoka hsia heva hlt hE hnne hc hcell
  go_enter Tryz.func8, Tryz.ntmps8
  go_upto_region 6 with (first | (go_at_call 9; refine (unhide HKN).mono ?_; rintro e w1 ⟨rfl, hb⟩))
  clear HKN
  have HB := hide hb
  clear hb
  have HI0 := hide (CaI.zero vs)
  have HB0 := HB
  rw [show (Value.string ⟨#[67, 65, 83, 69]⟩) = sv [67, 65, 83, 69] from rfl]
  go_wp2_with fail
  go_loopg [5, 6, 7, 8] len (fun g s5 s6 s7 s8 wr => ∃ (i : Nat) (s : List UInt8) (f : Int) (bad : Bool), g = len - i ∧ s5 = sv s ∧ s6 = .int .i64 f ∧ s7 = .bool bad ∧ s8 = .int .i64 (i : Int) ∧ i ≤ len ∧ Hid (CaI vs i s f bad) ∧ Hid (Below w.heap.size w wr))
  case atStart => exact ⟨0, _, -1, false, rfl, rfl, rfl, rfl, rfl, Nat.zero_le _, HI0, HB0⟩
  case round =>
    obtain ⟨i, s, f, bad, hg, rfl, rfl, rfl, rfl, hi, HI, HB⟩ := hrel
    clear HI0 HB0
    have hi0 : (0 : Int) ≤ (i : Int) := by omega
    by_cases hlt : i < len
    · skip
      as_aux_lemma =>
        have hltI : (i : Int) < (len : Int) := by omega
        obtain ⟨v, hv⟩ : ∃ v, vs[i]? = some v := ⟨_, List.getElem?_eq_getElem (by omega)⟩
        obtain ⟨c, hcd⟩ : ∃ c : Nat, c = (l.getD i 0).toNat := ⟨_, rfl⟩
        have hvc : v = c % 4 := by
          rw [hvs, List.getElem?_map] at hv
          cases hl' : l[i]? with
          | none => rw [hl'] at hv; cases hv
          | some z =>
            rw [hl'] at hv
            injection hv with hv
            rw [hcd, List.getD_eq_getElem?_getD, hl', ← hv]
            rfl
        have hcx := ((unhide HB).cell (p := ⟨b, off + i, none⟩) hbl).trans (unhide HCB i hlt)
        rw [← hcd] at hcx
        have hv4 : v < 4 := by omega
        have htm : (c : Int).tmod 4 = (v : Int) := by rw [Int.tmod_eq_emod_of_nonneg (by omega), hvc]; omega
        have hwv : IntKind.wrap .i64 (v : Int) = (v : Int) := by rw [IntKind.wrap_i64]; omega
        have hwi : IntKind.wrap .i64 ((i : Int) + 1) = (i : Int) + 1 := by rw [IntKind.wrap_i64]; omega
        have hls := (unhide HI).len (by omega)
        have HGS := hide ((unhide HI).grow hv)
        have HVV := hide hv
        have HD : Hid (∀ W, Calls Tryz.prog 25 #[.int .i64 (i : Int)] W fun e w' => e = .returned (sv [UInt8.ofNat (48 + i)]) ∧ Below W.heap.size W w') := fun W => by
          have := digits_any (i : Int) W (by omega) (by omega)
          rw [dig_itoa (by omega)] at this
          exact this
        have HT : Hid (∀ W, Calls Tryz.prog 23 #[.int .i64 (v : Int)] W fun e w' => e = .returned (sv (tB v)) ∧ Below W.heap.size W w') := fun W => by
          have := truths_any (v : Int) (by omega) W
          rw [tru_tB hv4] at this
          exact this
        clear hcd hvc hv
        obtain ⟨w2, hw2⟩ : ∃ w2, w2 = wr := ⟨_, rfl⟩
        rw [← hw2] at HB hcx
        rw [← hw2]
        clear hw2
        go_upto_region 10 with fail
        clear hcx htm hwv
        refine wp_region_list ?_
        refine list_to (d := 37) (v := .int .i64 (i : Int)) rfl rfl (by kernel_rfl) ?_
        simp only [Act.put, sA, sB, sC]
        refine list_call rfl (some 38) rfl 25 #[.int .i64 (i : Int)] (by kernel_rfl) (unhide HD w2) ?_
        rintro e w3 ⟨rfl, hb⟩
        refine ⟨_, rfl, ?_⟩
        simp only [Act.put, sA, sB, sC]
        have HB := hide (trX (unhide HB) hb)
        clear hb HD
        refine list_to (d := 10) (v := sv [UInt8.ofNat (48 + i)]) rfl rfl (by kernel_rfl) ?_
        simp only [Act.put, sA, sB, sC]
        go_upto_if 40 with fail
        go_cut [10] from 39 to 40 (fun s10 wx => s10 = sv (vB v i) ∧ w3 = wx)
        case first =>
          by_cases h1 : v = 1
          · have e1 : ((v : Int) = 1) := by omega
            have hvB := hide (show vB v i = [UInt8.ofNat (48 + i)] by unfold vB; rw [if_pos h1])
            have e2 : ((v : Int) != 1) = false := by simp; omega
            clear h1 e1
            go_wp2_with fail
            go_meet
            exact ⟨by rw [unhide hvB], rfl⟩
          · have e1 : ¬ ((v : Int) = 1) := by omega
            have hvB := hide (show vB v i = [49, 32, 47, 32, 48] by unfold vB; rw [if_neg h1])
            have e2 : ((v : Int) != 1) = true := by simp; omega
            clear h1
            go_wp2_with fail
            go_meet
            exact ⟨by rw [unhide hvB]; rfl, rfl⟩
        case rest =>
          obtain ⟨rfl, rfl⟩ := hcut
          obtain ⟨tb, htb⟩ : ∃ tb, tb = tB v := ⟨_, rfl⟩
          obtain ⟨vb, hvb⟩ : ∃ vb, vb = vB v i := ⟨_, rfl⟩
          have hcl : Hid (clB (v, i) = ([32, 87, 72, 69, 78, 32] ++ tb) ++ [32, 84, 72, 69, 78, 32] ++ vb) := by rw [htb, hvb]; rfl
          have hl1 : tb.length ≤ 9 := by
            have h1 := tru_tB hv4
            have h2 := truS_len (v : Int)
            rw [h1] at h2
            rw [htb]
            exact h2
          have hl2 : vb.length ≤ 5 := by rw [hvb]; unfold vB; split <;> simp
          rw [← htb] at HT
          rw [← hvb]
          clear htb hvb
          go_upto_region 13 with fail
          refine wp_region_list ?_
          refine list_to (d := 41) (v := sv s) rfl rfl (by kernel_rfl) ?_
          simp only [Act.put, sA, sB, sC]
          refine list_to (d := 42) (v := sv (s ++ [32, 87, 72, 69, 78, 32])) rfl rfl (by (unfold sv; go_simp; rw [if_neg (by first | omega | (simp only [List.length_append, List.length_cons, List.length_nil]; omega) | (simp; omega)), cat_bytes, List.append_toArray])) ?_
          simp only [Act.put, sA, sB, sC]
          obtain ⟨sa, hsa⟩ : ∃ sa, sa = s ++ [32, 87, 72, 69, 78, 32] := ⟨_, rfl⟩
          have hlsa : sa.length ≤ 270 := by rw [hsa]; simp only [List.length_append, List.length_cons, List.length_nil]; omega
          rw [← hsa]
          have Hsa := hide hsa
          clear hsa
          refine list_to (d := 43) (v := .int .i64 (v : Int)) rfl rfl (by kernel_rfl) ?_
          simp only [Act.put, sA, sB, sC]
          refine list_call rfl (some 44) rfl 23 #[.int .i64 (v : Int)] (by kernel_rfl) (unhide HT w3) ?_
          rintro e w4 ⟨rfl, hb⟩
          refine ⟨_, rfl, ?_⟩
          simp only [Act.put, sA, sB, sC]
          have HB := hide (trX (unhide HB) hb)
          clear hb HT
          refine list_to (d := 45) (v := sv (sa ++ tb)) rfl rfl (by (unfold sv; go_simp; rw [if_neg (by first | omega | (simp only [List.length_append, List.length_cons, List.length_nil]; omega) | (simp; omega)), cat_bytes, List.append_toArray])) ?_
          simp only [Act.put, sA, sB, sC]
          obtain ⟨sb, hsb⟩ : ∃ sb, sb = sa ++ tb := ⟨_, rfl⟩
          have hlsb : sb.length ≤ 279 := by rw [hsb]; simp only [List.length_append, List.length_cons, List.length_nil]; omega
          rw [← hsb]
          have Hsb := hide hsb
          clear hsb
          refine list_to (d := 46) (v := sv (sb ++ [32, 84, 72, 69, 78, 32])) rfl rfl (by (unfold sv; go_simp; rw [if_neg (by first | omega | (simp only [List.length_append, List.length_cons, List.length_nil]; omega) | (simp; omega)), cat_bytes, List.append_toArray])) ?_
          simp only [Act.put, sA, sB, sC]
          obtain ⟨sc, hsc⟩ : ∃ sc, sc = sb ++ [32, 84, 72, 69, 78, 32] := ⟨_, rfl⟩
          have hlsc : sc.length ≤ 285 := by rw [hsc]; simp only [List.length_append, List.length_cons, List.length_nil]; omega
          rw [← hsc]
          have Hsc := hide hsc
          clear hsc
          refine list_to (d := 47) (v := sv vb) rfl rfl (by kernel_rfl) ?_
          simp only [Act.put, sA, sB, sC]
          refine list_to (d := 48) (v := sv (sc ++ vb)) rfl rfl (by (unfold sv; go_simp; rw [if_neg (by first | omega | (simp only [List.length_append, List.length_cons, List.length_nil]; omega) | (simp; omega)), cat_bytes, List.append_toArray])) ?_
          simp only [Act.put, sA, sB, sC]
          refine list_to (d := 5) (v := sv (sc ++ vb)) rfl rfl (by kernel_rfl) ?_
          simp only [Act.put, sA, sB, sC]
          obtain ⟨s2, hs2⟩ : ∃ s2, s2 = sc ++ vb := ⟨_, rfl⟩
          have HS2 : Hid (s2 = [67, 65, 83, 69] ++ (numd (vs.take (i + 1))).flatMap clB) := by
            show s2 = _
            rw [← unhide HGS, unhide hcl, hs2, unhide Hsc, unhide Hsb, unhide Hsa]
            simp
          rw [← hs2]
          clear hs2 HGS hcl hls hl1 hl2 Hsa Hsb Hsc hlsa hlsb hlsc
          by_cases hf : f < 0
          · cases hbd : bad with
            | true =>
              rw [hbd] at HI
              have HN := hide ((unhide HI).skip (unhide HS2) (unhide HVV) (by simp))
              clear hbd
              go_wp2_with fail
              go_roundg (len - (i + 1))
              case rel => exact ⟨i + 1, s2, f, true, rfl, rfl, rfl, rfl, by rw [show ((i + 1 : Nat) : Int) = (i : Int) + 1 from rfl], by omega, unhide HN, unhide HB⟩
              case measure => omega
            | false =>
              rw [hbd] at HI
              have HN := hide ((unhide HI).step (unhide HS2) (unhide HVV) hf)
              clear hbd
              by_cases h1 : v = 1
              · have e1 : ((v : Int) == 1) = true := by rw [h1]; rfl
                have e3 : ((v : Int) == 3) = false := beq_eq_false_iff_ne.2 (by omega)
                have HM : Hid (CaI vs (i + 1) s2 (i : Int) false) := by
                  have h := unhide HN
                  rw [if_pos h1, show (v == 3) = false from beq_eq_false_iff_ne.2 (by omega)] at h
                  exact h
                clear h1 HN
                go_wp2_with fail
                go_roundg (len - (i + 1))
                case rel => exact ⟨i + 1, s2, (i : Int), false, rfl, rfl, rfl, rfl, by rw [show ((i + 1 : Nat) : Int) = (i : Int) + 1 from rfl], by omega, unhide HM, unhide HB⟩
                case measure => omega
              · have e1 : ((v : Int) == 1) = false := beq_eq_false_iff_ne.2 (by omega)
                by_cases h3 : v = 3
                · have e3 : ((v : Int) == 3) = true := by rw [h3]; rfl
                  have HM : Hid (CaI vs (i + 1) s2 f true) := by
                    have h := unhide HN
                    rw [if_neg h1, show (v == 3) = true by rw [h3]; rfl] at h
                    exact h
                  clear h1 h3 HN
                  go_wp2_with fail
                  go_roundg (len - (i + 1))
                  case rel => exact ⟨i + 1, s2, f, true, rfl, rfl, rfl, rfl, by rw [show ((i + 1 : Nat) : Int) = (i : Int) + 1 from rfl], by omega, unhide HM, unhide HB⟩
                  case measure => omega
                · have e3 : ((v : Int) == 3) = false := beq_eq_false_iff_ne.2 (by omega)
                  have HM : Hid (CaI vs (i + 1) s2 f false) := by
                    have h := unhide HN
                    rw [if_neg h1, show (v == 3) = false from beq_eq_false_iff_ne.2 h3] at h
                    exact h
                  clear h1 h3 HN
                  go_wp2_with fail
                  go_roundg (len - (i + 1))
                  case rel => exact ⟨i + 1, s2, f, false, rfl, rfl, rfl, rfl, by rw [show ((i + 1 : Nat) : Int) = (i : Int) + 1 from rfl], by omega, unhide HM, unhide HB⟩
                  case measure => omega
          · have HN := hide ((unhide HI).skip (unhide HS2) (unhide HVV) (fun h => hf h.1))
            go_wp2_with fail
            go_roundg (len - (i + 1))
            case rel => exact ⟨i + 1, s2, f, bad, rfl, rfl, rfl, rfl, by rw [show ((i + 1 : Nat) : Int) = (i : Int) + 1 from rfl], by omega, unhide HN, unhide HB⟩
            case measure => omega
    · skip
      as_aux_lemma =>
        have hltI : ¬ (i : Int) < (len : Int) := by omega
        obtain rfl : i = len := by omega
        have hI := unhide HI
        rw [← hvl] at hI
        obtain ⟨hS, hF⟩ := hI.fin last
        clear hI
        have hls := (unhide HI).len (by omega)
        have hfin := goW_fin last (numd vs) (numd_k vs hvk)
        have hfi := goW_in 10 (numd vs) (-1) false (numd_lt vs (by omega)) (by decide) (by decide)
        rw [← hF] at hfin hfi
        have HGF : Hid (casW last (numd vs) = if bad = true then (nullG, 7) else if f < 0 then (if last = true then (⟨2, 77, ⟨#[]⟩⟩, 0) else (nullG, 0)) else (⟨2, f, ⟨#[]⟩⟩, 0)) := hfin
        obtain ⟨hfi1, hfi2⟩ : -1 ≤ f ∧ f < 10 := hfi
        clear HI hF hfin hvl
        obtain ⟨w2, hw2⟩ : ∃ w2, w2 = wr := ⟨_, rfl⟩
        rw [← hw2] at HB
        rw [← hw2]
        clear hw2
        obtain ⟨s3, hs3⟩ : ∃ s3, s3 = s ++ elB last := ⟨_, rfl⟩
        have HSS : Hid (s3 ++ [32, 69, 78, 68, 32, 61, 32, 53] = casB (numd vs) last) := by rw [hs3]; exact hS
        have hel : (elB last).length ≤ 8 := by cases last <;> decide
        have hls3 : s3.length ≤ 272 := by
          rw [hs3, List.length_append]
          omega
        clear hS
        go_upto_if 60 with fail
        go_cut [5] from 60 to 62 (fun s5 wx => s5 = sv s3 ∧ w2 = wx)
        case first =>
          cases last with
          | false =>
            have h1 := hide (show s = s3 by rw [hs3]; simp [elB])
            clear hs3
            go_wp2_with fail
            go_meet
            exact ⟨by rw [unhide h1], rfl⟩
          | true =>
            have h1 := hide (show s ++ [32, 69, 76, 83, 69, 32, 55, 55] = s3 by rw [hs3]; rfl)
            clear hs3
            go_upto_region 19 with fail
            refine wp_region_list ?_
            refine list_to (d := 61) (v := sv s) rfl rfl (by kernel_rfl) ?_
            simp only [Act.put, sA, sB, sC]
            refine list_to (d := 62) (v := sv (s ++ [32, 69, 76, 83, 69, 32, 55, 55])) rfl rfl (by (unfold sv; go_simp; rw [if_neg (by first | omega | (simp only [List.length_append, List.length_cons, List.length_nil]; omega) | (simp; omega)), cat_bytes, List.append_toArray])) ?_
            simp only [Act.put, sA, sB, sC]
            refine list_to (d := 5) (v := sv (s ++ [32, 69, 76, 83, 69, 32, 55, 55])) rfl rfl (by kernel_rfl) ?_
            simp only [Act.put, sA, sB, sC]
            go_wp2_with fail
            go_meet
            exact ⟨by rw [unhide h1], rfl⟩
        case rest =>
          obtain ⟨rfl, rfl⟩ := hcut
          clear hs3
          go_upto_region 20 with fail
          refine wp_region_list ?_
          refine list_to (d := 64) (v := sv s3) rfl rfl (by kernel_rfl) ?_
          simp only [Act.put, sA, sB, sC]
          refine list_to (d := 65) (v := sv (s3 ++ [32, 69, 78, 68, 32, 61, 32, 53])) rfl rfl (by (unfold sv; go_simp; rw [if_neg (by first | omega | (simp only [List.length_append, List.length_cons, List.length_nil]; omega) | (simp; omega)), cat_bytes, List.append_toArray])) ?_
          simp only [Act.put, sA, sB, sC]
          rw [unhide HSS]
          refine list_call rfl (some 66) rfl 11 #[sv (casB (numd vs) last), .bool false] (by kernel_rfl) (unhide HTa w2) ?_
          rintro e q ⟨hb, hpost⟩
          rw [unhide HTYa] at hpost
          obtain ⟨Na, rfl, hxN⟩ := hpost
          refine ⟨_, rfl, ?_⟩
          simp only [Act.put, sA, sB, sC]
          have HB := hide (trX (unhide HB) hb)
          clear hb
          refine list_to (d := 63) (v := .tuple #[.agg Na.toArray, .bool true]) rfl rfl (by kernel_rfl) ?_
          simp only [Act.put, sA, sB, sC]
          refine list_to (d := 67) (v := .agg Na.toArray) rfl rfl (by kernel_rfl) ?_
          simp only [Act.put, sA, sB, sC]
          refine list_to (d := 68) (v := .bool true) rfl rfl (by kernel_rfl) ?_
          simp only [Act.put, sA, sB, sC]
          have hza : Na.toArray.size = 10 := by simpa using hxN.len
          have hla : Na.length = 10 := hxN.len
          have hvn := VrX.new q (M := zL) rfl
          have hal : Below q.heap.size q (q.alloc (.cells Na.toArray 29)) := alX (Below.refl _ _) _
          refine list_new rfl 29 rfl zL.toArray (zero_of_info zeroEx).1 ?_
          simp only [Act.put, sA, sB, sC]
          refine wpList_store_mid rfl 29 (.tmp 11) (.tmp 67) rfl q.heap.size 0 Na.toArray rfl rfl (by rw [hza]; exact hvn.there) (by rw [hza]; exact sizeEx) (all_oneCell_toArray hxN.one) ?_
          show wpList _ _ _ _ _ ((q.alloc (.cells zL.toArray 29)).setCells q.heap.size 0 Na)
          rw [setCells_new q _ _ _ (by rw [hla]; rfl)]
          simp only [Act.put, sA, sB, sC]
          refine list_to (d := 12) (v := .bool true) rfl rfl (by kernel_rfl) ?_
          simp only [Act.put, sA, sB, sC]
          have HB := hide (trX (unhide HB) hal)
          have HVa := hide (VrX.new q hla)
          have HXa := hide (hxN.below hal)
          obtain ⟨ba, hb9⟩ : ∃ ba, ba = q.heap.size := ⟨_, rfl⟩
          obtain ⟨w3, hw9⟩ : ∃ w3, w3 = q.alloc (.cells Na.toArray 29) := ⟨_, rfl⟩
          rw [← hw9] at HB HVa HXa 
          rw [← hw9]
          rw [← hb9] at HVa
          rw [← hb9]
          clear hw9 hb9 hal hvn hxN
          obtain ⟨N1, bq, oq, cq, hN1, hR1, hA1⟩ : ∃ (N1 : List Value) (bq oq cq : Nat), ExM w3 (fun _ => True) N1 (csR (numd vs) last) ∧ w3.rangeAt bq oq N1 ∧ Na[7]? = some (.slice (some ⟨bq, oq, none⟩) 2 cq) := by
            obtain ⟨args, hA, hsl⟩ := unhide HXa
            rcases hsl with ⟨hf, _⟩ | ⟨bq, oq, cq, he, _, _, hrow⟩
            · cases hf
            · obtain ⟨N1, hx1, hr1, _⟩ := row_nth _ 0 bq oq (csR (numd vs) last) hrow rfl
              refine ⟨N1, bq, oq, cq, hx1.keep (fun _ _ _ => rfl) (fun _ _ _ => trivial), by simpa using hr1, ?_⟩
              rw [hA, he]
              rfl
          have hlN1 : N1.length = 10 := hN1.len
          have c7 : w3.cell? ⟨ba, 7, none⟩ = some (.slice (some ⟨bq, oq, none⟩) 2 cq) := by
            have h := (unhide HVa).range 7 _ hA1
            simpa using h
          have HX1 := hide hN1
          have HR1 := hide hR1
          clear hN1 hR1 hA1
          go_upto_region 23 with fail
          refine wp_region_list ?_
          refine list_to (d := 72) (v := .pointer (some ⟨ba, 7, none⟩)) rfl rfl (by kernel_rfl) ?_
          simp only [Act.put, sA, sB, sC]
          refine list_to (d := 73) (v := .slice (some ⟨bq, oq, none⟩) 2 cq) rfl rfl (by go_simp) ?_
          simp only [Act.put, sA, sB, sC]
          refine list_to (d := 74) (v := .pointer (some ⟨bq, oq, none⟩)) rfl rfl (by go_simp) ?_
          simp only [Act.put, sA, sB, sC]
          refine wpList_load_mid rfl 29 (.tmp 74) rfl bq oq rfl N1 _ (unhide HR1) Tryz.underlying29 rfl (by rw [hlN1]; exact sizeEx) ?_
          simp only [Act.put, sA, sB, sC]
          clear c7
          refine list_call rfl (some 76) rfl 12 #[.agg N1.toArray, .slice none 0 0] (by kernel_rfl) (evalp_any [] (fun _ h => absurd h (by simp)) w3 _ N1 (csR (numd vs) last) none 0 0 (unhide HX1) (unhide HOKa) (unhide HSIa) (by rw [unhide HEVa]; exact casW_text _ _)) ?_
          rw [unhide HEVa]
          rintro e q ⟨rfl, hb⟩
          refine ⟨_, rfl, ?_⟩
          simp only [Act.put, sA, sB, sC]
          have HB := hide (trX (unhide HB) hb)
          clear hb
          refine list_to (d := 71) (v := .tuple #[.agg (gvC (casW last (numd vs)).1).toArray, errG (casW last (numd vs)).2]) rfl rfl (by kernel_rfl) ?_
          simp only [Act.put, sA, sB, sC]
          refine list_to (d := 77) (v := .agg (gvC (casW last (numd vs)).1).toArray) rfl rfl (by kernel_rfl) ?_
          simp only [Act.put, sA, sB, sC]
          refine list_to (d := 78) (v := errG (casW last (numd vs)).2) rfl rfl (by kernel_rfl) ?_
          simp only [Act.put, sA, sB, sC]
          refine list_new rfl 26 rfl (gvC nullG).toArray (zero_of_info zeroV).1 ?_
          simp only [Act.put, sA, sB, sC]
          refine wpList_store_mid rfl 26 (.tmp 13) (.tmp 77) rfl q.heap.size 0 (gvC (casW last (numd vs)).1).toArray rfl rfl (VV.new q nullG).there sizeV (all_oneCell_toArray (gvC_one _)) ?_
          show wpList _ _ _ _ _ ((q.alloc (.cells (gvC nullG).toArray 26)).setCells q.heap.size 0 (gvC (casW last (numd vs)).1))
          rw [setV_new q (casW last (numd vs)).1]
          simp only [Act.put, sA, sB, sC]
          refine list_to (d := 14) (v := errG (casW last (numd vs)).2) rfl rfl (by kernel_rfl) ?_
          simp only [Act.put, sA, sB, sC]
          have HGa := hide (VV.new q (casW last (numd vs)).1)
          have hb : Below q.heap.size q (q.alloc (.cells (gvC (casW last (numd vs)).1).toArray 26)) := alX (Below.refl _ _) _
          have HB := hide (trX (unhide HB) hb)
          obtain ⟨ga, hb9⟩ : ∃ ga, ga = q.heap.size := ⟨_, rfl⟩
          obtain ⟨w4, hw9⟩ : ∃ w4, w4 = q.alloc (.cells (gvC (casW last (numd vs)).1).toArray 26) := ⟨_, rfl⟩
          rw [← hw9] at HB HGa 
          rw [← hw9]
          rw [← hb9] at HGa
          rw [← hb9]
          clear hb hw9 hb9
          cases hbd : bad with
          | true =>
            rw [hbd] at HGF
            clear hbd
            as_aux_lemma =>
              have hg : casW last (numd vs) = (nullG, 7) := by rw [unhide HGF, if_pos rfl]
              rw [hg] at HGa ⊢
              clear hg HGF
              rw [show errG ((nullG, 7) : GV × Int).2 = .iface 102 (.int .i64 7) from rfl]
              go_wp2_with (go_at_call 14; refine (class_g 7 w4 (unhide HEr w4 (unhide HB))).mono ?_; rintro e w6 ⟨rfl, hb⟩)
              go_ret
              exact ⟨rfl, trX (unhide HB) hb⟩
          | false =>
            rw [hbd] at HGF
            clear hbd
            by_cases hf : f < 0
            · have hf1 : f = -1 := by omega
              cases hla : last with
              | false =>
                rw [hla] at HGF HGa
                try rw [hla]
                clear hla
                as_aux_lemma =>
                  have hg : casW false (numd vs) = (nullG, 0) := by rw [unhide HGF, if_neg (by decide), if_pos hf, if_neg (by decide)]
                  rw [hg] at HGa ⊢
                  clear hg HGF
                  go_upto_region 27 with fail
                  refine wp_region_list ?_
                  refine list_to (d := 89) (v := .nilIface) rfl rfl (by kernel_rfl) ?_
                  simp only [Act.put, sA, sB, sC]
                  refine list_to (d := 90) (v := .bool true) rfl rfl (by kernel_rfl) ?_
                  simp only [Act.put, sA, sB, sC]
                  refine list_to (d := 91) (v := .bool true) rfl rfl (by kernel_rfl) ?_
                  simp only [Act.put, sA, sB, sC]
                  refine list_wload (d := 92) rfl (by kernel_rfl) 26 (.tmp 13) rfl ga 0 rfl (gvC nullG) _ (unhide HGa).range Tryz.underlying26 rfl sizeV ?_
                  simp only [Act.put, sA, sB, sC]
                  refine list_want (d := 93) (v := .agg (gvC nullG).toArray) rfl (by kernel_rfl) (by kernel_rfl) ?_
                  simp only [Act.put, sA, sB, sC]
                  refine list_want (d := 94) (v := .bool true) rfl (by kernel_rfl) (by kernel_rfl) ?_
                  simp only [Act.put, sA, sB, sC]
                  refine list_to (d := 95) (v := .bool true) rfl rfl (by kernel_rfl) ?_
                  simp only [Act.put, sA, sB, sC]
                  refine list_to (d := 4) (v := .bool true) rfl rfl (by kernel_rfl) ?_
                  simp only [Act.put, sA, sB, sC]
                  go_wp2_with fail
                  go_ret
                  exact ⟨rfl, unhide HB⟩
              | true =>
                rw [hla] at HGF HGa
                try rw [hla]
                clear hla
                as_aux_lemma =>
                  have hg : casW true (numd vs) = ((⟨2, 77, ⟨#[]⟩⟩ : GV), 0) := by rw [unhide HGF, if_neg (by decide), if_pos hf, if_pos rfl]
                  rw [hg] at HGa ⊢
                  clear hg HGF
                  go_upto_region 30 with fail
                  have HGd := hide ((unhide HGa).below (Below.refl _ _).drew)
                  have HBd := hide (trX (unhide HB) (Below.refl _ _).drew)
                  refine wp_region_held_drew (S := fun w' => VV w' ga (⟨2, 77, ⟨#[]⟩⟩ : GV)) (by kernel_rfl) (unhide HGd) (fun hHeld => ?_)
                  refine hand_to (i := 0) (d := 98) (v := .nilIface) rfl rfl (by kernel_rfl) (by kernel_rfl) (by kernel_rfl) (fun _ _ _ h => h) (Or.inl ⟨by rfl, ?_⟩) hHeld ?_
                  · (intro w' hSw; kernel_rfl)
                  simp only [Act.put, sA, sB, sC]
                  refine hand_to (i := 1) (d := 99) (v := (.bool true)) rfl rfl (by kernel_rfl) (by kernel_rfl) (by kernel_rfl) (fun _ _ _ h => h) (Or.inl ⟨by rfl, ?_⟩) hHeld ?_
                  · (intro w' hSw; kernel_rfl)
                  simp only [Act.put, sA, sB, sC]
                  refine hand_to (i := 2) (d := 100) (v := (.bool true)) rfl rfl (by kernel_rfl) (by kernel_rfl) (by kernel_rfl) (fun _ _ _ h => h) (Or.inl ⟨by rfl, ?_⟩) hHeld ?_
                  · (intro w' hSw; kernel_rfl)
                  simp only [Act.put, sA, sB, sC]
                  refine hand_to (i := 3) (d := 101) (v := .agg (gvC (⟨2, 77, ⟨#[]⟩⟩ : GV)).toArray) rfl rfl (by kernel_rfl) (by kernel_rfl) (by kernel_rfl) (fun _ _ _ h => h) (yieldsIf_load_mid (by rfl) 26 (.tmp 13) rfl ga 0 rfl (gvC (⟨2, 77, ⟨#[]⟩⟩ : GV)) _ (fun w hw => hw.range) Tryz.underlying26 rfl sizeV) hHeld ?_
                  simp only [Act.put, sA, sB, sC]
                  refine hand_to (i := 4) (d := 102) (v := (.int .i64 77)) rfl rfl (by kernel_rfl) (by kernel_rfl) (by kernel_rfl) (fun _ _ _ h => h) (Or.inl ⟨by rfl, ?_⟩) hHeld ?_
                  · (intro w' hSw; kernel_rfl)
                  simp only [Act.put, sA, sB, sC]
                  refine wpAnyH_ready (rs := [5]) (by kernel_rfl) (by simp) ?_
                  refine AllReadyH.cons rfl (fun K hK => ?_) AllReadyH.nil
                  rw [if_pos (by rfl)]
                  refine op_call (some 103) rfl 22 #[.int .i64 77] (by kernel_rfl) (num_g 77 _) ?_
                  rintro e w6 ⟨rfl, hb⟩
                  refine ⟨_, rfl, ?_⟩
                  have HG6 := hide ((unhide HGd).below hb)
                  have HB6 := hide (trX (unhide HBd) hb)
                  clear hb
                  refine hK.out _ _ (unhide HG6) (fun hHeld2 => ?_)
                  clear hK K hHeld
                  have hHeld := hHeld2
                  clear hHeld2
                  try simp only [Act.put, sA, sB, sC]
                  refine hand_to (i := 6) (d := 104) (v := (.bool true)) rfl rfl (by kernel_rfl) (by kernel_rfl) (by kernel_rfl) (fun _ _ _ h => h) (Or.inl ⟨by rfl, ?_⟩) hHeld ?_
                  · (intro w' hSw; kernel_rfl)
                  simp only [Act.put, sA, sB, sC]
                  refine hand_to (i := 7) (d := 105) (v := (.bool true)) rfl rfl (by kernel_rfl) (by kernel_rfl) (by kernel_rfl) (fun _ _ _ h => h) (Or.inl ⟨by rfl, ?_⟩) hHeld ?_
                  · (intro w' hSw; kernel_rfl)
                  simp only [Act.put, sA, sB, sC]
                  refine hand_to (i := 8) (d := 4) (v := (.bool true)) rfl rfl (by kernel_rfl) (by kernel_rfl) (by kernel_rfl) (fun _ _ _ h => h) (Or.inl ⟨by rfl, ?_⟩) hHeld ?_
                  · (intro w' hSw; kernel_rfl)
                  simp only [Act.put, sA, sB, sC]
                  refine wpAnyH_done (by kernel_rfl) ?_ _
                  go_wp2_with fail
                  go_ret
                  exact ⟨rfl, unhide HB6⟩
            · skip
              as_aux_lemma =>
                have hg : casW last (numd vs) = ((⟨2, f, ⟨#[]⟩⟩ : GV), 0) := by rw [unhide HGF, if_neg (by decide), if_neg hf]
                rw [hg] at HGa ⊢
                clear hg HGF
                go_upto_region 30 with fail
                have HGd := hide ((unhide HGa).below (Below.refl _ _).drew)
                have HBd := hide (trX (unhide HB) (Below.refl _ _).drew)
                refine wp_region_held_drew (S := fun w' => VV w' ga (⟨2, f, ⟨#[]⟩⟩ : GV)) (by kernel_rfl) (unhide HGd) (fun hHeld => ?_)
                refine hand_to (i := 0) (d := 98) (v := .nilIface) rfl rfl (by kernel_rfl) (by kernel_rfl) (by kernel_rfl) (fun _ _ _ h => h) (Or.inl ⟨by rfl, ?_⟩) hHeld ?_
                · (intro w' hSw; kernel_rfl)
                simp only [Act.put, sA, sB, sC]
                refine hand_to (i := 1) (d := 99) (v := (.bool true)) rfl rfl (by kernel_rfl) (by kernel_rfl) (by kernel_rfl) (fun _ _ _ h => h) (Or.inl ⟨by rfl, ?_⟩) hHeld ?_
                · (intro w' hSw; kernel_rfl)
                simp only [Act.put, sA, sB, sC]
                refine hand_to (i := 2) (d := 100) (v := (.bool true)) rfl rfl (by kernel_rfl) (by kernel_rfl) (by kernel_rfl) (fun _ _ _ h => h) (Or.inl ⟨by rfl, ?_⟩) hHeld ?_
                · (intro w' hSw; kernel_rfl)
                simp only [Act.put, sA, sB, sC]
                refine hand_to (i := 3) (d := 101) (v := .agg (gvC (⟨2, f, ⟨#[]⟩⟩ : GV)).toArray) rfl rfl (by kernel_rfl) (by kernel_rfl) (by kernel_rfl) (fun _ _ _ h => h) (yieldsIf_load_mid (by rfl) 26 (.tmp 13) rfl ga 0 rfl (gvC (⟨2, f, ⟨#[]⟩⟩ : GV)) _ (fun w hw => hw.range) Tryz.underlying26 rfl sizeV) hHeld ?_
                simp only [Act.put, sA, sB, sC]
                refine hand_to (i := 4) (d := 102) (v := (.int .i64 f)) rfl rfl (by kernel_rfl) (by kernel_rfl) (by kernel_rfl) (fun _ _ _ h => h) (Or.inl ⟨by rfl, ?_⟩) hHeld ?_
                · (intro w' hSw; kernel_rfl)
                simp only [Act.put, sA, sB, sC]
                refine wpAnyH_ready (rs := [5]) (by kernel_rfl) (by simp) ?_
                refine AllReadyH.cons rfl (fun K hK => ?_) AllReadyH.nil
                rw [if_pos (by rfl)]
                refine op_call (some 103) rfl 22 #[.int .i64 f] (by kernel_rfl) (num_g f _) ?_
                rintro e w6 ⟨rfl, hb⟩
                refine ⟨_, rfl, ?_⟩
                have HG6 := hide ((unhide HGd).below hb)
                have HB6 := hide (trX (unhide HBd) hb)
                clear hb
                refine hK.out _ _ (unhide HG6) (fun hHeld2 => ?_)
                clear hK K hHeld
                have hHeld := hHeld2
                clear hHeld2
                try simp only [Act.put, sA, sB, sC]
                refine hand_to (i := 6) (d := 104) (v := (.bool true)) rfl rfl (by kernel_rfl) (by kernel_rfl) (by kernel_rfl) (fun _ _ _ h => h) (Or.inl ⟨by rfl, ?_⟩) hHeld ?_
                · (intro w' hSw; (rcases (show f = 0 ∨ f = 1 ∨ f = 2 ∨ f = 3 ∨ f = 4 ∨ f = 5 ∨ f = 6 ∨ f = 7 ∨ f = 8 ∨ f = 9 by omega) with h | h | h | h | h | h | h | h | h | h <;> (rw [h]; kernel_rfl)))
                simp only [Act.put, sA, sB, sC]
                refine hand_to (i := 7) (d := 105) (v := (.bool true)) rfl rfl (by kernel_rfl) (by kernel_rfl) (by kernel_rfl) (fun _ _ _ h => h) (Or.inl ⟨by rfl, ?_⟩) hHeld ?_
                · (intro w' hSw; kernel_rfl)
                simp only [Act.put, sA, sB, sC]
                refine hand_to (i := 8) (d := 4) (v := (.bool true)) rfl rfl (by kernel_rfl) (by kernel_rfl) (by kernel_rfl) (fun _ _ _ h => h) (Or.inl ⟨by rfl, ?_⟩) hHeld ?_
                · (intro w' hSw; kernel_rfl)
                simp only [Act.put, sA, sB, sC]
                refine wpAnyH_done (by kernel_rfl) ?_ _
                go_wp2_with fail
                go_ret
                exact ⟨rfl, unhide HB6⟩
end Go.Proofs.YtehgoioinogmkaaGreatDoor
