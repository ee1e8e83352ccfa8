/- TreePlays: the way of Next, at the end. -/
import Derived.Test.YtlmjmhpdpgeplaaGreatDoorTPlayP
import Derived.Deep.CutRange
import Derived.Deep.CutBlock
namespace Go.Proofs.YtlmjmhpdpgeplaaGreatDoor
open Go.RowKit Go.Lib

section
set_option maxHeartbeats 25600000 in
set_option maxRecDepth 100000 in
theorem way_n0 : plays_cut.2.2.2.2.1 := by
  intro w ss n c hn250 hni Qa w1 w2 w3 w4 w5 cl0 Ka ha p q0 wr u2 u11 u12 u13 u14 u15 u16 u17 u18 u19 u20 u21 u22 u23 u24 u25 u26 u40 u41 u42 u43 u44 u45 u46 u47 u48 u49 u50 u51 u52 u53 u54 u55 u56 u57 u58 u59 u60 u61 u62 u63 u64 u65 u66 u67 u68 u69 u70 u71 u72 u73 u74 u75 u76 u77 u78 u79 u80 u81 u82 u83 u84 u85 u86 u87 u88 u89 u90 u91 u92 u93 u94 u95 u96 u97 u98 u99 u100 u101 u102 u103 u104 u105 u106 u107 u108 u109 u110 u111 u112 u113 u114 u115 u116 u117 u118 u119 u120 u121 u122 u123 u124 u125 u126 u127 u128 u129 u130 u131 u132 u133 u134 u135 u136 u137 u138 u139 u140 u141 u142 u143 u144 u145 u146 u147 u148 u149 u150 u151 u152 u153 u154 u155 u156 u157 u158 u159 u160 u161 u162 u163 u164 u165 u166 u167 u168 u169 u170 u171 u172 u173 u174 u175 u176 u177 u178 u179 u180 u181 u182 u183 u184 u185 u186 u187 u188 u189 u190 u191 u192 u193 u194 u195 u196 u197 u198 u199 u200 u201 u202 u203 u204 u205 u206 u207 u208 u209 u210 u211 u212 u213 u214 u215 u216 u217 u218 u219 u220 u221 u222 u223 u224 u225 u226 u227 u228 u229 u230 u231 i q cl fl gl mk ok ma oa F G last sm hil hlt hlti hi0 hwi b off HIN what ka kk key va vk val ks vs HSz Qb Kb hb sb w6 HBd hHeld w7 at' inn H7 Kc hc WS v16 W8 v17 W9 cw X HQ9 h6 h10 n0 n1 n2 n3 n4 n5 hx hlf
  go_upto_if 165 with fail
  go_cut [165] from 40 to 231 (fun s165 wx => s165 = .bool true ∧ W9 = wx)
  case first =>
    as_aux_lemma =>
      rcases hx with rfl | rfl | rfl
      all_goals (go_wp2_with fail; go_meet; exact ⟨rfl, rfl⟩)
  case rest =>
    as_aux_lemma =>
      obtain ⟨rfl, rfl⟩ := hcut
      clear cw
      have HSrt := hide (unhide HQ9).1.tree.srt
      have hfl := (unhide HBd).2.2.2
      have hfl250 : fl ≤ 250 := by have h1 := (unhide HBd).1.1; have h2 := (unhide HIN).2.2.2.2; omega
      have hfli : (fl : Int) ≤ 250 := by omega
      have hal0 : (0 : Int) ≤ (at' : Int) := by omega
      have hmk : fl ≤ mk := by
        obtain ⟨_, _, e, h1, _⟩ := (unhide HQ9).1.m.slice
        cases e
        rw [List.length_map] at h1
        omega
      have hmki : (fl : Int) ≤ (mk : Int) := by omega
      have HFL := hide hfl
      have HPl : Hid (∀ W : World, R2 W (.slice ma fl mk) (F.map itV) → Calls Tryz.prog 9 #[.slice ma fl mk, .string last] W fun e w' => ∃ (at2 : Nat) (is2 : Bool), e = .returned (.tuple #[.int .i64 (at2 : Int), .bool is2]) ∧ Hid (Below W.heap.size W w' ∧ at2 ≤ fl ∧ leastL (frK last sm) F = F[if (sm && is2) = true then at2 + 1 else at2]?)) := fun W hW => by
        refine (place_any hW (unhide HSrt) (by omega)).mono ?_
        rintro e w' ⟨at2, rfl, z1, z2, z3, z4⟩
        refine ⟨at2, _, rfl, z1, by rw [hfl]; exact z3.1, next_at (unhide HSrt) z3 z4⟩
      have HFL2 := hide hfl250
      have HNx := hide (next_none (unhide HQ9).1 (unhide HBd).1 hlf)
      have HLF := hide hlf
      clear HQ9 hlf hfl
      go_upto_region 50 with (first
        | (go_at_call 13; refine (unhide HNx).mono ?_; rintro e w10 ⟨rfl, HQ0⟩; clear HNx)
        | (go_at_call 9; refine (unhide HPl _ (unhide HQ0).m).mono ?_; rintro e w11 ⟨at2, is2, rfl, H10⟩; clear HPl; have HQ := hide ((unhide HQ0).below (unhide H10).1); clear HQ0))
      obtain ⟨pp, hpp⟩ : ∃ pp : Nat, pp = if (sm && is2) = true then at2 + 1 else at2 := ⟨_, rfl⟩
      have HPP := hide hpp
      clear hpp
      go_cut [184] from 40 to 231 (fun s184 wx => s184 = .bool (sm && is2) ∧ w11 = wx)
      case first =>
        as_aux_lemma =>
          cases sm <;> cases is2 <;> (go_wp2_with fail; go_meet; exact ⟨rfl, rfl⟩)
      case rest =>
        as_aux_lemma =>
          obtain ⟨rfl, rfl⟩ := hcut
          go_upto_if 184 with fail
          go_cut [23] from 40 to 231 (fun s23 wx => s23 = .int .i64 (pp : Int) ∧ w11 = wx)
          case first =>
            as_aux_lemma =>
              have hw2 : IntKind.i64.wrap ((at2 : Int) + 1) = (at2 : Int) + 1 := by have := (unhide H10).2.1; have := (unhide HFL2); rw [IntKind.wrap_i64] <;> omega
              cases hsi : (sm && is2) with
              | true => (go_wp2_with fail; go_meet; exact ⟨by rw [unhide HPP, hsi]; simp, rfl⟩)
              | false => (go_wp2_with fail; go_meet; exact ⟨by rw [unhide HPP, hsi]; simp, rfl⟩)
          case rest =>
            as_aux_lemma =>
              obtain ⟨rfl, rfl⟩ := hcut
              have hppi : ¬ ((pp : Int) < (fl : Int)) := by
                have h1 := (unhide H10).2.2
                rw [unhide HLF, ← unhide HPP] at h1
                have h2 := List.getElem?_eq_none_iff.1 h1.symm
                have := unhide HFL
                omega
              go_upto_region 52 with fail
              go_cut [215] from 40 to 231 (fun s215 wx => s215 = .bool false ∧ w11.drew = wx)
              case first =>
                as_aux_lemma =>
                  refine wp_region_held_drew (S := fun w' => True) (by kernel_rfl) trivial (fun hHeld => ?_)
                  refine hand_to (i := 0) (d := 187) (v := (.bool false)) rfl rfl (by kernel_rfl) (by kernel_rfl) (by kernel_rfl) (fun _ _ _ h => h) (Or.inl ⟨by rfl, ?_⟩) hHeld ?_
                  · (intro w' hSw; obtain y0 := hSw; go_simp)
                  simp only [Act.put, List.setIfInBounds_toArray, List.set_cons_zero, List.set_cons_succ]
                  refine hand_to (i := 1) (d := 188) (v := (.int .i64 (pp : Int))) rfl rfl (by kernel_rfl) (by kernel_rfl) (by kernel_rfl) (fun _ _ _ h => h) (Or.inl ⟨by rfl, ?_⟩) hHeld ?_
                  · (intro w' hSw; obtain y0 := hSw; go_simp)
                  simp only [Act.put, List.setIfInBounds_toArray, List.set_cons_zero, List.set_cons_succ]
                  refine hand_to (i := 2) (d := 189) (v := (.slice ma fl mk)) rfl rfl (by kernel_rfl) (by kernel_rfl) (by kernel_rfl) (fun _ _ _ h => h) (Or.inl ⟨by rfl, ?_⟩) hHeld ?_
                  · (intro w' hSw; obtain y0 := hSw; go_simp)
                  simp only [Act.put, List.setIfInBounds_toArray, List.set_cons_zero, List.set_cons_succ]
                  refine hand_to (i := 3) (d := 190) (v := (.int .i64 (fl : Int))) rfl rfl (by kernel_rfl) (by kernel_rfl) (by kernel_rfl) (fun _ _ _ h => h) (Or.inl ⟨by rfl, ?_⟩) hHeld ?_
                  · (intro w' hSw; obtain y0 := hSw; go_simp)
                  simp only [Act.put, List.setIfInBounds_toArray, List.set_cons_zero, List.set_cons_succ]
                  refine hand_to (i := 4) (d := 191) (v := (.bool false)) rfl rfl (by kernel_rfl) (by kernel_rfl) (by kernel_rfl) (fun _ _ _ h => h) (Or.inl ⟨by rfl, ?_⟩) hHeld ?_
                  · (intro w' hSw; obtain y0 := hSw; go_simp)
                  simp only [Act.put, List.setIfInBounds_toArray, List.set_cons_zero, List.set_cons_succ]
                  refine hand_to (i := 5) (d := 192) (v := (.bool false)) rfl rfl (by kernel_rfl) (by kernel_rfl) (by kernel_rfl) (fun _ _ _ h => h) (Or.inl ⟨by rfl, ?_⟩) hHeld ?_
                  · (intro w' hSw; obtain y0 := hSw; go_simp)
                  simp only [Act.put, List.setIfInBounds_toArray, List.set_cons_zero, List.set_cons_succ]
                  refine hand_to (i := 6) (d := 193) (v := (.bool false)) rfl rfl (by kernel_rfl) (by kernel_rfl) (by kernel_rfl) (fun _ _ _ h => h) (Or.inl ⟨by rfl, ?_⟩) hHeld ?_
                  · (intro w' hSw; obtain y0 := hSw; go_simp)
                  simp only [Act.put, List.setIfInBounds_toArray, List.set_cons_zero, List.set_cons_succ]
                  refine hand_to (i := 7) (d := 194) (v := (.bool false)) rfl rfl (by kernel_rfl) (by kernel_rfl) (by kernel_rfl) (fun _ _ _ h => h) (Or.inl ⟨by rfl, ?_⟩) hHeld ?_
                  · (intro w' hSw; obtain y0 := hSw; go_simp)
                  simp only [Act.put, List.setIfInBounds_toArray, List.set_cons_zero, List.set_cons_succ]
                  refine hand_to (i := 8) (d := 195) (v := (.bool false)) rfl rfl (by kernel_rfl) (by kernel_rfl) (by kernel_rfl) (fun _ _ _ h => h) (Or.inl ⟨by rfl, ?_⟩) hHeld ?_
                  · (intro w' hSw; obtain y0 := hSw; go_simp)
                  simp only [Act.put, List.setIfInBounds_toArray, List.set_cons_zero, List.set_cons_succ]
                  refine hand_to (i := 9) (d := 196) (v := undef) rfl rfl (by kernel_rfl) (by kernel_rfl) (by kernel_rfl) (fun _ _ _ h => h) (Or.inr ⟨by rfl, by rfl⟩) hHeld ?_
                  simp only [Act.put, List.setIfInBounds_toArray, List.set_cons_zero, List.set_cons_succ]
                  refine hand_to (i := 10) (d := 197) (v := undef) rfl rfl (by kernel_rfl) (by kernel_rfl) (by kernel_rfl) (fun _ _ _ h => h) (Or.inr ⟨by rfl, by rfl⟩) hHeld ?_
                  simp only [Act.put, List.setIfInBounds_toArray, List.set_cons_zero, List.set_cons_succ]
                  refine hand_to (i := 11) (d := 198) (v := undef) rfl rfl (by kernel_rfl) (by kernel_rfl) (by kernel_rfl) (fun _ _ _ h => h) (Or.inr ⟨by rfl, by rfl⟩) hHeld ?_
                  simp only [Act.put, List.setIfInBounds_toArray, List.set_cons_zero, List.set_cons_succ]
                  refine hand_to (i := 12) (d := 199) (v := undef) rfl rfl (by kernel_rfl) (by kernel_rfl) (by kernel_rfl) (fun _ _ _ h => h) (Or.inr ⟨by rfl, by rfl⟩) hHeld ?_
                  simp only [Act.put, List.setIfInBounds_toArray, List.set_cons_zero, List.set_cons_succ]
                  refine hand_to (i := 13) (d := 200) (v := undef) rfl rfl (by kernel_rfl) (by kernel_rfl) (by kernel_rfl) (fun _ _ _ h => h) (Or.inr ⟨by rfl, by rfl⟩) hHeld ?_
                  simp only [Act.put, List.setIfInBounds_toArray, List.set_cons_zero, List.set_cons_succ]
                  refine hand_to (i := 14) (d := 201) (v := undef) rfl rfl (by kernel_rfl) (by kernel_rfl) (by kernel_rfl) (fun _ _ _ h => h) (Or.inr ⟨by rfl, by rfl⟩) hHeld ?_
                  simp only [Act.put, List.setIfInBounds_toArray, List.set_cons_zero, List.set_cons_succ]
                  refine hand_to (i := 15) (d := 202) (v := undef) rfl rfl (by kernel_rfl) (by kernel_rfl) (by kernel_rfl) (fun _ _ _ h => h) (Or.inr ⟨by rfl, by rfl⟩) hHeld ?_
                  simp only [Act.put, List.setIfInBounds_toArray, List.set_cons_zero, List.set_cons_succ]
                  refine hand_to (i := 16) (d := 203) (v := undef) rfl rfl (by kernel_rfl) (by kernel_rfl) (by kernel_rfl) (fun _ _ _ h => h) (Or.inr ⟨by rfl, by rfl⟩) hHeld ?_
                  simp only [Act.put, List.setIfInBounds_toArray, List.set_cons_zero, List.set_cons_succ]
                  refine hand_to (i := 17) (d := 204) (v := undef) rfl rfl (by kernel_rfl) (by kernel_rfl) (by kernel_rfl) (fun _ _ _ h => h) (Or.inr ⟨by rfl, by rfl⟩) hHeld ?_
                  simp only [Act.put, List.setIfInBounds_toArray, List.set_cons_zero, List.set_cons_succ]
                  refine hand_to (i := 18) (d := 205) (v := undef) rfl rfl (by kernel_rfl) (by kernel_rfl) (by kernel_rfl) (fun _ _ _ h => h) (Or.inr ⟨by rfl, by rfl⟩) hHeld ?_
                  simp only [Act.put, List.setIfInBounds_toArray, List.set_cons_zero, List.set_cons_succ]
                  refine hand_to (i := 19) (d := 206) (v := undef) rfl rfl (by kernel_rfl) (by kernel_rfl) (by kernel_rfl) (fun _ _ _ h => h) (Or.inr ⟨by rfl, by rfl⟩) hHeld ?_
                  simp only [Act.put, List.setIfInBounds_toArray, List.set_cons_zero, List.set_cons_succ]
                  refine hand_to (i := 20) (d := 207) (v := undef) rfl rfl (by kernel_rfl) (by kernel_rfl) (by kernel_rfl) (fun _ _ _ h => h) (Or.inr ⟨by rfl, by rfl⟩) hHeld ?_
                  simp only [Act.put, List.setIfInBounds_toArray, List.set_cons_zero, List.set_cons_succ]
                  refine hand_to (i := 21) (d := 208) (v := undef) rfl rfl (by kernel_rfl) (by kernel_rfl) (by kernel_rfl) (fun _ _ _ h => h) (Or.inr ⟨by rfl, by rfl⟩) hHeld ?_
                  simp only [Act.put, List.setIfInBounds_toArray, List.set_cons_zero, List.set_cons_succ]
                  refine hand_to (i := 22) (d := 209) (v := undef) rfl rfl (by kernel_rfl) (by kernel_rfl) (by kernel_rfl) (fun _ _ _ h => h) (Or.inr ⟨by rfl, by rfl⟩) hHeld ?_
                  simp only [Act.put, List.setIfInBounds_toArray, List.set_cons_zero, List.set_cons_succ]
                  refine hand_to (i := 23) (d := 210) (v := undef) rfl rfl (by kernel_rfl) (by kernel_rfl) (by kernel_rfl) (fun _ _ _ h => h) (Or.inr ⟨by rfl, by rfl⟩) hHeld ?_
                  simp only [Act.put, List.setIfInBounds_toArray, List.set_cons_zero, List.set_cons_succ]
                  refine hand_to (i := 24) (d := 211) (v := undef) rfl rfl (by kernel_rfl) (by kernel_rfl) (by kernel_rfl) (fun _ _ _ h => h) (Or.inr ⟨by rfl, by rfl⟩) hHeld ?_
                  simp only [Act.put, List.setIfInBounds_toArray, List.set_cons_zero, List.set_cons_succ]
                  refine hand_to (i := 25) (d := 212) (v := undef) rfl rfl (by kernel_rfl) (by kernel_rfl) (by kernel_rfl) (fun _ _ _ h => h) (Or.inr ⟨by rfl, by rfl⟩) hHeld ?_
                  simp only [Act.put, List.setIfInBounds_toArray, List.set_cons_zero, List.set_cons_succ]
                  refine hand_to (i := 26) (d := 213) (v := undef) rfl rfl (by kernel_rfl) (by kernel_rfl) (by kernel_rfl) (fun _ _ _ h => h) (Or.inr ⟨by rfl, by rfl⟩) hHeld ?_
                  simp only [Act.put, List.setIfInBounds_toArray, List.set_cons_zero, List.set_cons_succ]
                  refine hand_to (i := 27) (d := 214) (v := (.bool false)) rfl rfl (by kernel_rfl) (by kernel_rfl) (by kernel_rfl) (fun _ _ _ h => h) (Or.inl ⟨by rfl, ?_⟩) hHeld ?_
                  · (intro w' hSw; obtain y0 := hSw; go_simp)
                  simp only [Act.put, List.setIfInBounds_toArray, List.set_cons_zero, List.set_cons_succ]
                  refine hand_to (i := 28) (d := 215) (v := (.bool false)) rfl rfl (by kernel_rfl) (by kernel_rfl) (by kernel_rfl) (fun _ _ _ h => h) (Or.inl ⟨by rfl, ?_⟩) hHeld ?_
                  · (intro w' hSw; obtain y0 := hSw; go_simp)
                  simp only [Act.put, List.setIfInBounds_toArray, List.set_cons_zero, List.set_cons_succ]
                  refine wpAnyH_done (by kernel_rfl) ?_ _
                  first
                    | (go_meet; exact ⟨rfl, rfl⟩)
                    | (go_wp2_with fail; go_meet; exact ⟨rfl, rfl⟩)
              case rest =>
                as_aux_lemma =>
                  obtain ⟨rfl, rfl⟩ := hcut
                  have HLen : Hid (Calls Tryz.prog 15 #[.pointer (some ⟨p, 0, none⟩)] w11.drew fun e w' => e = .returned (.int .i64 (fl : Int)) ∧ w' = w11.drew) := (by have hh := len_chain ((unhide HQ).below (Below.refl _ _).drew); rw [← (unhide HBd).2.2.2] at hh; exact hh)
                  go_wp2_with (go_at_call 15; refine (unhide HLen).mono ?_; rintro e wL ⟨rfl, hwL⟩; rw [hwL]; clear hwL HLen)
                  go_roundw
                  case rel => exact ⟨i + 1, q, cl, fl, gl, mk, ok, ma, oa, F, G, last, sm, rfl, rfl, rfl, rfl, rfl, rfl, by simp, by omega, ((unhide HQ).below (Below.refl _ _).drew).less (fun _ h => h.elim), bnd_up (unhide HBd).1, bnd_up (unhide HBd).2.1, (unhide HBd).2.2.1, (unhide HBd).2.2.2⟩
                  case measure => simp [RowKit.intOf]; omega
end
end Go.Proofs.YtlmjmhpdpgeplaaGreatDoor
