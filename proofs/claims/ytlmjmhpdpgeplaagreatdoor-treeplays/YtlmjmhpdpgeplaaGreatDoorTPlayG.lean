/- TreePlays: the ways of Seek, Clone and Get. -/
import Derived.Test.YtlmjmhpdpgeplaaGreatDoorTPlayP
import Derived.Deep.CutRange
import Derived.Deep.CutBlock
namespace Go.Proofs.YtlmjmhpdpgeplaaGreatDoor
open Go.RowKit Go.Lib

section
set_option maxHeartbeats 25600000 in
set_option maxRecDepth 100000 in
theorem way_w6 : plays_cut.1 := by
  intro w ss n c hn250 hni Qa w1 w2 w3 w4 w5 cl0 Ka ha p q0 wr u2 u11 u12 u13 u14 u15 u16 u17 u18 u19 u20 u21 u22 u23 u24 u25 u26 u40 u41 u42 u43 u44 u45 u46 u47 u48 u49 u50 u51 u52 u53 u54 u55 u56 u57 u58 u59 u60 u61 u62 u63 u64 u65 u66 u67 u68 u69 u70 u71 u72 u73 u74 u75 u76 u77 u78 u79 u80 u81 u82 u83 u84 u85 u86 u87 u88 u89 u90 u91 u92 u93 u94 u95 u96 u97 u98 u99 u100 u101 u102 u103 u104 u105 u106 u107 u108 u109 u110 u111 u112 u113 u114 u115 u116 u117 u118 u119 u120 u121 u122 u123 u124 u125 u126 u127 u128 u129 u130 u131 u132 u133 u134 u135 u136 u137 u138 u139 u140 u141 u142 u143 u144 u145 u146 u147 u148 u149 u150 u151 u152 u153 u154 u155 u156 u157 u158 u159 u160 u161 u162 u163 u164 u165 u166 u167 u168 u169 u170 u171 u172 u173 u174 u175 u176 u177 u178 u179 u180 u181 u182 u183 u184 u185 u186 u187 u188 u189 u190 u191 u192 u193 u194 u195 u196 u197 u198 u199 u200 u201 u202 u203 u204 u205 u206 u207 u208 u209 u210 u211 u212 u213 u214 u215 u216 u217 u218 u219 u220 u221 u222 u223 u224 u225 u226 u227 u228 u229 u230 u231 i q cl fl gl mk ok ma oa F G last sm hil hlt hlti hi0 hwi b off HIN what ka kk key va vk val ks vs HSz Qb Kb hb sb w6 HBd hHeld w7 at' inn H7 Kc hc WS v16 W8 v17 W9 cw X HQ9 h6
  subst h6
  have HSk := hide (seek_chain (unhide HQ9).1 (unhide HQ9).2)
  clear HQ9
  go_wp2_with (first
    | (go_at_call 7; refine (unhide HSk).mono ?_; rintro e w10 ⟨q', rfl, HSp⟩; clear HSk)
    | (go_at_call 11; refine (unhide HSp).mono ?_; rintro e w11 ⟨rfl, HQ⟩; clear HSp; have HLen : Hid (Calls Tryz.prog 15 #[.pointer (some ⟨p, 0, none⟩)] w11 fun e w' => e = .returned (.int .i64 (fl : Int)) ∧ w' = w11) := (by have hh := len_chain (unhide HQ); rw [← (unhide HBd).2.2.2] at hh; exact hh))
    | (go_at_call 15; refine (unhide HLen).mono ?_; rintro e wL ⟨rfl, hwL⟩; rw [hwL]; clear hwL HLen))
  go_roundw
  case rel => exact ⟨i + 1, q', cl, fl, gl, mk, ok, ma, oa, F, G, key, false, rfl, rfl, rfl, rfl, rfl, rfl, by simp, by omega, (unhide HQ).less (fun _ h => h.elim), ⟨by have := (unhide HBd).1.1; omega, (unhide HBd).1.2⟩, ⟨by have := (unhide HBd).2.1.1; omega, (unhide HBd).2.1.2⟩, (unhide HSz).1, (unhide HBd).2.2.2⟩
  case measure => simp [RowKit.intOf]; omega
set_option maxHeartbeats 25600000 in
set_option maxRecDepth 100000 in
theorem way_w10 : plays_cut.2.1 := by
  intro w ss n c hn250 hni Qa w1 w2 w3 w4 w5 cl0 Ka ha p q0 wr u2 u11 u12 u13 u14 u15 u16 u17 u18 u19 u20 u21 u22 u23 u24 u25 u26 u40 u41 u42 u43 u44 u45 u46 u47 u48 u49 u50 u51 u52 u53 u54 u55 u56 u57 u58 u59 u60 u61 u62 u63 u64 u65 u66 u67 u68 u69 u70 u71 u72 u73 u74 u75 u76 u77 u78 u79 u80 u81 u82 u83 u84 u85 u86 u87 u88 u89 u90 u91 u92 u93 u94 u95 u96 u97 u98 u99 u100 u101 u102 u103 u104 u105 u106 u107 u108 u109 u110 u111 u112 u113 u114 u115 u116 u117 u118 u119 u120 u121 u122 u123 u124 u125 u126 u127 u128 u129 u130 u131 u132 u133 u134 u135 u136 u137 u138 u139 u140 u141 u142 u143 u144 u145 u146 u147 u148 u149 u150 u151 u152 u153 u154 u155 u156 u157 u158 u159 u160 u161 u162 u163 u164 u165 u166 u167 u168 u169 u170 u171 u172 u173 u174 u175 u176 u177 u178 u179 u180 u181 u182 u183 u184 u185 u186 u187 u188 u189 u190 u191 u192 u193 u194 u195 u196 u197 u198 u199 u200 u201 u202 u203 u204 u205 u206 u207 u208 u209 u210 u211 u212 u213 u214 u215 u216 u217 u218 u219 u220 u221 u222 u223 u224 u225 u226 u227 u228 u229 u230 u231 i q cl fl gl mk ok ma oa F G last sm hil hlt hlti hi0 hwi b off HIN what ka kk key va vk val ks vs HSz Qb Kb hb sb w6 HBd hHeld w7 at' inn H7 Kc hc WS v16 W8 v17 W9 cw X HQ9 h6 h10
  subst h10
  have HCl := hide (clone_chain (unhide HQ9).1)
  clear HQ9
  go_wp2_with (first
    | (go_at_call 8; refine (unhide HCl).mono ?_; rintro e w10 ⟨c', rfl, HQ⟩; clear HCl; have HLen : Hid (Calls Tryz.prog 15 #[.pointer (some ⟨p, 0, none⟩)] w10 fun e w' => e = .returned (.int .i64 (fl : Int)) ∧ w' = w10) := (by have hh := len_chain (unhide HQ); rw [← (unhide HBd).2.2.2] at hh; exact hh))
    | (go_at_call 15; refine (unhide HLen).mono ?_; rintro e wL ⟨rfl, hwL⟩; rw [hwL]; clear hwL HLen))
  go_roundw
  case rel => exact ⟨i + 1, q, c', fl, fl, mk, mk, ma, ma, F, F, last, sm, rfl, rfl, rfl, rfl, rfl, rfl, by simp, by omega, (unhide HQ).less (fun _ h => h.elim), ⟨by have := (unhide HBd).1.1; omega, (unhide HBd).1.2⟩, ⟨by have := (unhide HBd).1.1; omega, (unhide HBd).1.2⟩, (unhide HBd).2.2.1, (unhide HBd).2.2.2⟩
  case measure => simp [RowKit.intOf]; omega
set_option maxHeartbeats 25600000 in
set_option maxRecDepth 100000 in
theorem way_wg : plays_cut.2.2.2.2.2.2.1 := by
  intro w ss n c hn250 hni Qa w1 w2 w3 w4 w5 cl0 Ka ha p q0 wr u2 u11 u12 u13 u14 u15 u16 u17 u18 u19 u20 u21 u22 u23 u24 u25 u26 u40 u41 u42 u43 u44 u45 u46 u47 u48 u49 u50 u51 u52 u53 u54 u55 u56 u57 u58 u59 u60 u61 u62 u63 u64 u65 u66 u67 u68 u69 u70 u71 u72 u73 u74 u75 u76 u77 u78 u79 u80 u81 u82 u83 u84 u85 u86 u87 u88 u89 u90 u91 u92 u93 u94 u95 u96 u97 u98 u99 u100 u101 u102 u103 u104 u105 u106 u107 u108 u109 u110 u111 u112 u113 u114 u115 u116 u117 u118 u119 u120 u121 u122 u123 u124 u125 u126 u127 u128 u129 u130 u131 u132 u133 u134 u135 u136 u137 u138 u139 u140 u141 u142 u143 u144 u145 u146 u147 u148 u149 u150 u151 u152 u153 u154 u155 u156 u157 u158 u159 u160 u161 u162 u163 u164 u165 u166 u167 u168 u169 u170 u171 u172 u173 u174 u175 u176 u177 u178 u179 u180 u181 u182 u183 u184 u185 u186 u187 u188 u189 u190 u191 u192 u193 u194 u195 u196 u197 u198 u199 u200 u201 u202 u203 u204 u205 u206 u207 u208 u209 u210 u211 u212 u213 u214 u215 u216 u217 u218 u219 u220 u221 u222 u223 u224 u225 u226 u227 u228 u229 u230 u231 i q cl fl gl mk ok ma oa F G last sm hil hlt hlti hi0 hwi b off HIN what ka kk key va vk val ks vs HSz Qb Kb hb sb w6 HBd hHeld w7 at' inn H7 Kc hc WS v16 W8 v17 W9 cw X HQ9 h6 h10 n0 n1 n2 n3 n4 n5 n7 n8 n9
  cases inn with
  | true =>
    as_aux_lemma =>
      obtain ⟨y, hy, hy0⟩ := here_some (unhide H7).2.2.2
      obtain ⟨mb, mo, hma, hmb, _, m1⟩ := (unhide HQ9).1.m.at (i := at') (x := itV y) (by rw [List.getElem?_map, hy]; rfl)
      subst hma
      obtain ⟨s, hsy⟩ : ∃ s, s = y.2 := ⟨_, rfl⟩
      have HG := hide (get_some (unhide HQ9).1 (unhide HQ9).2 (get_at (unhide H7).2.2.1 hy hy0))
      rw [← hsy] at HG
      have hal := (List.getElem?_eq_some_iff.1 hy).1
      rw [← (unhide HBd).2.2.2] at hal
      have hali : (at' : Int) < (fl : Int) := by omega
      have hal0 : (0 : Int) ≤ (at' : Int) := by omega
      have HM : Hid (∀ W : World, R2 W (.slice (some ⟨mb, mo, none⟩) fl mk) (F.map itV) → W.cell? ⟨mb, mo + at' * 2 + 1, none⟩ = some (.string s)) := fun W hW => by
        obtain ⟨mb', mo', e, _, _, m1'⟩ := hW.at (i := at') (x := itV y) (by rw [List.getElem?_map, hy]; rfl)
        cases e
        rw [m1', hsy]; rfl
      clear hy hy0 hmb m1 hsy HQ9
      go_upto_region 19 with (go_at_call 14; refine (unhide HG).mono ?_; rintro e w10 ⟨vv, rfl, HGQ⟩; clear HG; have HQ := hide (unhide HGQ).2)
      have HS19 : Hid (w10.drew.cell? ⟨mb, mo + at' * 2 + 1, none⟩ = some (.string s) ∧ ∀ W : World, Below w10.heap.size w10 W → W.cell? ⟨mb, mo + at' * 2 + 1, none⟩ = some (.string s) ∧ (convert 30 9 vv).run Tryz.prog W = .ok (.string s) W) := ⟨unhide HM _ ((unhide HQ).m.below (Below.refl _ _).drew), fun W hW => ⟨unhide HM _ ((unhide HQ).m.below hW), ((unhide HGQ).1.below hW).conv⟩⟩
      refine wp_region_held_drew (S := fun w' => w'.cell? ⟨mb, mo + at' * 2 + 1, none⟩ = some (.string s) ∧ (convert 30 9 vv).run Tryz.prog w' = .ok (.string s) w') (by kernel_rfl) ((unhide HS19).2 _ (Below.refl _ _).drew) (fun hHeld => ?_)
      refine hand_to (i := 0) (d := 76) (v := (.bool true)) rfl rfl (by kernel_rfl) (by kernel_rfl) (by kernel_rfl) (fun _ _ _ h => h) (Or.inl ⟨by rfl, ?_⟩) hHeld ?_
      · (intro w' hSw; obtain ⟨y0, y1⟩ := hSw; go_simp)
      simp only [Act.put, List.setIfInBounds_toArray, List.set_cons_zero, List.set_cons_succ]
      refine hand_to (i := 1) (d := 77) (v := (.bool true)) rfl rfl (by kernel_rfl) (by kernel_rfl) (by kernel_rfl) (fun _ _ _ h => h) (Or.inl ⟨by rfl, ?_⟩) hHeld ?_
      · (intro w' hSw; obtain ⟨y0, y1⟩ := hSw; go_simp)
      simp only [Act.put, List.setIfInBounds_toArray, List.set_cons_zero, List.set_cons_succ]
      refine hand_to (i := 2) (d := 78) (v := (.bool false)) rfl rfl (by kernel_rfl) (by kernel_rfl) (by kernel_rfl) (fun _ _ _ h => h) (Or.inl ⟨by rfl, ?_⟩) hHeld ?_
      · (intro w' hSw; obtain ⟨y0, y1⟩ := hSw; go_simp)
      simp only [Act.put, List.setIfInBounds_toArray, List.set_cons_zero, List.set_cons_succ]
      refine hand_to (i := 3) (d := 79) (v := (.bool false)) rfl rfl (by kernel_rfl) (by kernel_rfl) (by kernel_rfl) (fun _ _ _ h => h) (Or.inl ⟨by rfl, ?_⟩) hHeld ?_
      · (intro w' hSw; obtain ⟨y0, y1⟩ := hSw; go_simp)
      simp only [Act.put, List.setIfInBounds_toArray, List.set_cons_zero, List.set_cons_succ]
      refine hand_to (i := 4) (d := 80) (v := (.bool true)) rfl rfl (by kernel_rfl) (by kernel_rfl) (by kernel_rfl) (fun _ _ _ h => h) (Or.inl ⟨by rfl, ?_⟩) hHeld ?_
      · (intro w' hSw; obtain ⟨y0, y1⟩ := hSw; go_simp)
      simp only [Act.put, List.setIfInBounds_toArray, List.set_cons_zero, List.set_cons_succ]
      refine hand_to (i := 5) (d := 81) (v := (.bool true)) rfl rfl (by kernel_rfl) (by kernel_rfl) (by kernel_rfl) (fun _ _ _ h => h) (Or.inl ⟨by rfl, ?_⟩) hHeld ?_
      · (intro w' hSw; obtain ⟨y0, y1⟩ := hSw; go_simp)
      simp only [Act.put, List.setIfInBounds_toArray, List.set_cons_zero, List.set_cons_succ]
      refine hand_to (i := 6) (d := 82) (v := vv) rfl rfl (by kernel_rfl) (by kernel_rfl) (by kernel_rfl) (fun _ _ _ h => h) (Or.inl ⟨by rfl, ?_⟩) hHeld ?_
      · (intro w' hSw; obtain ⟨y0, y1⟩ := hSw; go_simp)
      simp only [Act.put, List.setIfInBounds_toArray, List.set_cons_zero, List.set_cons_succ]
      refine hand_to (i := 7) (d := 83) (v := (.string s)) rfl rfl (by kernel_rfl) (by kernel_rfl) (by kernel_rfl) (fun _ _ _ h => h) (Or.inl ⟨by rfl, ?_⟩) hHeld ?_
      · (intro w' hSw; obtain ⟨y0, y1⟩ := hSw; go_simp)
      simp only [Act.put, List.setIfInBounds_toArray, List.set_cons_zero, List.set_cons_succ]
      refine hand_to (i := 8) (d := 84) (v := (.slice (some ⟨mb, mo, none⟩) fl mk)) rfl rfl (by kernel_rfl) (by kernel_rfl) (by kernel_rfl) (fun _ _ _ h => h) (Or.inl ⟨by rfl, ?_⟩) hHeld ?_
      · (intro w' hSw; obtain ⟨y0, y1⟩ := hSw; go_simp)
      simp only [Act.put, List.setIfInBounds_toArray, List.set_cons_zero, List.set_cons_succ]
      refine hand_to (i := 9) (d := 85) (v := (.int .i64 (at' : Int))) rfl rfl (by kernel_rfl) (by kernel_rfl) (by kernel_rfl) (fun _ _ _ h => h) (Or.inl ⟨by rfl, ?_⟩) hHeld ?_
      · (intro w' hSw; obtain ⟨y0, y1⟩ := hSw; go_simp)
      simp only [Act.put, List.setIfInBounds_toArray, List.set_cons_zero, List.set_cons_succ]
      refine hand_to (i := 10) (d := 86) (v := (.pointer (some ⟨mb, mo + at' * 2, none⟩))) rfl rfl (by kernel_rfl) (by kernel_rfl) (by kernel_rfl) (fun _ _ _ h => h) (Or.inl ⟨by rfl, ?_⟩) hHeld ?_
      · (intro w' hSw; obtain ⟨y0, y1⟩ := hSw; go_simp)
      simp only [Act.put, List.setIfInBounds_toArray, List.set_cons_zero, List.set_cons_succ]
      refine hand_to (i := 11) (d := 87) (v := (.pointer (some ⟨mb, mo + at' * 2 + 1, none⟩))) rfl rfl (by kernel_rfl) (by kernel_rfl) (by kernel_rfl) (fun _ _ _ h => h) (Or.inl ⟨by rfl, ?_⟩) hHeld ?_
      · (intro w' hSw; obtain ⟨y0, y1⟩ := hSw; go_simp)
      simp only [Act.put, List.setIfInBounds_toArray, List.set_cons_zero, List.set_cons_succ]
      refine hand_to (i := 12) (d := 88) (v := (.string s)) rfl rfl (by kernel_rfl) (by kernel_rfl) (by kernel_rfl) (fun _ _ _ h => h) (Or.inl ⟨by rfl, ?_⟩) hHeld ?_
      · (intro w' hSw; obtain ⟨y0, y1⟩ := hSw; go_simp)
      simp only [Act.put, List.setIfInBounds_toArray, List.set_cons_zero, List.set_cons_succ]
      refine hand_to (i := 13) (d := 89) (v := (.bool false)) rfl rfl (by kernel_rfl) (by kernel_rfl) (by kernel_rfl) (fun _ _ _ h => h) (Or.inl ⟨by rfl, ?_⟩) hHeld ?_
      · (intro w' hSw; obtain ⟨y0, y1⟩ := hSw; go_simp)
      simp only [Act.put, List.setIfInBounds_toArray, List.set_cons_zero, List.set_cons_succ]
      refine hand_to (i := 14) (d := 90) (v := (.bool false)) rfl rfl (by kernel_rfl) (by kernel_rfl) (by kernel_rfl) (fun _ _ _ h => h) (Or.inl ⟨by rfl, ?_⟩) hHeld ?_
      · (intro w' hSw; obtain ⟨y0, y1⟩ := hSw; go_simp)
      simp only [Act.put, List.setIfInBounds_toArray, List.set_cons_zero, List.set_cons_succ]
      refine hand_to (i := 15) (d := 91) (v := (.bool false)) rfl rfl (by kernel_rfl) (by kernel_rfl) (by kernel_rfl) (fun _ _ _ h => h) (Or.inl ⟨by rfl, ?_⟩) hHeld ?_
      · (intro w' hSw; obtain ⟨y0, y1⟩ := hSw; go_simp)
      simp only [Act.put, List.setIfInBounds_toArray, List.set_cons_zero, List.set_cons_succ]
      refine hand_to (i := 16) (d := 92) (v := (.bool false)) rfl rfl (by kernel_rfl) (by kernel_rfl) (by kernel_rfl) (fun _ _ _ h => h) (Or.inl ⟨by rfl, ?_⟩) hHeld ?_
      · (intro w' hSw; obtain ⟨y0, y1⟩ := hSw; go_simp)
      simp only [Act.put, List.setIfInBounds_toArray, List.set_cons_zero, List.set_cons_succ]
      refine hand_to (i := 17) (d := 93) (v := (.bool true)) rfl rfl (by kernel_rfl) (by kernel_rfl) (by kernel_rfl) (fun _ _ _ h => h) (Or.inl ⟨by rfl, ?_⟩) hHeld ?_
      · (intro w' hSw; obtain ⟨y0, y1⟩ := hSw; go_simp)
      simp only [Act.put, List.setIfInBounds_toArray, List.set_cons_zero, List.set_cons_succ]
      refine hand_to (i := 18) (d := 94) (v := (.bool false)) rfl rfl (by kernel_rfl) (by kernel_rfl) (by kernel_rfl) (fun _ _ _ h => h) (Or.inl ⟨by rfl, ?_⟩) hHeld ?_
      · (intro w' hSw; obtain ⟨y0, y1⟩ := hSw; go_simp)
      simp only [Act.put, List.setIfInBounds_toArray, List.set_cons_zero, List.set_cons_succ]
      refine hand_to (i := 19) (d := 95) (v := (.bool false)) rfl rfl (by kernel_rfl) (by kernel_rfl) (by kernel_rfl) (fun _ _ _ h => h) (Or.inl ⟨by rfl, ?_⟩) hHeld ?_
      · (intro w' hSw; obtain ⟨y0, y1⟩ := hSw; go_simp)
      simp only [Act.put, List.setIfInBounds_toArray, List.set_cons_zero, List.set_cons_succ]
      refine hand_to (i := 20) (d := 96) (v := undef) rfl rfl (by kernel_rfl) (by kernel_rfl) (by kernel_rfl) (fun _ _ _ h => h) (Or.inr ⟨by rfl, by rfl⟩) hHeld ?_
      simp only [Act.put, List.setIfInBounds_toArray, List.set_cons_zero, List.set_cons_succ]
      refine hand_to (i := 21) (d := 97) (v := undef) rfl rfl (by kernel_rfl) (by kernel_rfl) (by kernel_rfl) (fun _ _ _ h => h) (Or.inr ⟨by rfl, by rfl⟩) hHeld ?_
      simp only [Act.put, List.setIfInBounds_toArray, List.set_cons_zero, List.set_cons_succ]
      refine hand_to (i := 22) (d := 98) (v := undef) rfl rfl (by kernel_rfl) (by kernel_rfl) (by kernel_rfl) (fun _ _ _ h => h) (Or.inr ⟨by rfl, by rfl⟩) hHeld ?_
      simp only [Act.put, List.setIfInBounds_toArray, List.set_cons_zero, List.set_cons_succ]
      refine hand_to (i := 23) (d := 99) (v := (.bool false)) rfl rfl (by kernel_rfl) (by kernel_rfl) (by kernel_rfl) (fun _ _ _ h => h) (Or.inl ⟨by rfl, ?_⟩) hHeld ?_
      · (intro w' hSw; obtain ⟨y0, y1⟩ := hSw; go_simp)
      simp only [Act.put, List.setIfInBounds_toArray, List.set_cons_zero, List.set_cons_succ]
      refine hand_to (i := 24) (d := 100) (v := (.bool false)) rfl rfl (by kernel_rfl) (by kernel_rfl) (by kernel_rfl) (fun _ _ _ h => h) (Or.inl ⟨by rfl, ?_⟩) hHeld ?_
      · (intro w' hSw; obtain ⟨y0, y1⟩ := hSw; go_simp)
      simp only [Act.put, List.setIfInBounds_toArray, List.set_cons_zero, List.set_cons_succ]
      refine wpAnyH_done (by kernel_rfl) ?_ _
      clear HS19 HM HGQ
      have HLen : Hid (Calls Tryz.prog 15 #[.pointer (some ⟨p, 0, none⟩)] w10.drew fun e w' => e = .returned (.int .i64 (fl : Int)) ∧ w' = w10.drew) := (by have hh := len_chain ((unhide HQ).below (Below.refl _ _).drew); rw [← (unhide HBd).2.2.2] at hh; exact hh)
      go_wp2_with (go_at_call 15; refine (unhide HLen).mono ?_; rintro e wL ⟨rfl, hwL⟩; rw [hwL]; clear hwL HLen)
      go_roundw
      case rel => exact ⟨i + 1, q, cl, fl, gl, mk, ok, (some ⟨mb, mo, none⟩), oa, F, G, last, sm, rfl, rfl, rfl, rfl, rfl, rfl, by simp, by omega, ((unhide HQ).below (Below.refl _ _).drew).less (fun _ h => h.elim), ⟨by have := (unhide HBd).1.1; omega, (unhide HBd).1.2⟩, ⟨by have := (unhide HBd).2.1.1; omega, (unhide HBd).2.1.2⟩, (unhide HBd).2.2.1, (unhide HBd).2.2.2⟩
      case measure => simp [RowKit.intOf]; omega
  | false =>
    as_aux_lemma =>
      have HG := hide (get_none (unhide HQ9).1 (unhide HQ9).2 (get_not (unhide H7).2.1.symm))
      clear HQ9
      go_upto_region 19 with (go_at_call 14; refine (unhide HG).mono ?_; rintro e w10 ⟨rfl, HQ⟩; clear HG)
      refine wp_region_held_drew (S := fun w' => True) (by kernel_rfl) trivial (fun hHeld => ?_)
      refine hand_to (i := 0) (d := 76) (v := (.bool false)) rfl rfl (by kernel_rfl) (by kernel_rfl) (by kernel_rfl) (fun _ _ _ h => h) (Or.inl ⟨by rfl, ?_⟩) hHeld ?_
      · (intro w' hSw; obtain y0 := hSw; go_simp)
      simp only [Act.put, List.setIfInBounds_toArray, List.set_cons_zero, List.set_cons_succ]
      refine hand_to (i := 1) (d := 77) (v := (.bool false)) rfl rfl (by kernel_rfl) (by kernel_rfl) (by kernel_rfl) (fun _ _ _ h => h) (Or.inl ⟨by rfl, ?_⟩) hHeld ?_
      · (intro w' hSw; obtain y0 := hSw; go_simp)
      simp only [Act.put, List.setIfInBounds_toArray, List.set_cons_zero, List.set_cons_succ]
      refine hand_to (i := 2) (d := 78) (v := (.bool false)) rfl rfl (by kernel_rfl) (by kernel_rfl) (by kernel_rfl) (fun _ _ _ h => h) (Or.inl ⟨by rfl, ?_⟩) hHeld ?_
      · (intro w' hSw; obtain y0 := hSw; go_simp)
      simp only [Act.put, List.setIfInBounds_toArray, List.set_cons_zero, List.set_cons_succ]
      refine hand_to (i := 3) (d := 79) (v := (.bool false)) rfl rfl (by kernel_rfl) (by kernel_rfl) (by kernel_rfl) (fun _ _ _ h => h) (Or.inl ⟨by rfl, ?_⟩) hHeld ?_
      · (intro w' hSw; obtain y0 := hSw; go_simp)
      simp only [Act.put, List.setIfInBounds_toArray, List.set_cons_zero, List.set_cons_succ]
      refine hand_to (i := 4) (d := 80) (v := (.bool false)) rfl rfl (by kernel_rfl) (by kernel_rfl) (by kernel_rfl) (fun _ _ _ h => h) (Or.inl ⟨by rfl, ?_⟩) hHeld ?_
      · (intro w' hSw; obtain y0 := hSw; go_simp)
      simp only [Act.put, List.setIfInBounds_toArray, List.set_cons_zero, List.set_cons_succ]
      refine hand_to (i := 5) (d := 81) (v := (.bool false)) rfl rfl (by kernel_rfl) (by kernel_rfl) (by kernel_rfl) (fun _ _ _ h => h) (Or.inl ⟨by rfl, ?_⟩) hHeld ?_
      · (intro w' hSw; obtain y0 := hSw; go_simp)
      simp only [Act.put, List.setIfInBounds_toArray, List.set_cons_zero, List.set_cons_succ]
      refine hand_to (i := 6) (d := 82) (v := undef) rfl rfl (by kernel_rfl) (by kernel_rfl) (by kernel_rfl) (fun _ _ _ h => h) (Or.inr ⟨by rfl, by rfl⟩) hHeld ?_
      simp only [Act.put, List.setIfInBounds_toArray, List.set_cons_zero, List.set_cons_succ]
      refine hand_to (i := 7) (d := 83) (v := undef) rfl rfl (by kernel_rfl) (by kernel_rfl) (by kernel_rfl) (fun _ _ _ h => h) (Or.inr ⟨by rfl, by rfl⟩) hHeld ?_
      simp only [Act.put, List.setIfInBounds_toArray, List.set_cons_zero, List.set_cons_succ]
      refine hand_to (i := 8) (d := 84) (v := undef) rfl rfl (by kernel_rfl) (by kernel_rfl) (by kernel_rfl) (fun _ _ _ h => h) (Or.inr ⟨by rfl, by rfl⟩) hHeld ?_
      simp only [Act.put, List.setIfInBounds_toArray, List.set_cons_zero, List.set_cons_succ]
      refine hand_to (i := 9) (d := 85) (v := undef) rfl rfl (by kernel_rfl) (by kernel_rfl) (by kernel_rfl) (fun _ _ _ h => h) (Or.inr ⟨by rfl, by rfl⟩) hHeld ?_
      simp only [Act.put, List.setIfInBounds_toArray, List.set_cons_zero, List.set_cons_succ]
      refine hand_to (i := 10) (d := 86) (v := undef) rfl rfl (by kernel_rfl) (by kernel_rfl) (by kernel_rfl) (fun _ _ _ h => h) (Or.inr ⟨by rfl, by rfl⟩) hHeld ?_
      simp only [Act.put, List.setIfInBounds_toArray, List.set_cons_zero, List.set_cons_succ]
      refine hand_to (i := 11) (d := 87) (v := undef) rfl rfl (by kernel_rfl) (by kernel_rfl) (by kernel_rfl) (fun _ _ _ h => h) (Or.inr ⟨by rfl, by rfl⟩) hHeld ?_
      simp only [Act.put, List.setIfInBounds_toArray, List.set_cons_zero, List.set_cons_succ]
      refine hand_to (i := 12) (d := 88) (v := undef) rfl rfl (by kernel_rfl) (by kernel_rfl) (by kernel_rfl) (fun _ _ _ h => h) (Or.inr ⟨by rfl, by rfl⟩) hHeld ?_
      simp only [Act.put, List.setIfInBounds_toArray, List.set_cons_zero, List.set_cons_succ]
      refine hand_to (i := 13) (d := 89) (v := undef) rfl rfl (by kernel_rfl) (by kernel_rfl) (by kernel_rfl) (fun _ _ _ h => h) (Or.inr ⟨by rfl, by rfl⟩) hHeld ?_
      simp only [Act.put, List.setIfInBounds_toArray, List.set_cons_zero, List.set_cons_succ]
      refine hand_to (i := 14) (d := 90) (v := (.bool false)) rfl rfl (by kernel_rfl) (by kernel_rfl) (by kernel_rfl) (fun _ _ _ h => h) (Or.inl ⟨by rfl, ?_⟩) hHeld ?_
      · (intro w' hSw; obtain y0 := hSw; go_simp)
      simp only [Act.put, List.setIfInBounds_toArray, List.set_cons_zero, List.set_cons_succ]
      refine hand_to (i := 15) (d := 91) (v := (.bool false)) rfl rfl (by kernel_rfl) (by kernel_rfl) (by kernel_rfl) (fun _ _ _ h => h) (Or.inl ⟨by rfl, ?_⟩) hHeld ?_
      · (intro w' hSw; obtain y0 := hSw; go_simp)
      simp only [Act.put, List.setIfInBounds_toArray, List.set_cons_zero, List.set_cons_succ]
      refine hand_to (i := 16) (d := 92) (v := (.bool false)) rfl rfl (by kernel_rfl) (by kernel_rfl) (by kernel_rfl) (fun _ _ _ h => h) (Or.inl ⟨by rfl, ?_⟩) hHeld ?_
      · (intro w' hSw; obtain y0 := hSw; go_simp)
      simp only [Act.put, List.setIfInBounds_toArray, List.set_cons_zero, List.set_cons_succ]
      refine hand_to (i := 17) (d := 93) (v := (.bool false)) rfl rfl (by kernel_rfl) (by kernel_rfl) (by kernel_rfl) (fun _ _ _ h => h) (Or.inl ⟨by rfl, ?_⟩) hHeld ?_
      · (intro w' hSw; obtain y0 := hSw; go_simp)
      simp only [Act.put, List.setIfInBounds_toArray, List.set_cons_zero, List.set_cons_succ]
      refine hand_to (i := 18) (d := 94) (v := (.bool true)) rfl rfl (by kernel_rfl) (by kernel_rfl) (by kernel_rfl) (fun _ _ _ h => h) (Or.inl ⟨by rfl, ?_⟩) hHeld ?_
      · (intro w' hSw; obtain y0 := hSw; go_simp)
      simp only [Act.put, List.setIfInBounds_toArray, List.set_cons_zero, List.set_cons_succ]
      refine hand_to (i := 19) (d := 95) (v := (.bool true)) rfl rfl (by kernel_rfl) (by kernel_rfl) (by kernel_rfl) (fun _ _ _ h => h) (Or.inl ⟨by rfl, ?_⟩) hHeld ?_
      · (intro w' hSw; obtain y0 := hSw; go_simp)
      simp only [Act.put, List.setIfInBounds_toArray, List.set_cons_zero, List.set_cons_succ]
      refine hand_to (i := 20) (d := 96) (v := (.slice none 0 0)) rfl rfl (by kernel_rfl) (by kernel_rfl) (by kernel_rfl) (fun _ _ _ h => h) (Or.inl ⟨by rfl, ?_⟩) hHeld ?_
      · (intro w' hSw; obtain y0 := hSw; go_simp)
      simp only [Act.put, List.setIfInBounds_toArray, List.set_cons_zero, List.set_cons_succ]
      refine hand_to (i := 21) (d := 97) (v := (.int .i64 0)) rfl rfl (by kernel_rfl) (by kernel_rfl) (by kernel_rfl) (fun _ _ _ h => h) (Or.inl ⟨by rfl, ?_⟩) hHeld ?_
      · (intro w' hSw; obtain y0 := hSw; go_simp)
      simp only [Act.put, List.setIfInBounds_toArray, List.set_cons_zero, List.set_cons_succ]
      refine hand_to (i := 22) (d := 98) (v := (.bool false)) rfl rfl (by kernel_rfl) (by kernel_rfl) (by kernel_rfl) (fun _ _ _ h => h) (Or.inl ⟨by rfl, ?_⟩) hHeld ?_
      · (intro w' hSw; obtain y0 := hSw; go_simp)
      simp only [Act.put, List.setIfInBounds_toArray, List.set_cons_zero, List.set_cons_succ]
      refine hand_to (i := 23) (d := 99) (v := (.bool false)) rfl rfl (by kernel_rfl) (by kernel_rfl) (by kernel_rfl) (fun _ _ _ h => h) (Or.inl ⟨by rfl, ?_⟩) hHeld ?_
      · (intro w' hSw; obtain y0 := hSw; go_simp)
      simp only [Act.put, List.setIfInBounds_toArray, List.set_cons_zero, List.set_cons_succ]
      refine hand_to (i := 24) (d := 100) (v := (.bool false)) rfl rfl (by kernel_rfl) (by kernel_rfl) (by kernel_rfl) (fun _ _ _ h => h) (Or.inl ⟨by rfl, ?_⟩) hHeld ?_
      · (intro w' hSw; obtain y0 := hSw; go_simp)
      simp only [Act.put, List.setIfInBounds_toArray, List.set_cons_zero, List.set_cons_succ]
      refine wpAnyH_done (by kernel_rfl) ?_ _
      have HLen : Hid (Calls Tryz.prog 15 #[.pointer (some ⟨p, 0, none⟩)] w10.drew fun e w' => e = .returned (.int .i64 (fl : Int)) ∧ w' = w10.drew) := (by have hh := len_chain ((unhide HQ).below (Below.refl _ _).drew); rw [← (unhide HBd).2.2.2] at hh; exact hh)
      go_wp2_with (go_at_call 15; refine (unhide HLen).mono ?_; rintro e wL ⟨rfl, hwL⟩; rw [hwL]; clear hwL HLen)
      go_roundw
      case rel => exact ⟨i + 1, q, cl, fl, gl, mk, ok, ma, oa, F, G, last, sm, rfl, rfl, rfl, rfl, rfl, rfl, by simp, by omega, ((unhide HQ).below (Below.refl _ _).drew).less (fun _ h => h.elim), ⟨by have := (unhide HBd).1.1; omega, (unhide HBd).1.2⟩, ⟨by have := (unhide HBd).2.1.1; omega, (unhide HBd).2.1.2⟩, (unhide HBd).2.2.1, (unhide HBd).2.2.2⟩
      case measure => simp [RowKit.intOf]; omega
end
end Go.Proofs.YtlmjmhpdpgeplaaGreatDoor
