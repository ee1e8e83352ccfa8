/- TreePlays: the way of Del. -/
import Derived.Test.YtlmjmhpdpgeplaaGreatDoorTPlayP
import Derived.Deep.CutRange
import Derived.Deep.CutBlock
namespace Go.Proofs.YtlmjmhpdpgeplaaGreatDoor
open Go.RowKit Go.Lib

section
set_option maxHeartbeats 25600000 in
set_option maxRecDepth 100000 in
theorem way_del : plays_cut.2.2.2.1 := by
  intro w ss n c hn250 hni Qa w1 w2 w3 w4 w5 cl0 Ka ha p q0 wr u2 u11 u12 u13 u14 u15 u16 u17 u18 u19 u20 u21 u22 u23 u24 u25 u26 u40 u41 u42 u43 u44 u45 u46 u47 u48 u49 u50 u51 u52 u53 u54 u55 u56 u57 u58 u59 u60 u61 u62 u63 u64 u65 u66 u67 u68 u69 u70 u71 u72 u73 u74 u75 u76 u77 u78 u79 u80 u81 u82 u83 u84 u85 u86 u87 u88 u89 u90 u91 u92 u93 u94 u95 u96 u97 u98 u99 u100 u101 u102 u103 u104 u105 u106 u107 u108 u109 u110 u111 u112 u113 u114 u115 u116 u117 u118 u119 u120 u121 u122 u123 u124 u125 u126 u127 u128 u129 u130 u131 u132 u133 u134 u135 u136 u137 u138 u139 u140 u141 u142 u143 u144 u145 u146 u147 u148 u149 u150 u151 u152 u153 u154 u155 u156 u157 u158 u159 u160 u161 u162 u163 u164 u165 u166 u167 u168 u169 u170 u171 u172 u173 u174 u175 u176 u177 u178 u179 u180 u181 u182 u183 u184 u185 u186 u187 u188 u189 u190 u191 u192 u193 u194 u195 u196 u197 u198 u199 u200 u201 u202 u203 u204 u205 u206 u207 u208 u209 u210 u211 u212 u213 u214 u215 u216 u217 u218 u219 u220 u221 u222 u223 u224 u225 u226 u227 u228 u229 u230 u231 i q cl fl gl mk ok ma oa F G last sm hil hlt hlti hi0 hwi b off HIN what ka kk key va vk val ks vs HSz Qb Kb hb sb w6 HBd hHeld w7 at' inn H7 Kc hc WS v16 W8 v17 W9 cw X HQ9 h6 h10 n0 n1 n2 n3 hd
  go_upto_if 138 with fail
  go_cut [138] from 40 to 231 (fun s138 wx => s138 = .bool true ∧ W9 = wx)
  case first =>
    rcases hd with rfl | rfl
    all_goals (go_wp2_with fail; go_meet; exact ⟨rfl, rfl⟩)
  case rest =>
    obtain ⟨rfl, rfl⟩ := hcut
    clear cw
    cases inn with
    | false =>
      as_aux_lemma =>
        have hno := (unhide H7).2.1.symm
        have HDl : Hid (Calls Tryz.prog 12 #[.pointer (some ⟨p, 0, none⟩), v16] W9 fun e w1 => e = .returned (.bool false) ∧ Hid (PQ w w1 p q cl X (.slice ma fl mk) (.slice oa gl ok) F F G (frK last sm))) := by
          have hh := del_chain (unhide HQ9).1 (unhide HQ9).2 (by have := (unhide HBd).1.1; have := (unhide HIN).2.2.2.2; omega)
          rw [hno, delL_no hno] at hh
          exact hh
        clear HQ9 hno
        go_wp2_with (first
          | (go_at_call 12; refine (unhide HDl).mono ?_; rintro e w10 ⟨rfl, HQ⟩; clear HDl; have HLen : Hid (Calls Tryz.prog 15 #[.pointer (some ⟨p, 0, none⟩)] w10 fun e w' => e = .returned (.int .i64 (fl : Int)) ∧ w' = w10) := (by have hh := len_chain (unhide HQ); rw [← (unhide HBd).2.2.2] at hh; exact hh))
          | (go_at_call 15; refine (unhide HLen).mono ?_; rintro e wL ⟨rfl, hwL⟩; rw [hwL]; clear hwL HLen))
        go_roundw
        case rel => exact ⟨i + 1, q, cl, fl, gl, mk, ok, ma, oa, F, G, last, sm, rfl, rfl, rfl, rfl, rfl, rfl, by simp, by omega, (unhide HQ).less (fun _ h => h.elim), bnd_up (unhide HBd).1, bnd_up (unhide HBd).2.1, (unhide HBd).2.2.1, (unhide HBd).2.2.2⟩
        case measure => simp [RowKit.intOf]; omega
    | true =>
      as_aux_lemma =>
        have hyes := (unhide H7).2.1.symm
        have hpl := (unhide H7).2.2.1
        have hhe := (unhide H7).2.2.2
        obtain ⟨y, hy, hy0⟩ := here_some hhe
        have hal := (List.getElem?_eq_some_iff.1 hy).1
        have hfl := (unhide HBd).2.2.2
        have hfl250 : fl ≤ 250 := by have h1 := (unhide HBd).1.1; have h2 := (unhide HIN).2.2.2.2; omega
        have hfli : (fl : Int) ≤ 250 := by omega
        have hal0 : (0 : Int) ≤ (at' : Int) := by omega
        have hmk : fl ≤ mk := by
          obtain ⟨_, _, e, h1, _⟩ := (unhide HQ9).1.m.slice
          cases e
          rw [List.length_map] at h1
          omega
        have hmki : (fl : Int) ≤ (mk : Int) := by omega
        have HFL := hide hfl
        rw [← hfl] at hal
        have hali : (at' : Int) < (fl : Int) := by omega
        have hali1 : (at' : Int) + 1 ≤ (fl : Int) := by omega
        have hal1 : (0 : Int) ≤ (at' : Int) + 1 := by omega
        have hwa : IntKind.i64.wrap ((at' : Int) + 1) = (at' : Int) + 1 := by rw [IntKind.wrap_i64] <;> omega
        obtain ⟨p1, k1, hX1⟩ : ∃ p1 k1, cutV ma 0 at' mk = .slice p1 at' k1 := ⟨_, _, rfl⟩
        have hs1 : ∀ W : World, (Instr.slice 27 (.slice ma fl mk) none (some (.int .i64 (at' : Int))) none).run Tryz.prog W = .ok (.slice p1 at' k1) W := fun W => by rw [← hX1]; exact cut_hi ma fl mk at' (by omega) W
        obtain ⟨p2, m2, k2, hX2⟩ : ∃ p2 m2 k2, cutV ma (at' + 1) fl mk = .slice p2 m2 k2 := ⟨_, _, _, rfl⟩
        have hs2 : ∀ W : World, (Instr.slice 27 (.slice ma fl mk) (some (.int .i64 ((at' : Int) + 1))) none none).run Tryz.prog W = .ok (.slice p2 m2 k2) W := fun W => by
          have h := cut_lo ma fl mk (at' + 1) (by omega) (by omega) W
          rw [hX2, show ((at' + 1 : Nat) : Int) = (at' : Int) + 1 by omega] at h
          exact h
        have HDl := hide (del_chain (unhide HQ9).1 (unhide HQ9).2 (by omega))
        rw [hyes] at HDl
        have HCut : Hid (∀ W : World, R2 W (.slice ma fl mk) (F.map itV) → R2 W (.slice p1 at' k1) ((F.take at').map itV) ∧ R2 W (.slice p2 m2 k2) ((F.drop (at' + 1)).map itV)) := fun W hW => by
          rw [← hX1, ← hX2]
          exact ⟨cut1 hW (by omega), cut2 hW hfl (by omega)⟩
        have HDI := hide (del_ins hpl hhe)
        have HTk : Hid ((F.take at').length ≤ 1000000 ∧ (F.drop (at' + 1)).length ≤ 1000000) := ⟨by rw [List.length_take]; omega, by rw [List.length_drop]; omega⟩
        clear HQ9 hyes hpl hhe hy hy0 hX1 hX2 hfl hal
        go_wp2_with (first
          | (go_at_call 12; refine (unhide HDl).mono ?_; rintro e w10 ⟨rfl, HQ0⟩; clear HDl)
          | (at_builtin; refine wpList_app_e rfl (.const (.slice none 0 0)) (.tmp 149) rfl w10.heap.size (.slice none 0 0) [] (F.take at') _ rfl (RowE.nil _ _) rfl (unhide HCut _ (unhide HQ0).m).1 (by simp) (unhide HTk).1 (Nat.le_refl _) ?_; intro a11 n11 k11 w11 hn11 ho11 hb11; have H11 := hide (And.intro ho11 hb11); clear hn11 ho11 hb11)
          | (at_builtin; refine wpList_app_e rfl (.tmp 151) (.tmp 155) rfl w10.heap.size (.slice a11 n11 k11) ([] ++ F.take at') (F.drop (at' + 1)) _ rfl (unhide H11).1 rfl (unhide HCut _ ((unhide HQ0).m.below (unhide H11).2)).2 (unhide HTk).1 (unhide HTk).2 (unhide H11).2.size ?_; intro a12 n12 k12 w12 hn12 ho12 hb12; rw [unhide HDI] at hn12 ho12; have HQ : Hid (PQ w w12 p q cl X (.slice a12 n12 k12) (.slice oa gl ok) (delL key F) (delL key F) G (frK last sm)) := (unhide HQ0).row ((unhide H11).2.trans hb12) ho12.r2 ho12.ge; have HN := hide hn12; have HLen : Hid (Calls Tryz.prog 15 #[.pointer (some ⟨p, 0, none⟩)] w12 fun e w' => e = .returned (.int .i64 (n12 : Int)) ∧ w' = w12) := (by have hh := len_chain (unhide HQ); rw [← unhide HN] at hh; exact hh); clear hn12 ho12 hb12 H11 HQ0 HCut)
          | (go_at_call 15; refine (unhide HLen).mono ?_; rintro e wL ⟨rfl, hwL⟩; rw [hwL]; clear hwL HLen))
        go_roundw
        case rel => exact ⟨i + 1, q, cl, n12, gl, k12, ok, a12, oa, delL key F, G, last, sm, rfl, rfl, rfl, rfl, rfl, rfl, by simp, by omega, (unhide HQ).less (fun _ h => h.elim), bnd_del (unhide HBd).1, bnd_up (unhide HBd).2.1, (unhide HBd).2.2.1, unhide HN⟩
        case measure => simp [RowKit.intOf]; omega
end
end Go.Proofs.YtlmjmhpdpgeplaaGreatDoor
