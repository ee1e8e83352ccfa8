/- The document's IsExpr. -/
import Derived.Test.YtehgoioinogmkaaGreatDoorXName
import Derived.Test.YtehgoioinogmkaaGreatDoorJXWStmtXDl
import Derived.Test.YtehgoioinogmkaaGreatDoorJVKnownKRefVDigitsVLaidXBin
namespace Go.Proofs.YtehgoioinogmkaaGreatDoor
open Go.RowKit Go.Lib

def toL : Fo → List Ex
  | .nil => []
  | .node _ _ a kids rest => (a, kids) :: toL rest
theorem cnt_toL : ∀ F : Fo, cnt F = (toL F).length
  | .nil => rfl
  | .node _ _ _ _ rest => by show cnt rest + 1 = (toL rest).length + 1; rw [cnt_toL rest]
def szF : Fo → Nat
  | .nil => 0
  | .node _ _ _ kids rest => 1 + szF kids + szF rest
theorem szF_get : ∀ (F : Fo) (i : Nat) (x : Ex), (toL F)[i]? = some x → szF x.2 < szF F
  | .nil, i, x, h => by simp [toL] at h
  | .node _ _ a kids rest, 0, x, h => by
    simp [toL] at h
    subst h
    show szF kids < 1 + szF kids + szF rest
    omega
  | .node _ _ a kids rest, i + 1, x, h => by
    have := szF_get rest i x (by simpa [toL] using h)
    show szF x.2 < 1 + szF kids + szF rest
    omega
def gvN (n : Nd) : GV := ⟨n.vk, n.vi, ⟨n.vt.toArray⟩⟩
def valZ (n : Nd) : Bool := n.vk == 0 && (n.vi == 0 && n.vt == [])
def plainN (n : Nd) : Bool := (n.at' == 0 && n.ty == 0) && ((n.kind == 1 || valZ n) && (n.kind == 2 || (n.nam == [] && n.tab == [])))
def isNd (n : Nd) (k : Nat) : Bool :=
  plainN n && (
  if n.kind = 1 then n.op == 0 && (k == 0 && (gvN n).may)
  else if n.kind = 2 then n.op == 0 && (k == 0 && (nameOk n.nam && (n.tab == [] || nameOk n.tab)))
  else if n.kind = 3 then decide (1 ≤ n.op) && (decide (n.op ≤ 4) && k == 1)
  else if n.kind = 4 then decide (5 ≤ n.op) && (decide (n.op ≤ 18) && k == 2)
  else if n.kind = 5 then n.op == 0 && (decide (2 ≤ k) && decide (k ≤ 11))
  else if n.kind = 6 then n.op == 0 && (decide (2 ≤ k) && decide (k ≤ 21))
  else if n.kind = 7 then (n.op == 19 && decide (k ≤ 1)) || (decide (20 ≤ n.op) && (decide (n.op ≤ 22) && k == 1))
  else false)
def isF : Fo → Bool
  | .nil => true
  | .node _ _ a kids rest => (isF kids && isNd a (cnt kids)) && isF rest
def isE (E : Ex) : Bool := isF E.2 && isNd E.1 (cnt E.2)
theorem isF_all : ∀ F : Fo, isF F = (toL F).all isE
  | .nil => rfl
  | .node _ _ a kids rest => by show ((isF kids && isNd a (cnt kids)) && isF rest) = (isE (a, kids) && (toL rest).all isE); rw [isF_all rest]; rfl
/-- What lies in memory is what a machine can hold. -/
def ndOk (n : Nd) : Prop := -9223372036854775808 ≤ n.vi ∧ n.vi < 9223372036854775808 ∧ n.vt.length ≤ 3000 ∧ n.tab.length ≤ 3000 ∧ n.nam.length ≤ 3000
def foOk : Fo → Prop
  | .nil => True
  | .node _ _ a kids rest => (ndOk a ∧ foOk kids) ∧ foOk rest
def exOk (E : Ex) : Prop := ndOk E.1 ∧ foOk E.2
theorem foOk_get : ∀ (F : Fo) (i : Nat) (x : Ex), foOk F → (toL F)[i]? = some x → exOk x
  | .nil, i, x, _, h => by simp [toL] at h
  | .node _ _ a kids rest, 0, x, h, hx => by
    simp [toL] at hx
    subst hx
    exact h.1
  | .node _ _ a kids rest, i + 1, x, h, hx => foOk_get rest i x h.2 (by simpa [toL] using hx)
theorem row_nth {w : World} {Q : Nat → Prop} : ∀ (F : Fo) (i b o : Nat) (x : Ex), RowAt w Q F b o → (toL F)[i]? = some x → ∃ M, ExM w Q M x ∧ w.rangeAt b (o + 10 * i) M ∧ Q b
  | .nil, i, b, o, x, _, h => by simp [toL] at h
  | .node _ _ a kids rest, 0, b, o, x, h, hx => by
    simp [toL] at hx
    subst hx
    obtain ⟨⟨args, h1, h2, h3⟩, _⟩ := h
    exact ⟨ndC a args, ⟨args, rfl, h3⟩, by simpa using h1, h2⟩
  | .node _ _ a kids rest, i + 1, b, o, x, h, hx => by
    obtain ⟨M, h1, h2, h3⟩ := row_nth rest i b (o + 10) x h.2 (by simpa [toL] using hx)
    exact ⟨M, h1, by rw [show o + 10 * (i + 1) = o + 10 + 10 * i by omega]; exact h2, h3⟩
theorem slAt_cnt {w : World} {Q : Nat → Prop} {v : Value} {F : Fo} (h : SlAt w Q v F) : cnt F ≤ maxLen := by
  rcases h with ⟨rfl, _⟩ | ⟨_, _, _, _, h1, h2, _⟩
  · exact Nat.zero_le _
  · exact Nat.le_trans h1 h2
/-- A variable that holds an expression, in a world that came of it. -/
structure IX (w1 wr : World) (b1 : Nat) (n : Nd) (F : Fo) (a : Option Addr) (k : Nat) : Prop where
  va : VrX wr b1 (ndC n (.slice a (cnt F) k))
  sl : SlAt wr (fun b => b < b1) (.slice a (cnt F) k) F
  low : Below w1.heap.size w1 wr
  b1p : b1 = w1.heap.size
theorem IX.below {w1 wr w' : World} {b1 : Nat} {n : Nd} {F : Fo} {a : Option Addr} {k : Nat} (h : IX w1 wr b1 n F a k) (hb : Below wr.heap.size wr w') : IX w1 w' b1 n F a k :=
  ⟨h.va.below hb, h.sl.keep (fun b _ hl => hb.block b hl) (fun _ _ q => q), trX h.low hb, h.b1p⟩
theorem IX.cells {w1 wr : World} {b1 : Nat} {n : Nd} {F : Fo} {a : Option Addr} {k : Nat} (h : IX w1 wr b1 n F a k) :
    wr.cell? ⟨b1, 0, none⟩ = some (.int .i64 n.kind) ∧ wr.cell? ⟨b1, 1, none⟩ = some (.int .i64 n.op) ∧ wr.cell? ⟨b1, 2, none⟩ = some (.int .i64 n.vk) ∧ wr.cell? ⟨b1, 3, none⟩ = some (.int .i64 n.vi) ∧ wr.cell? ⟨b1, 4, none⟩ = some (sv n.vt) ∧
    wr.cell? ⟨b1, 5, none⟩ = some (sv n.tab) ∧ wr.cell? ⟨b1, 6, none⟩ = some (sv n.nam) ∧ wr.cell? ⟨b1, 7, none⟩ = some (.slice a (cnt F) k) ∧ wr.cell? ⟨b1, 8, none⟩ = some (.int .i64 n.at') ∧ wr.cell? ⟨b1, 9, none⟩ = some (.int .i64 n.ty) :=
  ⟨cellX h.va.1 0, cellX h.va.1 1, cellX h.va.1 2, cellX h.va.1 3, cellX h.va.1 4, cellX h.va.1 5, cellX h.va.1 6, cellX h.va.1 7, cellX h.va.1 8, cellX h.va.1 9⟩
theorem IX.new {w : World} {Q : Nat → Prop} {n : Nd} {F : Fo} {a : Option Addr} {k : Nat} (h : SlAt w Q (.slice a (cnt F) k) F) : IX w (w.alloc (.cells (ndC n (.slice a (cnt F) k)).toArray 29)) w.heap.size n F a k := by
  have hb : Below w.heap.size w (w.alloc (.cells (ndC n (.slice a (cnt F) k)).toArray 29)) := alX (Below.refl _ _) _
  exact ⟨VrX.new w rfl, h.keep (fun b _ hl => hb.block b hl) (fun b hl _ => hl), hb, rfl⟩
theorem IX.lowB {w1 wr : World} {b1 : Nat} {n : Nd} {F : Fo} {a : Option Addr} {k : Nat} (h : IX w1 wr b1 n F a k) : Below w1.heap.size w1 wr := h.low
def IsC (m : Nat) : Prop := ∀ (w : World) (Q : Nat → Prop) (M : List Value) (E : Ex), ExM w Q M E → exOk E → szF E.2 < m → Calls Tryz.prog 52 #[.agg M.toArray] w fun e w' => e = .returned (.bool (isE E)) ∧ Below w.heap.size w w'
set_option linter.unusedSimpArgs false in
set_option linter.unusedVariables false in
set_option maxHeartbeats 12800000 in
set_option maxRecDepth 100000 in
theorem isE_step (m : Nat) (ih : IsC m) : IsC (m + 1) := by
  intro w Q M E h hok hsz
  have hlM := h.len
  obtain ⟨args, rfl, hs⟩ := h
  obtain ⟨n, F⟩ := E
  dsimp only at hsz hs hlM ⊢
  have hcnt := slAt_cnt hs
  obtain ⟨a, k, rfl⟩ := slAt_slice hs
  have HX := hide (IX.new (n := n) hs)
  have HOK := hide hok
  have HSZ := hide hsz
  obtain ⟨M, hM⟩ : ∃ M, M = ndC n (.slice a (cnt F) k) := ⟨_, rfl⟩
  have HMM := hide hM
  obtain ⟨R, hR⟩ : ∃ R, R = isE (n, F) := ⟨_, rfl⟩
  have HR := hide hR
  rw [← hM] at hlM HX ⊢
  rw [← hR]
  clear hM hR hs hok hsz
  go_enter Tryz.func52, Tryz.ntmps52
  go_wp2_with fail
  have hcI : (cnt F : Int) ≤ 9223372036854775807 := by have h := hcnt; unfold maxLen at h; omega
  have HG0 : Hid (IX w (w.alloc (.cells M.toArray 29)) w.heap.size n F a k ∧ R = (((toL F).drop 0).all isE && isNd n (cnt F))) := ⟨unhide HX, by rw [unhide HR, List.drop_zero, ← isF_all]; rfl⟩
  go_loopg [3] (cnt F) (fun g s3 wr => ∃ i : Nat, g = cnt F - i ∧ s3 = .int .i64 (i : Int) ∧ i ≤ cnt F ∧ Hid (IX w wr w.heap.size n F a k ∧ R = (((toL F).drop i).all isE && isNd n (cnt F))))
  case atStart => exact ⟨0, rfl, rfl, Nat.zero_le _, HG0⟩
  case round =>
    obtain ⟨i, rfl, rfl, hi, HG⟩ := hrel
    clear HG0 HX HR HMM
    obtain ⟨c0, c1, c2, c3, c4, c5, c6, c7, c8, c9⟩ := (unhide HG).1.cells
    clear c0 c1 c2 c3 c4 c5 c6 c8 c9
    have hi0 : (0 : Int) ≤ (i : Int) := by omega
    by_cases hlt : i < cnt F
    · have hiI : (i : Int) < (cnt F : Int) := by omega
      obtain ⟨x, hx⟩ : ∃ x, (toL F)[i]? = some x := ⟨_, List.getElem?_eq_getElem (by rw [← cnt_toL]; exact hlt)⟩
      rcases (unhide HG).1.sl with ⟨hf, _⟩ | ⟨bq, oq, cq, he, hc1, hc2, hrow⟩
      · rw [hf] at hlt; exact absurd hlt (Nat.not_lt_zero _)
      injection he with e1 _ e3
      subst e1
      subst e3
      obtain ⟨N, hN, hrg, hbq⟩ := row_nth F i bq oq x hrow hx
      have HC : Hid (Calls Tryz.prog 52 #[.agg N.toArray] wr fun e w' => e = .returned (.bool (isE x)) ∧ Below wr.heap.size wr w') := ih wr _ N x hN (foOk_get F i x (unhide HOK).2 hx) (by have h1 := szF_get F i x hx; have h2 := unhide HSZ; omega)
      have hdr : (toL F).drop i = x :: (toL F).drop (i + 1) := by
        rw [List.getElem?_eq_some_iff] at hx
        obtain ⟨hx1, hx2⟩ := hx
        rw [List.drop_eq_getElem_cons hx1, hx2]
      have HRR : Hid (R = ((isE x && ((toL F).drop (i + 1)).all isE) && isNd n (cnt F))) := by
        show R = _
        rw [(unhide HG).2, hdr, List.all_cons]
      have HIX := hide (unhide HG).1
      have hlN := hN.len
      have HRG := hide hrg
      clear hx hdr hN hrg hrow hbq HG hc1 hc2
      go_upto_region 4 with fail
      refine wp_region_list ?_
      refine list_to (d := 14) (v := .pointer (some ⟨w.heap.size, 7, none⟩)) rfl rfl (by kernel_rfl) ?_
      simp only [Act.put, sA, sB, sC]
      refine list_to (d := 15) (v := .slice (some ⟨bq, oq, none⟩) (cnt F) k) rfl rfl (by go_simp) ?_
      simp only [Act.put, sA, sB, sC]
      refine list_to (d := 16) (v := .int .i64 (i : Int)) rfl rfl (by kernel_rfl) ?_
      simp only [Act.put, sA, sB, sC]
      refine list_to (d := 17) (v := .pointer (some ⟨bq, oq + 10 * i, none⟩)) rfl rfl (by go_simp) ?_
      simp only [Act.put, sA, sB, sC]
      refine wpList_load_mid rfl 29 (.tmp 17) rfl bq (oq + 10 * i) rfl N _ (unhide HRG) Tryz.underlying29 rfl (by rw [hlN]; exact sizeEx) ?_
      simp only [Act.put, sA, sB, sC]
      refine list_call rfl (some 19) rfl 52 #[.agg N.toArray] (by kernel_rfl) (unhide HC) ?_
      rintro e w2 ⟨rfl, hb2⟩
      refine ⟨_, rfl, ?_⟩
      simp only [Act.put, sA, sB, sC]
      cases hxe : isE x with
      | true =>
        have HNX : Hid (IX w w2 w.heap.size n F (some ⟨bq, oq, none⟩) k ∧ R = (((toL F).drop (i + 1)).all isE && isNd n (cnt F))) := ⟨(unhide HIX).below hb2, by rw [unhide HRR, hxe, Bool.true_and]⟩
        clear hxe hb2 HC HRR HIX c7
        skip
        as_aux_lemma =>
          refine list_to (d := 20) (v := .bool false) rfl rfl (by kernel_rfl) ?_
          simp only [Act.put, sA, sB, sC]
          go_wp2_with fail
          go_roundg (cnt F - (i + 1))
          case rel => exact ⟨i + 1, rfl, by rw [show ((i + 1 : Nat) : Int) = (i : Int) + 1 from rfl], by omega, HNX⟩
          case measure => omega
      | false =>
        have HF : Hid (R = false) := by show R = false; rw [unhide HRR, hxe]; rfl
        have HB := hide (((unhide HIX).below hb2).lowB)
        clear hxe hb2 HC HRR HIX c7
        skip
        as_aux_lemma =>
          refine list_to (d := 20) (v := .bool true) rfl rfl (by kernel_rfl) ?_
          simp only [Act.put, sA, sB, sC]
          go_wp2_with fail
          go_ret
          exact ⟨by rw [unhide HF]; rfl, unhide HB⟩
    · have hiI : ¬ (i : Int) < (cnt F : Int) := by omega
      have hie : i = cnt F := by omega
      have HRR : Hid (R = isNd n (cnt F)) := by
        show R = _
        rw [(unhide HG).2, List.drop_eq_nil_of_le (by rw [← cnt_toL]; omega)]
        rfl
      have HIX := hide (unhide HG).1
      clear HG hlt
      subst hie
      go_upto_region 7 with fail
      clear c7
      obtain ⟨P1, hP1⟩ : ∃ P1, P1 = plainN n := ⟨_, rfl⟩
      have HP1 := hide hP1
      go_cut [5] from 24 to 51 (fun s5 wx => s5 = .bool P1 ∧ Hid (IX w wx w.heap.size n F a k))
      case first =>
        clear hP1
        refine wp_region_list ?_
        have HEM : Hid (ExM wr (fun b => b < w.heap.size) (ndC n (.slice a (cnt F) k)) (n, F)) := ⟨_, rfl, (unhide HIX).sl⟩
        have hva := (unhide HIX).va
        obtain ⟨N7, hN7⟩ : ∃ N7, N7 = ndC n (.slice a (cnt F) k) := ⟨_, rfl⟩
        rw [← hN7] at HEM hva
        have hlN := hva.2
        have HBC : Hid (Calls Tryz.prog 106 #[.agg N7.toArray] wr fun e w' => e = .returned (.bool (n.at' == 0 && n.ty == 0)) ∧ Below wr.heap.size wr w') := bare_any N7 (n, F) _ wr (unhide HEM)
        refine wpList_load_mid rfl 29 (.tmp 1) rfl w.heap.size 0 rfl N7 _ hva.range Tryz.underlying29 rfl (by rw [hlN]; exact sizeEx) ?_
        simp only [Act.put, sA, sB, sC]
        clear hN7 hva HEM
        refine list_call rfl (some 25) rfl 106 #[.agg N7.toArray] (by kernel_rfl) (unhide HBC) ?_
        rintro e w2 ⟨rfl, hb2⟩
        refine ⟨_, rfl, ?_⟩
        simp only [Act.put, sA, sB, sC]
        have HIX2 := hide ((unhide HIX).below hb2)
        obtain ⟨c0, c1, c2, c3, c4, c5, c6, c7, c8, c9⟩ := (unhide HIX2).cells
        clear c1 c7 c8 c9 HIX hb2 HBC
        have HP2 : Hid (P1 = ((n.at' == 0 && n.ty == 0) && ((n.kind == 1 || valZ n) && (n.kind == 2 || (n.nam == [] && n.tab == []))))) := HP1
        clear HP1 HRR
        cases hb : (n.at' == 0 && n.ty == 0) with
        | false =>
          have HF : Hid (P1 = false) := by show P1 = false; rw [unhide HP2, hb]; rfl
          clear hb c0 c2 c3 c4 c5 c6
          skip
          as_aux_lemma =>
            go_wp2_with fail
            go_meet
            exact ⟨by rw [unhide HF], HIX2⟩
        | true =>
          rw [hb] at HP2
          clear hb
          skip
          as_aux_lemma =>
            unfold sv at c4 c5 c6
            go_wp2_with fail
            all_goals (go_meet; refine ⟨?_, HIX2⟩; rw [unhide HP2]; clear HIX2 HP2 HOK HSZ; simp [valZ, *])
      case rest =>
        obtain ⟨rfl, HIX3⟩ := hcut
        clear HIX
        obtain ⟨c0, c1, c2, c3, c4, c5, c6, c7, c8, c9⟩ := (unhide HIX3).cells
        clear c7 c8 c9
        unfold sv at c4 c5 c6
        have HIS : Hid (∀ W, Calls Tryz.prog 39 #[.agg #[.int .i64 n.vk, .int .i64 n.vi, .string ⟨n.vt.toArray⟩]] W fun e w' => e = .returned (.bool (gvN n).may) ∧ Below W.heap.size W w') := fun W => by
          have h1 := (unhide HOK).1
          refine (refIs_any (gvN n) W ⟨h1.1, h1.2.1, ?_⟩).mono ?_
          · have h2 : n.vt.length ≤ 3000 := h1.2.2.1
            show n.vt.toArray.size ≤ maxLen
            rw [List.size_toArray]
            unfold maxLen
            omega
          · rintro e w' ⟨rfl, rfl⟩
            exact ⟨rfl, alX (Below.refl _ _) _⟩
        have HNM := hide (name8_any n.nam)
        have HNT := hide (name8_any n.tab)
        unfold sv at HNM HNT
        clear hP1 HOK HSZ
        cases P1 with
        | false =>
          have HF : Hid (R = false) := by show R = false; rw [unhide HRR]; unfold isNd; rw [← unhide HP1]; rfl
          clear HIS HNM HNT HRR HP1
          skip
          as_aux_lemma =>
            go_wp2_with fail
            all_goals (go_ret; exact ⟨by rw [unhide HF]; rfl, (unhide HIX3).low⟩)
        | true =>
          skip
          by_cases k1 : n.kind = 1
          · rw [k1] at c0
            as_aux_lemma =>
              go_wp2_with (first | (go_at_call 39; refine (unhide HIS _).mono ?_; rintro e w5 ⟨rfl, hb5⟩; have HIX5 := hide ((unhide HIX3).below hb5); clear hb5) | (go_at_call 82; refine (unhide HNM _).mono ?_; rintro e w6 ⟨rfl, hb6⟩; have HIX6 := hide ((unhide HIX3).below hb6); have c5' := (unhide HIX6).cells.2.2.2.2.2.1; unfold sv at c5'; clear hb6) | (go_at_call 82; refine (unhide HNT _).mono ?_; rintro e w7 ⟨rfl, hb7⟩; have HIX7 := hide ((unhide HIX6).below hb7); clear hb7))
              all_goals (go_ret; refine ⟨?_, by first | exact (unhide HIX7).low | exact (unhide HIX6).low | exact (unhide HIX5).low | exact (unhide HIX3).low⟩; have hp := unhide HP1; rw [unhide HRR]; clear HIX3 HIS HNM HNT HRR HP1 c0 c1 c2 c3 c4 c5 c6; unfold isNd; rw [← hp]; refine xret_bool ?_; rw [Bool.true_and]; rw [if_pos k1]; first | rfl | (rw [Bool.eq_iff_iff]; simp only [Bool.and_eq_true, Bool.or_eq_true, decide_eq_true_eq, beq_iff_eq, Bool.false_eq_true, false_iff, true_iff]; omega) | (simp [*]; done) | (simp_all; done) | trace_state)
          · skip
            by_cases k2 : n.kind = 2
            · rw [k2] at c0
              as_aux_lemma =>
                clear c2 c3 c4 HIS
                have hc0 : (cnt F = 0) ∨ ((cnt F : Int) == 0) = false ∧ ((cnt F : Int) = 0) = False ∧ ¬ cnt F = 0 := by
                  by_cases h : cnt F = 0
                  · exact .inl h
                  · exact .inr ⟨by rw [beq_eq_false_iff_ne]; omega, eq_false (by omega), h⟩
                by_cases hop : n.op = 0
                · rcases hc0 with hc0 | ⟨hc1, hc2, hc3⟩
                  · have hc1 : (cnt F : Int) = 0 := by omega
                    cases hn : nameOk n.nam with
                    | true =>
                      rw [hn] at HNM
                      by_cases ht : n.tab = []
                      · rw [ht] at c5
                        go_wp2_with (go_at_call 82; refine (unhide HNM _).mono ?_; rintro e w6 ⟨rfl, hb6⟩; have HIX6 := hide ((unhide HIX3).below hb6); have c5' := (unhide HIX6).cells.2.2.2.2.2.1; rw [ht] at c5'; unfold sv at c5'; clear hb6 HNM)
                        go_ret
                        refine ⟨?_, (unhide HIX6).low⟩
                        have hp := unhide HP1
                        rw [unhide HRR]
                        unfold isNd
                        rw [← hp]
                        refine xret_bool ?_
                        rw [Bool.true_and]
                        rw [if_neg k1]
                        rw [if_pos k2]
                        rw [hop, hc0, hn, ht]; rfl
                      · go_wp2_with (first | (go_at_call 82; refine (unhide HNM _).mono ?_; rintro e w6 ⟨rfl, hb6⟩; have HIX6 := hide ((unhide HIX3).below hb6); have c5' := (unhide HIX6).cells.2.2.2.2.2.1; unfold sv at c5'; clear hb6 HNM) | (go_at_call 82; refine (unhide HNT _).mono ?_; rintro e w7 ⟨rfl, hb7⟩; have HIX7 := hide ((unhide HIX6).below hb7); clear hb7))
                        go_ret
                        refine ⟨?_, (unhide HIX7).low⟩
                        have hp := unhide HP1
                        rw [unhide HRR]
                        unfold isNd
                        rw [← hp]
                        refine xret_bool ?_
                        rw [Bool.true_and]
                        rw [if_neg k1]
                        rw [if_pos k2]
                        rw [hop, hc0, hn, beq_eq_false_iff_ne.2 ht, List.isEmpty_eq_false_iff.2 ht]; rfl
                    | false =>
                      rw [hn] at HNM
                      go_wp2_with (go_at_call 82; refine (unhide HNM _).mono ?_; rintro e w6 ⟨rfl, hb6⟩; have HIX6 := hide ((unhide HIX3).below hb6); have c5' := (unhide HIX6).cells.2.2.2.2.2.1; unfold sv at c5'; clear hb6 HNM)
                      go_ret
                      refine ⟨?_, (unhide HIX6).low⟩
                      have hp := unhide HP1
                      rw [unhide HRR]
                      unfold isNd
                      rw [← hp]
                      refine xret_bool ?_
                      rw [Bool.true_and]
                      rw [if_neg k1]
                      rw [if_pos k2]
                      rw [hop, hc0, hn]; rfl
                  · go_wp2_with fail
                    go_ret
                    refine ⟨?_, (unhide HIX3).low⟩
                    have hp := unhide HP1
                    rw [unhide HRR]
                    unfold isNd
                    rw [← hp]
                    refine xret_bool ?_
                    rw [Bool.true_and]
                    rw [if_neg k1]
                    rw [if_pos k2]
                    rw [hop, beq_eq_false_iff_ne.2 hc3]; rfl
                · go_wp2_with fail
                  go_ret
                  refine ⟨?_, (unhide HIX3).low⟩
                  have hp := unhide HP1
                  rw [unhide HRR]
                  unfold isNd
                  rw [← hp]
                  refine xret_bool ?_
                  rw [Bool.true_and]
                  rw [if_neg k1]
                  rw [if_pos k2]
                  rw [beq_eq_false_iff_ne.2 hop]; rfl
            · skip
              by_cases k3 : n.kind = 3
              · rw [k3] at c0
                as_aux_lemma =>
                  go_wp2_with (first | (go_at_call 39; refine (unhide HIS _).mono ?_; rintro e w5 ⟨rfl, hb5⟩; have HIX5 := hide ((unhide HIX3).below hb5); clear hb5) | (go_at_call 82; refine (unhide HNM _).mono ?_; rintro e w6 ⟨rfl, hb6⟩; have HIX6 := hide ((unhide HIX3).below hb6); have c5' := (unhide HIX6).cells.2.2.2.2.2.1; unfold sv at c5'; clear hb6) | (go_at_call 82; refine (unhide HNT _).mono ?_; rintro e w7 ⟨rfl, hb7⟩; have HIX7 := hide ((unhide HIX6).below hb7); clear hb7))
                  all_goals (go_ret; refine ⟨?_, by first | exact (unhide HIX7).low | exact (unhide HIX6).low | exact (unhide HIX5).low | exact (unhide HIX3).low⟩; have hp := unhide HP1; rw [unhide HRR]; clear HIX3 HIS HNM HNT HRR HP1 c0 c1 c2 c3 c4 c5 c6; unfold isNd; rw [← hp]; refine xret_bool ?_; rw [Bool.true_and]; rw [if_neg k1];rw [if_neg k2];rw [if_pos k3]; first | rfl | (rw [Bool.eq_iff_iff]; simp only [Bool.and_eq_true, Bool.or_eq_true, decide_eq_true_eq, beq_iff_eq, Bool.false_eq_true, false_iff, true_iff]; omega) | (simp [*]; done) | (simp_all; done) | trace_state)
              · skip
                by_cases k4 : n.kind = 4
                · rw [k4] at c0
                  as_aux_lemma =>
                    go_wp2_with (first | (go_at_call 39; refine (unhide HIS _).mono ?_; rintro e w5 ⟨rfl, hb5⟩; have HIX5 := hide ((unhide HIX3).below hb5); clear hb5) | (go_at_call 82; refine (unhide HNM _).mono ?_; rintro e w6 ⟨rfl, hb6⟩; have HIX6 := hide ((unhide HIX3).below hb6); have c5' := (unhide HIX6).cells.2.2.2.2.2.1; unfold sv at c5'; clear hb6) | (go_at_call 82; refine (unhide HNT _).mono ?_; rintro e w7 ⟨rfl, hb7⟩; have HIX7 := hide ((unhide HIX6).below hb7); clear hb7))
                    all_goals (go_ret; refine ⟨?_, by first | exact (unhide HIX7).low | exact (unhide HIX6).low | exact (unhide HIX5).low | exact (unhide HIX3).low⟩; have hp := unhide HP1; rw [unhide HRR]; clear HIX3 HIS HNM HNT HRR HP1 c0 c1 c2 c3 c4 c5 c6; unfold isNd; rw [← hp]; refine xret_bool ?_; rw [Bool.true_and]; rw [if_neg k1];rw [if_neg k2];rw [if_neg k3];rw [if_pos k4]; first | rfl | (rw [Bool.eq_iff_iff]; simp only [Bool.and_eq_true, Bool.or_eq_true, decide_eq_true_eq, beq_iff_eq, Bool.false_eq_true, false_iff, true_iff]; omega) | (simp [*]; done) | (simp_all; done) | trace_state)
                · skip
                  by_cases k5 : n.kind = 5
                  · rw [k5] at c0
                    as_aux_lemma =>
                      go_wp2_with (first | (go_at_call 39; refine (unhide HIS _).mono ?_; rintro e w5 ⟨rfl, hb5⟩; have HIX5 := hide ((unhide HIX3).below hb5); clear hb5) | (go_at_call 82; refine (unhide HNM _).mono ?_; rintro e w6 ⟨rfl, hb6⟩; have HIX6 := hide ((unhide HIX3).below hb6); have c5' := (unhide HIX6).cells.2.2.2.2.2.1; unfold sv at c5'; clear hb6) | (go_at_call 82; refine (unhide HNT _).mono ?_; rintro e w7 ⟨rfl, hb7⟩; have HIX7 := hide ((unhide HIX6).below hb7); clear hb7))
                      all_goals (go_ret; refine ⟨?_, by first | exact (unhide HIX7).low | exact (unhide HIX6).low | exact (unhide HIX5).low | exact (unhide HIX3).low⟩; have hp := unhide HP1; rw [unhide HRR]; clear HIX3 HIS HNM HNT HRR HP1 c0 c1 c2 c3 c4 c5 c6; unfold isNd; rw [← hp]; refine xret_bool ?_; rw [Bool.true_and]; rw [if_neg k1];rw [if_neg k2];rw [if_neg k3];rw [if_neg k4];rw [if_pos k5]; first | rfl | (rw [Bool.eq_iff_iff]; simp only [Bool.and_eq_true, Bool.or_eq_true, decide_eq_true_eq, beq_iff_eq, Bool.false_eq_true, false_iff, true_iff]; omega) | (simp [*]; done) | (simp_all; done) | trace_state)
                  · skip
                    by_cases k6 : n.kind = 6
                    · rw [k6] at c0
                      as_aux_lemma =>
                        go_wp2_with (first | (go_at_call 39; refine (unhide HIS _).mono ?_; rintro e w5 ⟨rfl, hb5⟩; have HIX5 := hide ((unhide HIX3).below hb5); clear hb5) | (go_at_call 82; refine (unhide HNM _).mono ?_; rintro e w6 ⟨rfl, hb6⟩; have HIX6 := hide ((unhide HIX3).below hb6); have c5' := (unhide HIX6).cells.2.2.2.2.2.1; unfold sv at c5'; clear hb6) | (go_at_call 82; refine (unhide HNT _).mono ?_; rintro e w7 ⟨rfl, hb7⟩; have HIX7 := hide ((unhide HIX6).below hb7); clear hb7))
                        all_goals (go_ret; refine ⟨?_, by first | exact (unhide HIX7).low | exact (unhide HIX6).low | exact (unhide HIX5).low | exact (unhide HIX3).low⟩; have hp := unhide HP1; rw [unhide HRR]; clear HIX3 HIS HNM HNT HRR HP1 c0 c1 c2 c3 c4 c5 c6; unfold isNd; rw [← hp]; refine xret_bool ?_; rw [Bool.true_and]; rw [if_neg k1];rw [if_neg k2];rw [if_neg k3];rw [if_neg k4];rw [if_neg k5];rw [if_pos k6]; first | rfl | (rw [Bool.eq_iff_iff]; simp only [Bool.and_eq_true, Bool.or_eq_true, decide_eq_true_eq, beq_iff_eq, Bool.false_eq_true, false_iff, true_iff]; omega) | (simp [*]; done) | (simp_all; done) | trace_state)
                    · skip
                      by_cases k7 : n.kind = 7
                      · rw [k7] at c0
                        as_aux_lemma =>
                          go_wp2_with (first | (go_at_call 39; refine (unhide HIS _).mono ?_; rintro e w5 ⟨rfl, hb5⟩; have HIX5 := hide ((unhide HIX3).below hb5); clear hb5) | (go_at_call 82; refine (unhide HNM _).mono ?_; rintro e w6 ⟨rfl, hb6⟩; have HIX6 := hide ((unhide HIX3).below hb6); have c5' := (unhide HIX6).cells.2.2.2.2.2.1; unfold sv at c5'; clear hb6) | (go_at_call 82; refine (unhide HNT _).mono ?_; rintro e w7 ⟨rfl, hb7⟩; have HIX7 := hide ((unhide HIX6).below hb7); clear hb7))
                          all_goals (go_ret; refine ⟨?_, by first | exact (unhide HIX7).low | exact (unhide HIX6).low | exact (unhide HIX5).low | exact (unhide HIX3).low⟩; have hp := unhide HP1; rw [unhide HRR]; clear HIX3 HIS HNM HNT HRR HP1 c0 c1 c2 c3 c4 c5 c6; unfold isNd; rw [← hp]; refine xret_bool ?_; rw [Bool.true_and]; rw [if_neg k1];rw [if_neg k2];rw [if_neg k3];rw [if_neg k4];rw [if_neg k5];rw [if_neg k6];rw [if_pos k7]; first | rfl | (rw [Bool.eq_iff_iff]; simp only [Bool.and_eq_true, Bool.or_eq_true, decide_eq_true_eq, beq_iff_eq, Bool.false_eq_true, false_iff, true_iff]; omega) | (simp [*]; done) | (simp_all; done) | trace_state)
                      · skip
                        as_aux_lemma =>
                          go_wp2_with (first | (go_at_call 39; refine (unhide HIS _).mono ?_; rintro e w5 ⟨rfl, hb5⟩; have HIX5 := hide ((unhide HIX3).below hb5); clear hb5) | (go_at_call 82; refine (unhide HNM _).mono ?_; rintro e w6 ⟨rfl, hb6⟩; have HIX6 := hide ((unhide HIX3).below hb6); have c5' := (unhide HIX6).cells.2.2.2.2.2.1; unfold sv at c5'; clear hb6) | (go_at_call 82; refine (unhide HNT _).mono ?_; rintro e w7 ⟨rfl, hb7⟩; have HIX7 := hide ((unhide HIX6).below hb7); clear hb7))
                          all_goals (go_ret; refine ⟨?_, by first | exact (unhide HIX7).low | exact (unhide HIX6).low | exact (unhide HIX5).low | exact (unhide HIX3).low⟩; have hp := unhide HP1; rw [unhide HRR]; clear HIX3 HIS HNM HNT HRR HP1 c0 c1 c2 c3 c4 c5 c6; unfold isNd; rw [← hp]; refine xret_bool ?_; rw [Bool.true_and]; rw [if_neg k1];rw [if_neg k2];rw [if_neg k3];rw [if_neg k4];rw [if_neg k5];rw [if_neg k6];rw [if_neg k7]; first | rfl | (rw [Bool.eq_iff_iff]; simp only [Bool.and_eq_true, Bool.or_eq_true, decide_eq_true_eq, beq_iff_eq, Bool.false_eq_true, false_iff, true_iff]; omega) | (simp [*]; done) | (simp_all; done) | trace_state)
theorem isE_all : ∀ m, IsC m
  | 0 => fun _ _ _ _ _ _ h => absurd h (Nat.not_lt_zero _)
  | m + 1 => isE_step m (isE_all m)
theorem isE_any (w : World) (Q : Nat → Prop) (M : List Value) (E : Ex) (h : ExM w Q M E) (hok : exOk E) : Calls Tryz.prog 52 #[.agg M.toArray] w fun e w' => e = .returned (.bool (isE E)) ∧ Below w.heap.size w w' :=
  isE_all (szF E.2 + 1) w Q M E h hok (by omega)
end Go.Proofs.YtehgoioinogmkaaGreatDoor
