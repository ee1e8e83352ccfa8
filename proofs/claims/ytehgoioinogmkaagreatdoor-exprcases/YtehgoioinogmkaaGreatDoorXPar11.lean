/- The document's parser: exprs. -/
import Derived.Test.YtehgoioinogmkaaGreatDoorJXPar9XPar10XApp2
namespace Go.Proofs.YtehgoioinogmkaaGreatDoor
open Go.RowKit Go.Lib

theorem fold10 {M : List Value} (hl : M.length = 10) : List.foldl (fun (cs : Array Value) (x : Value × Nat) => cs.setIfInBounds x.snd x.fst) #[.int .i64 0, .int .i64 0, .int .i64 0, .int .i64 0, .string ⟨#[]⟩, .string ⟨#[]⟩, .string ⟨#[]⟩, .slice none 0 0, .int .i64 0, .int .i64 0] M.zipIdx = M.toArray := by
  match M, hl with
  | [_, _, _, _, _, _, _, _, _, _], _ => simp [List.zipIdx]
theorem OE.nil {base : Nat} {w : World} {a : Option Addr} {m c : Nat} {Es : List (List Value × Ex)} (h : OE base w a m c Es) : a = Option.none → c = 0 := by
  intro e
  subst e
  rcases h.row.2 with ⟨e, _⟩ | ⟨g, cap, cur, e, _⟩
  · injection e with _ _ e3
  · injection e with e1 _ _
    cases e1
/-- What exprs tells. -/
def RsP (T : List Tk) (p bt c : Nat) (w : World) (S : PS) (r : Fo × PS) (e : Ending) (w' : World) : Prop :=
  ∃ a m k, e = .returned (.slice a m k) ∧ m ≤ 4000 ∧ m = cnt r.1 ∧ SlAt w' (fun b => w.heap.size ≤ b) (.slice a m k) r.1 ∧ (a = none → k = 0) ∧ PX T w' p bt c r.2 ∧ FrX p w w' ∧ muS T r.2 ≤ muS T S
structure EsI (T : List Tk) (p bt c mu0 : Nat) (w wr : World) (R : Fo × PS) (mir : Nat → Fo → PS → Fo × PS) (a : Option Addr) (m k : Nat) (Es : List (List Value × Ex)) (S : PS) (n : Nat) : Prop where
  row : OE w.heap.size wr a m k Es
  px : PX T wr p bt c S
  fr : FrX p w wr
  eq : mir n (toFo Es) S = R
  fuel : muS T S ≤ n
  mu : m + muS T S ≤ mu0
set_option linter.unusedSimpArgs false in
set_option maxHeartbeats 12800000 in
set_option maxRecDepth 20000 in
theorem exprs_lv {T : List Tk} {p bt c : Nat} (hT : TG T) {sub : PS → Ex × PS} {B n : Nat} (hn : B ≤ n) (hB : B ≤ 3500) (hs : LvC T p bt c 157 sub B) (w : World) (S : PS) (hp : PX T w p bt c S) (hmu : muS T S ≤ B) :
    Calls Tryz.prog 188 #[.pointer (some ⟨p, 0, none⟩)] w (RsP T p bt c w S (exprsS T sub n .nil S)) := by
  have hplt := hp.lt_p
  have HBT := hide hp.bt_lt
  obtain ⟨R, hR⟩ : ∃ R, R = exprsS T sub n .nil S := ⟨_, rfl⟩
  have HI : Hid (EsI T p bt c (muS T S) w w R (exprsS T sub) none 0 0 [] S n) := ⟨OE.none w, hp, FrX.refl p w, hR.symm, by omega, by omega⟩
  obtain ⟨PP, hPP⟩ : ∃ PP, PP = RsP T p bt c w S R := ⟨_, rfl⟩
  rw [← hR, ← hPP]
  have HPP := hide hPP
  have HMU := hide hmu
  clear hR hPP hp hmu
  go_enter Tryz.func188, Tryz.ntmps188
  go_wp2_with fail
  go_loopg [3] (muS T S) (fun g s3 wr => ∃ (a : Option Addr) (m k : Nat) (Es : List (List Value × Ex)) (S1 : PS) (n1 : Nat), g = muS T S1 ∧ s3 = .slice a m k ∧ Hid (EsI T p bt c (muS T S) w wr R (exprsS T sub) a m k Es S1 n1))
  case atStart => exact ⟨none, 0, 0, [], S, n, rfl, rfl, HI⟩
  case round =>
    obtain ⟨a, m, k, Es, S1, n1, rfl, rfl, HE⟩ := hrel
    clear HI
    have hm3 : m ≤ 3500 := by have h1 := (unhide HE).mu; have h2 := unhide HMU; omega
    have HOK := hide (ok_any' (unhide HE).px)
    cases he : (S1.err == 0) with
    | false =>
      rw [he] at HOK
      have HEQ : Hid (R = (toFo Es, S1)) := by
        have h := (unhide HE).eq
        show R = _
        rw [← h]
        have he' : ¬ S1.err = 0 := by simpa using he
        cases n1 with
        | zero => rfl
        | succ n1 => rw [exprsS, if_neg he']
      clear he
      go_wp2_with (go_at_call 104; refine (unhide HOK).mono ?_; rintro e w1 ⟨rfl, hp1, hf1⟩; have HP1 := hide hp1; have HF1 := hide hf1; clear hp1 hf1)
      rw [unhide HPP]
      have hE := unhide HE
      have hro := hE.row.keep (w' := w1) (fun b h1 h2 => (unhide HF1).blk b h2 (by omega))
      refine ⟨a, m, k, rfl, by omega, by rw [unhide HEQ, cnt_toFo]; exact hE.row.len, ?_, hro.nil, ?_, hE.fr.trans (unhide HF1), ?_⟩
      · rw [unhide HEQ]; exact hro.slice
      · rw [unhide HEQ]; exact unhide HP1
      · rw [unhide HEQ]; have := hE.mu; dsimp only; omega
    | true =>
      rw [he] at HOK
      have he' : S1.err = 0 := by simpa using he
      have hpos : 1 ≤ muS T S1 := by unfold muS; rw [if_pos he']; omega
      obtain ⟨n2, rfl⟩ : ∃ n2, n1 = n2 + 1 := ⟨n1 - 1, by have := (unhide HE).fuel; omega⟩
      obtain ⟨S2, hS2⟩ : ∃ S2, S2 = elementS T m S1 := ⟨_, rfl⟩
      have hmE : muS T S2 ≤ muS T S1 := by rw [hS2]; exact muS_element T m S1
      have HEQ : Hid (R = if isS T 5 [44] (sub S2).2 then exprsS T sub n2 (Fo.app (toFo Es) (Fo.cons (sub S2).1.1 (sub S2).1.2 .nil)) (nextS T (sub S2).2) else (Fo.app (toFo Es) (Fo.cons (sub S2).1.1 (sub S2).1.2 .nil), (sub S2).2)) := by
        have h := (unhide HE).eq
        show R = _
        rw [← h, exprsS, if_pos he', cnt_toFo, ← (unhide HE).row.len, ← hS2]
      have HS2 := hide hS2
      have HME := hide hmE
      have HPOS := hide hpos
      have HEL : Hid (∀ w1, PX T w1 p bt c S1 → Calls Tryz.prog 193 #[.pointer (some ⟨p, 0, none⟩), .int .i64 (m : Int)] w1 fun e w' => e = .returned (.tuple #[]) ∧ PX T w' p bt c S2 ∧ FrX p w1 w') := fun w1 h => by rw [hS2]; exact element_any hT h m
      have HSUB : Hid (∀ w2, PX T w2 p bt c S2 → Calls Tryz.prog 157 #[.pointer (some ⟨p, 0, none⟩)] w2 (LvP T p bt c w2 S2 (sub S2))) := fun w2 h => hs w2 S2 h (by have h1 := (unhide HE).mu; have h2 := unhide HMU; omega)
      clear he he' hpos hmE hS2
      have HRK : Hid (∀ w1 w2 w3, FrX p wr w1 → FrX p w1 w2 → FrX p w2 w3 → OE w.heap.size w3 a m k Es) := fun w1 w2 w3 h1 h2 h3 => (unhide HE).row.keep (fun b q1 q2 => ((h1.trans h2).trans h3).blk b q2 (by omega))
      have HXK : Hid (∀ w1 w2 w3 M E, FrX p wr w1 → FrX p w1 w2 → ExM w3 (fun b => w2.heap.size ≤ b) M E → ExM w3 (fun b => w.heap.size ≤ b ∧ (Value.slice a m k).ownBlock ≠ some b) M E) := fun w1 w2 w3 M E h1 h2 h => h.keep (fun _ _ _ => rfl) (fun b _ q => by
        have z1 := (h1.trans h2).size
        have z2 := (unhide HE).fr.size
        refine ⟨by omega, fun e => ?_⟩
        have := ((unhide HE).row.own b e).2
        omega)
      have HZK : Hid (∀ w1 w2 w3, FrX p wr w1 → FrX p w1 w2 → FrX p w2 w3 → w.heap.size ≤ w3.heap.size ∧ bt < w.heap.size) := fun w1 w2 w3 h1 h2 h3 => ⟨Nat.le_trans (unhide HE).fr.size ((h1.trans h2).trans h3).size, unhide HBT⟩
      have HPK : Hid (∀ w3 w4 S', PX T w3 p bt c S' → bt < w.heap.size → Below w.heap.size w3 w4 → PX T w4 p bt c S') := fun w3 w4 S' h hb hbb => ⟨(hbb.block p hplt).trans h.blk, h.toks.keep (fun _ => hbb.block bt hb), h.ne, h.lt, h.dlo, h.dhi, h.err⟩
      have HFK : Hid (∀ w1 w2 w3 w4, FrX p wr w1 → FrX p w1 w2 → FrX p w2 w3 → Below w.heap.size w3 w4 → FrX p w w4) := fun w1 w2 w3 w4 h1 h2 h3 hbb => by
        have h := (((unhide HE).fr.trans h1).trans h2).trans h3
        exact ⟨hbb.os.trans h.os, hbb.tape.trans h.tape, hbb.output.trans h.output, Nat.le_trans h.size hbb.size, fun b q1 q2 => (hbb.block b q1).trans (h.blk b q1 q2)⟩
      cases hc : isS T 5 [44] (sub S2).2 with
      | true =>
        have HC := hide hc
        have HMS : Hid (∀ w4, PX T w4 p bt c (sub S2).2 → Calls Tryz.prog 103 #[.pointer (some ⟨p, 0, none⟩), .string ⟨#[44]⟩] w4 fun e w5 => e = .returned (.bool true) ∧ PX T w5 p bt c (nextS T (sub S2).2) ∧ FrX p w4 w5) := fun w4 h => by
          refine (maySign_any hT h [44]).mono ?_
          rintro e w5 ⟨rfl, h1, h2⟩
          unfold mayS at h1
          rw [if_pos hc] at h1
          exact ⟨by rw [hc], h1, h2⟩
        clear hc
        go_wp2_with (first | (go_at_call 104; refine (unhide HOK).mono ?_; rintro e w1 ⟨rfl, hp1, hf1⟩; have HP1 := hide hp1; have HF1 := hide hf1; clear hp1 hf1) | (go_at_call 193; refine (unhide HEL _ (unhide HP1)).mono ?_; rintro e w2 ⟨rfl, hp2, hf2⟩; have HP2 := hide hp2; have HF2 := hide hf2; clear hp2 hf2) | (go_at_call 157; refine (unhide HSUB _ (unhide HP2)).mono ?_; rintro e w3 ⟨M, rfl, hx, hp3, hf3, hm3'⟩; have hl3 := hx.len; have hfo3 := fold10 hx.len; have HR3 := hide (unhide HRK w1 w2 w3 (unhide HF1) (unhide HF2) hf3); have HX3 := hide (unhide HXK w1 w2 w3 M _ (unhide HF1) (unhide HF2) hx); have HZ3 := hide (unhide HZK w1 w2 w3 (unhide HF1) (unhide HF2) hf3); have HP3 := hide hp3; have HF3 := hide hf3; have HM3 := hide hm3'; clear hx hp3 hf3 hm3') | (at_builtin; refine append_ex rfl (.tmp 10) (.tmp 13) rfl (unhide HR3) (unhide HZ3).1 rfl M (sub S2).1 (unhide HX3) rfl (by omega) ?_; intro ad4 k4 w4 ho4 hb4; have HO4 := hide ho4; have HP4 := hide (unhide HPK w3 w4 _ (unhide HP3) (unhide HZ3).2 hb4); have HF4 := hide (unhide HFK _ _ _ _ (unhide HF1) (unhide HF2) (unhide HF3) hb4); clear ho4 hb4) | (go_at_call 103; refine (unhide HMS _ (unhide HP4)).mono ?_; rintro e w5 ⟨rfl, hp5, hf5⟩; have HP5 := hide hp5; have HF5 := hide hf5; clear hp5 hf5))
        have HRO : Hid (OE w.heap.size w5 ad4 (m + 1) k4 (Es ++ [(M, (sub S2).1)])) := (unhide HO4).keep (fun b q1 q2 => (unhide HF5).blk b q2 (by omega))
        have HFE := hide ((unhide HF4).trans (unhide HF5))
        have HNX : Hid (EsI T p bt c (muS T S) w w5 R (exprsS T sub) ad4 (m + 1) k4 (Es ++ [(M, (sub S2).1)]) (nextS T (sub S2).2) n2) := by
          have hE := unhide HE
          have h1 := muS_next hT (unhide HC) (by decide) (unhide HP3).lt
          have h2 := unhide HM3
          have h3 := unhide HME
          have h4 := hE.mu
          have h5 := hE.fuel
          refine ⟨unhide HRO, unhide HP5, unhide HFE, ?_, by omega, by omega⟩
          rw [← toFo_snoc]
          have h6 := unhide HEQ
          rw [if_pos (unhide HC)] at h6
          exact h6.symm
        have HDEC : Hid (muS T (nextS T (sub S2).2) < muS T S1) := by
          have h1 := muS_next hT (unhide HC) (by decide) (unhide HP3).lt
          have h2 := unhide HM3
          have h3 := unhide HME
          show _ < _
          omega
        go_roundg (muS T (nextS T (sub S2).2))
        case rel => exact ⟨_, _, _, _, _, _, rfl, rfl, HNX⟩
        case measure => exact unhide HDEC
      | false =>
        have HC := hide hc
        have HMS : Hid (∀ w4, PX T w4 p bt c (sub S2).2 → Calls Tryz.prog 103 #[.pointer (some ⟨p, 0, none⟩), .string ⟨#[44]⟩] w4 fun e w5 => e = .returned (.bool false) ∧ PX T w5 p bt c (sub S2).2 ∧ FrX p w4 w5) := fun w4 h => by
          refine (maySign_any hT h [44]).mono ?_
          rintro e w5 ⟨rfl, h1, h2⟩
          unfold mayS at h1
          rw [if_neg (by rw [hc]; decide)] at h1
          exact ⟨by rw [hc], h1, h2⟩
        clear hc
        go_wp2_with (first | (go_at_call 104; refine (unhide HOK).mono ?_; rintro e w1 ⟨rfl, hp1, hf1⟩; have HP1 := hide hp1; have HF1 := hide hf1; clear hp1 hf1) | (go_at_call 193; refine (unhide HEL _ (unhide HP1)).mono ?_; rintro e w2 ⟨rfl, hp2, hf2⟩; have HP2 := hide hp2; have HF2 := hide hf2; clear hp2 hf2) | (go_at_call 157; refine (unhide HSUB _ (unhide HP2)).mono ?_; rintro e w3 ⟨M, rfl, hx, hp3, hf3, hm3'⟩; have hl3 := hx.len; have hfo3 := fold10 hx.len; have HR3 := hide (unhide HRK w1 w2 w3 (unhide HF1) (unhide HF2) hf3); have HX3 := hide (unhide HXK w1 w2 w3 M _ (unhide HF1) (unhide HF2) hx); have HZ3 := hide (unhide HZK w1 w2 w3 (unhide HF1) (unhide HF2) hf3); have HP3 := hide hp3; have HF3 := hide hf3; have HM3 := hide hm3'; clear hx hp3 hf3 hm3') | (at_builtin; refine append_ex rfl (.tmp 10) (.tmp 13) rfl (unhide HR3) (unhide HZ3).1 rfl M (sub S2).1 (unhide HX3) rfl (by omega) ?_; intro ad4 k4 w4 ho4 hb4; have HO4 := hide ho4; have HP4 := hide (unhide HPK w3 w4 _ (unhide HP3) (unhide HZ3).2 hb4); have HF4 := hide (unhide HFK _ _ _ _ (unhide HF1) (unhide HF2) (unhide HF3) hb4); clear ho4 hb4) | (go_at_call 103; refine (unhide HMS _ (unhide HP4)).mono ?_; rintro e w5 ⟨rfl, hp5, hf5⟩; have HP5 := hide hp5; have HF5 := hide hf5; clear hp5 hf5))
        have HRO : Hid (OE w.heap.size w5 ad4 (m + 1) k4 (Es ++ [(M, (sub S2).1)])) := (unhide HO4).keep (fun b q1 q2 => (unhide HF5).blk b q2 (by omega))
        have HFE := hide ((unhide HF4).trans (unhide HF5))
        rw [unhide HPP]
        have hE := unhide HE
        have h6 := unhide HEQ
        rw [if_neg (by rw [unhide HC]; decide), toFo_snoc M] at h6
        refine ⟨ad4, m + 1, k4, rfl, by omega, by rw [h6, cnt_toFo]; exact (unhide HRO).len, ?_, (unhide HRO).nil, ?_, unhide HFE, ?_⟩
        · rw [h6]; exact (unhide HRO).slice
        · rw [h6]; exact unhide HP5
        · rw [h6]
          have h2 := unhide HM3
          have h3 := unhide HME
          have h4 := hE.mu
          dsimp only
          omega
end Go.Proofs.YtehgoioinogmkaaGreatDoor
