/- The document's parser: all levels at once, by what is left. -/
import Derived.Test.YtehgoioinogmkaaGreatDoorXPar8
import Derived.Test.YtehgoioinogmkaaGreatDoorXPar14
import Derived.Test.YtehgoioinogmkaaGreatDoorXPar12
import Derived.Test.YtehgoioinogmkaaGreatDoorXPar13
namespace Go.Proofs.YtehgoioinogmkaaGreatDoor
open Go.RowKit Go.Lib

/-- The levels' functions. -/
def levF : Nat → FuncId
  | 7 => 157
  | 6 => 189
  | 5 => 207
  | 4 => 215
  | 3 => 225
  | 2 => 229
  | _ => 231
theorem lev7 (T : List Tk) (n : Nat) : lev T (n + 1) 7 = fun S => loopW T (lev T n 6) [79, 82] 18 n (lev T n 6 S).1 (lev T n 6 S).2 := by funext S; simp [lev]
theorem lev6 (T : List Tk) (n : Nat) : lev T (n + 1) 6 = fun S => loopW T (lev T n 5) [65, 78, 68] 17 n (lev T n 5 S).1 (lev T n 5 S).2 := by funext S; simp [lev]
theorem lev5 (T : List Tk) (n : Nat) : lev T (n + 1) 5 = fun S => if isS T 2 [78, 79, 84] S then (unE 2 (lev T n 5 (openS T [78, 79, 84] S)).1, closeS T [] (lev T n 5 (openS T [78, 79, 84] S)).2) else lev T n 4 S := by funext S; simp [lev]
theorem lev4 (T : List Tk) (n : Nat) : lev T (n + 1) 4 = testS T (lev T n 3) (lev T n 7) n := by funext S; simp [lev]
theorem lev3 (T : List Tk) (n : Nat) : lev T (n + 1) 3 = fun S => loopG T (lev T n 2) [43] [45] [124, 124] 11 12 16 n (lev T n 2 S).1 (lev T n 2 S).2 := by funext S; simp [lev]
theorem lev2 (T : List Tk) (n : Nat) : lev T (n + 1) 2 = fun S => loopG T (lev T n 1) [42] [47] [37] 13 14 15 n (lev T n 1 S).1 (lev T n 1 S).2 := by funext S; simp [lev]
theorem lev1 (T : List Tk) (n : Nat) : lev T (n + 1) 1 = factorS T (lev T n 1) (lev T n 7) n := by funext S; simp [lev]
theorem lev_of {T : List Tk} {p bt c : Nat} (hT : TG T)
    (htest : ∀ (sub3 sub7 : PS → Ex × PS) (B n : Nat), B ≤ n → B ≤ 3500 → LvC T p bt c 225 sub3 B → (1 ≤ B → LvC T p bt c 157 sub7 (B - 1)) → LvC T p bt c 215 (testS T sub3 sub7 n) B)
    (hcase : ∀ (sub7 : PS → Ex × PS) (B n : Nat), B ≤ n → B ≤ 3500 → (1 ≤ B → LvC T p bt c 157 sub7 (B - 1)) → LvC T p bt c 234 (caseS T sub7 n) B) :
    ∀ n k B, 1 ≤ k → k ≤ 7 → 10 * B + k ≤ n → B ≤ 3500 → LvC T p bt c (levF k) (lev T n k) B := by
  intro n
  induction n with
  | zero => intro k B h1 _ h _; omega
  | succ n ih =>
    intro k B h1 h7 h hB
    have hk : k = 1 ∨ k = 2 ∨ k = 3 ∨ k = 4 ∨ k = 5 ∨ k = 6 ∨ k = 7 := by omega
    have hn : B ≤ n := by omega
    rcases hk with rfl | rfl | rfl | rfl | rfl | rfl | rfl
    · rw [lev1]
      exact factor_lv hT (fun _ => ih 1 (B - 1) (by omega) (by omega) (by omega) (by omega)) (fun _ => ih 7 (B - 1) (by omega) (by omega) (by omega) (by omega)) (hcase _ B n hn hB (fun _ => ih 7 (B - 1) (by omega) (by omega) (by omega) (by omega)))
    · rw [lev2]
      exact product_lv hT hn (ih 1 B (by omega) (by omega) (by omega) hB)
    · rw [lev3]
      exact sum_lv hT hn (ih 2 B (by omega) (by omega) (by omega) hB)
    · rw [lev4]
      exact htest _ _ B n hn hB (ih 3 B (by omega) (by omega) (by omega) hB) (fun _ => ih 7 (B - 1) (by omega) (by omega) (by omega) (by omega))
    · rw [lev5]
      exact not_lv hT (ih 4 B (by omega) (by omega) (by omega) hB) (fun _ => ih 5 (B - 1) (by omega) (by omega) (by omega) (by omega))
    · rw [lev6]
      exact and_lv hT hn (ih 5 B (by omega) (by omega) (by omega) hB)
    · rw [lev7]
      exact expr_lv hT hn (ih 6 B (by omega) (by omega) (by omega) hB)
end Go.Proofs.YtehgoioinogmkaaGreatDoor
/- The document's parser: all levels; clause. -/
namespace Go.Proofs.YtehgoioinogmkaaGreatDoor
open Go.RowKit Go.Lib

theorem lev_all {T : List Tk} {p bt c : Nat} (hT : TG T) : ∀ n k B, 1 ≤ k → k ≤ 7 → 10 * B + k ≤ n → B ≤ 3500 → LvC T p bt c (levF k) (lev T n k) B :=
  lev_of hT (fun _ _ _ _ hn hB h3 h7 => test_lv hT hn hB h3 h7) (fun _ _ _ hn hB h7 => cases_lv hT hn hB h7)
/-- An expression, as the parser reads it: n rounds are enough for every row of tokens that may be. -/
def exprP (T : List Tk) : PS → Ex × PS := lev T 40000 7
theorem mu_le (T : List Tk) (hT : TG T) (S : PS) : muS T S ≤ 3500 := by
  unfold muS
  have := hT.len
  split <;> omega
theorem expr_any {T : List Tk} {p bt c : Nat} (hT : TG T) : LvC T p bt c 157 (exprP T) 3500 := lev_all hT 40000 7 3500 (by omega) (by omega) (by omega) (by omega)
def clauseP (T : List Tk) (x : List UInt8) (S : PS) : Ex × PS := if isS T 2 x S then exprP T (nextS T S) else (exZ, S)
set_option linter.unusedSimpArgs false in
set_option maxHeartbeats 6400000 in
set_option maxRecDepth 20000 in
theorem clause_any {T : List Tk} {p bt c : Nat} (hT : TG T) (x : List UInt8) (w : World) (S : PS) (hp : PX T w p bt c S) :
    Calls Tryz.prog 158 #[.pointer (some ⟨p, 0, none⟩), sv x] w (LvP T p bt c w S (clauseP T x S)) := by
  have hbtlt := hp.bt_lt
  have hplt := hp.lt_p
  have HV := hide (RVX.new hp)
  have HNE : Hid (w.heap.size ≠ bt ∧ w.heap.size ≠ p ∧ p < w.heap.size) := ⟨by omega, by omega, by omega⟩
  clear hp hbtlt hplt
  obtain ⟨PP, hPP⟩ : ∃ PP, PP = LvP T p bt c w S (clauseP T x S) := ⟨_, rfl⟩
  have HPP := hide hPP
  rw [← hPP]
  clear hPP
  unfold sv
  cases hb : isS T 2 x S with
  | false =>
    have HNB := hide hb
    have HMW : Hid (mayS T 2 x S = S) := by show mayS T 2 x S = _; unfold mayS; rw [hb]; rfl
    have HEQ : Hid (clauseP T x S = (exZ, S)) := by show clauseP T x S = _; unfold clauseP; rw [hb]; rfl
    clear hb
    go_enter Tryz.func158, Tryz.ntmps158
    go_upto_region 3 with (go_at_call 150; refine (may_any hT (unhide HV).px x).mono ?_; rw [unhide HNB, unhide HMW]; rintro e w1 ⟨rfl, hp1, hf1⟩; have HV1 := hide ((unhide HV).move hp1 hf1 (unhide HNE).2.2); clear hp1 hf1)
    refine wp_region_list ?_
    refine list_to (d := 10) (v := .agg zL.toArray) rfl rfl (by kernel_rfl) ?_
    refine wpList_store_mid rfl 29 (.tmp 4) (.tmp 10) rfl w.heap.size 0 zL.toArray rfl rfl (unhide HV1).out.there sizeEx (all_oneCell_toArray (by intro v hv; simp [zL] at hv; rcases hv with rfl | rfl | rfl | rfl | rfl | rfl | rfl | rfl | rfl | rfl <;> rfl)) ?_
    go_wp2_with fail
    have HX : Hid (ExM w1 (fun b => w.heap.size < b) zL exZ) := ⟨.slice none 0 0, rfl, .inl ⟨rfl, 0, rfl⟩⟩
    obtain ⟨h1, h2⟩ := (unhide HV1).done (S0 := S) (unhide HX) (Nat.le_refl _) (unhide HNE).1 (unhide HNE).2.1
    exact bodyPost_ret (h1.result rfl _ rfl) rfl (by rw [unhide HPP, unhide HEQ]; exact h2)
  | true =>
    have HNB := hide hb
    have HMW : Hid (mayS T 2 x S = nextS T S) := by show mayS T 2 x S = _; unfold mayS; rw [hb]; rfl
    have HEQ : Hid (clauseP T x S = exprP T (nextS T S)) := by show clauseP T x S = _; unfold clauseP; rw [hb]; rfl
    have HMU := hide (mu_le T hT (nextS T S))
    clear hb
    go_enter Tryz.func158, Tryz.ntmps158
    go_wp2_with (first | (go_at_call 150; refine (may_any hT (unhide HV).px x).mono ?_; rw [unhide HNB, unhide HMW]; rintro e w1 ⟨rfl, hp1, hf1⟩; have HV1 := hide ((unhide HV).move hp1 hf1 (unhide HNE).2.2); clear hp1 hf1) | (go_at_call 157; refine ((unhide HV1).call (expr_any hT) (unhide HMU) (unhide HNE).2.2).mono ?_; rintro e w2 ⟨M2, rfl, hx, hv, hf, hm⟩; have hl2 := hx.len; have HX2 := hide hx; have HV2 := hide hv; have HM2 := hide hm; have HF2 := hide hf; have hst2 := hv.out.storeC hx.len hx.one; have hsn2 := storeNew w2 hx.len hx.one; unfold zL at hsn2; clear hx hv hf hm))
    have hxx : ExM w2 (fun b => w.heap.size < b) M2 (exprP T (nextS T S)).1 := (unhide HX2).keep (fun _ _ _ => rfl) (fun b _ q => by have h1 := (unhide HV1).out.1; have := ltX h1; omega)
    have hmm : muS T (exprP T (nextS T S)).2 ≤ muS T S := Nat.le_trans (unhide HM2) (muS_nle T S)
    obtain ⟨h1, h2⟩ := (unhide HV2).done (S0 := S) hxx hmm (unhide HNE).1 (unhide HNE).2.1
    exact bodyPost_ret (h1.result rfl _ rfl) rfl (by rw [unhide HPP, unhide HEQ]; exact h2)
end Go.Proofs.YtehgoioinogmkaaGreatDoor
