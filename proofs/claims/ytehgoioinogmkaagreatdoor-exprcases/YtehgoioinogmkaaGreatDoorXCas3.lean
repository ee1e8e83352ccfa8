/- The conditions of ExprCases: resolved, reckoned. -/
import Derived.Test.YtehgoioinogmkaaGreatDoorXCas2
import Derived.Test.YtehgoioinogmkaaGreatDoorJXSym2XCasXIns
namespace Go.Proofs.YtehgoioinogmkaaGreatDoor
open Go.RowKit Go.Lib

def tR : Nat → Ex
  | 0 => tyE (valE 1 0 []) 1
  | 1 => tyE (valE 1 1 []) 1
  | 2 => tyE (valE 0 0 []) 0
  | _ => tyE (binE 5 (tyE (binE 14 (tyE (valE 2 1 []) 2) (tyE (valE 2 0 []) 2)) 2) (tyE (valE 2 1 []) 2)) 1
def vR (k d : Nat) : Ex := if k = 1 then tyE (valE 2 (d : Int) []) 2 else tyE (binE 14 (tyE (valE 2 1 []) 2) (tyE (valE 2 0 []) 2)) 2
def tG : Nat → GV × Int
  | 0 => (⟨1, 0, ⟨#[]⟩⟩, 0)
  | 1 => (⟨1, 1, ⟨#[]⟩⟩, 0)
  | 2 => (nullG, 0)
  | _ => (nullG, 7)
def vG (k d : Nat) : GV × Int := if k = 1 then (⟨2, (d : Int), ⟨#[]⟩⟩, 0) else (nullG, 7)
theorem tE_all : ∀ k : Nat, isE (tE k) = true ∧ exB (tE k) = true ∧ simE (tE k) = true ∧ resE (tE k) = .ok (tR k) ∧ exB (tR k) = true ∧ simE (tR k) = true ∧ fitB (tR k).1.ty 1 = true ∧ evE [] (tR k) = tG k
  | 0 => ⟨by kernel_rfl, by kernel_rfl, by kernel_rfl, by kernel_rfl, by kernel_rfl, by kernel_rfl, by kernel_rfl, by kernel_rfl⟩
  | 1 => ⟨by kernel_rfl, by kernel_rfl, by kernel_rfl, by kernel_rfl, by kernel_rfl, by kernel_rfl, by kernel_rfl, by kernel_rfl⟩
  | 2 => ⟨by kernel_rfl, by kernel_rfl, by kernel_rfl, by kernel_rfl, by kernel_rfl, by kernel_rfl, by kernel_rfl, by kernel_rfl⟩
  | n + 3 => ⟨by kernel_rfl, by kernel_rfl, by kernel_rfl, by kernel_rfl, by kernel_rfl, by kernel_rfl, by kernel_rfl, by kernel_rfl⟩
theorem vE_all (k : Nat) {d : Nat} (hd : d < 10) : isE (vE k d) = true ∧ exB (vE k d) = true ∧ simE (vE k d) = true ∧ resE (vE k d) = .ok (vR k d) ∧ exB (vR k d) = true ∧ simE (vR k d) = true ∧ (vR k d).1.ty = 2 ∧ evE [] (vR k d) = vG k d := by
  unfold vE vR vG
  by_cases hk : k = 1
  · rw [if_pos hk, if_pos hk, if_pos hk]
    obtain rfl | rfl | rfl | rfl | rfl | rfl | rfl | rfl | rfl | rfl : d = 0 ∨ d = 1 ∨ d = 2 ∨ d = 3 ∨ d = 4 ∨ d = 5 ∨ d = 6 ∨ d = 7 ∨ d = 8 ∨ d = 9 := by omega
    all_goals exact ⟨by kernel_rfl, by kernel_rfl, by kernel_rfl, by kernel_rfl, by kernel_rfl, by kernel_rfl, by kernel_rfl, by kernel_rfl⟩
  · rw [if_neg hk, if_neg hk, if_neg hk]
    exact ⟨by kernel_rfl, by kernel_rfl, by kernel_rfl, by kernel_rfl, by kernel_rfl, by kernel_rfl, by kernel_rfl, by kernel_rfl⟩
def clR (x : Nat × Nat) : List Ex := [tR x.1, vR x.1 x.2]
def elR (last : Bool) : List Ex := if last = true then [tyE (valE 2 77 []) 2] else []
def csRL (l : List (Nat × Nat)) (last : Bool) : List Ex := l.flatMap clR ++ elR last
def csR (l : List (Nat × Nat)) (last : Bool) : Ex := (⟨6, 0, 0, 0, [], [], [], 0, 2⟩, foE (csRL l last))
def casR (l : List (Nat × Nat)) (last : Bool) : Ex := tyE (binE 5 (csR l last) (tyE (valE 2 5 []) 2)) 1
/-- What it tells. -/
def casW (last : Bool) : List (Nat × Nat) → GV × Int
  | [] => if last = true then (⟨2, 77, ⟨#[]⟩⟩, 0) else (nullG, 0)
  | x :: l => if x.1 = 1 then (⟨2, (x.2 : Int), ⟨#[]⟩⟩, 0) else if x.1 ≥ 3 then (nullG, 7) else casW last l
theorem cs_all (p : Ex → Bool) (last : Bool) (h1 : ∀ k, p (tE k) = true) (h2 : ∀ k d, d < 10 → p (vE k d) = true) (h3 : p (valE 2 77 []) = true) : ∀ l : List (Nat × Nat), (∀ x ∈ l, x.2 < 10) → (csL l last).all p = true
  | [], _ => by cases last <;> simp [csL, h3]
  | x :: l, hd => by
    show (tE x.1 :: vE x.1 x.2 :: csL l last).all p = true
    rw [List.all_cons, List.all_cons, h1, h2 _ _ (hd x (List.mem_cons_self ..)), cs_all p last h1 h2 h3 l (fun y hy => hd y (List.mem_cons_of_mem _ hy))]
    rfl
theorem csr_all (p : Ex → Bool) (last : Bool) (h1 : ∀ k, p (tR k) = true) (h2 : ∀ k d, d < 10 → p (vR k d) = true) (h3 : p (tyE (valE 2 77 []) 2) = true) : ∀ l : List (Nat × Nat), (∀ x ∈ l, x.2 < 10) → (csRL l last).all p = true
  | [], _ => by cases last <;> simp [csRL, elR, h3]
  | x :: l, hd => by
    show (tR x.1 :: vR x.1 x.2 :: csRL l last).all p = true
    rw [List.all_cons, List.all_cons, h1, h2 _ _ (hd x (List.mem_cons_self ..)), csr_all p last h1 h2 h3 l (fun y hy => hd y (List.mem_cons_of_mem _ hy))]
    rfl
theorem resL_cs (last : Bool) : ∀ l : List (Nat × Nat), (∀ x ∈ l, x.2 < 10) → resL (csL l last) = .ok (csRL l last)
  | [], _ => by cases last <;> kernel_rfl
  | x :: l, hd => by
    show resL (tE x.1 :: vE x.1 x.2 :: csL l last) = .ok (tR x.1 :: vR x.1 x.2 :: csRL l last)
    rw [resL, (tE_all x.1).2.2.2.1]
    show (match resL (vE x.1 x.2 :: csL l last) with | .error c => (.error c : Except Int (List Ex)) | .ok r => .ok (tR x.1 :: r)) = _
    rw [resL, (vE_all x.1 (hd x (List.mem_cons_self ..))).2.2.2.1]
    show (match (match resL (csL l last) with | .error c => (.error c : Except Int (List Ex)) | .ok r => .ok (vR x.1 x.2 :: r)) with | .error c => (.error c : Except Int (List Ex)) | .ok r => .ok (tR x.1 :: r)) = _
    rw [resL_cs last l (fun y hy => hd y (List.mem_cons_of_mem _ hy))]
def valsR (l : List (Nat × Nat)) (last : Bool) : List Ex := l.map (fun x => vR x.1 x.2) ++ elR last
theorem pairs_cs (last : Bool) : ∀ l : List (Nat × Nat), pairsL (csRL l last) = (l.map (fun x => tR x.1), valsR l last)
  | [] => by cases last <;> rfl
  | x :: l => by
    show (tR x.1 :: (pairsL (csRL l last)).1, vR x.1 x.2 :: (pairsL (csRL l last)).2) = _
    rw [pairs_cs last l]
    rfl
theorem oneL_two : ∀ L : List Ex, (∀ x ∈ L, x.1.ty = 2) → oneL 2 L = (2, true)
  | [], _ => rfl
  | x :: L, h => by
    rw [oneL, h x (List.mem_cons_self ..)]
    exact oneL_two L (fun y hy => h y (List.mem_cons_of_mem _ hy))
theorem cs_typ (l : List (Nat × Nat)) (last : Bool) (hl : l ≠ []) (hd : ∀ x ∈ l, x.2 < 10) : resE (csE l last) = .ok (csR l last) := by
  have h : resF (csE l last).2 = .ok (foE (csRL l last)) := by
    show resF (foE (csL l last)) = _
    rw [resF_L, toL_foE, resL_cs last l hd]
    rfl
  have hv : ∀ x ∈ valsR l last, x.1.ty = 2 := by
    intro x hx
    unfold valsR at hx
    rcases List.mem_append.1 hx with hx | hx
    · obtain ⟨y, hy, rfl⟩ := List.mem_map.1 hx
      exact (vE_all y.1 (hd y hy)).2.2.2.2.2.2.1
    · unfold elR at hx
      split at hx
      · rw [List.mem_singleton.1 hx]; rfl
      · cases hx
  have h1 : oneL 0 (valsR l last) = (2, true) := by
    cases l with
    | nil => exact absurd rfl hl
    | cons x l =>
      have h0 := hv (vR x.1 x.2) (List.mem_cons_self ..)
      show oneL 0 (vR x.1 x.2 :: valsR l last) = _
      rw [oneL, h0]
      exact oneL_two _ (fun y hy => hv y (List.mem_cons_of_mem _ hy))
  have h2 : allB 1 (l.map (fun x => tR x.1)) = true := by
    unfold allB
    rw [List.all_eq_true]
    intro x hx
    obtain ⟨y, hy, rfl⟩ := List.mem_map.1 hx
    exact (tE_all y.1).2.2.2.2.2.2.1
  unfold resE
  rw [h]
  show typedS ((csE l last).1, foE (csRL l last)) = _
  have h3 : tyK ((csE l last).1, foE (csRL l last)) = (true, 2) := by
    show ((oneL 0 (pairsL (toL (foE (csRL l last)))).2).2 && allB 1 (pairsL (toL (foE (csRL l last)))).1, (oneL 0 (pairsL (toL (foE (csRL l last)))).2).1) = _
    rw [toL_foE, pairs_cs, h1, h2]
    rfl
  unfold typedS
  rw [h3]
  rfl
theorem csL_len (last : Bool) : ∀ l : List (Nat × Nat), (csL l last).length = 2 * l.length + (if last = true then 1 else 0)
  | [] => by cases last <;> rfl
  | x :: l => by
    show (csL l last).length + 1 + 1 = 2 * (l.length + 1) + _
    rw [csL_len last l]
    omega
theorem csRL_len (last : Bool) : ∀ l : List (Nat × Nat), (csRL l last).length = 2 * l.length + (if last = true then 1 else 0)
  | [] => by cases last <;> rfl
  | x :: l => by
    show (csRL l last).length + 1 + 1 = 2 * (l.length + 1) + _
    rw [csRL_len last l]
    omega
theorem cs_is (l : List (Nat × Nat)) (last : Bool) (hl : l ≠ []) (hl2 : l.length ≤ 10) (hd : ∀ x ∈ l, x.2 < 10) : isE (csE l last) = true := by
  unfold csE isE
  rw [Bool.and_eq_true]
  refine ⟨?_, ?_⟩
  · show isF (foE (csL l last)) = true
    rw [isF_all, toL_foE]
    exact cs_all isE last (fun k => (tE_all k).1) (fun k d hd => (vE_all k hd).1) (by kernel_rfl) l hd
  · show isNd _ (cnt (foE (csL l last))) = true
    rw [cnt_foE, csL_len]
    have h1 : 1 ≤ l.length := by cases l with | nil => exact absurd rfl hl | cons _ _ => simp
    obtain ⟨m, hm⟩ : ∃ m, m = 2 * l.length + (if last = true then 1 else 0) := ⟨_, rfl⟩
    rw [← hm]
    have hb : (if last = true then 1 else 0) ≤ 1 := by split <;> omega
    have h2 : decide (2 ≤ m) = true := decide_eq_true (by omega)
    have h3 : decide (m ≤ 21) = true := decide_eq_true (by omega)
    show (true && (0 == (0 : Int) && (decide (2 ≤ m) && decide (m ≤ 21)))) = true
    rw [h2, h3]
    rfl
theorem five_is : ((true && isF (Fo.cons (valE 2 5 []).1 (valE 2 5 []).2 .nil)) && isNd (⟨4, 5, 0, 0, [], [], [], 0, 0⟩ : Nd) 2) = true := by kernel_rfl
theorem cas_typ (l : List (Nat × Nat)) (last : Bool) (hl : l ≠ []) (hl2 : l.length ≤ 10) (hd : ∀ x ∈ l, x.2 < 10) : exB (casE l last) = true ∧ simE (casE l last) = true ∧ exprS (casE l last) = .ok (casR l last) ∧ exB (csR l last) = true ∧ simE (csR l last) = true := by
  have e1 : exB (csE l last) = true := by
    unfold exB csE
    rw [foB_foE _ (cs_all exB last (fun k => (tE_all k).2.1) (fun k d hd => (vE_all k hd).2.1) (by kernel_rfl) l hd)]
    rfl
  have e2 : simE (csE l last) = true := by
    unfold simE csE
    rw [simF_foE _ (cs_all simE last (fun k => (tE_all k).2.2.1) (fun k d hd => (vE_all k hd).2.2.1) (by kernel_rfl) l hd)]
    rfl
  have e3 : exB (csR l last) = true := by
    unfold exB csR
    rw [foB_foE _ (csr_all exB last (fun k => (tE_all k).2.2.2.2.1) (fun k d hd => (vE_all k hd).2.2.2.2.1) (by kernel_rfl) l hd)]
    rfl
  have e4 : simE (csR l last) = true := by
    unfold simE csR
    rw [simF_foE _ (csr_all simE last (fun k => (tE_all k).2.2.2.2.2.1) (fun k d hd => (vE_all k hd).2.2.2.2.2.1) (by kernel_rfl) l hd)]
    rfl
  refine ⟨?_, ?_, ?_, e3, e4⟩
  · show (ndB _ && ((ndB (csE l last).1 && foB (csE l last).2) && foB (Fo.cons (valE 2 5 []).1 (valE 2 5 []).2 .nil))) = true
    unfold exB at e1
    rw [e1]
    rfl
  · show (simK 4 && ((simK (csE l last).1.kind && simF (csE l last).2) && simF (Fo.cons (valE 2 5 []).1 (valE 2 5 []).2 .nil))) = true
    unfold simE at e2
    rw [e2]
    rfl
  · have hi : isE (casE l last) = true := by
      show (((isF (csE l last).2 && isNd (csE l last).1 (cnt (csE l last).2)) && isF (Fo.cons (valE 2 5 []).1 (valE 2 5 []).2 .nil)) && isNd (⟨4, 5, 0, 0, [], [], [], 0, 0⟩ : Nd) 2) = true
      have := cs_is l last hl hl2 hd
      unfold isE at this
      rw [this]
      exact five_is
    unfold exprS
    rw [hi, if_pos rfl]
    have hr : resF (casE l last).2 = .ok (foE [csR l last, tyE (valE 2 5 []) 2]) := by
      show resF (foE [csE l last, valE 2 5 []]) = _
      rw [resF_L, toL_foE, resL, cs_typ l last hl hd]
      show Except.map foE (match resL [valE 2 5 []] with | .error c => (.error c : Except Int (List Ex)) | .ok r => .ok (csR l last :: r)) = _
      rw [show resL [valE 2 5 []] = .ok [tyE (valE 2 5 []) 2] by kernel_rfl]
      rfl
    unfold resE
    rw [hr]
    rfl
theorem evL_foE : ∀ L : List Ex, evL [] (foE L) = L.map (evE [])
  | [] => rfl
  | x :: L => by
    show evE [] x :: evL [] (foE L) = evE [] x :: L.map (evE [])
    rw [evL_foE L]
theorem choice_cs (last : Bool) : ∀ l : List (Nat × Nat), (∀ x ∈ l, x.2 < 10) → choiceG ((csRL l last).map (evE [])) = casW last l
  | [], _ => by cases last <;> kernel_rfl
  | x :: l, hd => by
    have ih := choice_cs last l (fun y hy => hd y (List.mem_cons_of_mem _ hy))
    obtain ⟨L, hL⟩ : ∃ L, L = (csRL l last).map (evE []) := ⟨_, rfl⟩
    show choiceG (evE [] (tR x.1) :: evE [] (vR x.1 x.2) :: (csRL l last).map (evE [])) = _
    rw [(tE_all x.1).2.2.2.2.2.2.2, (vE_all x.1 (hd x (List.mem_cons_self ..))).2.2.2.2.2.2.2, ← hL]
    rw [← hL] at ih
    obtain ⟨k, d⟩ := x
    rw [casW]
    dsimp only
    obtain rfl | rfl | rfl | ⟨m, rfl⟩ : k = 0 ∨ k = 1 ∨ k = 2 ∨ ∃ m, k = m + 3 := by
      rcases Nat.lt_or_ge k 3 with h | h
      · omega
      · exact .inr (.inr (.inr ⟨k - 3, by omega⟩))
    · rw [if_neg (by decide), if_neg (by decide), ← ih]
      rfl
    · rw [if_pos rfl]
      rfl
    · rw [if_neg (by decide), if_neg (by decide), ← ih]
      rfl
    · rw [if_neg (by omega), if_pos (by omega)]
      rfl
theorem evE_cs (l : List (Nat × Nat)) (last : Bool) (hl : l ≠ []) (hl2 : l.length ≤ 10) (hd : ∀ x ∈ l, x.2 < 10) : evE [] (csR l last) = casW last l := by
  have h1 : 1 ≤ l.length := by cases l with | nil => exact absurd rfl hl | cons _ _ => simp
  have hb : (if last = true then 1 else 0) ≤ 1 := by split <;> omega
  show evN [] (csR l last).1 (evL [] (foE (csRL l last))) = _
  rw [evL_foE]
  rw [evN6 (by
    show ¬ ((((csRL l last).map (evE [])).length : Int) < 2 ∨ (21 : Int) < (((csRL l last).map (evE [])).length : Int))
    rw [List.length_map, csRL_len]
    omega) rfl]
  exact choice_cs last l hd
theorem cas_all (l : List (Nat × Nat)) (last : Bool) (hl : l ≠ []) (hl2 : l.length ≤ 10) (hd : ∀ x ∈ l, x.2 < 10) :
    exOk (condL (casB l last)) ∧ simE (condL (casB l last)) = true ∧ typL (casB l last) = .ok (casR l last) ∧ exOk (csR l last) ∧ simE (csR l last) = true ∧ evE [] (csR l last) = casW last l := by
  obtain ⟨h1, h2, h3, h4, h5⟩ := cas_typ l last hl hl2 hd
  have hc := cas_cond l last hl hl2 hd
  exact ⟨by rw [hc]; exact exB_ok h1, by rw [hc]; exact h2, by unfold typL; rw [hc]; exact h3, exB_ok h4, h5, evE_cs l last hl hl2 hd⟩
end Go.Proofs.YtehgoioinogmkaaGreatDoor
