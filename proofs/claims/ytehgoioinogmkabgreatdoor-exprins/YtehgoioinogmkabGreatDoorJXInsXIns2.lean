/- The conditions of ExprIns: resolved, reckoned. -/
import Derived.Test.YtehgoioinogmkabGreatDoorXSym2
import Derived.Test.YtehgoioinogmkabGreatDoorXKn
namespace Go.Proofs.YtehgoioinogmkabGreatDoor
open Go.RowKit Go.Lib

def tyE (E : Ex) (t : Int) : Ex := ({ E.1 with ty := t }, E.2)
/-- An element, resolved. -/
def rE : Nat → Ex
  | 0 => tyE (valE 2 1 []) 2
  | 1 => tyE (valE 2 2 []) 2
  | 2 => tyE (valE 2 3 []) 2
  | 3 => tyE (valE 0 0 []) 0
  | _ => tyE (binE 14 (tyE (valE 2 1 []) 2) (tyE (valE 2 0 []) 2)) 2
/-- What it tells. -/
def gE : Nat → GV × Int
  | 0 => (⟨2, 1, ⟨#[]⟩⟩, 0)
  | 1 => (⟨2, 2, ⟨#[]⟩⟩, 0)
  | 2 => (⟨2, 3, ⟨#[]⟩⟩, 0)
  | 3 => (nullG, 0)
  | _ => (nullG, 7)
theorem eE_all (v : Nat) : isE (eE v) = true ∧ exB (eE v) = true ∧ simE (eE v) = true ∧ resE (eE v) = .ok (rE v) ∧ exB (rE v) = true ∧ simE (rE v) = true ∧ fitB (rE v).1.ty 2 = true ∧ (rE v).1.ty ∈ [(0 : Int), 2] := by
  match v with
  | 0 => exact ⟨by kernel_rfl, by kernel_rfl, by kernel_rfl, by kernel_rfl, by kernel_rfl, by kernel_rfl, by kernel_rfl, by decide⟩
  | 1 => exact ⟨by kernel_rfl, by kernel_rfl, by kernel_rfl, by kernel_rfl, by kernel_rfl, by kernel_rfl, by kernel_rfl, by decide⟩
  | 2 => exact ⟨by kernel_rfl, by kernel_rfl, by kernel_rfl, by kernel_rfl, by kernel_rfl, by kernel_rfl, by kernel_rfl, by decide⟩
  | 3 => exact ⟨by kernel_rfl, by kernel_rfl, by kernel_rfl, by kernel_rfl, by kernel_rfl, by kernel_rfl, by kernel_rfl, by decide⟩
  | n + 4 => exact ⟨by kernel_rfl, by kernel_rfl, by kernel_rfl, by kernel_rfl, by kernel_rfl, by kernel_rfl, by kernel_rfl, by show (2 : Int) ∈ [(0 : Int), 2]; decide⟩
theorem evE_rE : ∀ v : Nat, evE [] (rE v) = gE v
  | 0 => by kernel_rfl
  | 1 => by kernel_rfl
  | 2 => by kernel_rfl
  | 3 => by kernel_rfl
  | n + 4 => by kernel_rfl
theorem toL_foE : ∀ l : List Ex, toL (foE l) = l
  | [] => rfl
  | x :: l => by show x :: toL (foE l) = x :: l; rw [toL_foE l]
theorem foB_foE : ∀ l : List Ex, (l.all exB) = true → foB (foE l) = true
  | [], _ => rfl
  | x :: l, h => by
    rw [List.all_cons, Bool.and_eq_true] at h
    show ((ndB x.1 && foB x.2) && foB (foE l)) = true
    rw [foB_foE l h.2]
    have : exB x = true := h.1
    unfold exB at this
    rw [this]
    rfl
theorem simF_foE : ∀ l : List Ex, (l.all simE) = true → simF (foE l) = true
  | [], _ => rfl
  | x :: l, h => by
    rw [List.all_cons, Bool.and_eq_true] at h
    show ((simK x.1.kind && simF x.2) && simF (foE l)) = true
    rw [simF_foE l h.2]
    have : simE x = true := h.1
    unfold simE at this
    rw [this]
    rfl
theorem resL_eE : ∀ l : List Nat, resL (l.map eE) = .ok (l.map rE)
  | [] => rfl
  | v :: l => by
    rw [List.map_cons, resL, (eE_all v).2.2.2.1]
    show (match resL (l.map eE) with | .error c => (.error c : Except Int (List Ex)) | .ok r => .ok (rE v :: r)) = _
    rw [resL_eE l]
    rfl
theorem oneL_rE : ∀ (l : List Nat) (t : Int), t = 0 ∨ t = 2 → (oneL t (l.map rE)).2 = true
  | [], _, _ => rfl
  | v :: l, t, ht => by
    have hm := (eE_all v).2.2.2.2.2.2.2
    rw [List.map_cons, oneL]
    simp only [List.mem_cons, List.not_mem_nil, or_false] at hm
    rcases ht with rfl | rfl <;> rcases hm with hm | hm <;> rw [hm] <;> first | exact oneL_rE l 0 (.inl rfl) | exact oneL_rE l 2 (.inr rfl)
def inR (k : Nat) (l : List Nat) : Ex := (⟨5, 0, 0, 0, [], [], [], 0, 1⟩, foE (rE k :: l.map rE))
def insR (k : Nat) (l : List Nat) (no : Bool) : Ex := if no = true then tyE (unE 2 (inR k l)) 1 else inR k l
theorem all_map {p : Ex → Bool} {f : Nat → Ex} (h : ∀ v, p (f v) = true) (k : Nat) (l : List Nat) : (f k :: l.map f).all p = true := by
  rw [List.all_eq_true]
  intro x hx
  rw [← List.map_cons] at hx
  obtain ⟨v, _, rfl⟩ := List.mem_map.1 hx
  exact h v
theorem inE_is (k : Nat) (l : List Nat) (hl : l ≠ []) (hl2 : l.length ≤ 10) : isE (inE k l) = true := by
  unfold inE isE
  rw [Bool.and_eq_true]
  refine ⟨?_, ?_⟩
  · show isF (foE (eE k :: l.map eE)) = true
    rw [isF_all, toL_foE]
    exact all_map (fun v => (eE_all v).1) k l
  · show isNd _ (cnt (foE (eE k :: l.map eE))) = true
    rw [cnt_foE, List.length_cons, List.length_map]
    have h1 : 1 ≤ l.length := by cases l with | nil => exact absurd rfl hl | cons _ _ => simp
    obtain ⟨m, hm⟩ : ∃ m, m = l.length + 1 := ⟨_, rfl⟩
    rw [← hm]
    have h2 : decide (2 ≤ m) = true := decide_eq_true (by omega)
    have h3 : decide (m ≤ 11) = true := decide_eq_true (by omega)
    show ((true && (0 == (0 : Int) && (decide (2 ≤ m) && decide (m ≤ 11))))) = true
    rw [h2, h3]
    rfl
theorem inE_res (k : Nat) (l : List Nat) : resE (inE k l) = .ok (inR k l) := by
  have h : resF (inE k l).2 = .ok (foE (rE k :: l.map rE)) := by
    show resF (foE (eE k :: l.map eE)) = _
    rw [resF_L, toL_foE, ← List.map_cons, resL_eE]
    rfl
  have h1 : (oneL 0 (rE k :: l.map rE)).2 = true := by rw [← List.map_cons]; exact oneL_rE _ 0 (.inl rfl)
  unfold resE
  rw [h]
  show typedS ((inE k l).1, foE (rE k :: l.map rE)) = _
  have h2 : tyK ((inE k l).1, foE (rE k :: l.map rE)) = (true, 1) := by
    show ((oneL 0 (toL (foE (rE k :: l.map rE)))).2, (1 : Int)) = _
    rw [toL_foE, h1]
  unfold typedS
  rw [h2]
  rfl
theorem ins_typ (k : Nat) (l : List Nat) (no : Bool) (hl : l ≠ []) (hl2 : l.length ≤ 10) : exB (insE k l no) = true ∧ simE (insE k l no) = true ∧ exprS (insE k l no) = .ok (insR k l no) ∧ exB (insR k l no) = true ∧ simE (insR k l no) = true := by
  have e1 : exB (inE k l) = true := by
    unfold exB inE
    rw [foB_foE _ (all_map (fun v => (eE_all v).2.1) k l)]
    rfl
  have e2 : simE (inE k l) = true := by
    unfold simE inE
    rw [simF_foE _ (all_map (fun v => (eE_all v).2.2.1) k l)]
    rfl
  have e3 : exB (inR k l) = true := by
    unfold exB inR
    rw [foB_foE _ (all_map (fun v => (eE_all v).2.2.2.2.1) k l)]
    rfl
  have e4 : simE (inR k l) = true := by
    unfold simE inR
    rw [simF_foE _ (all_map (fun v => (eE_all v).2.2.2.2.2.1) k l)]
    rfl
  cases no with
  | false =>
    refine ⟨e1, e2, ?_, e3, e4⟩
    show exprS (inE k l) = _
    unfold exprS
    rw [inE_is k l hl hl2, if_pos rfl, inE_res]
    rfl
  | true =>
    refine ⟨?_, ?_, ?_, ?_, ?_⟩
    · show (ndB _ && foB (Fo.cons (inE k l).1 (inE k l).2 .nil)) = true
      show (ndB _ && ((ndB (inE k l).1 && foB (inE k l).2) && true)) = true
      unfold exB at e1
      rw [e1]
      rfl
    · show (simK 3 && ((simK (inE k l).1.kind && simF (inE k l).2) && true)) = true
      unfold simE at e2
      rw [e2]
      rfl
    · show exprS (unE 2 (inE k l)) = _
      have hi : isE (unE 2 (inE k l)) = true := by
        show (((isF (inE k l).2 && isNd (inE k l).1 (cnt (inE k l).2)) && true) && true) = true
        have := inE_is k l hl hl2
        unfold isE at this
        rw [this]
        rfl
      unfold exprS
      rw [hi, if_pos rfl]
      have hr : resF (unE 2 (inE k l)).2 = .ok (foE [inR k l]) := by
        show resF (foE [inE k l]) = _
        rw [resF_L, toL_foE, resL, inE_res]
        rfl
      unfold resE
      rw [hr]
      rfl
    · show (ndB _ && ((ndB (inR k l).1 && foB (inR k l).2) && true)) = true
      unfold exB at e3
      rw [e3]
      rfl
    · show (simK 3 && ((simK (inR k l).1.kind && simF (inR k l).2) && true)) = true
      unfold simE at e4
      rw [e4]
      rfl
/-- The statement's own reckoning: what was found, what is left; a fault. -/
def inW (k : Nat) : Int → List Nat → Int × Bool
  | f, [] => (f, false)
  | f, v :: l => if v = k then (1, false) else if v = 3 then inW k 2 l else if v ≥ 4 then (f, true) else inW k f l
theorem amongG_at1 (x : GV) (l : List (GV × Int)) : amongG x 1 l = (ofTruthG 1, 0) := by cases l <;> rfl
theorem among_in (k : Nat) (hk : k ≤ 2) : ∀ (l : List Nat) (f : Int), f = 0 ∨ f = 2 → amongG (gE k).1 f (l.map gE) = if (inW k f l).2 = true then (nullG, 7) else (ofTruthG (inW k f l).1, 0)
  | [], f, _ => rfl
  | v :: l, f, hf => by
    have i0 := among_in k hk l 0 (.inl rfl)
    have i2 := among_in k hk l 2 (.inr rfl)
    have i1 := amongG_at1 (gE k).1 (l.map gE)
    rw [List.map_cons]
    obtain ⟨L, hL⟩ : ∃ L, L = l.map gE := ⟨_, rfl⟩
    rw [← hL] at i0 i1 i2 ⊢
    obtain rfl | rfl | rfl : k = 0 ∨ k = 1 ∨ k = 2 := by omega
    · obtain rfl | rfl | rfl | rfl | ⟨n, rfl⟩ : v = 0 ∨ v = 1 ∨ v = 2 ∨ v = 3 ∨ ∃ n, v = n + 4 := by
        rcases Nat.lt_or_ge v 4 with h | h
        · omega
        · exact .inr (.inr (.inr (.inr ⟨v - 4, by omega⟩)))
      · rcases hf with rfl | rfl
        · rw [show amongG (gE 0).1 0 (gE 0 :: L) = amongG (gE 0).1 1 L from by kernel_rfl, show inW 0 0 (0 :: l) = (1, false) from by kernel_rfl, i1]
          rfl
        · rw [show amongG (gE 0).1 2 (gE 0 :: L) = amongG (gE 0).1 1 L from by kernel_rfl, show inW 0 2 (0 :: l) = (1, false) from by kernel_rfl, i1]
          rfl
      · rcases hf with rfl | rfl
        · rw [show amongG (gE 0).1 0 (gE 1 :: L) = amongG (gE 0).1 0 L from by kernel_rfl, show inW 0 0 (1 :: l) = inW 0 0 l from by kernel_rfl]
          exact i0
        · rw [show amongG (gE 0).1 2 (gE 1 :: L) = amongG (gE 0).1 2 L from by kernel_rfl, show inW 0 2 (1 :: l) = inW 0 2 l from by kernel_rfl]
          exact i2
      · rcases hf with rfl | rfl
        · rw [show amongG (gE 0).1 0 (gE 2 :: L) = amongG (gE 0).1 0 L from by kernel_rfl, show inW 0 0 (2 :: l) = inW 0 0 l from by kernel_rfl]
          exact i0
        · rw [show amongG (gE 0).1 2 (gE 2 :: L) = amongG (gE 0).1 2 L from by kernel_rfl, show inW 0 2 (2 :: l) = inW 0 2 l from by kernel_rfl]
          exact i2
      · rcases hf with rfl | rfl
        · rw [show amongG (gE 0).1 0 (gE 3 :: L) = amongG (gE 0).1 2 L from by kernel_rfl, show inW 0 0 (3 :: l) = inW 0 2 l from by kernel_rfl]
          exact i2
        · rw [show amongG (gE 0).1 2 (gE 3 :: L) = amongG (gE 0).1 2 L from by kernel_rfl, show inW 0 2 (3 :: l) = inW 0 2 l from by kernel_rfl]
          exact i2
      · rcases hf with rfl | rfl
        · rw [show amongG (gE 0).1 0 (gE (n + 4) :: L) = (nullG, 7) from by kernel_rfl, show inW 0 0 ((n + 4) :: l) = (0, true) from by kernel_rfl]
          rfl
        · rw [show amongG (gE 0).1 2 (gE (n + 4) :: L) = (nullG, 7) from by kernel_rfl, show inW 0 2 ((n + 4) :: l) = (2, true) from by kernel_rfl]
          rfl
    · obtain rfl | rfl | rfl | rfl | ⟨n, rfl⟩ : v = 0 ∨ v = 1 ∨ v = 2 ∨ v = 3 ∨ ∃ n, v = n + 4 := by
        rcases Nat.lt_or_ge v 4 with h | h
        · omega
        · exact .inr (.inr (.inr (.inr ⟨v - 4, by omega⟩)))
      · rcases hf with rfl | rfl
        · rw [show amongG (gE 1).1 0 (gE 0 :: L) = amongG (gE 1).1 0 L from by kernel_rfl, show inW 1 0 (0 :: l) = inW 1 0 l from by kernel_rfl]
          exact i0
        · rw [show amongG (gE 1).1 2 (gE 0 :: L) = amongG (gE 1).1 2 L from by kernel_rfl, show inW 1 2 (0 :: l) = inW 1 2 l from by kernel_rfl]
          exact i2
      · rcases hf with rfl | rfl
        · rw [show amongG (gE 1).1 0 (gE 1 :: L) = amongG (gE 1).1 1 L from by kernel_rfl, show inW 1 0 (1 :: l) = (1, false) from by kernel_rfl, i1]
          rfl
        · rw [show amongG (gE 1).1 2 (gE 1 :: L) = amongG (gE 1).1 1 L from by kernel_rfl, show inW 1 2 (1 :: l) = (1, false) from by kernel_rfl, i1]
          rfl
      · rcases hf with rfl | rfl
        · rw [show amongG (gE 1).1 0 (gE 2 :: L) = amongG (gE 1).1 0 L from by kernel_rfl, show inW 1 0 (2 :: l) = inW 1 0 l from by kernel_rfl]
          exact i0
        · rw [show amongG (gE 1).1 2 (gE 2 :: L) = amongG (gE 1).1 2 L from by kernel_rfl, show inW 1 2 (2 :: l) = inW 1 2 l from by kernel_rfl]
          exact i2
      · rcases hf with rfl | rfl
        · rw [show amongG (gE 1).1 0 (gE 3 :: L) = amongG (gE 1).1 2 L from by kernel_rfl, show inW 1 0 (3 :: l) = inW 1 2 l from by kernel_rfl]
          exact i2
        · rw [show amongG (gE 1).1 2 (gE 3 :: L) = amongG (gE 1).1 2 L from by kernel_rfl, show inW 1 2 (3 :: l) = inW 1 2 l from by kernel_rfl]
          exact i2
      · rcases hf with rfl | rfl
        · rw [show amongG (gE 1).1 0 (gE (n + 4) :: L) = (nullG, 7) from by kernel_rfl, show inW 1 0 ((n + 4) :: l) = (0, true) from by kernel_rfl]
          rfl
        · rw [show amongG (gE 1).1 2 (gE (n + 4) :: L) = (nullG, 7) from by kernel_rfl, show inW 1 2 ((n + 4) :: l) = (2, true) from by kernel_rfl]
          rfl
    · obtain rfl | rfl | rfl | rfl | ⟨n, rfl⟩ : v = 0 ∨ v = 1 ∨ v = 2 ∨ v = 3 ∨ ∃ n, v = n + 4 := by
        rcases Nat.lt_or_ge v 4 with h | h
        · omega
        · exact .inr (.inr (.inr (.inr ⟨v - 4, by omega⟩)))
      · rcases hf with rfl | rfl
        · rw [show amongG (gE 2).1 0 (gE 0 :: L) = amongG (gE 2).1 0 L from by kernel_rfl, show inW 2 0 (0 :: l) = inW 2 0 l from by kernel_rfl]
          exact i0
        · rw [show amongG (gE 2).1 2 (gE 0 :: L) = amongG (gE 2).1 2 L from by kernel_rfl, show inW 2 2 (0 :: l) = inW 2 2 l from by kernel_rfl]
          exact i2
      · rcases hf with rfl | rfl
        · rw [show amongG (gE 2).1 0 (gE 1 :: L) = amongG (gE 2).1 0 L from by kernel_rfl, show inW 2 0 (1 :: l) = inW 2 0 l from by kernel_rfl]
          exact i0
        · rw [show amongG (gE 2).1 2 (gE 1 :: L) = amongG (gE 2).1 2 L from by kernel_rfl, show inW 2 2 (1 :: l) = inW 2 2 l from by kernel_rfl]
          exact i2
      · rcases hf with rfl | rfl
        · rw [show amongG (gE 2).1 0 (gE 2 :: L) = amongG (gE 2).1 1 L from by kernel_rfl, show inW 2 0 (2 :: l) = (1, false) from by kernel_rfl, i1]
          rfl
        · rw [show amongG (gE 2).1 2 (gE 2 :: L) = amongG (gE 2).1 1 L from by kernel_rfl, show inW 2 2 (2 :: l) = (1, false) from by kernel_rfl, i1]
          rfl
      · rcases hf with rfl | rfl
        · rw [show amongG (gE 2).1 0 (gE 3 :: L) = amongG (gE 2).1 2 L from by kernel_rfl, show inW 2 0 (3 :: l) = inW 2 2 l from by kernel_rfl]
          exact i2
        · rw [show amongG (gE 2).1 2 (gE 3 :: L) = amongG (gE 2).1 2 L from by kernel_rfl, show inW 2 2 (3 :: l) = inW 2 2 l from by kernel_rfl]
          exact i2
      · rcases hf with rfl | rfl
        · rw [show amongG (gE 2).1 0 (gE (n + 4) :: L) = (nullG, 7) from by kernel_rfl, show inW 2 0 ((n + 4) :: l) = (0, true) from by kernel_rfl]
          rfl
        · rw [show amongG (gE 2).1 2 (gE (n + 4) :: L) = (nullG, 7) from by kernel_rfl, show inW 2 2 ((n + 4) :: l) = (2, true) from by kernel_rfl]
          rfl
theorem evE_ins (k : Nat) (hk : k ≤ 3) (l : List Nat) (no : Bool) (hl : l ≠ []) (hl2 : l.length ≤ 10) : evE [] (insR k l no) = (fun r => if no = true then unaryG 2 r else r) (if k = 3 then (nullG, 0) else if (inW k 0 l).2 = true then (nullG, 7) else (ofTruthG (inW k 0 l).1, 0)) := by
  have hev : ∀ l : List Nat, evL [] (foE (l.map rE)) = l.map gE := by
    intro l
    induction l with
    | nil => rfl
    | cons v l ih =>
      show evE [] (rE v) :: evL [] (foE (l.map rE)) = gE v :: l.map gE
      rw [evE_rE, ih]
  have h1 : 1 ≤ l.length := by cases l with | nil => exact absurd rfl hl | cons _ _ => simp
  have hin : evE [] (inR k l) = if k = 3 then (nullG, 0) else if (inW k 0 l).2 = true then (nullG, 7) else (ofTruthG (inW k 0 l).1, 0) := by
    show evN [] (inR k l).1 (evL [] (foE ((k :: l).map rE))) = _
    rw [hev, List.map_cons]
    unfold evN
    rw [if_neg (by
      show ¬ (((gE k :: l.map gE).length : Int) < 2 ∨ (11 : Int) < ((gE k :: l.map gE).length : Int))
      rw [List.length_cons, List.length_map]
      omega)]
    show (if (gE k).2 ≠ 0 ∨ (gE k).1.kind = 0 then (nullG, (gE k).2) else amongG (gE k).1 0 (l.map gE)) = _
    by_cases h3 : k = 3
    · subst h3
      rfl
    · rw [if_neg h3, if_neg (by obtain rfl | rfl | rfl : k = 0 ∨ k = 1 ∨ k = 2 := by omega
                                all_goals decide)]
      exact among_in k (by omega) l 0 (.inl rfl)
  cases no with
  | false => exact hin
  | true =>
    show evN [] (tyE (unE 2 (inR k l)) 1).1 [evE [] (inR k l)] = _
    rw [hin]
    rfl
end Go.Proofs.YtehgoioinogmkabGreatDoor
/- The texts of ExprIns: read, resolved, reckoned, all in one. -/
namespace Go.Proofs.YtehgoioinogmkabGreatDoor
open Go.RowKit Go.Lib

def preB (k : Nat) (no : Bool) : List UInt8 := eB k ++ (if no = true then [32, 78, 79, 84] else []) ++ [32, 73, 78, 32, 40]
def insB (k : Nat) (l : List Nat) (no : Bool) : List UInt8 := preB k no ++ joinB l ++ [41]
theorem ins_lex (k : Nat) (l : List Nat) (no : Bool) (hl : l ≠ []) : LexV (insB k l no) (insT k l no) := by
  have h0 : LexV (41 :: ([] : List UInt8)) [(5, [41])] := LexV.tok 5 1 (5, [41]) (by kernel_rfl) rfl (by decide) rfl LexV.nil
  have h1 := lexJ l (r := []) (V := [(5, [41])]) hl h0
  have h2 : LexV (40 :: (joinB l ++ [41])) ((5, [40]) :: (joinV l ++ [(5, [41])])) := LexV.tok 5 1 (5, [40]) (by kernel_rfl) rfl (by decide) rfl h1
  have h3 : LexV (32 :: 40 :: (joinB l ++ [41])) ((5, [40]) :: (joinV l ++ [(5, [41])])) := LexV.skip 1 rfl rfl h2
  have h4 : LexV (73 :: 78 :: 32 :: 40 :: (joinB l ++ [41])) ((2, [73, 78]) :: (5, [40]) :: (joinV l ++ [(5, [41])])) := LexV.tok 1 2 (2, [73, 78]) (by kernel_rfl) rfl (by decide) (by kernel_rfl) h3
  have h5 : LexV (32 :: 73 :: 78 :: 32 :: 40 :: (joinB l ++ [41])) ((2, [73, 78]) :: (5, [40]) :: (joinV l ++ [(5, [41])])) := LexV.skip 1 rfl rfl h4
  cases no with
  | false =>
    have h6 := lexE k (.inr (.inr rfl)) h5
    have e1 : insB k l false = eB k ++ 32 :: 73 :: 78 :: 32 :: 40 :: (joinB l ++ [41]) := by unfold insB preB; simp
    have e2 : insT k l false = eT k ++ (2, [73, 78]) :: (5, [40]) :: (joinV l ++ [(5, [41])]) := by unfold insT; simp
    rw [e1, e2]
    exact h6
  | true =>
    have h7 : LexV (78 :: 79 :: 84 :: 32 :: 73 :: 78 :: 32 :: 40 :: (joinB l ++ [41])) ((2, [78, 79, 84]) :: (2, [73, 78]) :: (5, [40]) :: (joinV l ++ [(5, [41])])) := LexV.tok 1 3 (2, [78, 79, 84]) (by kernel_rfl) rfl (by decide) (by kernel_rfl) h5
    have h8 : LexV (32 :: 78 :: 79 :: 84 :: 32 :: 73 :: 78 :: 32 :: 40 :: (joinB l ++ [41])) ((2, [78, 79, 84]) :: (2, [73, 78]) :: (5, [40]) :: (joinV l ++ [(5, [41])])) := LexV.skip 1 rfl rfl h7
    have h6 := lexE k (.inr (.inr rfl)) h8
    have e1 : insB k l true = eB k ++ 32 :: 78 :: 79 :: 84 :: 32 :: 73 :: 78 :: 32 :: 40 :: (joinB l ++ [41]) := by unfold insB preB; simp
    have e2 : insT k l true = eT k ++ (2, [78, 79, 84]) :: (2, [73, 78]) :: (5, [40]) :: (joinV l ++ [(5, [41])]) := by unfold insT; simp
    rw [e1, e2]
    exact h6
theorem ins_cond (k : Nat) (hk : k ≤ 3) (l : List Nat) (no : Bool) (hl : l ≠ []) (hl2 : l.length ≤ 10) : condL (insB k l no) = insE k l no := by
  refine cond_to (ins_lex k l no hl) (fun T S h hd => ?_) (by unfold insT; simp)
  have := in_to (n := 39970) k hk l no hl hl2 hd (t := (0, [])) (V := []) (by decide) h
  unfold exprP
  exact this
theorem eB_len (v : Nat) : (eB v).length ≤ 5 := by
  match v with
  | 0 => decide
  | 1 => decide
  | 2 => decide
  | 3 => decide
  | n + 4 => exact Nat.le_refl 5
theorem joinB_len : ∀ l : List Nat, (joinB l).length ≤ 7 * l.length
  | [] => Nat.le_refl 0
  | [v] => by have := eB_len v; show (eB v).length ≤ 7 * 1; omega
  | v :: w :: l => by
    have := eB_len v
    have := joinB_len (w :: l)
    rw [joinB]
    simp only [List.length_append, List.length_cons] at this ⊢
    omega
theorem preB_len (k : Nat) (no : Bool) : (preB k no).length ≤ 14 := by
  have := eB_len k
  unfold preB
  cases no <;> simp <;> omega
theorem insB_len (k : Nat) (l : List Nat) (no : Bool) (hl2 : l.length ≤ 10) : (insB k l no).length ≤ 85 := by
  have := preB_len k no
  have := joinB_len l
  unfold insB
  simp only [List.length_append, List.length_cons, List.length_nil]
  omega
/-- What the statement wants: what was found, a fault. -/
def finW (k : Nat) (l : List Nat) : Int × Bool := if k = 3 then (2, false) else inW k 0 l
theorem inW_in (k : Nat) : ∀ (l : List Nat) (f : Int), f = 0 ∨ f = 2 → (inW k f l).1 = 0 ∨ (inW k f l).1 = 1 ∨ (inW k f l).1 = 2
  | [], f, h => by show f = 0 ∨ f = 1 ∨ f = 2; omega
  | v :: l, f, h => by
    rw [inW]
    split
    · exact .inr (.inl rfl)
    · split
      · exact inW_in k l 2 (.inr rfl)
      · split
        · show f = 0 ∨ f = 1 ∨ f = 2; omega
        · exact inW_in k l f h
theorem finW_in (k : Nat) (l : List Nat) : (finW k l).1 = 0 ∨ (finW k l).1 = 1 ∨ (finW k l).1 = 2 := by
  unfold finW
  split
  · exact .inr (.inr rfl)
  · exact inW_in k l 0 (.inl rfl)
/-- What it tells. -/
def insG (k : Nat) (l : List Nat) (no : Bool) : GV × Int :=
  if (finW k l).2 = true then (nullG, 7) else (ofTruthG (if no = true ∧ (finW k l).1 ≠ 2 then 1 - (finW k l).1 else (finW k l).1), 0)
theorem ins_all (k : Nat) (hk : k ≤ 3) (l : List Nat) (no : Bool) (hl : l ≠ []) (hl2 : l.length ≤ 10) :
    exOk (condL (insB k l no)) ∧ simE (condL (insB k l no)) = true ∧ ∃ E, typL (insB k l no) = .ok E ∧ exOk E ∧ simE E = true ∧ evE [] E = insG k l no := by
  obtain ⟨h1, h2, h3, h4, h5⟩ := ins_typ k l no hl hl2
  have hc := ins_cond k hk l no hl hl2
  refine ⟨by rw [hc]; exact exB_ok h1, by rw [hc]; exact h2, insR k l no, by unfold typL; rw [hc]; exact h3, exB_ok h4, h5, ?_⟩
  rw [evE_ins k hk l no hl hl2]
  have hfin := finW_in k l
  have e : (if k = 3 then (nullG, 0) else if (inW k 0 l).2 = true then (nullG, 7) else (ofTruthG (inW k 0 l).1, 0) : GV × Int) = if (finW k l).2 = true then (nullG, 7) else (ofTruthG (finW k l).1, 0) := by
    unfold finW
    by_cases h : k = 3
    · rw [if_pos h, if_pos h]; rfl
    · rw [if_neg h, if_neg h]
  rw [e]
  unfold insG
  revert hfin
  generalize finW k l = r
  obtain ⟨f, b⟩ := r
  intro hfin
  simp only at hfin
  cases b <;> cases no <;> rcases hfin with rfl | rfl | rfl <;> first | rfl | kernel_rfl
theorem insG_text (k : Nat) (l : List Nat) (no : Bool) : (insG k l no).1.text.size ≤ 281474976710656 := by
  have h : ∀ n, (ofTruthG n).text.size = 0 := fun n => by unfold ofTruthG; split <;> rfl
  unfold insG
  split
  · exact Nat.zero_le _
  · show (ofTruthG _).text.size ≤ _
    rw [h]
    exact Nat.zero_le _
end Go.Proofs.YtehgoioinogmkabGreatDoor
