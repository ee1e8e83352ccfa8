/- The texts of ExprIns: their tokens, what the document's parser tells of them. -/
import Derived.Test.YtehgoioinogmkabGreatDoorXSym
import Derived.Test.YtehgoioinogmkabGreatDoorJXTy14XEv2
namespace Go.Proofs.YtehgoioinogmkabGreatDoor
open Go.RowKit Go.Lib

def eB : Nat → List UInt8
  | 0 => [49]
  | 1 => [50]
  | 2 => [51]
  | 3 => [78, 85, 76, 76]
  | _ => [49, 32, 47, 32, 48]
def eT : Nat → List Tv
  | 0 => [(3, [49])]
  | 1 => [(3, [50])]
  | 2 => [(3, [51])]
  | 3 => [(2, [78, 85, 76, 76])]
  | _ => [(3, [49]), (5, [47]), (3, [48])]
def eE : Nat → Ex
  | 0 => valE 2 1 []
  | 1 => valE 2 2 []
  | 2 => valE 2 3 []
  | 3 => valE 0 0 []
  | _ => binE 14 (valE 2 1 []) (valE 2 0 [])
theorem lexE (v : Nat) {c : UInt8} {r : List UInt8} {V : List Tv} (hc : c = 44 ∨ c = 41 ∨ c = 32) (h : LexV (c :: r) V) : LexV (eB v ++ c :: r) (eT v ++ V) := by
  match v with
  | 0 => rcases hc with rfl | rfl | rfl <;> exact LexV.tok 3 1 (3, [49]) rfl rfl (by decide) rfl h
  | 1 => rcases hc with rfl | rfl | rfl <;> exact LexV.tok 3 1 (3, [50]) rfl rfl (by decide) rfl h
  | 2 => rcases hc with rfl | rfl | rfl <;> exact LexV.tok 3 1 (3, [51]) rfl rfl (by decide) rfl h
  | 3 => rcases hc with rfl | rfl | rfl <;> exact LexV.tok 1 4 (2, [78, 85, 76, 76]) rfl rfl (by decide) (by kernel_rfl) h
  | n + 4 =>
    rcases hc with rfl | rfl | rfl <;>
      exact LexV.tok 3 1 (3, [49]) rfl rfl (by decide) rfl (LexV.skip 1 rfl rfl (LexV.tok 5 1 (5, [47]) rfl rfl (by decide) rfl (LexV.skip 1 rfl rfl (LexV.tok 3 1 (3, [48]) rfl rfl (by decide) rfl h))))
def joinB : List Nat → List UInt8
  | [] => []
  | [v] => eB v
  | v :: w :: l => eB v ++ 44 :: 32 :: joinB (w :: l)
def joinV : List Nat → List Tv
  | [] => []
  | [v] => eT v
  | v :: w :: l => eT v ++ (5, [44]) :: joinV (w :: l)
theorem joinB_snoc (v : Nat) : ∀ (l : List Nat), l ≠ [] → joinB (l ++ [v]) = joinB l ++ 44 :: 32 :: eB v
  | [], h => absurd rfl h
  | [w], _ => rfl
  | w :: x :: l, _ => by
    have := joinB_snoc v (x :: l) (by simp)
    show eB w ++ 44 :: 32 :: joinB (x :: l ++ [v]) = (eB w ++ 44 :: 32 :: joinB (x :: l)) ++ _
    rw [this]
    simp
theorem lexJ : ∀ (l : List Nat) {r : List UInt8} {V : List Tv}, l ≠ [] → LexV (41 :: r) V → LexV (joinB l ++ 41 :: r) (joinV l ++ V)
  | [], _, _, h, _ => absurd rfl h
  | [v], _, _, _, h => lexE v (.inr (.inl rfl)) h
  | v :: w :: l, r, V, _, h => by
    have h1 := lexJ (w :: l) (r := r) (V := V) (by simp) h
    have h2 := lexE v (.inl rfl) (LexV.tok 5 1 (5, [44]) rfl rfl (by decide) rfl (LexV.skip (l := 32 :: (joinB (w :: l) ++ 41 :: r)) 1 rfl rfl h1))
    have e1 : joinB (v :: w :: l) ++ 41 :: r = eB v ++ 44 :: 32 :: (joinB (w :: l) ++ 41 :: r) := by rw [joinB]; simp
    have e2 : joinV (v :: w :: l) ++ V = eT v ++ (5, [44]) :: (joinV (w :: l) ++ V) := by rw [joinV]; simp
    rw [e1, e2]
    exact h2
theorem eT_head (v : Nat) : ∃ t0 V0, eT v = t0 :: V0 ∧ (t0.1 == 2 && t0.2 == [78, 79, 84]) = false := by
  match v with
  | 0 => exact ⟨_, _, rfl, by decide⟩
  | 1 => exact ⟨_, _, rfl, by decide⟩
  | 2 => exact ⟨_, _, rfl, by decide⟩
  | 3 => exact ⟨_, _, rfl, by decide⟩
  | n + 4 => exact ⟨_, _, rfl, by decide⟩
theorem joinV_head : ∀ (l : List Nat), l ≠ [] → ∃ t0 V0, joinV l = t0 :: V0
  | [], h => absurd rfl h
  | [v], _ => by obtain ⟨a, b, h, _⟩ := eT_head v; exact ⟨a, b, h⟩
  | v :: w :: l, _ => by obtain ⟨a, b, h, _⟩ := eT_head v; exact ⟨a, b ++ (5, [44]) :: joinV (w :: l), by rw [joinV, h]; rfl⟩
section
variable {T : List Tk} {S : PS} {n : Nat} {t u : Tv} {V : List Tv}
theorem To.as {r : Ex × PS} {E E' : Ex} {d : Int} (h : To T r E V d) (he : E = E') : To T r E' V d := he ▸ h
theorem To.num {x : List UInt8} {E : Ex} (h : At T S ((3, x) :: u :: V)) (hx : x.length < 19) (hE : valE 2 (wrap64 (numF x)) [] = E) : To T (lev T (n + 1) 1 S) E (u :: V) S.deep := (At.num h hx).as hE
theorem levE (v : Nat) (h : At T S (eT v ++ t :: V)) (ht : t ∈ fullL) : To T (lev T (n + 8) 7 S) (eE v) (t :: V) S.deep := by
  have hn := full_no ht
  match v, h with
  | 0, h => exact To.up27 h (by decide) ((To.num (n := n + 1) h (by decide) (by kernel_rfl)).up2 hn.1) ht
  | 1, h => exact To.up27 h (by decide) ((To.num (n := n + 1) h (by decide) (by kernel_rfl)).up2 hn.1) ht
  | 2, h => exact To.up27 h (by decide) ((To.num (n := n + 1) h (by decide) (by kernel_rfl)).up2 hn.1) ht
  | 3, h => exact To.up27 h (by decide) ((At.null (n := n + 1) h).up2 hn.1) ht
  | m + 4, h => exact To.up27 h (by decide) (To.as (At.quot (n := n) h (by decide) (by decide) hn.1) (by kernel_rfl)) ht
/-- Ahead of NOT, of IN. -/
theorem levE3 (v : Nat) (hv : v ≤ 3) (h : At T S (eT v ++ t :: V)) (h2 : noK ops2 t = true) (h3 : noK ops3 t = true) : To T (lev T (n + 3) 3 S) (eE v) (t :: V) S.deep := by
  match v, hv, h with
  | 0, _, h => exact ((To.num (n := n) h (by decide) (by kernel_rfl)).up2 h2).up3 h3
  | 1, _, h => exact ((To.num (n := n) h (by decide) (by kernel_rfl)).up2 h2).up3 h3
  | 2, _, h => exact ((To.num (n := n) h (by decide) (by kernel_rfl)).up2 h2).up3 h3
  | 3, _, h => exact ((At.null (n := n) h).up2 h2).up3 h3
theorem exprs_to {sub : PS → Ex × PS} (hsub : ∀ v S t V, At T S (eT v ++ t :: V) → t ∈ fullL → To T (sub S) (eE v) (t :: V) S.deep) :
    ∀ (l : List Nat) (m : Nat) (acc : List Ex) (S : PS) (V : List Tv), l ≠ [] → l.length ≤ m → acc.length + l.length ≤ 10 → At T S (joinV l ++ (5, [41]) :: V) →
      (exprsS T sub m (foE acc) S).1 = foE (acc ++ l.map eE) ∧ At T (exprsS T sub m (foE acc) S).2 ((5, [41]) :: V) ∧ (exprsS T sub m (foE acc) S).2.deep = S.deep
  | [], _, _, _, _, h, _, _, _ => absurd rfl h
  | _ :: _, 0, _, _, _, _, h, _, _ => absurd h (by simp)
  | [v], m + 1, acc, S, V, _, _, ha, h => by
    obtain ⟨r1, r2, r3⟩ := hsub v S (5, [41]) V h (by decide)
    have he : elementS T (cnt (foE acc)) S = S := by unfold elementS; rw [if_neg (by rw [cnt_foE]; simp at ha; omega)]
    rw [exprsS, if_pos h.1]
    simp only [he]
    rw [r2.is, if_neg (by decide), r1, foE_snoc]
    exact ⟨rfl, r2, r3⟩
  | v :: w :: l, m + 1, acc, S, V, _, hm, ha, h => by
    have h' : At T S (eT v ++ (5, [44]) :: (joinV (w :: l) ++ (5, [41]) :: V)) := by rw [joinV] at h; simpa using h
    obtain ⟨r1, r2, r3⟩ := hsub v S (5, [44]) _ h' (by decide)
    have he : elementS T (cnt (foE acc)) S = S := by unfold elementS; rw [if_neg (by rw [cnt_foE]; simp at ha; omega)]
    obtain ⟨a, b, hj⟩ := joinV_head (w :: l) (by simp)
    rw [exprsS, if_pos h.1]
    simp only [he]
    rw [r2.is, if_pos (by decide), r1, foE_snoc]
    have hx := r2
    rw [hj] at hx
    obtain ⟨n1, n2⟩ := hx.next
    have := exprs_to hsub (w :: l) m (acc ++ [eE v]) (nextS T (sub S).2) V (by simp) (by simpa using hm) (by simp at ha ⊢; omega) (by rw [hj]; exact n1)
    rw [n2, r3, List.append_assoc] at this
    exact this
theorem wrap_back : wrap64 (wrap64 (0 + 1) - 1) = 0 := by kernel_rfl
/-- A test that is an IN. -/
theorem testS_in {sub3 sub7 : PS → Ex × PS} {m : Nat} {E : Ex} {S1 S2 : PS} {l : Fo × PS} {no : Bool} (h1 : (sub3 S).1 = E) (h2 : (sub3 S).2 = S1) (hs : signI T S1 0 signsL = none) (hi : isS T 2 [73, 83] S1 = false) (hn : isS T 2 [78, 79, 84] S1 = no) (hm : mayS T 2 [78, 79, 84] S1 = S2) (hin : isS T 2 [73, 78] S2 = true)
    (hl : exprsS T sub7 m .nil (openS T [40] (nextS T S2)) = l) : testS T sub3 sub7 m S = (if no = true then unE 2 (⟨5, 0, 0, 0, [], [], [], 0, 0⟩, Fo.cons E.1 E.2 l.1) else (⟨5, 0, 0, 0, [], [], [], 0, 0⟩, Fo.cons E.1 E.2 l.1), closeS T [41] l.2) := by
  unfold testS
  simp only [h2, hs, hi, hn, hm, hin, hl, h1, Bool.false_eq_true, if_false, if_true]
def inE (k : Nat) (l : List Nat) : Ex := (⟨5, 0, 0, 0, [], [], [], 0, 0⟩, foE (eE k :: l.map eE))
def insE (k : Nat) (l : List Nat) (no : Bool) : Ex := if no = true then unE 2 (inE k l) else inE k l
def insT (k : Nat) (l : List Nat) (no : Bool) : List Tv := eT k ++ (if no = true then [(2, [78, 79, 84])] else []) ++ (2, [73, 78]) :: (5, [40]) :: (joinV l ++ [(5, [41])])
theorem in_to (k : Nat) (hk : k ≤ 3) (l : List Nat) (no : Bool) (hl : l ≠ []) (hl2 : l.length ≤ 10) (hd : S.deep = 0) (ht : t ∈ fullL) (h : At T S (insT k l no ++ t :: V)) : To T (lev T (n + 30) 7 S) (insE k l no) (t :: V) 0 := by
  obtain ⟨t0, V0, hh, hN⟩ := eT_head k
  obtain ⟨a, b, hj⟩ := joinV_head l hl
  have h0 : ∃ V', At T S (t0 :: V') := by
    unfold insT at h
    rw [hh] at h
    exact ⟨_, h⟩
  obtain ⟨V', h0⟩ := h0
  refine To.up47 h0 hN ?_ ht
  show To T (lev T (n + 26 + 1) 4 S) _ _ _
  rw [lvl4]
  cases no with
  | false =>
    have h' : At T S (eT k ++ (2, [73, 78]) :: ((5, [40]) :: (joinV l ++ (5, [41]) :: t :: V))) := by unfold insT at h; simpa using h
    obtain ⟨r1, r2, r3⟩ := levE3 (n := n + 23) k hk h' (by decide) (by decide)
    have hx := r2
    rw [hj] at hx
    obtain ⟨p1, p2⟩ := hx.next
    obtain ⟨q1, q2⟩ := p1.open (x := [40]) (by decide) (by rw [p2, r3, hd]; decide)
    rw [p2, r3, hd] at q2
    obtain ⟨e1, e2, e3⟩ := exprs_to (T := T) (sub := lev T (n + 26) 7) (fun v S t V h ht => levE (n := n + 18) v h ht) l (n + 26) [] _ (t :: V) hl (by omega) (by simpa using hl2) (by rw [hj]; exact q1)
    obtain ⟨c1, c2⟩ := e2.close (x := [41]) (by simp) (by decide)
    rw [e3, q2] at c2
    obtain ⟨L, hL⟩ : ∃ L, L = exprsS T (lev T (n + 26) 7) (n + 26) (foE []) (openS T [40] (nextS T (lev T (n + 23 + 3) 3 S).2)) := ⟨_, rfl⟩
    rw [← hL] at e1 c1 c2
    rw [testS_in (no := false) r1 rfl (signI_none r2 (by decide)) (by rw [r2.is]; decide) (by rw [r2.is]; decide) (r2.mayNot (by decide)) (by rw [r2.is]; decide) hL.symm, e1]
    exact ⟨rfl, c1, c2.trans wrap_back⟩
  | true =>
    have h' : At T S (eT k ++ (2, [78, 79, 84]) :: ((2, [73, 78]) :: (5, [40]) :: (joinV l ++ (5, [41]) :: t :: V))) := by unfold insT at h; simpa using h
    obtain ⟨r1, r2, r3⟩ := levE3 (n := n + 23) k hk h' (by decide) (by decide)
    obtain ⟨m1, m2⟩ := r2.may (k := 2) (x := [78, 79, 84]) (by decide)
    have hx := m1
    rw [hj] at hx
    obtain ⟨p1, p2⟩ := hx.next
    obtain ⟨q1, q2⟩ := p1.open (x := [40]) (by decide) (by rw [p2, m2, r3, hd]; decide)
    rw [p2, m2, r3, hd] at q2
    obtain ⟨e1, e2, e3⟩ := exprs_to (T := T) (sub := lev T (n + 26) 7) (fun v S t V h ht => levE (n := n + 18) v h ht) l (n + 26) [] _ (t :: V) hl (by omega) (by simpa using hl2) (by rw [hj]; exact q1)
    obtain ⟨c1, c2⟩ := e2.close (x := [41]) (by simp) (by decide)
    rw [e3, q2] at c2
    obtain ⟨L, hL⟩ : ∃ L, L = exprsS T (lev T (n + 26) 7) (n + 26) (foE []) (openS T [40] (nextS T (mayS T 2 [78, 79, 84] (lev T (n + 23 + 3) 3 S).2))) := ⟨_, rfl⟩
    rw [← hL] at e1 c1 c2
    rw [testS_in (no := true) r1 rfl (signI_none r2 (by decide)) (by rw [r2.is]; decide) (by rw [r2.is]; decide) rfl (by rw [m1.is]; decide) hL.symm, e1]
    exact ⟨rfl, c1, c2.trans wrap_back⟩
end
/-- A condition, its tokens read. -/
theorem cond_to {l : List UInt8} {V : List Tv} {E : Ex} (hV : LexV l V) (hT : ∀ T S, At T S (V ++ [(0, [])]) → S.deep = 0 → To T (exprP T S) E [(0, [])] 0) (hn : V ≠ []) : condL l = E := by
  have s7 : LexV (32 :: l) V := LexV.skip 1 rfl rfl hV
  have s6 : LexV (87 :: 72 :: 69 :: 82 :: 69 :: 32 :: l) ((2, [87, 72, 69, 82, 69]) :: V) := LexV.tok 1 5 _ (by kernel_rfl) rfl (by decide) (by kernel_rfl) s7
  have s5 : LexV (32 :: 87 :: 72 :: 69 :: 82 :: 69 :: 32 :: l) ((2, [87, 72, 69, 82, 69]) :: V) := LexV.skip 1 rfl rfl s6
  have s4 : LexV (116 :: 32 :: 87 :: 72 :: 69 :: 82 :: 69 :: 32 :: l) ((1, [116]) :: (2, [87, 72, 69, 82, 69]) :: V) := LexV.tok 1 1 _ (by kernel_rfl) rfl (by decide) (by kernel_rfl) s5
  have s3 : LexV (32 :: 116 :: 32 :: 87 :: 72 :: 69 :: 82 :: 69 :: 32 :: l) ((1, [116]) :: (2, [87, 72, 69, 82, 69]) :: V) := LexV.skip 1 rfl rfl s4
  have s2 : LexV (70 :: 82 :: 79 :: 77 :: 32 :: 116 :: 32 :: 87 :: 72 :: 69 :: 82 :: 69 :: 32 :: l) ((2, [70, 82, 79, 77]) :: (1, [116]) :: (2, [87, 72, 69, 82, 69]) :: V) := LexV.tok 1 4 _ (by kernel_rfl) rfl (by decide) (by kernel_rfl) s3
  have s1 : LexV (32 :: 70 :: 82 :: 79 :: 77 :: 32 :: 116 :: 32 :: 87 :: 72 :: 69 :: 82 :: 69 :: 32 :: l) ((2, [70, 82, 79, 77]) :: (1, [116]) :: (2, [87, 72, 69, 82, 69]) :: V) := LexV.skip 1 rfl rfl s2
  have hL : LexV (dlL ++ l) ((2, [68, 69, 76, 69, 84, 69]) :: (2, [70, 82, 79, 77]) :: (1, [116]) :: (2, [87, 72, 69, 82, 69]) :: V) := LexV.tok 1 6 _ (by kernel_rfl) rfl (by decide) (by kernel_rfl) s1
  obtain ⟨ts, h1, h2⟩ := hL 0
  have hle : lexL (dlL ++ l) 0 = .ok ts := by unfold lexL; exact h2 _ (Nat.le_refl _)
  have hcl : condL l = parseW (ts ++ [⟨0, [], (dlL ++ l).length⟩]) := by unfold condL whereL; rw [hle]
  rw [hcl]
  obtain ⟨T, hTt⟩ : ∃ T, T = ts ++ [(⟨0, [], (dlL ++ l).length⟩ : Tk)] := ⟨_, rfl⟩
  rw [← hTt]
  have h0 : At T ⟨0, 0, 0, 0⟩ ((2, [68, 69, 76, 69, 84, 69]) :: (2, [70, 82, 79, 77]) :: (1, [116]) :: (2, [87, 72, 69, 82, 69]) :: (V ++ [(0, [])])) := by
    refine ⟨rfl, ?_⟩
    rw [hTt, List.drop_zero, List.map_append, h1]
    rfl
  obtain ⟨v, V', hv⟩ : ∃ v V', V ++ [((0, []) : Tv)] = v :: V' := by cases V with | nil => exact absurd rfl hn | cons v V => exact ⟨v, V ++ [(0, [])], rfl⟩
  obtain ⟨a1, a2⟩ := h0.next
  obtain ⟨b1, b2⟩ := a1.must (k := 2) (x := [70, 82, 79, 77]) (by decide)
  obtain ⟨c1, c2⟩ := b1.next
  have hnm : nameS T (mustS T 2 [70, 82, 79, 77] (nextS T ⟨0, 0, 0, 0⟩)) = ([116], nextS T (mustS T 2 [70, 82, 79, 77] (nextS T ⟨0, 0, 0, 0⟩))) := by
    unfold nameS namedS
    rw [b1.1, b1.kind, if_pos (by decide), b1.text, if_neg (by decide)]
  have hx := c1
  rw [hv] at hx
  obtain ⟨d1, d2⟩ := hx.next
  rw [← hv] at d1
  have hto := hT T _ d1 (by rw [d2, c2, b2, a2])
  obtain ⟨S1, hS1⟩ : ∃ S1, S1 = nextS T (mustS T 2 [70, 82, 79, 77] (nextS T ⟨0, 0, 0, 0⟩)) := ⟨_, rfl⟩
  have hc1 : isS T 2 [87, 72, 69, 82, 69] S1 = true := by rw [hS1, c1.is]; decide
  have hcl2 : clauseP T [87, 72, 69, 82, 69] S1 = exprP T (nextS T S1) := by unfold clauseP; rw [hc1, if_pos rfl]
  have hde : deleteP T ⟨0, 0, 0, 0⟩ = ([116], exprP T (nextS T S1)) := by
    rw [← hS1] at hnm
    rw [← hcl2]
    unfold deleteP
    rw [hnm]
  rw [← hS1] at hto
  obtain ⟨g1, g2, g3⟩ := hto
  revert hde g1 g2 g3
  generalize exprP T (nextS T S1) = r
  intro hde g1 g2 g3
  unfold parseW
  rw [hde]
  have hdone : doneP T r.2 = r.2 := by
    unfold doneP
    simp only [g2.mayNot (k := 5) (x := [59]) (by decide)]
    rw [if_neg (by rw [g2.kind]; simp)]
  show (if (doneP T r.2).err = 0 then r.1 else exZ) = E
  rw [hdone, if_pos g2.1]
  exact g1
end Go.Proofs.YtehgoioinogmkabGreatDoor
