/- The texts of ExprCases: what the document's parser tells of them. -/
import Derived.Test.YtehgoioinogmkaaGreatDoorJXSym2XCasXIns
namespace Go.Proofs.YtehgoioinogmkaaGreatDoor
open Go.RowKit Go.Lib

section
variable {T : List Tk} {S : PS} {n : Nat} {t u : Tv} {V : List Tv}
theorem At.boo {b : Bool} (h : At T S ((2, if b = true then [84, 82, 85, 69] else [70, 65, 76, 83, 69]) :: u :: V)) : To T (lev T (n + 1) 1 S) (valE 1 (if b = true then 1 else 0) []) (u :: V) S.deep := by
  rw [lvl1]
  unfold factorS
  cases b with
  | true =>
    rw [h.is, if_neg (by decide), if_neg (by simp [h.1]), if_neg (by rw [h.kind]; decide), if_neg (by rw [h.kind]; decide), if_neg (by rw [h.kind]; decide), h.is, if_neg (by decide), h.is, if_pos (by decide)]
    exact ⟨rfl, h.next.1, h.next.2⟩
  | false =>
    rw [h.is, if_neg (by decide), if_neg (by simp [h.1]), if_neg (by rw [h.kind]; decide), if_neg (by rw [h.kind]; decide), if_neg (by rw [h.kind]; decide), h.is, if_neg (by decide), h.is, if_neg (by decide), h.is, if_pos (by decide)]
    exact ⟨rfl, h.next.1, h.next.2⟩
/-- A test with =. -/
theorem testS_eq {sub3 sub7 : PS → Ex × PS} {m : Nat} {E : Ex} {S1 : PS} (h1 : (sub3 S).1 = E) (h2 : (sub3 S).2 = S1) (hs : signI T S1 0 signsL = some 0) : testS T sub3 sub7 m S = (binE 5 E (sub3 (nextS T S1)).1, (sub3 (nextS T S1)).2) := by
  unfold testS
  simp only [h2, hs, h1]
  rfl
theorem signI_eq (h : At T S ((5, [61]) :: V)) : signI T S 0 signsL = some 0 := by
  unfold signsL
  rw [signI, h.is, if_pos (by decide)]
theorem To.eq {E E2 : Ex} {t2 : Tv} {V2 : List Tv} {d : Int} (h : To T (lev T n 3 S) E ((5, [61]) :: t2 :: V2) d) (h2 : ∀ S', At T S' (t2 :: V2) → To T (lev T n 3 S') E2 (t :: V) S'.deep) : To T (lev T (n + 1) 4 S) (binE 5 E E2) (t :: V) d := by
  obtain ⟨h3, h4, h5⟩ := h
  obtain ⟨n1, n2⟩ := h4.next
  obtain ⟨g1, g2, g3⟩ := h2 _ n1
  rw [lvl4, testS_eq h3 rfl (signI_eq h4), g1]
  exact ⟨rfl, g2, by rw [g3, n2, h5]⟩
theorem levTr (k : Nat) (h : At T S (tT k ++ t :: V)) (ht : t ∈ fullL) : To T (lev T (n + 8) 7 S) (tE k) (t :: V) S.deep := by
  have hn := full_no ht
  match k, h with
  | 0, h => exact To.up27 h (by decide) ((At.boo (b := false) (n := n + 1) h).up2 hn.1) ht
  | 1, h => exact To.up27 h (by decide) ((At.boo (b := true) (n := n + 1) h).up2 hn.1) ht
  | 2, h => exact To.up27 h (by decide) ((At.null (n := n + 1) h).up2 hn.1) ht
  | m + 3, h =>
    refine To.up47 (n := n + 5) h (by decide) ?_ ht
    have hq := (To.as (At.quot (n := n) (u := (5, [61])) (V := (3, [49]) :: t :: V) h (by decide) (by decide) (by decide)) (show _ = binE 14 (valE 2 1 []) (valE 2 0 []) by kernel_rfl)).up3 (by decide)
    exact To.eq (n := n + 4) hq fun S' h' => ((To.num (n := n + 1) h' (by decide) (by kernel_rfl)).up2 hn.1).up3 hn.2.1
theorem levVal (k d : Nat) (hd : d < 10) (h : At T S (vT k d ++ t :: V)) (ht : t ∈ fullL) : To T (lev T (n + 8) 7 S) (vE k d) (t :: V) S.deep := by
  have hn := full_no ht
  unfold vT at h
  unfold vE
  by_cases hk : k = 1
  · rw [if_pos hk] at h ⊢
    exact To.up27 h (by rfl) ((To.num (n := n + 1) h (by show 1 < 19; decide) (dig_all hd).2.2).up2 hn.1) ht
  · rw [if_neg hk] at h ⊢
    exact To.up27 h (by decide) (To.as (At.quot (n := n) h (by decide) (by decide) hn.1) (by kernel_rfl)) ht
def clE (x : Nat × Nat) : List Ex := [tE x.1, vE x.1 x.2]
theorem cases_to {sub : PS → Ex × PS} (hc : ∀ k S t V, At T S (tT k ++ t :: V) → t ∈ fullL → To T (sub S) (tE k) (t :: V) S.deep) (hv : ∀ k d S t V, d < 10 → At T S (vT k d ++ t :: V) → t ∈ fullL → To T (sub S) (vE k d) (t :: V) S.deep)
    (hu : u ∈ fullL) (hu2 : (u.1 == 2 && u.2 == [87, 72, 69, 78]) = false) :
    ∀ (l : List (Nat × Nat)) (m : Nat) (acc : List Ex) (S : PS), (∀ x ∈ l, x.2 < 10) → l.length ≤ m → acc.length + 2 * l.length ≤ 20 → (l = [] → acc ≠ []) → At T S (l.flatMap clT ++ u :: V) →
      (casesS T sub m (foE acc) S).1 = foE (acc ++ l.flatMap clE) ∧ At T (casesS T sub m (foE acc) S).2 (u :: V) ∧ (casesS T sub m (foE acc) S).2.deep = S.deep
  | [], 0, acc, S, _, _, _, _, h => by
    rw [casesS]
    exact ⟨by simp, h, rfl⟩
  | [], m + 1, acc, S, _, _, _, ha, h => by
    have h' : At T S (u :: V) := h
    rw [casesS, if_neg]
    · exact ⟨by simp, h', rfl⟩
    · rintro ⟨_, h2 | h2⟩
      · rw [cnt_foE] at h2
        exact ha rfl (List.eq_nil_of_length_eq_zero h2)
      · rw [h'.is, hu2] at h2
        cases h2
  | x :: l, 0, _, _, _, h, _, _, _ => absurd h (by simp)
  | x :: l, m + 1, acc, S, hd, hm, ha, _, h => by
    have h' : At T S ((2, [87, 72, 69, 78]) :: (tT x.1 ++ (2, [84, 72, 69, 78]) :: (vT x.1 x.2 ++ (l.flatMap clT ++ u :: V)))) := by
      rw [List.flatMap_cons, show clT x = (2, [87, 72, 69, 78]) :: (tT x.1 ++ (2, [84, 72, 69, 78]) :: vT x.1 x.2) from rfl] at h
      simpa using h
    obtain ⟨t1, V1, e1, hf⟩ : ∃ t1 V1, l.flatMap clT ++ u :: V = t1 :: V1 ∧ t1 ∈ fullL := by
      cases l with
      | nil => exact ⟨u, V, rfl, hu⟩
      | cons y l => exact ⟨_, _, by rw [List.flatMap_cons]; rfl, by decide⟩
    have hs : (if cnt (foE acc) = 20 then failS T 2 S else S) = S := if_neg (by rw [cnt_foE]; simp at ha; omega)
    obtain ⟨a, b, hab⟩ : ∃ a b, tT x.1 ++ (2, [84, 72, 69, 78]) :: (vT x.1 x.2 ++ (l.flatMap clT ++ u :: V)) = a :: b := by
      cases ht : tT x.1 with
      | nil => exact ⟨_, _, rfl⟩
      | cons a b => exact ⟨_, _, rfl⟩
    obtain ⟨a2, b2, hab2⟩ : ∃ a b, vT x.1 x.2 ++ (l.flatMap clT ++ u :: V) = a :: b := by
      cases ht : vT x.1 x.2 with
      | nil => exact ⟨t1, V1, by rw [e1]; rfl⟩
      | cons a b => exact ⟨_, _, rfl⟩
    rw [hab] at h'
    obtain ⟨p1, p2⟩ := h'.must (k := 2) (x := [87, 72, 69, 78]) (by decide)
    have hw : isS T 2 [87, 72, 69, 78] S = true := by rw [h'.is]; decide
    rw [← hab] at p1
    obtain ⟨c1, c2, c3⟩ := hc _ _ _ _ p1 (by decide)
    rw [hab2] at c2
    obtain ⟨q1, q2⟩ := c2.must (k := 2) (x := [84, 72, 69, 78]) (by decide)
    rw [← hab2, e1] at q1
    obtain ⟨v1, v2, v3⟩ := hv _ _ _ _ _ (hd x (List.mem_cons_self ..)) q1 hf
    rw [← e1] at v2
    have := cases_to hc hv hu hu2 l m (acc ++ clE x) _ (fun y hy => hd y (List.mem_cons_of_mem _ hy)) (by simpa using hm) (by simp [clE] at ha ⊢; omega) (fun _ => by simp [clE]) v2
    rw [casesS, if_pos ⟨h.1, .inr hw⟩]
    simp only [hs]
    rw [c1, v1]
    rw [show Fo.app (foE acc) (Fo.cons (tE x.1).1 (tE x.1).2 (Fo.cons (vE x.1 x.2).1 (vE x.1 x.2).2 .nil)) = foE (acc ++ clE x) from foE_app acc (clE x)]
    obtain ⟨r1, r2, r3⟩ := this
    refine ⟨by rw [r1, List.flatMap_cons, List.append_assoc], r2, by rw [r3, v3, q2, c3, p2]⟩
def csL (l : List (Nat × Nat)) (last : Bool) : List Ex := l.flatMap clE ++ (if last = true then [valE 2 77 []] else [])
def csE (l : List (Nat × Nat)) (last : Bool) : Ex := (⟨6, 0, 0, 0, [], [], [], 0, 0⟩, foE (csL l last))
def casE (l : List (Nat × Nat)) (last : Bool) : Ex := binE 5 (csE l last) (valE 2 5 [])
theorem case_to (l : List (Nat × Nat)) (last : Bool) (hl : l ≠ []) (hl2 : l.length ≤ 10) (hd : ∀ x ∈ l, x.2 < 10) (hdp : S.deep = 0) (h : At T S ((2, [67, 65, 83, 69]) :: (l.flatMap clT ++ (elT last ++ (2, [69, 78, 68]) :: t :: V)))) :
    To T (lev T (n + 30) 1 S) (csE l last) (t :: V) 0 := by
  rw [show n + 30 = (n + 29) + 1 from rfl, lvl1]
  obtain ⟨t1, V1, e1⟩ : ∃ t1 V1, l.flatMap clT ++ (elT last ++ (2, [69, 78, 68]) :: t :: V) = t1 :: V1 := by
    cases l with
    | nil => exact absurd rfl hl
    | cons y l => exact ⟨_, _, by rw [List.flatMap_cons]; rfl⟩
  have h' := h
  rw [e1] at h'
  have hfac : factorS T (lev T (n + 29) 1) (lev T (n + 29) 7) (n + 29) S = caseS T (lev T (n + 29) 7) (n + 29) S := by
    unfold factorS
    rw [h'.is, if_neg (by decide), if_neg (by simp [h'.1]), if_neg (by rw [h'.kind]; decide), if_neg (by rw [h'.kind]; decide), if_neg (by rw [h'.kind]; decide), h'.is, if_neg (by decide), h'.is, if_neg (by decide), h'.is, if_neg (by decide), h'.is, if_neg (by decide), h'.is, if_pos (by decide)]
  rw [hfac]
  obtain ⟨o1, o2⟩ := h'.open (x := [67, 65, 83, 69]) (by decide) (by rw [hdp]; decide)
  rw [hdp] at o2
  rw [← e1] at o1
  have hc : ∀ k S t V, At T S (tT k ++ t :: V) → t ∈ fullL → To T (lev T (n + 29) 7 S) (tE k) (t :: V) S.deep := fun k S t V h ht => levTr (n := n + 21) k h ht
  have hv : ∀ k d S t V, d < 10 → At T S (vT k d ++ t :: V) → t ∈ fullL → To T (lev T (n + 29) 7 S) (vE k d) (t :: V) S.deep := fun k d S t V hd h ht => levVal (n := n + 21) k d hd h ht
  obtain ⟨SO, hSO⟩ : ∃ SO, SO = openS T [67, 65, 83, 69] S := ⟨_, rfl⟩
  rw [← hSO] at o1 o2
  unfold caseS
  rw [← hSO]
  cases last with
  | false =>
    obtain ⟨r1, r2, r3⟩ := cases_to (T := T) (u := (2, [69, 78, 68])) (V := t :: V) hc hv (by decide) (by decide) l (n + 29) [] SO hd (by omega) (by simp; omega) (fun e => absurd e hl) o1
    obtain ⟨R, hR⟩ : ∃ R, R = casesS T (lev T (n + 29) 7) (n + 29) (foE []) SO := ⟨_, rfl⟩
    rw [← hR] at r1 r2 r3
    have hR' : casesS T (lev T (n + 29) 7) (n + 29) .nil SO = R := hR.symm
    rw [hR']
    obtain ⟨m1, m2⟩ := r2.must (k := 2) (x := [69, 78, 68]) (by decide)
    have he : isS T 2 [69, 76, 83, 69] R.2 = false := by rw [r2.is]; decide
    simp only [he, Bool.false_eq_true, if_false]
    refine ⟨?_, ?_, ?_⟩
    · show ((⟨6, 0, 0, 0, [], [], [], 0, 0⟩ : Nd), R.1) = _
      rw [r1]
      unfold csE csL
      simp
    · show At T (closeS T [] (mustS T 2 [69, 78, 68] R.2)) _
      unfold closeS
      rw [if_pos rfl]
      exact m1.deep _
    · show (closeS T [] (mustS T 2 [69, 78, 68] R.2)).deep = 0
      unfold closeS
      rw [if_pos rfl]
      show wrap64 ((mustS T 2 [69, 78, 68] R.2).deep - 1) = 0
      rw [m2, r3, o2]
      exact wrap_back
  | true =>
    have o1' : At T SO (l.flatMap clT ++ (2, [69, 76, 83, 69]) :: (3, [55, 55]) :: (2, [69, 78, 68]) :: t :: V) := o1
    obtain ⟨r1, r2, r3⟩ := cases_to (T := T) (u := (2, [69, 76, 83, 69])) (V := (3, [55, 55]) :: (2, [69, 78, 68]) :: t :: V) hc hv (by decide) (by decide) l (n + 29) [] SO hd (by omega) (by simp; omega) (fun e => absurd e hl) o1'
    obtain ⟨R, hR⟩ : ∃ R, R = casesS T (lev T (n + 29) 7) (n + 29) (foE []) SO := ⟨_, rfl⟩
    rw [← hR] at r1 r2 r3
    have hR' : casesS T (lev T (n + 29) 7) (n + 29) .nil SO = R := hR.symm
    rw [hR']
    obtain ⟨x1, x2⟩ := r2.next
    have hnm : To T (lev T (n + 29) 7 (nextS T R.2)) (valE 2 77 []) ((2, [69, 78, 68]) :: t :: V) (nextS T R.2).deep := To.up27 (n := n + 24) x1 (by decide) ((To.num (n := n + 22) x1 (by decide) (by kernel_rfl)).up2 (by decide)) (by decide)
    obtain ⟨g1, g2, g3⟩ := hnm
    obtain ⟨m1, m2⟩ := g2.must (k := 2) (x := [69, 78, 68]) (by decide)
    have he : isS T 2 [69, 76, 83, 69] R.2 = true := by rw [r2.is]; decide
    simp only [he, if_true]
    refine ⟨?_, ?_, ?_⟩
    · show ((⟨6, 0, 0, 0, [], [], [], 0, 0⟩ : Nd), Fo.app R.1 (Fo.cons (lev T (n + 29) 7 (nextS T R.2)).1.1 (lev T (n + 29) 7 (nextS T R.2)).1.2 .nil)) = _
      rw [r1, g1, foE_snoc]
      unfold csE csL
      simp
    · show At T (closeS T [] (mustS T 2 [69, 78, 68] (lev T (n + 29) 7 (nextS T R.2)).2)) _
      unfold closeS
      rw [if_pos rfl]
      exact m1.deep _
    · show (closeS T [] (mustS T 2 [69, 78, 68] (lev T (n + 29) 7 (nextS T R.2)).2)).deep = 0
      unfold closeS
      rw [if_pos rfl]
      show wrap64 ((mustS T 2 [69, 78, 68] (lev T (n + 29) 7 (nextS T R.2)).2).deep - 1) = 0
      rw [m2, g3, x2, r3, o2]
      exact wrap_back
theorem cas_to (l : List (Nat × Nat)) (last : Bool) (hl : l ≠ []) (hl2 : l.length ≤ 10) (hd : ∀ x ∈ l, x.2 < 10) (hdp : S.deep = 0) (ht : t ∈ fullL) (h : At T S (casT l last ++ t :: V)) : To T (lev T (n + 40) 7 S) (casE l last) (t :: V) 0 := by
  have hn := full_no ht
  have h' : At T S ((2, [67, 65, 83, 69]) :: (l.flatMap clT ++ (elT last ++ (2, [69, 78, 68]) :: (5, [61]) :: (3, [53]) :: t :: V))) := by
    unfold casT at h
    simpa using h
  refine To.up47 (n := n + 37) h' (by decide) ?_ ht
  have hc := ((case_to (n := n + 4) (t := (5, [61])) (V := (3, [53]) :: t :: V) l last hl hl2 hd hdp h').up2 (by decide)).up3 (by decide)
  exact To.eq (n := n + 36) hc fun S' h2 => ((To.num (n := n + 33) h2 (by decide) (by kernel_rfl)).up2 hn.1).up3 hn.2.1
end
theorem cas_cond (l : List (Nat × Nat)) (last : Bool) (hl : l ≠ []) (hl2 : l.length ≤ 10) (hd : ∀ x ∈ l, x.2 < 10) : condL (casB l last) = casE l last := by
  refine cond_to (cas_lex l last hl hd) (fun T S h hdp => ?_) (by unfold casT; simp)
  have := cas_to (n := 39960) l last hl hl2 hd hdp (t := (0, [])) (V := []) (by decide) h
  unfold exprP
  exact this
end Go.Proofs.YtehgoioinogmkaaGreatDoor
