/- The texts of ExprIns: their tokens, what the document's parser tells of them. -/
import Derived.Test.YtehgoioinogmkaaGreatDoorXSym
import Derived.Test.YtehgoioinogmkaaGreatDoorJXTy14XEv2
import Derived.Test.YtehgoioinogmkaaGreatDoorJXKnXShort
namespace Go.Proofs.YtehgoioinogmkaaGreatDoor
open Go.RowKit Go.Lib

section
variable {T : List Tk} {S : PS} {n : Nat} {t u : Tv} {V : List Tv}
theorem To.as {r : Ex × PS} {E E' : Ex} {d : Int} (h : To T r E V d) (he : E = E') : To T r E' V d := he ▸ h
theorem To.num {x : List UInt8} {E : Ex} (h : At T S ((3, x) :: u :: V)) (hx : x.length < 19) (hE : valE 2 (wrap64 (numF x)) [] = E) : To T (lev T (n + 1) 1 S) E (u :: V) S.deep := (At.num h hx).as hE
theorem wrap_back : wrap64 (wrap64 (0 + 1) - 1) = 0 := by kernel_rfl
end
/-- A condition, its tokens read. -/
theorem cond_to {l : List UInt8} {V : List Tv} {E : Ex} (hV : LexV l V) (hT : ∀ T S, At T S (V ++ [(0, [])]) → S.deep = 0 → To T (exprP T S) E [(0, [])] 0) (hn : V ≠ []) : condL l = E := by
  have s7 : LexV (32 :: l) V := LexV.skip 1 rfl rfl hV
  have s6 : LexV (87 :: 72 :: 69 :: 82 :: 69 :: 32 :: l) ((2, [87, 72, 69, 82, 69]) :: V) := LexV.tok 1 5 _ (by kernel_rfl) rfl (by decide) (by kernel_rfl) s7
  have s5 : LexV (32 :: 87 :: 72 :: 69 :: 82 :: 69 :: 32 :: l) ((2, [87, 72, 69, 82, 69]) :: V) := LexV.skip 1 rfl rfl s6
  have s4 : LexV (116 :: 32 :: 87 :: 72 :: 69 :: 82 :: 69 :: 32 :: l) ((1, [116]) :: (2, [87, 72, 69, 82, 69]) :: V) := LexV.tok 1 1 _ (by kernel_rfl) rfl (by decide) (by kernel_rfl) s5
  have s3 : LexV (32 :: 116 :: 32 :: 87 :: 72 :: 69 :: 82 :: 69 :: 32 :: l) ((1, [116]) :: (2, [87, 72, 69, 82, 69]) :: V) := LexV.skip 1 rfl rfl s4
  have s2 : LexV (70 :: 82 :: 79 :: 77 :: 32 :: 116 :: 32 :: 87 :: 72 :: 69 :: 82 :: 69 :: 32 :: l) ((2, [70, 82, 79, 77]) :: (1, [116]) :: (2, [87, 72, 69, 82, 69]) :: V) := LexV.tok 1 4 _ (by kernel_rfl) rfl (by decide) (by kernel_rfl) s3
  have s1 : LexV (32 :: 70 :: 82 :: 79 :: 77 :: 32 :: 116 :: 32 :: 87 :: 72 :: 69 :: 82 :: 69 :: 32 :: l) ((2, [70, 82, 79, 77]) :: (1, [116]) :: (2, [87, 72, 69, 82, 69]) :: V) := LexV.skip 1 rfl rfl s2
  have hL : LexV (dlL ++ l) ((2, [68, 69, 76, 69, 84, 69]) :: (2, [70, 82, 79, 77]) :: (1, [116]) :: (2, [87, 72, 69, 82, 69]) :: V) := LexV.tok 1 6 _ (by kernel_rfl) rfl (by decide) (by kernel_rfl) s1
  obtain ⟨ts, h1, h2⟩ := hL 0
  have hle : lexL (dlL ++ l) 0 = .ok ts := by unfold lexL; exact h2 _ (Nat.le_refl _)
  have hcl : condL l = parseW (ts ++ [⟨0, [], (dlL ++ l).length⟩]) := by unfold condL whereL; rw [hle]
  rw [hcl]
  obtain ⟨T, hTt⟩ : ∃ T, T = ts ++ [(⟨0, [], (dlL ++ l).length⟩ : Tk)] := ⟨_, rfl⟩
  rw [← hTt]
  have h0 : At T ⟨0, 0, 0, 0⟩ ((2, [68, 69, 76, 69, 84, 69]) :: (2, [70, 82, 79, 77]) :: (1, [116]) :: (2, [87, 72, 69, 82, 69]) :: (V ++ [(0, [])])) := by
    refine ⟨rfl, ?_⟩
    rw [hTt, List.drop_zero, List.map_append, h1]
    rfl
  obtain ⟨v, V', hv⟩ : ∃ v V', V ++ [((0, []) : Tv)] = v :: V' := by cases V with | nil => exact absurd rfl hn | cons v V => exact ⟨v, V ++ [(0, [])], rfl⟩
  obtain ⟨a1, a2⟩ := h0.next
  obtain ⟨b1, b2⟩ := a1.must (k := 2) (x := [70, 82, 79, 77]) (by decide)
  obtain ⟨c1, c2⟩ := b1.next
  have hnm : nameS T (mustS T 2 [70, 82, 79, 77] (nextS T ⟨0, 0, 0, 0⟩)) = ([116], nextS T (mustS T 2 [70, 82, 79, 77] (nextS T ⟨0, 0, 0, 0⟩))) := by
    unfold nameS namedS
    rw [b1.1, b1.kind, if_pos (by decide), b1.text, if_neg (by decide)]
  have hx := c1
  rw [hv] at hx
  obtain ⟨d1, d2⟩ := hx.next
  rw [← hv] at d1
  have hto := hT T _ d1 (by rw [d2, c2, b2, a2])
  obtain ⟨S1, hS1⟩ : ∃ S1, S1 = nextS T (mustS T 2 [70, 82, 79, 77] (nextS T ⟨0, 0, 0, 0⟩)) := ⟨_, rfl⟩
  have hc1 : isS T 2 [87, 72, 69, 82, 69] S1 = true := by rw [hS1, c1.is]; decide
  have hcl2 : clauseP T [87, 72, 69, 82, 69] S1 = exprP T (nextS T S1) := by unfold clauseP; rw [hc1, if_pos rfl]
  have hde : deleteP T ⟨0, 0, 0, 0⟩ = ([116], exprP T (nextS T S1)) := by
    rw [← hS1] at hnm
    rw [← hcl2]
    unfold deleteP
    rw [hnm]
  rw [← hS1] at hto
  obtain ⟨g1, g2, g3⟩ := hto
  revert hde g1 g2 g3
  generalize exprP T (nextS T S1) = r
  intro hde g1 g2 g3
  unfold parseW
  rw [hde]
  have hdone : doneP T r.2 = r.2 := by
    unfold doneP
    simp only [g2.mayNot (k := 5) (x := [59]) (by decide)]
    rw [if_neg (by rw [g2.kind]; simp)]
  show (if (doneP T r.2).err = 0 then r.1 else exZ) = E
  rw [hdone, if_pos g2.1]
  exact g1
end Go.Proofs.YtehgoioinogmkaaGreatDoor
/- The texts of ExprCases: their tokens, what the document's parser tells of them. -/
namespace Go.Proofs.YtehgoioinogmkaaGreatDoor
open Go.RowKit Go.Lib

def tB : Nat → List UInt8
  | 0 => [70, 65, 76, 83, 69]
  | 1 => [84, 82, 85, 69]
  | 2 => [78, 85, 76, 76]
  | _ => [49, 32, 47, 32, 48, 32, 61, 32, 49]
def tT : Nat → List Tv
  | 0 => [(2, [70, 65, 76, 83, 69])]
  | 1 => [(2, [84, 82, 85, 69])]
  | 2 => [(2, [78, 85, 76, 76])]
  | _ => [(3, [49]), (5, [47]), (3, [48]), (5, [61]), (3, [49])]
def tE : Nat → Ex
  | 0 => valE 1 0 []
  | 1 => valE 1 1 []
  | 2 => valE 0 0 []
  | _ => binE 5 (binE 14 (valE 2 1 []) (valE 2 0 [])) (valE 2 1 [])
/-- The value behind: a digit where the condition is True, else what errs. -/
def vB (k d : Nat) : List UInt8 := if k = 1 then [UInt8.ofNat (48 + d)] else [49, 32, 47, 32, 48]
def vT (k d : Nat) : List Tv := if k = 1 then [(3, [UInt8.ofNat (48 + d)])] else [(3, [49]), (5, [47]), (3, [48])]
def vE (k d : Nat) : Ex := if k = 1 then valE 2 (d : Int) [] else binE 14 (valE 2 1 []) (valE 2 0 [])
theorem dig_all {d : Nat} (h : d < 10) : (∀ r, pieceL (UInt8.ofNat (48 + d) :: 32 :: r) = .ok (3, 1)) ∧ tokL 3 [UInt8.ofNat (48 + d)] = (3, [UInt8.ofNat (48 + d)]) ∧ valE 2 (wrap64 (numF [UInt8.ofNat (48 + d)])) [] = valE 2 (d : Int) [] := by
  obtain rfl | rfl | rfl | rfl | rfl | rfl | rfl | rfl | rfl | rfl : d = 0 ∨ d = 1 ∨ d = 2 ∨ d = 3 ∨ d = 4 ∨ d = 5 ∨ d = 6 ∨ d = 7 ∨ d = 8 ∨ d = 9 := by omega
  all_goals exact ⟨fun r => by kernel_rfl, by kernel_rfl, by kernel_rfl⟩
theorem lexTr (k : Nat) {r : List UInt8} {V : List Tv} (h : LexV (32 :: r) V) : LexV (tB k ++ 32 :: r) (tT k ++ V) := by
  match k with
  | 0 => exact LexV.tok 1 5 (2, [70, 65, 76, 83, 69]) (by kernel_rfl) rfl (by decide) (by kernel_rfl) h
  | 1 => exact LexV.tok 1 4 (2, [84, 82, 85, 69]) (by kernel_rfl) rfl (by decide) (by kernel_rfl) h
  | 2 => exact LexV.tok 1 4 (2, [78, 85, 76, 76]) (by kernel_rfl) rfl (by decide) (by kernel_rfl) h
  | n + 3 =>
    have s1 : LexV (49 :: 32 :: r) ((3, [49]) :: V) := LexV.tok 3 1 _ (by kernel_rfl) rfl (by decide) (by kernel_rfl) h
    have s2 : LexV (32 :: 49 :: 32 :: r) ((3, [49]) :: V) := LexV.skip 1 rfl rfl s1
    have s3 : LexV (61 :: 32 :: 49 :: 32 :: r) ((5, [61]) :: (3, [49]) :: V) := LexV.tok 5 1 _ (by kernel_rfl) rfl (by decide) (by kernel_rfl) s2
    have s4 : LexV (32 :: 61 :: 32 :: 49 :: 32 :: r) ((5, [61]) :: (3, [49]) :: V) := LexV.skip 1 rfl rfl s3
    have s5 : LexV (48 :: 32 :: 61 :: 32 :: 49 :: 32 :: r) ((3, [48]) :: (5, [61]) :: (3, [49]) :: V) := LexV.tok 3 1 _ (by kernel_rfl) rfl (by decide) (by kernel_rfl) s4
    have s6 : LexV (32 :: 48 :: 32 :: 61 :: 32 :: 49 :: 32 :: r) ((3, [48]) :: (5, [61]) :: (3, [49]) :: V) := LexV.skip 1 rfl rfl s5
    have s7 : LexV (47 :: 32 :: 48 :: 32 :: 61 :: 32 :: 49 :: 32 :: r) ((5, [47]) :: (3, [48]) :: (5, [61]) :: (3, [49]) :: V) := LexV.tok 5 1 _ (by kernel_rfl) rfl (by decide) (by kernel_rfl) s6
    have s8 : LexV (32 :: 47 :: 32 :: 48 :: 32 :: 61 :: 32 :: 49 :: 32 :: r) ((5, [47]) :: (3, [48]) :: (5, [61]) :: (3, [49]) :: V) := LexV.skip 1 rfl rfl s7
    exact LexV.tok 3 1 (3, [49]) (by kernel_rfl) rfl (by decide) (by kernel_rfl) s8
theorem lexVal (k : Nat) {d : Nat} (hd : d < 10) {r : List UInt8} {V : List Tv} (h : LexV (32 :: r) V) : LexV (vB k d ++ 32 :: r) (vT k d ++ V) := by
  unfold vB vT
  by_cases hk : k = 1
  · rw [if_pos hk, if_pos hk]
    exact LexV.tok 3 1 _ ((dig_all hd).1 r) rfl (by decide) (dig_all hd).2.1 h
  · rw [if_neg hk, if_neg hk]
    have s5 : LexV (48 :: 32 :: r) ((3, [48]) :: V) := LexV.tok 3 1 _ (by kernel_rfl) rfl (by decide) (by kernel_rfl) h
    have s6 : LexV (32 :: 48 :: 32 :: r) ((3, [48]) :: V) := LexV.skip 1 rfl rfl s5
    have s7 : LexV (47 :: 32 :: 48 :: 32 :: r) ((5, [47]) :: (3, [48]) :: V) := LexV.tok 5 1 _ (by kernel_rfl) rfl (by decide) (by kernel_rfl) s6
    have s8 : LexV (32 :: 47 :: 32 :: 48 :: 32 :: r) ((5, [47]) :: (3, [48]) :: V) := LexV.skip 1 rfl rfl s7
    exact LexV.tok 3 1 (3, [49]) (by kernel_rfl) rfl (by decide) (by kernel_rfl) s8
/-- One WHEN with its value. -/
def clB (x : Nat × Nat) : List UInt8 := ([32, 87, 72, 69, 78, 32] ++ tB x.1) ++ [32, 84, 72, 69, 78, 32] ++ vB x.1 x.2
def clT (x : Nat × Nat) : List Tv := (2, [87, 72, 69, 78]) :: (tT x.1 ++ (2, [84, 72, 69, 78]) :: vT x.1 x.2)
theorem lexCl (x : Nat × Nat) (hd : x.2 < 10) {r : List UInt8} {V : List Tv} (h : LexV (32 :: r) V) : LexV (clB x ++ 32 :: r) (clT x ++ V) := by
  have s1 := lexVal x.1 hd h
  obtain ⟨c, q, hc⟩ : ∃ c q, vB x.1 x.2 ++ 32 :: r = c :: q := by unfold vB; split <;> exact ⟨_, _, rfl⟩
  have s2 : LexV (32 :: (vB x.1 x.2 ++ 32 :: r)) (vT x.1 x.2 ++ V) := LexV.skip 1 rfl rfl s1
  have s3 : LexV (84 :: 72 :: 69 :: 78 :: 32 :: (vB x.1 x.2 ++ 32 :: r)) ((2, [84, 72, 69, 78]) :: (vT x.1 x.2 ++ V)) := LexV.tok 1 4 _ (by kernel_rfl) rfl (by decide) (by kernel_rfl) s2
  have s4 : LexV (32 :: 84 :: 72 :: 69 :: 78 :: 32 :: (vB x.1 x.2 ++ 32 :: r)) ((2, [84, 72, 69, 78]) :: (vT x.1 x.2 ++ V)) := LexV.skip 1 rfl rfl s3
  have s5 := lexTr x.1 s4
  have s6 : LexV (32 :: (tB x.1 ++ 32 :: 84 :: 72 :: 69 :: 78 :: 32 :: (vB x.1 x.2 ++ 32 :: r))) (tT x.1 ++ (2, [84, 72, 69, 78]) :: (vT x.1 x.2 ++ V)) := LexV.skip 1 rfl rfl s5
  have s7 : LexV (87 :: 72 :: 69 :: 78 :: 32 :: (tB x.1 ++ 32 :: 84 :: 72 :: 69 :: 78 :: 32 :: (vB x.1 x.2 ++ 32 :: r))) ((2, [87, 72, 69, 78]) :: (tT x.1 ++ (2, [84, 72, 69, 78]) :: (vT x.1 x.2 ++ V))) := LexV.tok 1 4 _ (by kernel_rfl) rfl (by decide) (by kernel_rfl) s6
  have s8 : LexV (32 :: 87 :: 72 :: 69 :: 78 :: 32 :: (tB x.1 ++ 32 :: 84 :: 72 :: 69 :: 78 :: 32 :: (vB x.1 x.2 ++ 32 :: r))) ((2, [87, 72, 69, 78]) :: (tT x.1 ++ (2, [84, 72, 69, 78]) :: (vT x.1 x.2 ++ V))) := LexV.skip 1 rfl rfl s7
  have e1 : clB x ++ 32 :: r = 32 :: 87 :: 72 :: 69 :: 78 :: 32 :: (tB x.1 ++ 32 :: 84 :: 72 :: 69 :: 78 :: 32 :: (vB x.1 x.2 ++ 32 :: r)) := by unfold clB; simp
  have e2 : clT x ++ V = (2, [87, 72, 69, 78]) :: (tT x.1 ++ (2, [84, 72, 69, 78]) :: (vT x.1 x.2 ++ V)) := by unfold clT; simp
  rw [e1, e2]
  exact s8
theorem clB_head (x : Nat × Nat) : ∃ q, clB x = 32 :: q := ⟨_, rfl⟩
theorem lexCls : ∀ (l : List (Nat × Nat)) {r : List UInt8} {V : List Tv}, (∀ x ∈ l, x.2 < 10) → LexV (32 :: r) V → LexV (l.flatMap clB ++ 32 :: r) (l.flatMap clT ++ V)
  | [], _, _, _, h => h
  | x :: l, r, V, hd, h => by
    have h1 := lexCls l (fun y hy => hd y (List.mem_cons_of_mem _ hy)) h
    obtain ⟨q, hq⟩ : ∃ q, l.flatMap clB ++ 32 :: r = 32 :: q := by
      cases l with
      | nil => exact ⟨r, rfl⟩
      | cons y l => obtain ⟨q, hq⟩ := clB_head y; exact ⟨q ++ (l.flatMap clB ++ 32 :: r), by rw [List.flatMap_cons, hq]; simp⟩
    rw [hq] at h1
    have h2 := lexCl x (hd x (List.mem_cons_self ..)) h1
    rw [List.flatMap_cons, List.flatMap_cons, List.append_assoc, List.append_assoc, hq]
    exact h2
def elB (last : Bool) : List UInt8 := if last = true then [32, 69, 76, 83, 69, 32, 55, 55] else []
def elT (last : Bool) : List Tv := if last = true then [(2, [69, 76, 83, 69]), (3, [55, 55])] else []
def casB (l : List (Nat × Nat)) (last : Bool) : List UInt8 := ([67, 65, 83, 69] ++ l.flatMap clB) ++ elB last ++ [32, 69, 78, 68, 32, 61, 32, 53]
def casT (l : List (Nat × Nat)) (last : Bool) : List Tv := (2, [67, 65, 83, 69]) :: (l.flatMap clT ++ (elT last ++ [(2, [69, 78, 68]), (5, [61]), (3, [53])]))
theorem cas_lex (l : List (Nat × Nat)) (last : Bool) (hl : l ≠ []) (hd : ∀ x ∈ l, x.2 < 10) : LexV (casB l last) (casT l last) := by
  have s1 : LexV [53] [(3, [53])] := LexV.tok 3 1 _ (by kernel_rfl) rfl (by decide) (by kernel_rfl) LexV.nil
  have s2 : LexV [32, 53] [(3, [53])] := LexV.skip 1 rfl rfl s1
  have s3 : LexV [61, 32, 53] [(5, [61]), (3, [53])] := LexV.tok 5 1 _ (by kernel_rfl) rfl (by decide) (by kernel_rfl) s2
  have s4 : LexV [32, 61, 32, 53] [(5, [61]), (3, [53])] := LexV.skip 1 rfl rfl s3
  have s5 : LexV [69, 78, 68, 32, 61, 32, 53] [(2, [69, 78, 68]), (5, [61]), (3, [53])] := LexV.tok 1 3 _ (by kernel_rfl) rfl (by decide) (by kernel_rfl) s4
  have s6 : LexV [32, 69, 78, 68, 32, 61, 32, 53] [(2, [69, 78, 68]), (5, [61]), (3, [53])] := LexV.skip 1 rfl rfl s5
  have s7 : ∃ r, elB last ++ [32, 69, 78, 68, 32, 61, 32, 53] = 32 :: r ∧ LexV (32 :: r) (elT last ++ [(2, [69, 78, 68]), (5, [61]), (3, [53])]) := by
    cases last with
    | false => exact ⟨_, rfl, s6⟩
    | true =>
      have t1 : LexV [55, 55, 32, 69, 78, 68, 32, 61, 32, 53] [(3, [55, 55]), (2, [69, 78, 68]), (5, [61]), (3, [53])] := LexV.tok 3 2 _ (by kernel_rfl) rfl (by decide) (by kernel_rfl) s6
      have t2 : LexV [32, 55, 55, 32, 69, 78, 68, 32, 61, 32, 53] [(3, [55, 55]), (2, [69, 78, 68]), (5, [61]), (3, [53])] := LexV.skip 1 rfl rfl t1
      have t3 : LexV [69, 76, 83, 69, 32, 55, 55, 32, 69, 78, 68, 32, 61, 32, 53] [(2, [69, 76, 83, 69]), (3, [55, 55]), (2, [69, 78, 68]), (5, [61]), (3, [53])] := LexV.tok 1 4 _ (by kernel_rfl) rfl (by decide) (by kernel_rfl) t2
      exact ⟨_, rfl, LexV.skip 1 rfl rfl t3⟩
  obtain ⟨r, e, s8⟩ := s7
  have s9 := lexCls l hd s8
  rw [← e] at s9
  obtain ⟨q, hq⟩ : ∃ q, l.flatMap clB ++ (elB last ++ [32, 69, 78, 68, 32, 61, 32, 53]) = 32 :: q := by
    cases l with
    | nil => exact absurd rfl hl
    | cons y l => obtain ⟨q, hq⟩ := clB_head y; exact ⟨q ++ (l.flatMap clB ++ (elB last ++ [32, 69, 78, 68, 32, 61, 32, 53])), by rw [List.flatMap_cons, hq]; simp⟩
  rw [hq] at s9
  have s10 : LexV (67 :: 65 :: 83 :: 69 :: 32 :: q) ((2, [67, 65, 83, 69]) :: (l.flatMap clT ++ (elT last ++ [(2, [69, 78, 68]), (5, [61]), (3, [53])]))) := LexV.tok 1 4 _ (by kernel_rfl) rfl (by decide) (by kernel_rfl) s9
  have e3 : casB l last = 67 :: 65 :: 83 :: 69 :: 32 :: q := by
    rw [← hq]
    unfold casB
    simp
  rw [e3]
  exact s10
end Go.Proofs.YtehgoioinogmkaaGreatDoor
/- The conditions of ExprIns: resolved, reckoned. -/
namespace Go.Proofs.YtehgoioinogmkaaGreatDoor
open Go.RowKit Go.Lib

def tyE (E : Ex) (t : Int) : Ex := ({ E.1 with ty := t }, E.2)
theorem toL_foE : ∀ l : List Ex, toL (foE l) = l
  | [] => rfl
  | x :: l => by show x :: toL (foE l) = x :: l; rw [toL_foE l]
theorem foB_foE : ∀ l : List Ex, (l.all exB) = true → foB (foE l) = true
  | [], _ => rfl
  | x :: l, h => by
    rw [List.all_cons, Bool.and_eq_true] at h
    show ((ndB x.1 && foB x.2) && foB (foE l)) = true
    rw [foB_foE l h.2]
    have : exB x = true := h.1
    unfold exB at this
    rw [this]
    rfl
theorem simF_foE : ∀ l : List Ex, (l.all simE) = true → simF (foE l) = true
  | [], _ => rfl
  | x :: l, h => by
    rw [List.all_cons, Bool.and_eq_true] at h
    show ((simK x.1.kind && simF x.2) && simF (foE l)) = true
    rw [simF_foE l h.2]
    have : simE x = true := h.1
    unfold simE at this
    rw [this]
    rfl
end Go.Proofs.YtehgoioinogmkaaGreatDoor
