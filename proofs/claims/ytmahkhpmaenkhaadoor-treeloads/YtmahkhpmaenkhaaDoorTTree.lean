/- Trees, without the program. -/
import Derived.Test.YtmahkhpmaenkhaaDoorTCmp
namespace Go.Proofs.YtmahkhpmaenkhaaDoor
open Go.RowKit Go.Lib

/-- Items, and lists of what stands ahead of, between and behind them (or none), as one list. -/
def weave : List It → List (List It) → List It
  | its, [] => its
  | [], k :: _ => k
  | x :: xs, k :: ks => k ++ x :: weave xs ks
theorem weave_nil (its : List It) : weave its [] = its := by cases its <;> rfl
theorem weave_one (k : List It) (ks : List (List It)) : weave [] (k :: ks) = k := rfl
theorem weave_cons (x : It) (xs : List It) (k : List It) (ks : List (List It)) : weave (x :: xs) (k :: ks) = k ++ x :: weave xs ks := rfl
/-- What stands ahead of a kid. -/
def wpre : List It → List (List It) → List It
  | x :: xs, k :: ks => k ++ x :: wpre xs ks
  | _, _ => []
/-- What stands behind it. -/
def wpost : List It → List (List It) → List It
  | [], _ => []
  | x :: xs, ks => x :: weave xs ks
theorem weave_split : ∀ (a : List It) (c : List (List It)) (b : List It) (k : List It) (d : List (List It)), a.length = c.length → (b = [] ∨ d ≠ []) → weave (a ++ b) (c ++ k :: d) = wpre a c ++ k ++ wpost b d
  | [], [], b, k, d, _, hbd => by
    cases b with
    | nil => simp [weave, wpre, wpost]
    | cons x b => simp [weave, wpre, wpost]
  | [], _ :: _, _, _, _, h, _ => by simp at h
  | _ :: _, [], _, _, _, h, _ => by simp at h
  | x :: a, y :: c, b, k, d, h, hbd => by
    have ih := weave_split a c b k d (by simpa using h) hbd
    simp only [List.cons_append, weave_cons, wpre, ih]
    simp
/-- Two kids and the item between them make one. -/
theorem weave_merge : ∀ (a : List It) (c : List (List It)) (x : It) (b : List It) (l r : List It) (d : List (List It)), a.length = c.length → (b = [] ∨ d ≠ []) → weave (a ++ x :: b) (c ++ l :: r :: d) = weave (a ++ b) (c ++ (l ++ x :: r) :: d)
  | [], [], x, b, l, r, d, _, _ => by
    cases b with
    | nil => simp [weave]
    | cons y b => simp [weave]
  | [], _ :: _, _, _, _, _, _, h, _ => by simp at h
  | _ :: _, [], _, _, _, _, _, h, _ => by simp at h
  | z :: a, y :: c, x, b, l, r, d, h, hb => by
    have ih := weave_merge a c x b l r d (by simpa using h) hb
    simp only [List.cons_append, weave_cons, ih]
/-- Two nodes' items and kids, with an item between, make one's. -/
theorem weave_join : ∀ (a : List It) (c : List (List It)) (x : It) (b : List It) (d : List (List It)), c.length = a.length + 1 → d ≠ [] → weave (a ++ x :: b) (c ++ d) = weave a c ++ x :: weave b d
  | [], [k], x, b, d, _, hd => by
    cases d with
    | nil => exact absurd rfl hd
    | cons y d => simp [weave]
  | [], [], _, _, _, h, _ => by simp at h
  | [], _ :: _ :: _, _, _, _, h, _ => by simp at h
  | _ :: _, [], _, _, _, h, _ => by simp at h
  | z :: a, y :: c, x, b, d, h, hd => by
    have ih := weave_join a c x b d (by simpa using h) hd
    simp only [List.cons_append, weave_cons, ih]
    simp

def BT : Nat → Type
  | 0 => Unit
  | d + 1 => List It × List (BT d)
abbrev BT.its {d : Nat} (t : BT (d + 1)) : List It := Prod.fst (β := List (BT d)) t
abbrev BT.kids {d : Nat} (t : BT (d + 1)) : List (BT d) := Prod.snd (α := List It) t
def BT.mk {d : Nat} (its : List It) (kids : List (BT d)) : BT (d + 1) := (its, kids)
theorem BT.its_mk {d : Nat} (its : List It) (kids : List (BT d)) : (BT.mk its kids).its = its := rfl
theorem BT.kids_mk {d : Nat} (its : List It) (kids : List (BT d)) : (BT.mk its kids).kids = kids := rfl
/-- All items of a tree, in order. -/
def flat : (d : Nat) → BT (d + 1) → List It
  | 0, t => t.its
  | d + 1, t => weave t.its (t.kids.map (flat d))
/-- A tree's form: a leaf has no kids, an inner node one more than items; a kid has one item at least, fifteen at most. -/
def Shp : (d : Nat) → BT (d + 1) → Prop
  | 0, t => t.kids = []
  | d + 1, t => t.kids.length = t.its.length + 1 ∧ ∀ k ∈ t.kids, Shp d k ∧ 1 ≤ k.its.length ∧ k.its.length ≤ 15
def Fine (d : Nat) (t : BT (d + 1)) : Prop := Shp d t ∧ 1 ≤ t.its.length ∧ t.its.length ≤ 15
theorem flat_zero (t : BT 1) : flat 0 t = t.its := rfl
theorem flat_succ {d : Nat} (t : BT (d + 2)) : flat (d + 1) t = weave t.its (t.kids.map (flat d)) := rfl
theorem shp_zero {t : BT 1} : Shp 0 t ↔ t.kids = [] := Iff.rfl
theorem shp_succ {d : Nat} {t : BT (d + 2)} : Shp (d + 1) t ↔ t.kids.length = t.its.length + 1 ∧ ∀ k ∈ t.kids, Fine d k := Iff.rfl
/-- The same, whatever its height: as items and kids. -/
theorem flat_weave {d : Nat} (t : BT (d + 1)) (h : Shp d t) : ∃ L : List (List It), L.length = t.kids.length ∧ flat d t = weave t.its L := by
  cases d with
  | zero => exact ⟨[], by rw [shp_zero.1 h]; rfl, (weave_nil _).symm⟩
  | succ d => exact ⟨t.kids.map (flat d), by simp, rfl⟩

/-- Two kids and the item between them as one kid. -/
theorem flat_both {d : Nat} {l r : BT (d + 1)} (x : It) (hl : Shp d l) (hr : Shp d r) : flat d (BT.mk (l.its ++ x :: r.its) (l.kids ++ r.kids)) = flat d l ++ x :: flat d r ∧ Shp d (BT.mk (l.its ++ x :: r.its) (l.kids ++ r.kids)) := by
  cases d with
  | zero =>
    have e1 := shp_zero.1 hl
    have e2 := shp_zero.1 hr
    refine ⟨rfl, shp_zero.2 ?_⟩
    rw [BT.kids_mk, e1, e2]; rfl
  | succ d =>
    obtain ⟨l1, l2⟩ := shp_succ.1 hl
    obtain ⟨r1, r2⟩ := shp_succ.1 hr
    refine ⟨?_, shp_succ.2 ⟨?_, fun k hk => ?_⟩⟩
    · rw [flat_succ, BT.its_mk, BT.kids_mk, List.map_append, weave_join _ _ _ _ _ (by simp [l1]) (by intro h; have := congrArg List.length h; simp [r1] at this)]
      rfl
    · rw [BT.its_mk, BT.kids_mk, List.length_append, List.length_append, List.length_cons, l1, r1]; omega
    · rw [BT.kids_mk] at hk
      exact (List.mem_append.1 hk).elim (l2 k) (r2 k)
/-- A node cut at item h. -/
theorem flat_cut {d : Nat} {t : BT (d + 1)} {h : Nat} {x : It} (ht : Shp d t) (hx : t.its[h]? = some x) :
    flat d t = flat d (BT.mk (t.its.take h) (t.kids.take (h + 1))) ++ x :: flat d (BT.mk (t.its.drop (h + 1)) (t.kids.drop (h + 1))) ∧ Shp d (BT.mk (t.its.take h) (t.kids.take (h + 1))) ∧ Shp d (BT.mk (t.its.drop (h + 1)) (t.kids.drop (h + 1))) := by
  obtain ⟨hl, hx'⟩ := List.getElem?_eq_some_iff.1 hx
  have e1 : t.its = t.its.take h ++ x :: t.its.drop (h + 1) := by rw [← hx', List.getElem_cons_drop, List.take_append_drop]
  have s1 : Shp d (BT.mk (t.its.take h) (t.kids.take (h + 1))) := by
    cases d with
    | zero => exact shp_zero.2 (by rw [BT.kids_mk, shp_zero.1 ht]; rfl)
    | succ d =>
      obtain ⟨t1, t2⟩ := shp_succ.1 ht
      exact shp_succ.2 ⟨by rw [BT.its_mk, BT.kids_mk, List.length_take, List.length_take]; omega, fun k hk => t2 k (List.mem_of_mem_take hk)⟩
  have s2 : Shp d (BT.mk (t.its.drop (h + 1)) (t.kids.drop (h + 1))) := by
    cases d with
    | zero => exact shp_zero.2 (by rw [BT.kids_mk, shp_zero.1 ht]; rfl)
    | succ d =>
      obtain ⟨t1, t2⟩ := shp_succ.1 ht
      exact shp_succ.2 ⟨by rw [BT.its_mk, BT.kids_mk, List.length_drop, List.length_drop]; omega, fun k hk => t2 k (List.mem_of_mem_drop hk)⟩
  refine ⟨?_, s1, s2⟩
  rw [← (flat_both x s1 s2).1]
  simp only [BT.its_mk, BT.kids_mk]
  rw [List.take_append_drop, ← e1]
  rfl
/-- A node with kid k among its kids: ahead, k's items, behind. -/
theorem flat_around {d : Nat} {t : BT (d + 2)} {i : Nat} {k : BT (d + 1)} (hn : t.kids.length = t.its.length + 1) (hk : t.kids[i]? = some k) :
    ∃ A B : List It, flat (d + 1) t = A ++ flat d k ++ B ∧ A = wpre (t.its.take i) ((t.kids.take i).map (flat d)) ∧ B = wpost (t.its.drop i) ((t.kids.drop (i + 1)).map (flat d)) ∧ ∀ k' : BT (d + 1), flat (d + 1) (BT.mk t.its (t.kids.take i ++ k' :: t.kids.drop (i + 1))) = A ++ flat d k' ++ B := by
  obtain ⟨hl, hk'⟩ := List.getElem?_eq_some_iff.1 hk
  have gen : ∀ k' : BT (d + 1), flat (d + 1) (BT.mk t.its (t.kids.take i ++ k' :: t.kids.drop (i + 1))) = wpre (t.its.take i) ((t.kids.take i).map (flat d)) ++ flat d k' ++ wpost (t.its.drop i) ((t.kids.drop (i + 1)).map (flat d)) := by
    intro k'
    rw [flat_succ, BT.its_mk, BT.kids_mk, List.map_append, List.map_cons]
    conv => lhs; rw [← List.take_append_drop i t.its]
    rw [weave_split]
    · simp; omega
    · rcases Nat.lt_or_ge i t.its.length with h | h
      · right; intro e; have := congrArg List.length e; simp at this; omega
      · left; exact List.drop_eq_nil_of_le h
  refine ⟨_, _, ?_, rfl, rfl, gen⟩
  rw [← gen k]
  have e1 : t.kids = t.kids.take i ++ k :: t.kids.drop (i + 1) := by rw [← hk', List.getElem_cons_drop, List.take_append_drop]
  conv => lhs; rw [show t = BT.mk t.its t.kids from rfl, e1]
end Go.Proofs.YtmahkhpmaenkhaaDoor
