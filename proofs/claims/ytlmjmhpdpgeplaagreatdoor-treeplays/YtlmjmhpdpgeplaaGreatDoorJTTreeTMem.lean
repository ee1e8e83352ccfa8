/- Trees, without the program. -/
import Derived.Test.YtlmjmhpdpgeplaaGreatDoorTCmp
import Derived.Deep.LoopGhost
import Derived.Laws.AppendOwnNone
import Derived.BigRegion
namespace Go.Proofs.YtlmjmhpdpgeplaaGreatDoor
open Go.RowKit Go.Lib

/-- Items, and lists of what stands ahead of, between and behind them (or none), as one list. -/
def weave : List It → List (List It) → List It
  | its, [] => its
  | [], k :: _ => k
  | x :: xs, k :: ks => k ++ x :: weave xs ks
theorem weave_nil (its : List It) : weave its [] = its := by cases its <;> rfl
theorem weave_one (k : List It) (ks : List (List It)) : weave [] (k :: ks) = k := rfl
theorem weave_cons (x : It) (xs : List It) (k : List It) (ks : List (List It)) : weave (x :: xs) (k :: ks) = k ++ x :: weave xs ks := rfl
/-- What stands ahead of a kid. -/
def wpre : List It → List (List It) → List It
  | x :: xs, k :: ks => k ++ x :: wpre xs ks
  | _, _ => []
/-- What stands behind it. -/
def wpost : List It → List (List It) → List It
  | [], _ => []
  | x :: xs, ks => x :: weave xs ks
theorem weave_split : ∀ (a : List It) (c : List (List It)) (b : List It) (k : List It) (d : List (List It)), a.length = c.length → (b = [] ∨ d ≠ []) → weave (a ++ b) (c ++ k :: d) = wpre a c ++ k ++ wpost b d
  | [], [], b, k, d, _, hbd => by
    cases b with
    | nil => simp [weave, wpre, wpost]
    | cons x b => simp [weave, wpre, wpost]
  | [], _ :: _, _, _, _, h, _ => by simp at h
  | _ :: _, [], _, _, _, h, _ => by simp at h
  | x :: a, y :: c, b, k, d, h, hbd => by
    have ih := weave_split a c b k d (by simpa using h) hbd
    simp only [List.cons_append, weave_cons, wpre, ih]
    simp
/-- Two kids and the item between them make one. -/
theorem weave_merge : ∀ (a : List It) (c : List (List It)) (x : It) (b : List It) (l r : List It) (d : List (List It)), a.length = c.length → (b = [] ∨ d ≠ []) → weave (a ++ x :: b) (c ++ l :: r :: d) = weave (a ++ b) (c ++ (l ++ x :: r) :: d)
  | [], [], x, b, l, r, d, _, _ => by
    cases b with
    | nil => simp [weave]
    | cons y b => simp [weave]
  | [], _ :: _, _, _, _, _, _, h, _ => by simp at h
  | _ :: _, [], _, _, _, _, _, h, _ => by simp at h
  | z :: a, y :: c, x, b, l, r, d, h, hb => by
    have ih := weave_merge a c x b l r d (by simpa using h) hb
    simp only [List.cons_append, weave_cons, ih]
/-- Two nodes' items and kids, with an item between, make one's. -/
theorem weave_join : ∀ (a : List It) (c : List (List It)) (x : It) (b : List It) (d : List (List It)), c.length = a.length + 1 → d ≠ [] → weave (a ++ x :: b) (c ++ d) = weave a c ++ x :: weave b d
  | [], [k], x, b, d, _, hd => by
    cases d with
    | nil => exact absurd rfl hd
    | cons y d => simp [weave]
  | [], [], _, _, _, h, _ => by simp at h
  | [], _ :: _ :: _, _, _, _, h, _ => by simp at h
  | _ :: _, [], _, _, _, h, _ => by simp at h
  | z :: a, y :: c, x, b, d, h, hd => by
    have ih := weave_join a c x b d (by simpa using h) hd
    simp only [List.cons_append, weave_cons, ih]
    simp

def BT : Nat → Type
  | 0 => Unit
  | d + 1 => List It × List (BT d)
abbrev BT.its {d : Nat} (t : BT (d + 1)) : List It := Prod.fst (β := List (BT d)) t
abbrev BT.kids {d : Nat} (t : BT (d + 1)) : List (BT d) := Prod.snd (α := List It) t
def BT.mk {d : Nat} (its : List It) (kids : List (BT d)) : BT (d + 1) := (its, kids)
theorem BT.its_mk {d : Nat} (its : List It) (kids : List (BT d)) : (BT.mk its kids).its = its := rfl
theorem BT.kids_mk {d : Nat} (its : List It) (kids : List (BT d)) : (BT.mk its kids).kids = kids := rfl
/-- All items of a tree, in order. -/
def flat : (d : Nat) → BT (d + 1) → List It
  | 0, t => t.its
  | d + 1, t => weave t.its (t.kids.map (flat d))
/-- A tree's form: a leaf has no kids, an inner node one more than items; a kid has one item at least, fifteen at most. -/
def Shp : (d : Nat) → BT (d + 1) → Prop
  | 0, t => t.kids = []
  | d + 1, t => t.kids.length = t.its.length + 1 ∧ ∀ k ∈ t.kids, Shp d k ∧ 1 ≤ k.its.length ∧ k.its.length ≤ 15
def Fine (d : Nat) (t : BT (d + 1)) : Prop := Shp d t ∧ 1 ≤ t.its.length ∧ t.its.length ≤ 15
theorem flat_zero (t : BT 1) : flat 0 t = t.its := rfl
theorem flat_succ {d : Nat} (t : BT (d + 2)) : flat (d + 1) t = weave t.its (t.kids.map (flat d)) := rfl
theorem shp_zero {t : BT 1} : Shp 0 t ↔ t.kids = [] := Iff.rfl
theorem shp_succ {d : Nat} {t : BT (d + 2)} : Shp (d + 1) t ↔ t.kids.length = t.its.length + 1 ∧ ∀ k ∈ t.kids, Fine d k := Iff.rfl
/-- The same, whatever its height: as items and kids. -/
theorem flat_weave {d : Nat} (t : BT (d + 1)) (h : Shp d t) : ∃ L : List (List It), L.length = t.kids.length ∧ flat d t = weave t.its L := by
  cases d with
  | zero => exact ⟨[], by rw [shp_zero.1 h]; rfl, (weave_nil _).symm⟩
  | succ d => exact ⟨t.kids.map (flat d), by simp, rfl⟩

/-- Two kids and the item between them as one kid. -/
theorem flat_both {d : Nat} {l r : BT (d + 1)} (x : It) (hl : Shp d l) (hr : Shp d r) : flat d (BT.mk (l.its ++ x :: r.its) (l.kids ++ r.kids)) = flat d l ++ x :: flat d r ∧ Shp d (BT.mk (l.its ++ x :: r.its) (l.kids ++ r.kids)) := by
  cases d with
  | zero =>
    have e1 := shp_zero.1 hl
    have e2 := shp_zero.1 hr
    refine ⟨rfl, shp_zero.2 ?_⟩
    rw [BT.kids_mk, e1, e2]; rfl
  | succ d =>
    obtain ⟨l1, l2⟩ := shp_succ.1 hl
    obtain ⟨r1, r2⟩ := shp_succ.1 hr
    refine ⟨?_, shp_succ.2 ⟨?_, fun k hk => ?_⟩⟩
    · rw [flat_succ, BT.its_mk, BT.kids_mk, List.map_append, weave_join _ _ _ _ _ (by simp [l1]) (by intro h; have := congrArg List.length h; simp [r1] at this)]
      rfl
    · rw [BT.its_mk, BT.kids_mk, List.length_append, List.length_append, List.length_cons, l1, r1]; omega
    · rw [BT.kids_mk] at hk
      exact (List.mem_append.1 hk).elim (l2 k) (r2 k)
/-- A node cut at item h. -/
theorem flat_cut {d : Nat} {t : BT (d + 1)} {h : Nat} {x : It} (ht : Shp d t) (hx : t.its[h]? = some x) :
    flat d t = flat d (BT.mk (t.its.take h) (t.kids.take (h + 1))) ++ x :: flat d (BT.mk (t.its.drop (h + 1)) (t.kids.drop (h + 1))) ∧ Shp d (BT.mk (t.its.take h) (t.kids.take (h + 1))) ∧ Shp d (BT.mk (t.its.drop (h + 1)) (t.kids.drop (h + 1))) := by
  obtain ⟨hl, hx'⟩ := List.getElem?_eq_some_iff.1 hx
  have e1 : t.its = t.its.take h ++ x :: t.its.drop (h + 1) := by rw [← hx', List.getElem_cons_drop, List.take_append_drop]
  have s1 : Shp d (BT.mk (t.its.take h) (t.kids.take (h + 1))) := by
    cases d with
    | zero => exact shp_zero.2 (by rw [BT.kids_mk, shp_zero.1 ht]; rfl)
    | succ d =>
      obtain ⟨t1, t2⟩ := shp_succ.1 ht
      exact shp_succ.2 ⟨by rw [BT.its_mk, BT.kids_mk, List.length_take, List.length_take]; omega, fun k hk => t2 k (List.mem_of_mem_take hk)⟩
  have s2 : Shp d (BT.mk (t.its.drop (h + 1)) (t.kids.drop (h + 1))) := by
    cases d with
    | zero => exact shp_zero.2 (by rw [BT.kids_mk, shp_zero.1 ht]; rfl)
    | succ d =>
      obtain ⟨t1, t2⟩ := shp_succ.1 ht
      exact shp_succ.2 ⟨by rw [BT.its_mk, BT.kids_mk, List.length_drop, List.length_drop]; omega, fun k hk => t2 k (List.mem_of_mem_drop hk)⟩
  refine ⟨?_, s1, s2⟩
  rw [← (flat_both x s1 s2).1]
  simp only [BT.its_mk, BT.kids_mk]
  rw [List.take_append_drop, ← e1]
  rfl
/-- A node with kid k among its kids: ahead, k's items, behind. -/
theorem flat_around {d : Nat} {t : BT (d + 2)} {i : Nat} {k : BT (d + 1)} (hn : t.kids.length = t.its.length + 1) (hk : t.kids[i]? = some k) :
    ∃ A B : List It, flat (d + 1) t = A ++ flat d k ++ B ∧ A = wpre (t.its.take i) ((t.kids.take i).map (flat d)) ∧ B = wpost (t.its.drop i) ((t.kids.drop (i + 1)).map (flat d)) ∧ ∀ k' : BT (d + 1), flat (d + 1) (BT.mk t.its (t.kids.take i ++ k' :: t.kids.drop (i + 1))) = A ++ flat d k' ++ B := by
  obtain ⟨hl, hk'⟩ := List.getElem?_eq_some_iff.1 hk
  have gen : ∀ k' : BT (d + 1), flat (d + 1) (BT.mk t.its (t.kids.take i ++ k' :: t.kids.drop (i + 1))) = wpre (t.its.take i) ((t.kids.take i).map (flat d)) ++ flat d k' ++ wpost (t.its.drop i) ((t.kids.drop (i + 1)).map (flat d)) := by
    intro k'
    rw [flat_succ, BT.its_mk, BT.kids_mk, List.map_append, List.map_cons]
    conv => lhs; rw [← List.take_append_drop i t.its]
    rw [weave_split]
    · simp; omega
    · rcases Nat.lt_or_ge i t.its.length with h | h
      · right; intro e; have := congrArg List.length e; simp at this; omega
      · left; exact List.drop_eq_nil_of_le h
  refine ⟨_, _, ?_, rfl, rfl, gen⟩
  rw [← gen k]
  have e1 : t.kids = t.kids.take i ++ k :: t.kids.drop (i + 1) := by rw [← hk', List.getElem_cons_drop, List.take_append_drop]
  conv => lhs; rw [show t = BT.mk t.its t.kids from rfl, e1]
end Go.Proofs.YtlmjmhpdpgeplaaGreatDoor
/- Rows of elements of two cells (items, nodes); nodes in memory. -/
namespace Go.Proofs.YtlmjmhpdpgeplaaGreatDoor
open Go.RowKit Go.Lib

/-- Elements' cells, one behind the other. -/
def c2 (l : List (Value × Value)) : List Value := l.flatMap fun x => [x.1, x.2]
theorem c2_app (a b : List (Value × Value)) : c2 (a ++ b) = c2 a ++ c2 b := by simp [c2]
theorem c2_len : ∀ l : List (Value × Value), (c2 l).length = l.length * 2
  | [] => rfl
  | x :: l => by have := c2_len l; unfold c2 at this; rw [c2, List.flatMap_cons, List.length_append, this, List.length_cons, List.length_cons, List.length_cons, List.length_nil]; omega
theorem c2_cons (x : Value × Value) (l : List (Value × Value)) : c2 (x :: l) = x.1 :: x.2 :: c2 l := by simp [c2]
theorem c2_get : ∀ (l : List (Value × Value)) (i : Nat) (x : Value × Value), l[i]? = some x → (c2 l)[i * 2]? = some x.1 ∧ (c2 l)[i * 2 + 1]? = some x.2
  | [], i, x, h => by simp at h
  | y :: l, 0, x, h => by
    simp at h
    subst h
    rw [c2_cons]
    exact ⟨rfl, rfl⟩
  | y :: l, i + 1, x, h => by
    have ih := c2_get l i x (by simpa using h)
    rw [c2_cons, show (i + 1) * 2 = i * 2 + 2 by omega]
    simpa using ih
theorem c2_at : ∀ (l : List (Value × Value)) (j : Nat) (u : Value), (c2 l)[j]? = some u → ∃ x, l[j / 2]? = some x ∧ (j % 2 = 0 → u = x.1) ∧ (j % 2 = 1 → u = x.2)
  | [], j, u, h => by simp [c2] at h
  | y :: l, 0, u, h => by rw [c2_cons] at h; simp at h; exact ⟨y, rfl, fun _ => h.symm, fun h => by simp at h⟩
  | y :: l, 1, u, h => by rw [c2_cons] at h; simp at h; exact ⟨y, rfl, fun h => by simp at h, fun _ => h.symm⟩
  | y :: l, j + 2, u, h => by
    rw [c2_cons] at h
    obtain ⟨x, h1, h2, h3⟩ := c2_at l j u (by simpa using h)
    refine ⟨x, ?_, fun h => h2 (by omega), fun h => h3 (by omega)⟩
    rw [show (j + 2) / 2 = j / 2 + 1 by omega]
    simpa using h1
def One2 (l : List (Value × Value)) : Prop := ∀ x ∈ l, x.1.oneCell' = true ∧ x.2.oneCell' = true
theorem One2.cells {l : List (Value × Value)} (h : One2 l) : ∀ u ∈ c2 l, u.oneCell' = true := by
  intro u hu
  unfold c2 at hu
  obtain ⟨x, hx, hu⟩ := List.mem_flatMap.1 hu
  simp only [List.mem_cons, List.not_mem_nil, or_false] at hu
  rcases hu with rfl | rfl
  · exact (h x hx).1
  · exact (h x hx).2
theorem One2.app {a b : List (Value × Value)} (h : One2 a) (h' : One2 b) : One2 (a ++ b) := fun x hx => (List.mem_append.1 hx).elim (h x) (h' x)
theorem One2.take {a : List (Value × Value)} (h : One2 a) (n : Nat) : One2 (a.take n) := fun x hx => h x (List.mem_of_mem_take hx)
theorem One2.drop {a : List (Value × Value)} (h : One2 a) (n : Nat) : One2 (a.drop n) := fun x hx => h x (List.mem_of_mem_drop hx)
/-- A slice that reads as these elements. -/
def R2 (w : World) (v : Value) (l : List (Value × Value)) : Prop :=
  One2 l ∧ ((v = .slice none 0 0 ∧ l = []) ∨ ∃ b off k, v = .slice (some ⟨b, off, none⟩) l.length k ∧ b < w.heap.size ∧ l.length ≤ k ∧ k ≤ maxLen ∧ ∀ i x, l[i]? = some x → w.cell? ⟨b, off + i * 2, none⟩ = some x.1 ∧ w.cell? ⟨b, off + i * 2 + 1, none⟩ = some x.2)
section
variable {w w' : World} {v : Value} {l : List (Value × Value)}
theorem R2.nil (w : World) : R2 w (.slice none 0 0) [] := ⟨fun x hx => (by cases hx), .inl ⟨rfl, rfl⟩⟩
theorem R2.below (h : R2 w v l) (hb : Below w.heap.size w w') : R2 w' v l := by
  obtain ⟨h0, h1 | ⟨b, off, k, rfl, h2, h3, h4, h5⟩⟩ := h
  · exact ⟨h0, .inl h1⟩
  · exact ⟨h0, .inr ⟨b, off, k, rfl, Nat.lt_of_lt_of_le h2 hb.size, h3, h4, fun i x hx => ⟨(hb.cell (p := ⟨b, off + i * 2, none⟩) h2).trans (h5 i x hx).1, (hb.cell (p := ⟨b, off + i * 2 + 1, none⟩) h2).trans (h5 i x hx).2⟩⟩⟩
theorem R2.slice (h : R2 w v l) : ∃ a k, v = .slice a l.length k ∧ l.length ≤ k ∧ k ≤ maxLen := by
  obtain ⟨_, ⟨rfl, rfl⟩ | ⟨b, off, k, rfl, _, h3, h4, _⟩⟩ := h
  · exact ⟨none, 0, rfl, Nat.le_refl _, Nat.zero_le _⟩
  · exact ⟨_, k, rfl, h3, h4⟩
theorem R2.at {a : Option Addr} {n k i : Nat} {x : Value × Value} (h : R2 w (.slice a n k) l) (hx : l[i]? = some x) : ∃ b off, a = some ⟨b, off, none⟩ ∧ b < w.heap.size ∧ w.cell? ⟨b, off + i * 2, none⟩ = some x.1 ∧ w.cell? ⟨b, off + i * 2 + 1, none⟩ = some x.2 := by
  obtain ⟨_, ⟨_, rfl⟩ | ⟨b, off, k, e, h2, _, _, h5⟩⟩ := h
  · simp at hx
  · cases e
    exact ⟨b, off, rfl, h2, (h5 i x hx).1, (h5 i x hx).2⟩
/-- A part of it. -/
def cutV (a : Option Addr) (i j k : Nat) : Value := .slice (if k = i then a else a.map (·.add (i * 2))) (j - i) (k - i)
theorem R2.cut {a : Option Addr} {n k : Nat} (h : R2 w (.slice a n k) l) {i j : Nat} (hij : i ≤ j) (hj : j ≤ l.length) : R2 w (cutV a i j k) ((l.take j).drop i) := by
  have hl : ((l.take j).drop i).length = j - i := by rw [List.length_drop, List.length_take]; omega
  obtain ⟨h0, ⟨e, rfl⟩ | ⟨b, off, k2, e, h2, h3, h4, h5⟩⟩ := h
  · cases e
    have : j = 0 := by simpa using hj
    subst this
    obtain rfl : i = 0 := by omega
    exact ⟨fun x hx => (by simp at hx), .inl ⟨rfl, by simp⟩⟩
  · cases e
    refine ⟨(h0.take j).drop i, .inr ?_⟩
    by_cases hk : k = i
    · have e0 : (l.take j).drop i = [] := List.length_eq_zero_iff.1 (by rw [hl]; omega)
      refine ⟨b, off, k - i, ?_, h2, by rw [hl]; omega, by omega, fun x y hx => by rw [e0] at hx; simp at hx⟩
      unfold cutV
      rw [if_pos hk, hl]
    · refine ⟨b, off + i * 2, k - i, ?_, h2, by rw [hl]; omega, by omega, fun x y hx => ?_⟩
      · unfold cutV
        rw [if_neg hk, hl, Option.map_some, Go.WideShapes.add_plain]
      · have hxl : x < j - i := by have := (List.getElem?_eq_some_iff.1 hx).1; omega
        have hx' : l[i + x]? = some y := by
          rw [List.getElem?_drop, List.getElem?_take] at hx
          rw [if_pos (by omega)] at hx
          exact hx
        have := h5 (i + x) y hx'
        rw [show off + i * 2 + x * 2 = off + (i + x) * 2 by omega]
        exact this
/-- A row of the call's own. -/
theorem R2.own {B n : Nat} {T : TypeId} (h : w.ownsRow B T 2 v n (c2 l)) (hn : n = l.length) (h1 : One2 l) : R2 w v l := by
  subst hn
  obtain ⟨_, ⟨rfl, h2⟩ | ⟨g, k, cur, rfl, hB, hc, q1, q2, q3, q4⟩⟩ := h
  · exact ⟨h1, .inl ⟨rfl, List.length_eq_zero_iff.1 h2⟩⟩
  · refine ⟨h1, .inr ⟨g, 0, k, rfl, (Array.getElem?_eq_some_iff.1 hc).1, q1, q2, fun i x hx => ?_⟩⟩
    have hil := (List.getElem?_eq_some_iff.1 hx).1
    obtain ⟨e1, e2⟩ := c2_get l i x hx
    rw [← q4, List.getElem?_take] at e1 e2
    rw [if_pos (by omega)] at e1 e2
    have key : ∀ j u, cur.toList[j]? = some u → w.cell? ⟨g, j, none⟩ = some u := fun j u hj => by
      rw [World.cell?]
      simp [hc]
      rw [← Array.getElem?_toList]
      simpa using hj
    exact ⟨by rw [Nat.zero_add]; exact key _ _ e1, by rw [Nat.zero_add]; exact key _ _ e2⟩
end
/-- The block that a slice lies in. -/
def inB2 (v : Value) (g : Nat) : Prop := ∃ off n k, v = .slice (some ⟨g, off, none⟩) n k
theorem own_in {w : World} {B n sz : Nat} {T : TypeId} {v : Value} {xs : List Value} (h : w.ownsRow B T sz v n xs) : ∀ g, inB2 v g → B ≤ g := by
  rintro g ⟨off, n', k, e⟩
  obtain ⟨_, ⟨rfl, _⟩ | ⟨g', cap, cur, rfl, hB, _⟩⟩ := h
  · cases e
  · cases e; exact hB
theorem R2.lt {w : World} {v : Value} {l : List (Value × Value)} (h : R2 w v l) : ∀ g, inB2 v g → g < w.heap.size := by
  rintro g ⟨off, n', k, e⟩
  obtain ⟨_, ⟨rfl, _⟩ | ⟨b, off, k, rfl, h2, _⟩⟩ := h
  · cases e
  · cases e; exact h2
theorem R2.keep {w w' : World} {v : Value} {l : List (Value × Value)} (h : R2 w v l) (hz : w.heap.size ≤ w'.heap.size) (hk : ∀ g, inB2 v g → w'.heap[g]? = w.heap[g]?) : R2 w' v l := by
  obtain ⟨h0, h1 | ⟨b, off, k, rfl, h2, h3, h4, h5⟩⟩ := h
  · exact ⟨h0, .inl h1⟩
  · have e := hk b ⟨_, _, _, rfl⟩
    exact ⟨h0, .inr ⟨b, off, k, rfl, Nat.lt_of_lt_of_le h2 hz, h3, h4, fun i x hx => ⟨(World.cell?_of_block e).trans (h5 i x hx).1, (World.cell?_of_block e).trans (h5 i x hx).2⟩⟩⟩
/-- A new row: none of its blocks was there. -/
def RN (w : World) (B : Nat) (v : Value) (l : List (Value × Value)) : Prop := R2 w v l ∧ ∀ g, inB2 v g → B ≤ g
/-- Items as elements. -/
def itV (x : It) : Value × Value := (.string x.1, .string x.2)
theorem one_it (l : List It) : One2 (l.map itV) := fun x hx => by obtain ⟨y, _, rfl⟩ := List.mem_map.1 hx; exact ⟨rfl, rfl⟩
/-- A row whose block is one of O. -/
def RO (w : World) (O : Nat → Prop) (v : Value) (l : List (Value × Value)) : Prop := R2 w v l ∧ ∀ g, inB2 v g → O g
theorem RO.keep {w w' : World} {O : Nat → Prop} {v : Value} {l : List (Value × Value)} (h : RO w O v l) (hz : w.heap.size ≤ w'.heap.size) (hk : ∀ g, O g → g < w.heap.size → w'.heap[g]? = w.heap[g]?) : RO w' O v l := ⟨h.1.keep hz (fun g hg => hk g (h.2 g hg) (h.1.lt g hg)), h.2⟩
theorem RO.mono {w : World} {O O' : Nat → Prop} {v : Value} {l : List (Value × Value)} (h : RO w O v l) (ho : ∀ g, O g → O' g) : RO w O' v l := ⟨h.1, fun g hg => ho g (h.2 g hg)⟩
theorem RO.nil (w : World) (O : Nat → Prop) : RO w O (.slice none 0 0) [] := ⟨R2.nil w, fun g ⟨_, _, _, e⟩ => by cases e⟩
/-- A node in memory, its rows in blocks of O: its two slices; below it its kids. -/
def NodeAt (w : World) (O : Nat → Prop) : (d : Nat) → BT (d + 1) → Value → Value → Prop
  | 0, t, vi, vk => RO w O vi (t.its.map itV) ∧ RO w O vk [] ∧ t.kids = []
  | d + 1, t, vi, vk => RO w O vi (t.its.map itV) ∧ ∃ ks : List (Value × Value), RO w O vk ks ∧ ks.length = t.kids.length ∧ ∀ (i : Nat) (x : Value × Value) (k : BT (d + 1)), ks[i]? = some x → t.kids[i]? = some k → NodeAt w O d k x.1 x.2
theorem NodeAt.keep {w w' : World} {O : Nat → Prop} (hz : w.heap.size ≤ w'.heap.size) (hk : ∀ g, O g → g < w.heap.size → w'.heap[g]? = w.heap[g]?) : ∀ {d : Nat} {t : BT (d + 1)} {vi vk : Value}, NodeAt w O d t vi vk → NodeAt w' O d t vi vk
  | 0, _, _, _, h => ⟨h.1.keep hz hk, h.2.1.keep hz hk, h.2.2⟩
  | _ + 1, _, _, _, ⟨h1, ks, h2, h3, h4⟩ => ⟨h1.keep hz hk, ks, h2.keep hz hk, h3, fun i x k hx hk' => NodeAt.keep hz hk (h4 i x k hx hk')⟩
theorem NodeAt.below {w w' : World} {O : Nat → Prop} {d : Nat} {t : BT (d + 1)} {vi vk : Value} (h : NodeAt w O d t vi vk) (hb : Below w.heap.size w w') : NodeAt w' O d t vi vk := h.keep hb.size (fun g _ hg => hb.block g hg)
theorem NodeAt.mono {w : World} {O O' : Nat → Prop} (ho : ∀ g, O g → O' g) : ∀ {d : Nat} {t : BT (d + 1)} {vi vk : Value}, NodeAt w O d t vi vk → NodeAt w O' d t vi vk
  | 0, _, _, _, h => ⟨h.1.mono ho, h.2.1.mono ho, h.2.2⟩
  | _ + 1, _, _, _, ⟨h1, ks, h2, h3, h4⟩ => ⟨h1.mono ho, ks, h2.mono ho, h3, fun i x k hx hk' => NodeAt.mono ho (h4 i x k hx hk')⟩
end Go.Proofs.YtlmjmhpdpgeplaaGreatDoor
