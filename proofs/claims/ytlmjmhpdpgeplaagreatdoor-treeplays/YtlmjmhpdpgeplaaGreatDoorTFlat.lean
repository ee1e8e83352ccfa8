/- Trees without the program: kids joined and parted tell the same items. -/
import Derived.Test.YtlmjmhpdpgeplaaGreatDoorJTTreeTMem
namespace Go.Proofs.YtlmjmhpdpgeplaaGreatDoor
open Go.RowKit Go.Lib

/-- Two kids, and the item between them, as one. -/
def bothT {d : Nat} (l : BT (d + 1)) (x : It) (r : BT (d + 1)) : BT (d + 1) := BT.mk (l.its ++ x :: r.its) (l.kids ++ r.kids)
/-- A kid cut at its middle. -/
def leftT {d : Nat} (m : BT (d + 1)) : BT (d + 1) := BT.mk (m.its.take (m.its.length / 2)) (m.kids.take (m.its.length / 2 + 1))
def rightT {d : Nat} (m : BT (d + 1)) : BT (d + 1) := BT.mk (m.its.drop (m.its.length / 2 + 1)) (m.kids.drop (m.its.length / 2 + 1))
theorem shp_kids {d : Nat} {t : BT (d + 1)} (h : Shp d t) : t.kids = [] ∨ t.kids.length = t.its.length + 1 := by
  cases d with
  | zero => exact .inl h
  | succ d => exact .inr (shp_succ.1 h).1
theorem split_at {α : Type} {l : List α} {j : Nat} {x : α} (h : l[j]? = some x) : l = l.take j ++ x :: l.drop (j + 1) := by
  obtain ⟨q1, q2⟩ := List.getElem?_eq_some_iff.1 h
  rw [← q2, List.getElem_cons_drop, List.take_append_drop]
theorem split_at2 {α : Type} {l : List α} {j : Nat} {x y : α} (h : l[j]? = some x) (h' : l[j + 1]? = some y) : l = l.take j ++ x :: y :: l.drop (j + 2) := by
  have h2 : (l.drop (j + 1))[0]? = some y := by rw [List.getElem?_drop]; simpa using h'
  have h3 := split_at h2
  conv => lhs; rw [split_at h, h3]
  simp
theorem flat_join {d j : Nat} {its : List It} {kids : List (BT (d + 1))} {l r : BT (d + 1)} {x : It} (hn : kids.length = its.length + 1) (hl : kids[j]? = some l) (hr : kids[j + 1]? = some r) (hx : its[j]? = some x) (sl : Shp d l) (sr : Shp d r) :
    flat (d + 1) (BT.mk (its.take j ++ its.drop (j + 1)) (kids.take j ++ bothT l x r :: kids.drop (j + 2))) = flat (d + 1) (BT.mk its kids) := by
  have hjl := (List.getElem?_eq_some_iff.1 hx).1
  conv => rhs; rw [split_at hx, split_at2 hl hr]
  rw [flat_succ, flat_succ, BT.its_mk, BT.kids_mk, BT.its_mk, BT.kids_mk, List.map_append, List.map_append, List.map_cons, List.map_cons, List.map_cons]
  rw [weave_merge _ _ _ _ _ _ _ (by simp; omega) ?_, show flat d (bothT l x r) = flat d l ++ x :: flat d r from (flat_both x sl sr).1]
  rcases Nat.lt_or_ge (j + 1) its.length with h | h
  · right; intro e; have := congrArg List.length e; simp at this; omega
  · left; exact List.drop_eq_nil_of_le h
theorem flat_part {d j : Nat} {its : List It} {kids : List (BT (d + 1))} {m : BT (d + 1)} {y : It} (hn : kids.length = its.length + 1) (hm : kids[j]? = some m) (hs : Shp d m) (hy : m.its[m.its.length / 2]? = some y) :
    flat (d + 1) (BT.mk (its.take j ++ y :: its.drop j) (kids.take j ++ leftT m :: rightT m :: kids.drop (j + 1))) = flat (d + 1) (BT.mk its kids) := by
  have hjl := (List.getElem?_eq_some_iff.1 hm).1
  conv => rhs; rw [← List.take_append_drop j its, split_at hm]
  rw [flat_succ, flat_succ, BT.its_mk, BT.kids_mk, BT.its_mk, BT.kids_mk, List.map_append, List.map_append, List.map_cons, List.map_cons, List.map_cons]
  rw [weave_merge _ _ _ _ _ _ _ (by simp; omega) ?_, show flat d m = flat d (leftT m) ++ y :: flat d (rightT m) from (flat_cut hs hy).1]
  rcases Nat.lt_or_ge j its.length with h | h
  · right; intro e; have := congrArg List.length e; simp at this; omega
  · left; exact List.drop_eq_nil_of_le h
theorem shp_both {d : Nat} {l r : BT (d + 1)} {x : It} (sl : Shp d l) (sr : Shp d r) : Shp d (bothT l x r) := (flat_both x sl sr).2
theorem shp_cut {d : Nat} {m : BT (d + 1)} {y : It} (hs : Shp d m) (hy : m.its[m.its.length / 2]? = some y) : Shp d (leftT m) ∧ Shp d (rightT m) := (flat_cut hs hy).2
theorem fine_cut {d : Nat} {m : BT (d + 1)} {y : It} (hs : Shp d m) (hy : m.its[m.its.length / 2]? = some y) (h1 : 15 < m.its.length) (h2 : m.its.length ≤ 30) : Fine d (leftT m) ∧ Fine d (rightT m) := by
  have h := shp_cut hs hy
  refine ⟨⟨h.1, ?_, ?_⟩, ⟨h.2, ?_, ?_⟩⟩
  · show 1 ≤ (m.its.take _).length; rw [List.length_take]; omega
  · show (m.its.take _).length ≤ 15; rw [List.length_take]; omega
  · show 1 ≤ (m.its.drop _).length; rw [List.length_drop]; omega
  · show (m.its.drop _).length ≤ 15; rw [List.length_drop]; omega
/-- Kids all fine. -/
theorem shp_mk {d : Nat} {its : List It} {kids : List (BT (d + 1))} (hn : kids.length = its.length + 1) (hk : ∀ k ∈ kids, Fine d k) : Shp (d + 1) (BT.mk its kids) := shp_succ.2 ⟨hn, hk⟩
end Go.Proofs.YtlmjmhpdpgeplaaGreatDoor
