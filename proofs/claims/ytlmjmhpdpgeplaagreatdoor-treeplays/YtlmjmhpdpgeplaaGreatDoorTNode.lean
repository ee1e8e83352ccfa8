/- Nodes in memory: joined, parted of trees. -/
import Derived.Test.YtlmjmhpdpgeplaaGreatDoorTJoin
import Derived.Test.YtlmjmhpdpgeplaaGreatDoorTPart
import Derived.Test.YtlmjmhpdpgeplaaGreatDoorTFlat
namespace Go.Proofs.YtlmjmhpdpgeplaaGreatDoor
open Go.RowKit Go.Lib

/-- A row of nodes. -/
def KidsAt (w : World) (O : Nat → Prop) : (d : Nat) → List (BT d) → List (Value × Value) → Prop
  | 0, kids, ks => kids = [] ∧ ks = []
  | d + 1, kids, ks => ks.length = kids.length ∧ ∀ (i : Nat) (x : Value × Value) (k : BT (d + 1)), ks[i]? = some x → kids[i]? = some k → NodeAt w O d k x.1 x.2
section
variable {w w' : World} {O O' : Nat → Prop}
theorem node_iff : ∀ {d : Nat} {t : BT (d + 1)} {vi vk : Value}, NodeAt w O d t vi vk ↔ RO w O vi (t.its.map itV) ∧ ∃ ks, RO w O vk ks ∧ KidsAt w O d t.kids ks
  | 0, _, _, _ => ⟨fun ⟨h1, h2, h3⟩ => ⟨h1, [], h2, h3, rfl⟩, fun ⟨h1, _, h2, h3, h4⟩ => ⟨h1, h4 ▸ h2, h3⟩⟩
  | _ + 1, _, _, _ => ⟨fun ⟨h1, ks, h2, h3, h4⟩ => ⟨h1, ks, h2, h3, h4⟩, fun ⟨h1, ks, h2, h3, h4⟩ => ⟨h1, ks, h2, h3, h4⟩⟩
theorem KidsAt.keep (hz : w.heap.size ≤ w'.heap.size) (hk : ∀ g, O g → g < w.heap.size → w'.heap[g]? = w.heap[g]?) : ∀ {d : Nat} {kids : List (BT d)} {ks : List (Value × Value)}, KidsAt w O d kids ks → KidsAt w' O d kids ks
  | 0, _, _, h => h
  | _ + 1, _, _, h => ⟨h.1, fun i x k hx hk' => (h.2 i x k hx hk').keep hz hk⟩
theorem KidsAt.below {d : Nat} {kids : List (BT d)} {ks : List (Value × Value)} (h : KidsAt w O d kids ks) (hb : Below w.heap.size w w') : KidsAt w' O d kids ks := h.keep hb.size (fun g _ hg => hb.block g hg)
theorem KidsAt.mono (ho : ∀ g, O g → O' g) : ∀ {d : Nat} {kids : List (BT d)} {ks : List (Value × Value)}, KidsAt w O d kids ks → KidsAt w O' d kids ks
  | 0, _, _, h => h
  | _ + 1, _, _, h => ⟨h.1, fun i x k hx hk => (h.2 i x k hx hk).mono ho⟩
theorem KidsAt.len : ∀ {d : Nat} {kids : List (BT d)} {ks : List (Value × Value)}, KidsAt w O d kids ks → ks.length = kids.length
  | 0, _, _, ⟨h1, h2⟩ => by rw [h1, h2]; rfl
  | _ + 1, _, _, h => h.1
theorem KidsAt.app : ∀ {d : Nat} {a b : List (BT d)} {x y : List (Value × Value)}, KidsAt w O d a x → KidsAt w O d b y → KidsAt w O d (a ++ b) (x ++ y)
  | 0, _, _, _, _, ⟨h1, h2⟩, ⟨h3, h4⟩ => by rw [h1, h2, h3, h4]; exact ⟨rfl, rfl⟩
  | _ + 1, a, b, x, y, h, h' => by
    refine ⟨by rw [List.length_append, List.length_append, h.1, h'.1], fun i u k hu hk => ?_⟩
    rcases Nat.lt_or_ge i x.length with hi | hi
    · rw [List.getElem?_append_left hi] at hu
      rw [List.getElem?_append_left (by rw [← h.1]; exact hi)] at hk
      exact h.2 i u k hu hk
    · rw [List.getElem?_append_right hi] at hu
      rw [List.getElem?_append_right (by rw [← h.1]; exact hi), ← h.1] at hk
      exact h'.2 _ u k hu hk
theorem KidsAt.take : ∀ {d : Nat} {a : List (BT d)} {x : List (Value × Value)} (n : Nat), KidsAt w O d a x → KidsAt w O d (a.take n) (x.take n)
  | 0, _, _, n, ⟨h1, h2⟩ => by rw [h1, h2]; exact ⟨by simp, by simp⟩
  | _ + 1, a, x, n, h => by
    refine ⟨by rw [List.length_take, List.length_take, h.1], fun i u k hu hk => ?_⟩
    rw [List.getElem?_take] at hu hk
    split at hu
    · rename_i hi
      rw [if_pos hi] at hk
      exact h.2 i u k hu hk
    · cases hu
theorem KidsAt.drop : ∀ {d : Nat} {a : List (BT d)} {x : List (Value × Value)} (n : Nat), KidsAt w O d a x → KidsAt w O d (a.drop n) (x.drop n)
  | 0, _, _, n, ⟨h1, h2⟩ => by rw [h1, h2]; exact ⟨by simp, by simp⟩
  | _ + 1, a, x, n, h => by
    refine ⟨by rw [List.length_drop, List.length_drop, h.1], fun i u k hu hk => ?_⟩
    rw [List.getElem?_drop] at hu hk
    exact h.2 _ u k hu hk
theorem KidsAt.one {d : Nat} {k : BT (d + 1)} {vi vk : Value} (h : NodeAt w O d k vi vk) : KidsAt w O (d + 1) [k] [(vi, vk)] := by
  refine ⟨rfl, fun i x k' hx hk => ?_⟩
  match i, hx, hk with
  | 0, hx, hk => cases hx; cases hk; exact h
  | i + 1, hx, _ => simp at hx
theorem KidsAt.get {d : Nat} {kids : List (BT (d + 1))} {ks : List (Value × Value)} {i : Nat} {k : BT (d + 1)} (h : KidsAt w O (d + 1) kids ks) (hk : kids[i]? = some k) : ∃ vi vk, ks[i]? = some (vi, vk) ∧ NodeAt w O d k vi vk := by
  have hi : i < ks.length := by rw [h.1]; exact (List.getElem?_eq_some_iff.1 hk).1
  have e : ks[i]? = some ks[i] := List.getElem?_eq_getElem hi
  exact ⟨ks[i].1, ks[i].2, e, h.2 i _ k e hk⟩
/-- O, and what is new from n on. -/
def OrN (O : Nat → Prop) (n g : Nat) : Prop := O g ∨ n ≤ g
theorem RN.ro {B : Nat} {v : Value} {l : List (Value × Value)} (h : RN w B v l) : RO w (OrN O B) v l := ⟨h.1, fun g hg => .inr (h.2 g hg)⟩
/-- Two slices of a node, as trees see them. -/
def NP (w : World) (O : Nat → Prop) (d : Nat) (its : List It) (kids : List (BT d)) (vi vk : Value) : Prop := RO w O vi (its.map itV) ∧ ∃ ks, RO w O vk ks ∧ KidsAt w O d kids ks
theorem NP.node {d : Nat} {its : List It} {kids : List (BT d)} {vi vk : Value} (h : NP w O d its kids vi vk) : NodeAt w O d (BT.mk its kids) vi vk := node_iff.2 h
theorem NP.keep {d : Nat} {its : List It} {kids : List (BT d)} {vi vk : Value} (h : NP w O d its kids vi vk) (hz : w.heap.size ≤ w'.heap.size) (hk : ∀ g, O g → g < w.heap.size → w'.heap[g]? = w.heap[g]?) : NP w' O d its kids vi vk := by
  obtain ⟨h1, ks, h2, h3⟩ := h
  exact ⟨h1.keep hz hk, ks, h2.keep hz hk, h3.keep hz hk⟩
theorem NP.mono {d : Nat} {its : List It} {kids : List (BT d)} {vi vk : Value} (h : NP w O d its kids vi vk) (ho : ∀ g, O g → O' g) : NP w O' d its kids vi vk := by
  obtain ⟨h1, ks, h2, h3⟩ := h
  exact ⟨h1.mono ho, ks, h2.mono ho, h3.mono ho⟩
theorem NP.slices {d : Nat} {its : List It} {kids : List (BT d)} {vi vk : Value} (h : NP w O d its kids vi vk) : ∃ a k b c, vi = .slice a its.length k ∧ vk = .slice b kids.length c := by
  obtain ⟨h1, ks, h2, h3⟩ := h
  obtain ⟨a, k, e1, _, _⟩ := h1.1.slice
  obtain ⟨b, c, e2, _, _⟩ := h2.1.slice
  rw [List.length_map] at e1
  rw [h3.len] at e2
  exact ⟨a, k, b, c, e1, e2⟩
/-- A call that tells a node. -/
def TellsN (w : World) (O : Nat → Prop) (d : Nat) (its : List It) (kids : List (BT d)) (e : Ending) (w' : World) : Prop :=
  ∃ a k b c, e = .returned (.agg #[.slice a its.length k, .slice b kids.length c]) ∧ NP w' (OrN O w.heap.size) d its kids (.slice a its.length k) (.slice b kids.length c) ∧ Below w.heap.size w w'
end
section
variable {w : World} {O : Nat → Prop} {d j : Nat} {its : List It} {kids : List (BT (d + 1))} {vi vk : Value}
theorem joined_t {l r : BT (d + 1)} {x : It} (h : NP w O (d + 1) its kids vi vk) (hl : kids[j]? = some l) (hr : kids[j + 1]? = some r) (hx : its[j]? = some x) (hn : its.length ≤ 50 ∧ kids.length ≤ 50 ∧ l.its.length ≤ 50 ∧ l.kids.length ≤ 50 ∧ r.its.length ≤ 50 ∧ r.kids.length ≤ 50) :
    Calls Tryz.prog 53 #[.agg #[vi, vk], .int .i64 (j : Int)] w fun e w' => TellsN w O (d + 1) (its.take j ++ its.drop (j + 1)) (kids.take j ++ bothT l x r :: kids.drop (j + 2)) e w' := by
  obtain ⟨hi, ks, hk, hks⟩ := h
  obtain ⟨li, lk, el, hl2⟩ := hks.get hl
  obtain ⟨ri, rk, er, hr2⟩ := hks.get hr
  obtain ⟨l1, LK, l2, l3⟩ := node_iff.1 hl2
  obtain ⟨r1, RK, r2, r3⟩ := node_iff.1 hr2
  have hjl := (List.getElem?_eq_some_iff.1 hx).1
  have hxt : (its.drop j).take 1 = [x] := by
    obtain ⟨q1, q2⟩ := List.getElem?_eq_some_iff.1 hx
    rw [List.drop_eq_getElem_cons q1, q2]; rfl
  refine (joined_any vi vk li lk ri rk _ ks _ LK _ RK j w hi.1 hk.1 el er l1.1 l2.1 r1.1 r2.1 (by rw [List.length_map]; exact hjl) (by rw [List.length_map, List.length_map, List.length_map, hks.len, l3.len, r3.len]; exact hn)).mono ?_
  rintro e w' ⟨ni, nk, ji, jk, rfl, q1, q2, q3, q4, q5⟩
  have ho : ∀ g, O g → OrN O w.heap.size g := fun g hg => .inl hg
  have hm : NodeAt w' (OrN O w.heap.size) d (bothT l x r) ji jk := by
    refine node_iff.2 ⟨?_, LK ++ RK, q4.ro, ((l3.below q5).mono ho).app ((r3.below q5).mono ho)⟩
    rw [← List.map_drop, ← List.map_take, hxt] at q3
    show RO w' _ ji ((l.its ++ x :: r.its).map itV)
    rw [show l.its ++ x :: r.its = l.its ++ [x] ++ r.its by simp, List.map_append, List.map_append]
    exact q3.ro
  have h1 := (((hks.below q5).mono ho).take j).app ((KidsAt.one hm).app (((hks.below q5).mono ho).drop (j + 2)))
  have hp : NP w' (OrN O w.heap.size) (d + 1) (its.take j ++ its.drop (j + 1)) (kids.take j ++ bothT l x r :: kids.drop (j + 2)) ni nk := ⟨by rw [List.map_append, List.map_take, List.map_drop]; exact q1.ro, _, q2.ro, by simpa using h1⟩
  obtain ⟨a, k, b, c, rfl, rfl⟩ := hp.slices
  exact ⟨a, k, b, c, rfl, hp, q5⟩
theorem parted_t {m : BT (d + 1)} {y : It} (h : NP w O (d + 1) its kids vi vk) (hm : kids[j]? = some m) (hs : Shp d m) (hb : 15 < m.its.length) (hy : m.its[m.its.length / 2]? = some y) (hj : j ≤ its.length) (hn : its.length ≤ 50 ∧ kids.length ≤ 50 ∧ m.its.length ≤ 50) :
    Calls Tryz.prog 38 #[.agg #[vi, vk], .int .i64 (j : Int)] w fun e w' => TellsN w O (d + 1) (its.take j ++ y :: its.drop j) (kids.take j ++ leftT m :: rightT m :: kids.drop (j + 1)) e w' := by
  obtain ⟨hi, ks, hk, hks⟩ := h
  obtain ⟨mi, mk, em, hm2⟩ := hks.get hm
  obtain ⟨m1, MK, m2, m3⟩ := node_iff.1 hm2
  have hyt : (m.its.drop (m.its.length / 2)).take 1 = [y] := by
    obtain ⟨q1, q2⟩ := List.getElem?_eq_some_iff.1 hy
    rw [List.drop_eq_getElem_cons q1, q2]; rfl
  refine (parted_big vi vk mi mk _ ks MK m.its j w hi.1 hk.1 em m1.1 m2.1 (by rw [List.length_map]; exact hj) hb ?_ (by rw [List.length_map, hks.len]; exact hn)).mono ?_
  · rcases shp_kids hs with h | h
    · left; exact List.length_eq_zero_iff.1 (by rw [m3.len, h]; rfl)
    · right; rw [m3.len, h]
  rintro e w' ⟨ni, nk, li, lk, ri, rk, rfl, q1, q2, q3, q4, q5, q6, q7⟩
  rw [hyt] at q1
  have ho : ∀ g, O g → OrN O w.heap.size g := fun g hg => .inl hg
  have hL : NodeAt w' (OrN O w.heap.size) d (leftT m) li lk := node_iff.2 ⟨q3.ro, _, q5.ro, ((m3.below q7).mono ho).take _⟩
  have hR : NodeAt w' (OrN O w.heap.size) d (rightT m) ri rk := node_iff.2 ⟨q4.ro, _, q6.ro, ((m3.below q7).mono ho).drop _⟩
  have h1 := (((hks.below q7).mono ho).take j).app ((KidsAt.one hL).app ((KidsAt.one hR).app (((hks.below q7).mono ho).drop (j + 1))))
  have hp : NP w' (OrN O w.heap.size) (d + 1) (its.take j ++ y :: its.drop j) (kids.take j ++ leftT m :: rightT m :: kids.drop (j + 1)) ni nk := ⟨by rw [show its.take j ++ y :: its.drop j = its.take j ++ [y] ++ its.drop j by simp, List.map_append, List.map_append, List.map_take, List.map_drop]; exact q1.ro, _, q2.ro, by simpa using h1⟩
  obtain ⟨a, k, b, c, rfl, rfl⟩ := hp.slices
  exact ⟨a, k, b, c, rfl, hp, q7⟩
/-- Not too many items: as it was. -/
theorem parted_t0 {m : BT (d + 1)} (h : NP w O (d + 1) its kids vi vk) (hm : kids[j]? = some m) (hb : m.its.length ≤ 15) :
    Calls Tryz.prog 38 #[.agg #[vi, vk], .int .i64 (j : Int)] w fun e w' => TellsN w O (d + 1) its kids e w' := by
  obtain ⟨hi, ks, hk, hks⟩ := h
  obtain ⟨mi, mk, em, hm2⟩ := hks.get hm
  obtain ⟨m1, MK, m2, m3⟩ := node_iff.1 hm2
  refine (parted_small vi vk mi mk _ ks _ j w hi.1 hk.1 em m1.1 ⟨_, m2.1⟩ (by rw [List.length_map]; exact hb)).mono ?_
  rintro e w' ⟨rfl, q⟩
  have ho : ∀ g, O g → OrN O w.heap.size g := fun g hg => .inl hg
  have hp : NP w' (OrN O w.heap.size) (d + 1) its kids vi vk := ⟨(hi.keep q.size (fun g _ hg => q.block g hg)).mono ho, ks, (hk.keep q.size (fun g _ hg => q.block g hg)).mono ho, (hks.below q).mono ho⟩
  obtain ⟨a, k, b, c, rfl, rfl⟩ := hp.slices
  exact ⟨a, k, b, c, rfl, hp, q⟩
end
end Go.Proofs.YtlmjmhpdpgeplaaGreatDoor
