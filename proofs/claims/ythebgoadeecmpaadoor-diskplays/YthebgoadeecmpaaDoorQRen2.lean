/- The document's disk: Rename, way by way. -/
import Derived.Test.YthebgoadeecmpaaDoorJQKeepQRen
namespace Go.Proofs.YthebgoadeecmpaaDoor
open Go.RowKit Go.Lib Go.Maps Go.WideMaps

/-- What the document's Rename leaves. -/
def RRenPost (w : World) (r : Nat) (R : RSt) (vf : Value) (G : List Ent) (Q : Nat → Prop) (a b : List UInt8) (ev : Ending) (w' : World) : Prop :=
  ev = .returned (.int .i64 (mayC R (renC G a b)).2) ∧ FrO Q w w' ∧ ((mayC R (renC G a b)).2 ≠ 0 → RX w' r (mayC R (renC G a b)).1 vf G Q) ∧
    ((mayC R (renC G a b)).2 = 0 → ∃ e vf' G' Q', look G a = some e ∧ RX w' r (mayC R (renC G a b)).1 vf' G' Q' ∧ (∀ q, Q' q → Q q ∨ w.heap.size ≤ q) ∧ G'.map er = putE (fl b e.data e.sure) (delE a (G.map er)))

set_option maxHeartbeats 6400000 in
set_option maxRecDepth 100000 in
theorem rren_off {w : World} {r : Nat} {R : RSt} {vf : Value} {G : List Ent} {Q : Nat → Prop} (a b : List UInt8) (h : RX w r R vf G Q) (hoff : R.off = true) :
    Calls Tryd.prog 15 #[.pointer (some ⟨r, 0, none⟩), .string ⟨a.toArray⟩, .string ⟨b.toArray⟩] w (RRenPost w r R vf G Q a b) := by
  have HA := hide (at_any a h)
  obtain ⟨c0, c1, c2, c3, c4⟩ := h.cells
  unfold RRenPost mayC
  simp only [if_pos hoff]
  rw [hoff] at c2
  have H := hide h
  clear h
  go_enter Tryd.func15, Tryd.ntmps15
  go_wp2_with (first | (go_at_call 38; refine (unhide HA).mono ?_; rintro e0 w0 ⟨rfl, rfl⟩))
  go_ret
  exact ⟨rfl, FrO.refl _ _, fun _ => unhide H, fun h0 => absurd h0 (by decide)⟩

set_option maxHeartbeats 6400000 in
set_option maxRecDepth 100000 in
theorem rren_bad {w : World} {r : Nat} {R : RSt} {vf : Value} {G : List Ent} {Q : Nat → Prop} (a b : List UInt8) (h : RX w r R vf G Q) (hb : b.length ≤ 1000) (hoff : R.off = false) (hok : okN b = false) :
    Calls Tryd.prog 15 #[.pointer (some ⟨r, 0, none⟩), .string ⟨a.toArray⟩, .string ⟨b.toArray⟩] w (RRenPost w r R vf G Q a b) := by
  have HA := hide (at_any a h)
  have HN := hide (named_any ⟨b.toArray⟩ w (by show b.toArray.size ≤ _; unfold maxLen; simp; omega))
  have hnl : (ByteArray.mk b.toArray).data.toList = b := by simp
  rw [hnl, hok] at HN
  obtain ⟨c0, c1, c2, c3, c4⟩ := h.cells
  have h20 : (20 : Int) ≠ 0 := by decide
  have hnoff : ¬ R.off = true := by rw [hoff]; decide
  have hnok : ¬ okN b = true := by rw [hok]; decide
  unfold RRenPost mayC renC
  simp only [if_neg hnoff, if_neg hnok, if_pos h20]
  rw [hoff] at c2
  generalize at' G a = iv at HA
  have H := hide h
  clear h
  go_enter Tryd.func15, Tryd.ntmps15
  go_wp2_with (first
    | (go_at_call 38; refine (unhide HA).mono ?_; rintro e0 w0 ⟨rfl, rfl⟩)
    | (go_at_call 39; refine (unhide HN).mono ?_; rintro e1 w0 ⟨rfl, rfl⟩))
  go_ret
  exact ⟨rfl, FrO.refl _ _, fun _ => unhide H, fun h0 => absurd h0 (by decide)⟩

set_option maxHeartbeats 6400000 in
set_option maxRecDepth 100000 in
theorem rren_none {w : World} {r : Nat} {R : RSt} {vf : Value} {G : List Ent} {Q : Nat → Prop} (a b : List UInt8) (h : RX w r R vf G Q) (hb : b.length ≤ 1000) (hoff : R.off = false) (hok : okN b = true) (hlk : look G a = none) :
    Calls Tryd.prog 15 #[.pointer (some ⟨r, 0, none⟩), .string ⟨a.toArray⟩, .string ⟨b.toArray⟩] w (RRenPost w r R vf G Q a b) := by
  have HA := hide (at_any a h)
  rw [at_none hlk] at HA
  have HN := hide (named_any ⟨b.toArray⟩ w (by show b.toArray.size ≤ _; unfold maxLen; simp; omega))
  have hnl : (ByteArray.mk b.toArray).data.toList = b := by simp
  rw [hnl, hok] at HN
  obtain ⟨c0, c1, c2, c3, c4⟩ := h.cells
  have h30 : (30 : Int) ≠ 0 := by decide
  have hnoff : ¬ R.off = true := by rw [hoff]; decide
  unfold RRenPost mayC renC thereC
  simp only [if_neg hnoff, if_pos hok, hlk, if_pos h30]
  rw [hoff] at c2
  have H := hide h
  clear h
  go_enter Tryd.func15, Tryd.ntmps15
  go_wp2_with (first
    | (go_at_call 38; refine (unhide HA).mono ?_; rintro e0 w0 ⟨rfl, rfl⟩)
    | (go_at_call 39; refine (unhide HN).mono ?_; rintro e1 w0 ⟨rfl, rfl⟩))
  go_ret
  exact ⟨rfl, FrO.refl _ _, fun _ => unhide H, fun h0 => absurd h0 (by decide)⟩

set_option maxHeartbeats 6400000 in
set_option maxRecDepth 100000 in
theorem rren_may {w : World} {r : Nat} {R : RSt} {vf : Value} {G : List Ent} {Q : Nat → Prop} (a b : List UInt8) (h : RX w r R vf G Q) (hh : -1 ≤ R.halt ∧ R.halt ≤ 9223372036854775807) (hc : 0 ≤ R.count ∧ R.count < 1000000000) (hb : b.length ≤ 1000) (hoff : R.off = false) (hok : okN b = true) (e : Ent) (hlk : look G a = some e) (hm : (mayR R).2 = false) :
    Calls Tryd.prog 15 #[.pointer (some ⟨r, 0, none⟩), .string ⟨a.toArray⟩, .string ⟨b.toArray⟩] w (RRenPost w r R vf G Q a b) := by
  have HA := hide (at_any a h)
  have HM := hide (may2_any h hh hc)
  rw [hm] at HM
  obtain ⟨i, hi, hat, hen⟩ := at_some hlk
  rw [hat] at HA
  have hi0 : ¬ (i : Int) < 0 := by omega
  have HN := hide (named_any ⟨b.toArray⟩ w (by show b.toArray.size ≤ _; unfold maxLen; simp; omega))
  have hnl : (ByteArray.mk b.toArray).data.toList = b := by simp
  rw [hnl, hok] at HN
  obtain ⟨c0, c1, c2, c3, c4⟩ := h.cells
  have h00 : ¬ ((0 : Int) ≠ 0) := fun h => h rfl
  have hnoff : ¬ R.off = true := by rw [hoff]; decide
  unfold RRenPost mayC renC thereC
  simp only [if_neg hnoff, if_pos hok, hlk, if_neg h00, hm, Bool.false_eq_true, if_false]
  rw [hoff] at c2
  clear h
  go_enter Tryd.func15, Tryd.ntmps15
  go_wp2_with (first
    | (go_at_call 38; refine (unhide HA).mono ?_; rintro e0 w0 ⟨rfl, rfl⟩)
    | (go_at_call 39; refine (unhide HN).mono ?_; rintro e1 w0 ⟨rfl, rfl⟩)
    | (go_at_call 40; refine (unhide HM).mono ?_; rintro e0 w1 ⟨rfl, hx1, hf1⟩; have H1 := hide (And.intro hx1 hf1); clear hx1 hf1))
  go_ret
  exact ⟨rfl, (unhide H1).2, fun _ => (unhide H1).1, fun h0 => absurd h0 (by decide)⟩

set_option maxHeartbeats 6400000 in
set_option maxRecDepth 100000 in
theorem rren_same {w : World} {r : Nat} {R : RSt} {vf : Value} {G : List Ent} {Q : Nat → Prop} (a : List UInt8) (h : RX w r R vf G Q) (hris : Rising G) (hh : -1 ≤ R.halt ∧ R.halt ≤ 9223372036854775807) (hc : 0 ≤ R.count ∧ R.count < 1000000000) (hb : a.length ≤ 1000) (hoff : R.off = false) (hok : okN a = true) (e : Ent) (hlk : look G a = some e) (hm : (mayR R).2 = true) :
    Calls Tryd.prog 15 #[.pointer (some ⟨r, 0, none⟩), .string ⟨a.toArray⟩, .string ⟨a.toArray⟩] w (RRenPost w r R vf G Q a a) := by
  have HA := hide (at_any a h)
  have HM := hide (may2_any h hh hc)
  rw [hm] at HM
  obtain ⟨i, hi, hat, hen⟩ := at_some hlk
  rw [hat] at HA
  have hi0 : ¬ (i : Int) < 0 := by omega
  have HN := hide (named_any ⟨a.toArray⟩ w (by show a.toArray.size ≤ _; unfold maxLen; simp; omega))
  have hnl : (ByteArray.mk a.toArray).data.toList = a := by simp
  rw [hnl, hok] at HN
  obtain ⟨c0, c1, c2, c3, c4⟩ := h.cells
  have h00 : ¬ ((0 : Int) ≠ 0) := fun h => h rfl
  have hnoff : ¬ R.off = true := by rw [hoff]; decide
  unfold RRenPost mayC renC thereC
  simp only [if_neg hnoff, if_pos hok, hlk, if_neg h00, hm, if_true]
  rw [hoff] at c2
  have HE : Hid (G.map er = putE (fl a e.data e.sure) (delE a (G.map er))) := by
    have hmem : er e ∈ G.map er := List.mem_map_of_mem (List.mem_of_getElem? hi)
    have hr : Rising (G.map er) := by
      unfold Rising at hris ⊢
      rw [List.pairwise_map]
      exact hris
    have h1 := putE_same hr hmem
    have h2 : er e = fl a e.data e.sure := by unfold er; rw [hen]
    rw [h2] at h1
    have h3 : (fl a e.data e.sure).name = a := rfl
    have h4 : putE (fl a e.data e.sure) (delE a (G.map er)) = putE (fl a e.data e.sure) (G.map er) := by
      unfold putE
      rw [h3]
      unfold delE
      rw [List.filter_filter]
      refine congrArg _ (List.filter_congr fun x _ => ?_)
      exact Bool.and_self _
    exact (h4.trans h1).symm
  clear h hi hen
  go_enter Tryd.func15, Tryd.ntmps15
  go_wp2_with (first
    | (go_at_call 38; refine (unhide HA).mono ?_; rintro e0 w0 ⟨rfl, rfl⟩)
    | (go_at_call 39; refine (unhide HN).mono ?_; rintro e1 w0 ⟨rfl, rfl⟩)
    | (go_at_call 40; refine (unhide HM).mono ?_; rintro e0 w1 ⟨rfl, hx1, hf1⟩; have H1 := hide (And.intro hx1 hf1); clear hx1 hf1))
  go_ret
  exact ⟨rfl, (unhide H1).2, fun h0 => absurd rfl h0, fun _ => ⟨e, vf, G, Q, rfl, (unhide H1).1, fun q hq => .inl hq, unhide HE⟩⟩
end Go.Proofs.YthebgoadeecmpaaDoor
