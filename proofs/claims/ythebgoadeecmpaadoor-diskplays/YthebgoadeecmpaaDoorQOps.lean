/- The document's disk: Read, Sync, Remove. -/
import Derived.Test.YthebgoadeecmpaaDoorQTake
namespace Go.Proofs.YthebgoadeecmpaaDoor
open Go.RowKit Go.Lib Go.Maps Go.WideMaps

theorem at_some {G : List Ent} {n : List UInt8} {e : Ent} (h : look G n = some e) : ∃ i : Nat, G[i]? = some e ∧ at' G n = (i : Int) ∧ e.name = n := by
  unfold look at h
  obtain ⟨i, hi⟩ : ∃ i, G.findIdx? (fun e => e.name == n) = some i := by
    cases hf : G.findIdx? (fun e => e.name == n) with
    | some i => exact ⟨i, rfl⟩
    | none =>
      rw [List.findIdx?_eq_none_iff] at hf
      have := List.mem_of_find?_eq_some h
      have h2 := List.find?_some h
      rw [hf e this] at h2
      cases h2
  refine ⟨i, ?_, by unfold at'; rw [hi], by simpa using List.find?_some h⟩
  rw [List.find?_eq_getElem?_findIdx] at h
  rw [List.findIdx?_eq_some_iff_findIdx_eq] at hi
  rw [← hi.2]; exact h
theorem at_none {G : List Ent} {n : List UInt8} (h : look G n = none) : at' G n = -1 := by
  unfold look at h
  unfold at'
  have : G.findIdx? (fun e => e.name == n) = none := by
    rw [List.findIdx?_eq_none_iff]
    intro x hx
    have := List.find?_eq_none.1 h x hx
    simpa using this
  rw [this]

theorem RBq.o {w : World} {Q : Nat → Prop} {r : Nat} {vf v : Value} {l : List UInt8} (h : RBq w Q r vf v l) (hlt : ∀ k, Q k → k < w.heap.size) (hl : l.length ≤ 1048576) : RBo w (fun _ => False) v l := by
  refine ⟨by omega, ?_⟩
  rcases h with h | ⟨b, off, cap, h1, _, _, h4, h5, h6, h7⟩
  · exact .inl h
  · exact .inr ⟨b, off, cap, hlt b h1, fun hh => hh, h4, h5, h6, h7⟩

/-- What the document's Read answers. -/
def readR (R : RSt) (G : List Ent) (n : List UInt8) : Int := if R.off = true then 32 else match look G n with | some _ => 0 | none => 30

set_option maxHeartbeats 6400000 in
set_option maxRecDepth 100000 in
theorem rread_any {w : World} {r : Nat} {R : RSt} {vf : Value} {G : List Ent} {Q : Nat → Prop} (n : List UInt8) (h : RX w r R vf G Q) :
    Calls Tryd.prog 30 #[.pointer (some ⟨r, 0, none⟩), .string ⟨n.toArray⟩] w fun ev w' => ∃ v, ev = .returned (.tuple #[v, .int .i64 (readR R G n)]) ∧ Below w.heap.size w w' ∧
      w'.ownsRow w.heap.size 5 1 v (if readR R G n = 0 then oldData G n else []).length (byteCells (if readR R G n = 0 then oldData G n else [])) := by
  have HA := hide (at_any n h)
  obtain ⟨c0, c1, c2, c3, c4⟩ := h.cells
  unfold readR
  by_cases hoff : R.off = true
  · rw [if_pos hoff]
    rw [hoff] at c2
    clear h
    go_enter Tryd.func30, Tryd.ntmps30
    go_wp2_with (first | (go_at_call 38; refine (unhide HA).mono ?_; rintro e0 w0 ⟨rfl, rfl⟩))
    go_ret2
    exact ⟨_, rfl, Below.refl _ _, World.ownsRow_nil _ _ _ _⟩
  · rw [if_neg hoff]
    have hoff' : R.off = false := by simpa using hoff
    rw [hoff'] at c2
    cases hlk : look G n with
    | none =>
      rw [at_none hlk] at HA
      clear h
      go_enter Tryd.func30, Tryd.ntmps30
      go_wp2_with (first | (go_at_call 38; refine (unhide HA).mono ?_; rintro e0 w0 ⟨rfl, rfl⟩))
      go_ret2
      exact ⟨_, rfl, Below.refl _ _, World.ownsRow_nil _ _ _ _⟩
    | some e =>
      obtain ⟨i, hi, hat, hen⟩ := at_some hlk
      rw [hat] at HA
      have hod : oldData G n = e.data := by unfold oldData; rw [hlk]
      simp only [if_true, hod]
      obtain ⟨a, cap, rfl, hcap, hfl⟩ := h.files
      obtain ⟨g, rfl, hgr, hgl, cn, cv, cs, _⟩ := hfl i e hi
      have hdat := h.dat e (List.mem_of_getElem? hi)
      obtain ⟨ea, ek, hev⟩ := hdat.slice
      rw [hev] at cv hdat
      have hlen := (h.len e (List.mem_of_getElem? hi)).2
      have HRB := hide (hdat.o h.lt hlen)
      have hil : i < G.length := (List.getElem?_eq_some_iff.1 hi).1
      have hi1 : (i : Int) < (G.length : Int) := by omega
      have hi0 : ¬ (i : Int) < 0 := by omega
      clear h hfl hdat
      go_enter Tryd.func30, Tryd.ntmps30
      go_wp2_with (first
        | (go_at_call 38; refine (unhide HA).mono ?_; rintro e0 w0 ⟨rfl, rfl⟩)
        | (at_builtin; refine wpList_append_at rfl _ _ rfl (.slice none 0 0) 0 [] rfl (World.ownsRow_nil _ _ _ _) (fun _ => False) _ e.data rfl (unhide HRB) (by omega) ?_; intro v3 w3 hrow3 hg3 hloc3))
      go_ret2
      rw [Nat.zero_add] at hrow3
      refine ⟨v3, rfl, (Below.refl _ _).grown hg3 (by simp) (fun k hk => by simp [Value.ownBlock] at hk), ownsRow_from hrow3 (fun k hk => ?_)⟩
      rcases hloc3 with hl | hl
      · rw [hl] at hk; simp [Value.ownBlock] at hk
      · rw [hl] at hk; cases hk; exact Nat.le_refl _

theorem gCells_set : ∀ {G : List Ent} {i : Nat} {e' : Ent}, i < G.length → gCells (G.set i e') = (((gCells G).set (i * 3) (.string ⟨e'.name.toArray⟩)).set (i * 3 + 1) e'.v).set (i * 3 + 2) (.int .i64 (e'.sure : Int))
  | x :: r, 0, e', _ => rfl
  | x :: r, i + 1, e', h => by
    have ih := gCells_set (G := r) (i := i) (e' := e') (by simpa using h)
    have e1 : (i + 1) * 3 = i * 3 + 1 + 1 + 1 := by omega
    rw [e1, List.set_cons_succ]
    show .string ⟨x.name.toArray⟩ :: x.v :: .int .i64 (x.sure : Int) :: gCells (r.set i e') = _
    rw [ih]
    rfl
/-- One file of the document's disk changed. -/
theorem RX.chg {w w' : World} {r : Nat} {R : RSt} {G : List Ent} {Q Q' : Nat → Prop} {i g cap : Nat} {e' : Ent} {cur cur' : Array Value} (h : RX w r R (.slice (some ⟨g, 0, none⟩) G.length cap) G Q) (hc : w.heap[g]? = some (.cells cur 61 (0, 0))) (hi : i < G.length)
    (hc' : w'.heap[g]? = some (.cells cur' 61 (0, 0))) (ht : cur'.toList = ((cur.toList.set (i * 3) (.string ⟨e'.name.toArray⟩)).set (i * 3 + 1) e'.v).set (i * 3 + 2) (.int .i64 (e'.sure : Int))) (hO : ∀ k, k < w.heap.size → k ≠ g → w'.heap[k]? = w.heap[k]?)
    (hd : RBq w' Q' r (.slice (some ⟨g, 0, none⟩) G.length cap) e'.v e'.data) (hQ : ∀ k, Q k → Q' k) (hQ' : ∀ k, Q' k → k < w'.heap.size) (hl : e'.sure ≤ e'.data.length ∧ e'.data.length ≤ 1048576) (hn : e'.name.length ≤ 40) : RX w' r R (.slice (some ⟨g, 0, none⟩) G.length cap) (G.set i e') Q' := by
  have hgr : g ≠ r := by
    rintro rfl
    have := h.blk
    rw [hc] at this; injection this with this; injection this with _ h6; exact absurd h6 (by decide)
  have hmem : ∀ x ∈ G.set i e', x = e' ∨ x ∈ G := fun x hx => (List.mem_or_eq_of_mem_set hx).elim .inr .inl
  obtain ⟨r1, ⟨e1, _⟩ | ⟨g', cap', cur0, e1, hb, hc0, r2, r3, r4, r5⟩⟩ := h.row
  · cases e1
  injection e1 with e1 _ e3
  injection e1 with e1
  injection e1 with e1
  subst e1 e3
  rw [hc] at hc0
  injection hc0 with hc0
  injection hc0 with hc0
  subst hc0
  refine ⟨(hO r (h.lt r h.oR) (fun e => hgr e.symm)).trans h.blk, ⟨?_, .inr ⟨g, cap, cur', by rw [List.length_set], Nat.zero_le _, hc', by rw [List.length_set]; exact r2, r3, ?_, ?_⟩⟩, fun x hx => ?_, by rw [List.length_set]; exact h.few, fun x hx => ?_, fun x hx => ?_, hQ _ h.oR, fun k hk => hQ _ (h.oF k hk), hQ'⟩
  · rw [gCells_length]
  · have e2 := congrArg List.length ht
    simp only [List.length_set, Array.length_toList] at e2
    omega
  · rw [List.length_set, ht, gCells_set hi, ← r5, List.take_set, List.take_set, List.take_set]
  · rcases hmem x hx with rfl | hx
    · exact hd
    · rcases h.dat x hx with hd' | ⟨b, off, cp, q1, q2, q3, q4, q5, q6, q7⟩
      · exact .inl hd'
      · exact .inr ⟨b, off, cp, hQ _ q1, q2, q3, q4, q5, q6, fun j hj => (cell_same (hO b (h.lt b q1) (fun e => q3 (by rw [e]; rfl))) _).trans (q7 j hj)⟩
  · rcases hmem x hx with rfl | hx
    · exact hl
    · exact h.len x hx
  · rcases hmem x hx with rfl | hx
    · exact hn
    · exact h.nam x hx
end Go.Proofs.YthebgoadeecmpaaDoor
