/- The document's disk: Append, whatever the name, the state. -/
import Derived.Test.YthebgoadeecmpaaDoorQAppN
namespace Go.Proofs.YthebgoadeecmpaaDoor
open Go.RowKit Go.Lib Go.Maps Go.WideMaps

/-- What the document's Append leaves. -/
def RAppPost (w : World) (r : Nat) (R : RSt) (vf : Value) (G : List Ent) (Q : Nat → Prop) (n lb : List UInt8) (ev : Ending) (w' : World) : Prop :=
  ev = .returned (.int .i64 (mayC R (rappC R G n lb.length)).2) ∧ FrO Q w w' ∧
    ((mayC R (rappC R G n lb.length)).2 ≠ 0 → RX w' r (mayC R (rappC R G n lb.length)).1 vf G Q) ∧
    ((mayC R (rappC R G n lb.length)).2 = 0 → ∃ (vf' v' : Value) (Q' : Nat → Prop) (G' : List Ent), RX w' r (mayC R (rappC R G n lb.length)).1 vf' G' Q' ∧ (∀ q, Q' q → Q q ∨ w.heap.size ≤ q) ∧
      ((∃ (i : Nat) (e : Ent), look G n = some e ∧ G[i]? = some e ∧ G' = G.set i ⟨e.name, 0, v', e.data ++ lb, e.sure⟩) ∨ (look G n = none ∧ G' = G.take (lessN n G) ++ ⟨n, 0, v', lb, 0⟩ :: G.drop (lessN n G))))

set_option maxHeartbeats 3200000 in
set_option maxRecDepth 100000 in
theorem rappend_any {w : World} {r : Nat} {R : RSt} {vf : Value} {G : List Ent} {Q : Nat → Prop} (n : List UInt8) (bv : Value) (lb : List UInt8) (h : RX w r R vf G Q) (hh : -1 ≤ R.halt ∧ R.halt ≤ 9223372036854775807) (hc : 0 ≤ R.count ∧ R.count < 1000000000) (hn : n.length ≤ 1000)
    (hnam : ∀ e ∈ G, okN e.name = true) (hb : RBz w Q bv lb) (hlb : lb.length ≤ 1000000) :
    Calls Tryd.prog 8 #[.pointer (some ⟨r, 0, none⟩), .string ⟨n.toArray⟩, bv] w (RAppPost w r R vf G Q n lb) := by
  unfold RAppPost
  by_cases hoff : R.off = true
  · unfold mayC
    simp only [if_pos hoff]
    obtain ⟨c0, c1, c2, c3, c4⟩ := h.cells
    rw [hoff] at c2
    have H := hide h
    clear h hb
    go_enter Tryd.func8, Tryd.ntmps8
    go_wp2
    go_ret
    exact ⟨rfl, FrO.refl _ _, fun _ => unhide H, fun h0 => absurd h0 (by decide)⟩
  · have hoff' : R.off = false := by simpa using hoff
    cases hok : okN n with
    | true =>
      cases hlk : look G n with
      | some e =>
        refine (rappend_old n bv lb h hh hc hn hoff' e hlk hok hb hlb).mono ?_
        rintro ev w' ⟨rfl, hf, h1, h2⟩
        refine ⟨rfl, hf, h1, fun h0 => ?_⟩
        obtain ⟨i, v', Q', hi, hx, hq⟩ := h2 h0
        exact ⟨_, v', Q', _, hx, hq, .inl ⟨i, e, rfl, hi, rfl⟩⟩
      | none =>
        refine (rappend_new n bv lb h hh hc hn hoff' hlk hok hb hlb).mono ?_
        rintro ev w' ⟨rfl, hf, h1, h2⟩
        refine ⟨rfl, hf, h1, fun h0 => ?_⟩
        obtain ⟨vf', v', Q', hx, hq⟩ := h2 h0
        exact ⟨vf', v', Q', _, hx, hq, .inr ⟨rfl, rfl⟩⟩
    | false =>
      have hlk : look G n = none := by
        cases hl : look G n with
        | none => rfl
        | some e =>
          obtain ⟨he, hen⟩ := look_mem hl
          have := hnam e he
          rw [hen, hok] at this
          cases this
      have h20 : (20 : Int) ≠ 0 := by decide
      unfold mayC rappC
      simp only [if_neg hoff, hok, if_true, if_pos h20]
      have HA := hide (at_any n h)
      rw [at_none hlk] at HA
      have HN := hide (named_any ⟨n.toArray⟩ w (by show n.toArray.size ≤ _; unfold maxLen; simp; omega))
      have hnl : (ByteArray.mk n.toArray).data.toList = n := by simp
      rw [hnl, hok] at HN
      obtain ⟨c0, c1, c2, c3, c4⟩ := h.cells
      rw [hoff'] at c2
      obtain ⟨ba, bk, rfl⟩ := hb.slice
      have H := hide h
      clear h hb
      go_enter Tryd.func8, Tryd.ntmps8
      go_wp2_with (first
        | (go_at_call 38; refine (unhide HA).mono ?_; rintro e1 w0 ⟨rfl, rfl⟩)
        | (go_at_call 39; refine (unhide HN).mono ?_; rintro e1 w0 ⟨rfl, rfl⟩))
      go_ret
      exact ⟨rfl, FrO.refl _ _, fun _ => unhide H, fun h0 => absurd h0 (by decide)⟩
end Go.Proofs.YthebgoadeecmpaaDoor
/- Both disks' numbers and files go alike. -/
namespace Go.Proofs.YthebgoadeecmpaaDoor
open Go.RowKit Go.Lib Go.Maps Go.WideMaps

theorem set_repl {G : List Ent} (hr : Rising G) {i : Nat} {e e' : Ent} (hi : G[i]? = some e) (hn : e'.name = e.name) : G.set i e' = repl e' G := by
  induction G generalizing i with
  | nil => cases hi
  | cons x r ih =>
    obtain ⟨h1, h2⟩ := List.pairwise_cons.1 hr
    cases i with
    | zero =>
      simp at hi; subst hi
      unfold repl
      simp only [List.set_cons_zero, List.map_cons, hn, beq_self_eq_true, if_true]
      congr 1
      conv => lhs; rw [← List.map_id r]
      refine List.map_congr_left fun y hy => ?_
      have := bb_ne (h1 y hy)
      rw [if_neg (by simpa using fun hh => this hh.symm)]; rfl
    | succ i =>
      have hi' : r[i]? = some e := by simpa using hi
      have hx := bb_ne (h1 e (List.mem_of_getElem? hi'))
      rw [List.set_cons_succ, ih h2 hi']
      unfold repl
      rw [List.map_cons, if_neg (by rw [hn]; simpa using hx)]
theorem erase_del {G : List Ent} (hr : Rising G) {i : Nat} {e : Ent} (hi : G[i]? = some e) : G.eraseIdx i = delE e.name G := by
  induction G generalizing i with
  | nil => cases hi
  | cons x r ih =>
    obtain ⟨h1, h2⟩ := List.pairwise_cons.1 hr
    cases i with
    | zero =>
      simp at hi; subst hi
      unfold delE
      simp only [List.eraseIdx_cons_zero, List.filter_cons, beq_self_eq_true, Bool.not_true, Bool.false_eq_true, if_false]
      exact (List.filter_eq_self.2 fun y hy => by simpa using fun hh => bb_ne (h1 y hy) hh.symm).symm
    | succ i =>
      have hi' : r[i]? = some e := by simpa using hi
      have hx := bb_ne (h1 e (List.mem_of_getElem? hi'))
      have := ih h2 hi'
      unfold delE at this ⊢
      rw [List.eraseIdx_cons_succ, this, List.filter_cons, if_pos (by simpa using hx)]
theorem bb_total {a b : List UInt8} (h : a ≠ b) : bytesBefore a b = true ∨ bytesBefore b a = true := by
  induction a generalizing b with
  | nil =>
    cases b with
    | nil => exact absurd rfl h
    | cons y s => exact .inl rfl
  | cons x r ih =>
    cases b with
    | nil => exact .inr rfl
    | cons y s =>
      by_cases hxy : x = y
      · subst hxy
        have : r ≠ s := fun hh => h (by rw [hh])
        rcases ih this with h' | h'
        · left; simp [bytesBefore, h']
        · right; simp [bytesBefore, h']
      · rcases UInt8.lt_or_lt_of_ne hxy with h' | h'
        · left; simp [bytesBefore, h']
        · right; simp [bytesBefore, h']
theorem mid_ins {G : List Ent} {n : List UInt8} {e : Ent} (hlk : look G n = none) (hn : e.name = n) : G.take (lessN n G) ++ e :: G.drop (lessN n G) = insE e G := by
  induction G with
  | nil => rfl
  | cons x r ih =>
    have hx : x.name ≠ n := look_none hlk x (by simp)
    have hlk' : look r n = none := by
      unfold look at hlk ⊢
      rw [List.find?_cons] at hlk
      have : (x.name == n) = false := by simpa using hx
      rw [this] at hlk
      exact hlk
    unfold lessN insE
    cases hb : bytesBefore x.name n with
    | true =>
      have hnb : ¬ bytesBefore e.name x.name = true := fun hh => by
        rw [hn] at hh
        have := bb_trans hb hh
        rw [bb_irrefl] at this; cases this
      rw [List.takeWhile_cons, hb, if_neg hnb]
      have := ih hlk'
      unfold lessN at this
      simp [this]
    | false =>
      have hbb : bytesBefore e.name x.name = true := by
        rw [hn]
        rcases bb_total hx with h' | h'
        · rw [hb] at h'; cases h'
        · exact h'
      rw [List.takeWhile_cons, hb, if_pos hbb]
      rfl

/-- Both disks' numbers alike. -/
structure Alike (S : St) (R : RSt) : Prop where
  room : S.room = R.room
  off : S.off = R.off
  count : S.count = R.count
  halt : R.halt = if S.halting = true then S.left else -1
  left : S.halting = true → 0 ≤ S.left
theorem alike_begin {S : St} {R : RSt} (h : Alike S R) (c : Int) : (beginS S c).2 = (mayC R c).2 ∧ Alike (beginS S c).1 (mayC R c).1 := by
  unfold beginS mayC
  by_cases ho : S.off = true
  · rw [if_pos ho, if_pos (by rw [← h.off]; exact ho)]
    exact ⟨rfl, h⟩
  · have ho' : ¬ R.off = true := by rw [← h.off]; exact ho
    rw [if_neg ho, if_neg ho']
    by_cases hc : c ≠ 0
    · rw [if_pos hc, if_pos hc]
      exact ⟨rfl, h⟩
    · rw [if_neg hc, if_neg hc]
      have hh := h.halt
      unfold mayR
      by_cases hz : S.halting = true ∧ S.left = 0
      · rw [if_pos hz]
        rw [if_pos hz.1, hz.2] at hh
        rw [if_pos hh]
        exact ⟨rfl, ⟨h.room, rfl, h.count, by show R.halt = if S.halting = true then S.left else -1; rw [if_pos hz.1, hz.2]; exact hh, h.left⟩⟩
      · rw [if_neg hz]
        by_cases hs : S.halting = true
        · rw [if_pos hs] at hh
          have hl := h.left hs
          have hl0 : S.left ≠ 0 := fun h' => hz ⟨hs, h'⟩
          have hne : R.halt ≠ 0 := by rw [hh]; exact hl0
          have hpos : 0 < R.halt := by omega
          rw [if_neg hne]
          refine ⟨rfl, ⟨h.room, h.off, by show S.count + 1 = R.count + 1; rw [h.count], ?_, fun _ => ?_⟩⟩
          · show (if 0 < R.halt then R.halt - 1 else R.halt) = if S.halting = true then (if S.halting = true then S.left - 1 else S.left) else -1
            rw [if_pos hpos, if_pos hs, if_pos hs, hh]
          · show 0 ≤ (if S.halting = true then S.left - 1 else S.left)
            rw [if_pos hs]; omega
        · rw [if_neg hs] at hh
          have hne : R.halt ≠ 0 := by rw [hh]; decide
          rw [if_neg hne]
          refine ⟨rfl, ⟨h.room, h.off, by show S.count + 1 = R.count + 1; rw [h.count], ?_, fun hx => absurd hx hs⟩⟩
          show (if 0 < R.halt then R.halt - 1 else R.halt) = if S.halting = true then (if S.halting = true then S.left - 1 else S.left) else -1
          rw [if_neg hs, hh]; rfl
theorem alike_app {S : St} {R : RSt} {G : List Ent} {n : List UInt8} {m : Nat} (h : Alike S R) (hnam : ∀ e ∈ G, okN e.name = true) : appC S G n m = rappC R G n m := by
  have hfit : ∀ k, (fitsB S G k m = true) ↔ ¬ (R.room < (usedL G : Int) + m ∨ (1048576 : Int) < (k : Int) + m) := fun k => by
    unfold fitsB
    rw [h.room]
    simp only [Bool.and_eq_true, decide_eq_true_eq]
    omega
  unfold appC rappC anotherC oldData
  cases hl : look G n with
  | some e =>
    obtain ⟨he, hen⟩ := look_mem hl
    have hok : okN n = true := by rw [← hen]; exact hnam e he
    have hokf : ¬ okN n = false := by rw [hok]; decide
    rw [if_neg hokf]
    have := hfit e.data.length
    by_cases hf : fitsB S G e.data.length m = true
    · have h' := this.1 hf
      simp only [hf, if_true]
      rw [if_neg (by rintro (h1 | h1 | ⟨h1, _⟩); exact h' (.inl h1); exact h' (.inr h1); cases h1)]
    · have h' := Classical.not_not.1 (fun hh => hf (this.2 hh))
      simp only [if_neg hf]
      rw [if_pos (h'.elim .inl (fun h => .inr (.inl h)))]
  | none =>
    cases hok : okN n with
    | false => simp
    | true =>
      have := hfit 0
      by_cases h64 : G.length < 64
      · by_cases hf : fitsB S G 0 m = true
        · have h' := this.1 hf
          simp only [if_true, h64, hf, Bool.true_eq_false, if_false]
          rw [if_neg (by rintro (h1 | h1 | ⟨_, h1⟩); exact h' (.inl h1); exact h' (.inr h1); omega)]
        · have h' := Classical.not_not.1 (fun hh => hf (this.2 hh))
          simp only [if_true, h64, if_neg hf, Bool.true_eq_false, if_false]
          rw [if_pos (h'.elim .inl (fun h => .inr (.inl h)))]
      · simp only [if_true, if_neg h64, Bool.true_eq_false, if_false]
        rw [if_neg (by decide : ¬ (31 : Int) = 0), if_pos (by first | exact .inr (.inr ⟨rfl, by omega⟩) | exact .inr (.inr ⟨trivial, by omega⟩))]
end Go.Proofs.YthebgoadeecmpaaDoor
