/- Values, on two rows that read the same; the walk of the statement WireReads: it answers true; nothing old turns. -/
import Derived.Test.YtahcfanmfocljaaDoorUnAll
namespace Go.Proofs.YtahcfanmfocljaaDoor
open Go.RowKit Go.Lib

/-- A row that reads as these values. -/
def RW (w : World) (v : Value) (gs : List GV) : Prop :=
  (v = .slice none 0 0 ∧ gs = []) ∨ ∃ b off cap, b < w.heap.size ∧ v = .slice (some ⟨b, off, none⟩) gs.length cap ∧ ∀ i g, gs[i]? = some g → w.cell? ⟨b, off + i * 3, none⟩ = some (.int .i64 g.kind) ∧ w.cell? ⟨b, off + i * 3 + 1, none⟩ = some (.int .i64 g.int) ∧ w.cell? ⟨b, off + i * 3 + 2, none⟩ = some (.string g.text)
theorem RW.later {w w' : World} {v : Value} {gs : List GV} (h : RW w v gs) (hb : Below w.heap.size w w') : RW w' v gs := by
  rcases h with h | ⟨b, off, cap, hbB, rfl, hc⟩
  · exact .inl h
  · refine .inr ⟨b, off, cap, Nat.lt_of_lt_of_le hbB hb.size, rfl, fun i g hg => ?_⟩
    obtain ⟨c0, c1, c2⟩ := hc i g hg
    exact ⟨(hb.cell (p := ⟨b, off + i * 3, none⟩) hbB).trans c0, (hb.cell (p := ⟨b, off + i * 3 + 1, none⟩) hbB).trans c1, (hb.cell (p := ⟨b, off + i * 3 + 2, none⟩) hbB).trans c2⟩
theorem gvs_get : ∀ (gs : List GV) (i j : Nat) (g : GV), gs[i]? = some g → j < 3 → (gvsCells gs)[i * 3 + j]? = (gvCells g)[j]?
  | [], i, j, g, h, hj => by simp at h
  | x :: r, 0, j, g, h, hj => by
    simp at h; subst h
    rw [gvsCells, List.flatMap_cons, List.getElem?_append_left (by simp [gvCells]; omega)]
    simp
  | x :: r, i + 1, j, g, h, hj => by
    have h' : r[i]? = some g := by simpa using h
    have ih := gvs_get r i j g h' hj
    rw [gvsCells, List.flatMap_cons, List.getElem?_append_right (by simp [gvCells]; omega)]
    have e : (i + 1) * 3 + j - (gvCells x).length = i * 3 + j := by simp [gvCells]; omega
    rw [e]; exact ih
theorem own_rw {w : World} {B : Nat} {v : Value} {gs : List GV} (h : w.ownsRow B 81 3 v gs.length (gvsCells gs)) : RW w v gs := by
  obtain ⟨h1, ⟨rfl, h2⟩ | ⟨g, cap, cur, rfl, h4, h5, h6, h7, h8, h9⟩⟩ := h
  · exact .inl ⟨rfl, List.eq_nil_of_length_eq_zero h2⟩
  · refine .inr ⟨g, 0, cap, ?_, rfl, fun i x hx => ?_⟩
    · rcases Nat.lt_or_ge g w.heap.size with h' | h'
      · exact h'
      · rw [Array.getElem?_eq_none h'] at h5; cases h5
    · have cell : ∀ j u, j < 3 → (gvCells x)[j]? = some u → w.cell? ⟨g, 0 + i * 3 + j, none⟩ = some u := by
        intro j u hj hu
        have e1 := gvs_get gs i j x hx hj
        rw [hu, ← h9] at e1
        have hlt : i * 3 + j < gs.length * 3 := by
          have := (List.getElem?_eq_some_iff.1 hx).1
          omega
        rw [List.getElem?_take, if_pos hlt, Array.getElem?_toList] at e1
        simp [World.cell?, h5, e1]
      have c0 := cell 0 _ (by omega) rfl
      have c1 := cell 1 _ (by omega) rfl
      have c2 := cell 2 _ (by omega) rfl
      exact ⟨by simpa using c0, c1, c2⟩

set_option maxHeartbeats 1600000 in
set_option maxRecDepth 100000 in
theorem values_same (v v' : Value) (gs : List GV) (w : World) (hl : gs.length ≤ 1000000) (h : RW w v gs) (h' : RW w v' gs) :
    Calls Tryd.prog 26 #[v, v'] w fun e w' => e = .returned (.bool true) ∧ ∃ m, w' = w.drewN m := by
  by_cases hne : gs = []
  · subst hne
    have e : ∃ a k, v = .slice a 0 k := by
      rcases h with ⟨rfl, _⟩ | ⟨b, off, cap, _, rfl, _⟩
      · exact ⟨_, _, rfl⟩
      · exact ⟨_, _, rfl⟩
    have e' : ∃ a k, v' = .slice a 0 k := by
      rcases h' with ⟨rfl, _⟩ | ⟨b, off, cap, _, rfl, _⟩
      · exact ⟨_, _, rfl⟩
      · exact ⟨_, _, rfl⟩
    obtain ⟨a, k, rfl⟩ := e
    obtain ⟨a', k', rfl⟩ := e'
    clear h h'
    go_enter Tryd.func26, Tryd.ntmps26
    go_wp2
    refine wp_loop_rounds 1 ?_
    rw [rounds_succ]
    go_wp2
    go_ret
    exact ⟨rfl, 0, rfl⟩
  · rcases h with ⟨_, h⟩ | ⟨b, off, cap, _, rfl, hc⟩
    · exact absurd h hne
    rcases h' with ⟨_, h⟩ | ⟨b', off', cap', _, rfl, hc'⟩
    · exact absurd h hne
    have HC := hide hc
    have HC' := hide hc'
    have hl' : (gs.length : Int) ≤ 1000000 := by omega
    clear hc hc' hne
    go_enter Tryd.func26, Tryd.ntmps26
    go_wp2
    go_loopw [5] (fun i wr => ∃ k m : Nat, k ≤ gs.length ∧ i = .int .i64 k ∧ wr = w.drewN m) (fun i _ => gs.length - (intOf i).toNat)
    case atStart => exact ⟨0, 0, by omega, rfl, rfl⟩
    case round =>
      obtain ⟨k, m, hk, rfl, rfl⟩ := hrel
      by_cases hlt : k < gs.length
      · obtain ⟨g, hgk⟩ : ∃ g, gs[k]? = some g := ⟨gs[k], List.getElem?_eq_getElem hlt⟩
        obtain ⟨c0, c1, c2⟩ := unhide HC k g hgk
        obtain ⟨d0, d1, d2⟩ := unhide HC' k g hgk
        have hki : (k : Int) < (gs.length : Int) := by omega
        have hk0 : (0 : Int) ≤ (k : Int) := by omega
        clear HC HC' hgk
        go_wp2
        go_quiet (fail)
        go_wp2
        go_roundw
        case rel => exact ⟨k + 1, m + nq, by omega, by go_num, rfl⟩
        case measure => simp [intOf]; omega
      · clear HC HC'
        go_wp2
        go_ret
        exact ⟨rfl, m, rfl⟩
end Go.Proofs.YtahcfanmfocljaaDoor
namespace Go.Proofs.YtahcfanmfocljaaDoor
open Go.RowKit Go.Lib

/-- What a reader of the program tells; and the document's own. -/
def PP (V : Value) (k c : Nat) (W : World) (e : Ending) (w' : World) : Prop := ∃ er, e = .returned (.tuple #[V, .int .i64 (k : Int), er]) ∧ EO w' er (c : Int) ∧ Below W.heap.size W w'
def PR (V : Value) (k c : Nat) (W : World) (e : Ending) (w' : World) : Prop := e = .returned (.tuple #[V, .int .i64 (k : Int), .int .i64 (c : Int)]) ∧ Below W.heap.size W w'
theorem pp_ok {V : Value} {k : Nat} {W : World} {e : Ending} {w' : World} (h : e = .returned (.tuple #[V, .int .i64 (k : Int), .nilIface]) ∧ w' = W) : PP V k 0 W e w' := by
  obtain ⟨rfl, rfl⟩ := h
  exact ⟨_, rfl, .inl ⟨rfl, rfl⟩, Below.refl _ _⟩
theorem pp_bad {V : Value} {c b : Nat} {pl : Int} {W : World} {e : Ending} {w' : World} (h : e = .returned (.tuple #[V, .int .i64 0, ev b]) ∧ ErrAt w' b pl (c : Int) ∧ Below W.heap.size W w') : PP V 0 c W e w' := by
  obtain ⟨rfl, h1, h2⟩ := h
  exact ⟨_, rfl, .inr ⟨b, pl, rfl, h1⟩, h2⟩
theorem pr_same {V : Value} {k c : Nat} {W : World} {e : Ending} {w' : World} (h : e = .returned (.tuple #[V, .int .i64 (k : Int), .int .i64 (c : Int)]) ∧ w' = W) : PR V k c W e w' := by
  obtain ⟨rfl, rfl⟩ := h
  exact ⟨rfl, Below.refl _ _⟩

theorem reads_uint (v : Value) (l : List UInt8) (w : World) (hv : RBp w w.heap.size v l) :
    ∃ (n : Int) (k c : Nat), (∀ W, Below w.heap.size w W → Calls Tryd.prog 17 #[v] W fun e w' => PP (.int .u64 n) k c W e w') ∧ (∀ W, Below w.heap.size w W → Calls Tryd.prog 21 #[v] W fun e w' => PR (.int .u64 n) k c W e w') := by
  rcases decU_cases l with ⟨n, k, hd, _⟩ | ⟨q, hd⟩ | ⟨q, hd, _⟩
  · exact ⟨n, k, 0, fun W hW => (uint_ok v _ n k 0 l W (rb_later hv hW hW.size) hd).mono fun _ _ h => pp_ok h, fun W hW => (refUint_is (rb_later hv hW hW.size) hd).mono fun _ _ h => pr_same h⟩
  · exact ⟨0, 0, 20, fun W hW => (uint_badb v _ 20 q l W (rb_later hv hW hW.size) (by decide) hd).mono fun _ _ h => pp_bad h, fun W hW => (refUint_is (rb_later hv hW hW.size) hd).mono fun _ _ h => pr_same h⟩
  · exact ⟨0, 0, 22, fun W hW => (uint_badb v _ 22 q l W (rb_later hv hW hW.size) (by decide) hd).mono fun _ _ h => pp_bad h, fun W hW => (refUint_is (rb_later hv hW hW.size) hd).mono fun _ _ h => pr_same h⟩
theorem reads_int (v : Value) (l : List UInt8) (w : World) (hv : RBp w w.heap.size v l) :
    ∃ (n : Int) (k c : Nat), (∀ W, Below w.heap.size w W → Calls Tryd.prog 18 #[v] W fun e w' => PP (.int .i64 n) k c W e w') ∧ (∀ W, Below w.heap.size w W → Calls Tryd.prog 22 #[v] W fun e w' => PR (.int .i64 n) k c W e w') := by
  have u0 : unzig 0 = 0 := by decide
  rcases decU_cases l with ⟨n, k, hd, hn, _⟩ | ⟨q, hd⟩ | ⟨q, hd, _⟩
  · exact ⟨unzig n, k, 0, fun W hW => (int_ok v _ n k 0 l W (rb_later hv hW hW.size) hn hd).mono fun _ _ h => pp_ok h, fun W hW => (refInt_any v _ n k 0 0 l W (rb_later hv hW hW.size) hd (fun h => absurd rfl h) hn).mono fun _ _ h => pr_same h⟩
  · exact ⟨0, 0, 20, fun W hW => (int_bad v _ 20 q l W (rb_later hv hW hW.size) (by decide) hd).mono fun _ _ h => pp_bad h, fun W hW => (refInt_any v _ 0 0 20 q l W (rb_later hv hW hW.size) hd (fun _ => ⟨rfl, rfl⟩) (by decide)).mono fun _ _ h => pr_same (by rw [u0] at h; exact h)⟩
  · exact ⟨0, 0, 22, fun W hW => (int_bad v _ 22 q l W (rb_later hv hW hW.size) (by decide) hd).mono fun _ _ h => pp_bad h, fun W hW => (refInt_any v _ 0 0 22 q l W (rb_later hv hW hW.size) hd (fun _ => ⟨rfl, rfl⟩) (by decide)).mono fun _ _ h => pr_same (by rw [u0] at h; exact h)⟩
theorem reads_text (v : Value) (l : List UInt8) (w : World) (hv : RBp w w.heap.size v l) :
    ∃ (s : ByteArray) (k c : Nat), (∀ W, Below w.heap.size w W → Calls Tryd.prog 19 #[v] W fun e w' => PP (.string s) k c W e w') ∧ (∀ W, Below w.heap.size w W → Calls Tryd.prog 23 #[v] W fun e w' => PR (.string s) k c W e w') := by
  refine ⟨⟨(refTxt l 2000).1.toArray⟩, (refTxt l 2000).2.1, (refTxt l 2000).2.2, fun W hW => ?_, fun W hW => (refText2_any v _ l W (rb_later hv hW hW.size)).mono fun _ _ h => pr_same h⟩
  have hvW := rb_later hv hW hW.size
  rcases decU_cases l with ⟨n, k, hd, _, hk, hk0⟩ | ⟨q, hd⟩ | ⟨q, hd, _⟩
  · by_cases h1 : 2000 < n
    · have e : refTxt l 2000 = ([], 0, 20) := by simp [refTxt, hd, h1]
      rw [e]
      exact (text_great v _ n k 0 l W hvW hd h1).mono fun _ _ ⟨b, pl, h⟩ => pp_bad h
    · by_cases h2 : l.length - k < n
      · have e : refTxt l 2000 = ([], 0, 22) := by simp [refTxt, hd, h1, h2]
        rw [e]
        exact (text_short v _ n k 0 l W hvW hd (by omega) hk (by omega)).mono fun _ _ ⟨b, pl, h⟩ => pp_bad h
      · have e : refTxt l 2000 = ((l.drop k).take n, k + n, 0) := by simp [refTxt, hd, h1, h2]
        rw [e]
        exact (text_ok v _ n k 0 l W hvW hd (by omega) (by omega) hk0).mono fun _ _ h => pp_ok h
  · have e : refTxt l 2000 = ([], 0, 20) := by simp [refTxt, hd]
    rw [e]
    exact (text_bad v _ 20 q l W hvW (by decide) hd).mono fun _ _ h => pp_bad h
  · have e : refTxt l 2000 = ([], 0, 22) := by simp [refTxt, hd]
    rw [e]
    exact (text_bad v _ 22 q l W hvW (by decide) hd).mono fun _ _ h => pp_bad h
theorem rdVals_len (l : List UInt8) (s : Except Nat Nat) : ∀ n, (rdVals l n s).1.length ≤ n := by
  intro n
  induction n with
  | zero => simp [rdVals]
  | succ n ih =>
    unfold rdVals
    split
    · simp
    · split
      · simp
      · simp; omega
theorem rdRow_len (l : List UInt8) : (rdRow l (.ok 0)).1.length ≤ 1000000 := by
  unfold rdRow
  split
  · simp
  · rename_i a h
    obtain ⟨n, e, hn⟩ := rdBetween_ok (by omega) h
    have := rdVals_len l (.ok a) (rdBetween l 0 64 (.ok 0)).1.toNat
    rw [e] at this ⊢
    simp at this hn ⊢
    omega
theorem reads_row (v : Value) (l : List UInt8) (w : World) (hE : ET w) (hv : RBp w w.heap.size v l) :
    ∃ (gs : List GV) (k c : Nat), gs.length ≤ 1000000 ∧ (∀ W, Below w.heap.size w W → Calls Tryd.prog 24 #[v] W fun e w' => ∃ x er, e = .returned (.tuple #[x, .int .i64 (k : Int), er]) ∧ RW w' x gs ∧ EO w' er (c : Int) ∧ Below W.heap.size W w') ∧
      (∀ W, Below w.heap.size w W → Calls Tryd.prog 25 #[v] W fun e w' => ∃ x, e = .returned (.tuple #[x, .int .i64 (k : Int), .int .i64 (c : Int)]) ∧ RW w' x gs ∧ Below W.heap.size W w') := by
  have hlen := rdRow_len l
  cases hr : (rdRow l (.ok 0)).2 with
  | ok k =>
    refine ⟨(rdRow l (.ok 0)).1, k, 0, hlen, fun W hW => (row_any v l W (hE.later hW) (rb_later hv hW hW.size)).mono fun e w' h => ?_, fun W hW => (refRow_any v l W (rb_later hv hW hW.size)).mono fun e w' h => ?_⟩
    · unfold RowPost at h; rw [hr] at h
      obtain ⟨x, rfl, ho, hb⟩ := h
      exact ⟨x, _, rfl, own_rw ho, .inl ⟨rfl, rfl⟩, hb⟩
    · unfold RRPost at h; rw [hr] at h
      obtain ⟨x, rfl, ho, hb⟩ := h
      exact ⟨x, rfl, own_rw ho, hb⟩
  | error c =>
    refine ⟨[], 0, c, by simp, fun W hW => (row_any v l W (hE.later hW) (rb_later hv hW hW.size)).mono fun e w' h => ?_, fun W hW => (refRow_any v l W (rb_later hv hW hW.size)).mono fun e w' h => ?_⟩
    · unfold RowPost at h; rw [hr] at h
      obtain ⟨b, pl, rfl, he, _, hb⟩ := h
      exact ⟨_, _, rfl, .inl ⟨rfl, rfl⟩, .inr ⟨b, pl, rfl, he⟩, hb⟩
    · unfold RRPost at h; rw [hr] at h
      obtain ⟨rfl, hb⟩ := h
      exact ⟨_, rfl, .inl ⟨rfl, rfl⟩, hb⟩
theorem reads_entry (v : Value) (l : List UInt8) (w : World) (hE : ET w) (hv : RBp w w.heap.size v l) :
    ∃ (g : GE) (k c : Nat), (∀ W, Below w.heap.size w W → Calls Tryd.prog 27 #[v] W fun e w' => PP (.agg #[.int .u64 g.term, .int .i64 g.kind, .int .u64 g.client, .int .u64 g.seq, .string g.sql]) k c W e w') ∧
      (∀ W, Below w.heap.size w W → Calls Tryd.prog 28 #[v] W fun e w' => PR (.agg #[.int .u64 g.term, .int .i64 g.kind, .int .u64 g.client, .int .u64 g.seq, .string g.sql]) k c W e w') := by
  obtain ⟨g, k, c, hr⟩ : ∃ g k c, refEnt l = (g, k, c) := ⟨_, _, _, rfl⟩
  refine ⟨g, k, c, fun W hW => (entry_any v l W (hE.later hW) (rb_later hv hW hW.size)).mono fun e w' h => ?_, fun W hW => (refEntry_any v l W (rb_later hv hW hW.size)).mono fun e w' h => ?_⟩
  · obtain ⟨s1, s2⟩ := ent_same l
    by_cases hc : c = 0
    · subst hc
      have e1 := s1 g k hr
      rw [e1] at h
      obtain ⟨rfl, hb⟩ := h
      exact ⟨_, rfl, .inl ⟨rfl, rfl⟩, hb⟩
    · obtain ⟨e1, rfl, rfl⟩ := s2 g k c hr hc
      unfold EntPost at h
      rw [e1] at h
      obtain ⟨b, pl, rfl, he, hb⟩ := h
      exact ⟨_, rfl, .inr ⟨b, pl, rfl, he⟩, hb⟩
  · rw [hr] at h
    obtain ⟨rfl, hb⟩ := h
    exact ⟨rfl, hb⟩

set_option maxHeartbeats 1600000 in
set_option maxRecDepth 100000 in
theorem reads_long (ad : Option Addr) (len cap : Nat) (w : World) (hE : ET w) (hT : ST w) (hm : len ≤ maxLen) (hbig : 3000 < len) :
    Calls Tryd.prog 4 #[.slice ad len cap] w fun e w' => e = .returned (.bool true) ∧ Below w.heap.size w w' := by
  have HK := hide (known_any w hE hT)
  clear hE hT
  have hm' : (len : Int) ≤ 9223372036854775807 := by unfold maxLen at hm; omega
  have hb' : (3000 : Int) < (len : Int) := by omega
  clear hm
  go_enter Tryd.func4, Tryd.ntmps4
  go_wp2_with (first | (go_at_call 9; refine (unhide HK).mono ?_; rintro e w1 ⟨rfl, hb1⟩))
  go_ret
  exact ⟨rfl, hb1⟩

set_option maxHeartbeats 6400000 in
set_option maxRecDepth 100000 in
theorem reads_small (v : Value) (l : List UInt8) (w : World) (hE : ET w) (hT : ST w) (hv : RBp w w.heap.size v l) (hl : l.length ≤ 3000) :
    Calls Tryd.prog 4 #[v] w fun e w' => e = .returned (.bool true) ∧ Below w.heap.size w w' := by
  have HK := hide (known_any w hE hT)
  have hl' : ¬ ((3000 : Int) < (l.length : Int)) := by omega
  have HE := hide (fun (W : World) (hb : Below w.heap.size w W) => hE.later hb)
  obtain ⟨n1, k1, c1, P1, R1⟩ := reads_uint v l w hv
  obtain ⟨n2, k2, c2, P2, R2⟩ := reads_int v l w hv
  obtain ⟨n3, k3, c3, P3, R3⟩ := reads_text v l w hv
  obtain ⟨gs, k4, c4, hgl, P4, R4⟩ := reads_row v l w hE hv
  obtain ⟨g, k5, c5, P5, R5⟩ := reads_entry v l w hE hv
  obtain ⟨lm, k6, c6, P6, R6⟩ : ∃ (lm : List UInt8) (k c : Nat), (∀ W, Below w.heap.size w W → Calls Tryd.prog 29 #[v] W fun e w' => ∃ p er, e = .returned (.tuple #[p, .int .i64 (k : Int), er]) ∧ RBp w' w'.heap.size p lm ∧ EO w' er (c : Int) ∧ Below W.heap.size W w') ∧
      (∀ W, Below w.heap.size w W → Calls Tryd.prog 30 #[v] W fun e w' => ∃ p, e = .returned (.tuple #[p, .int .i64 (k : Int), .int .i64 (c : Int)]) ∧ RBp w' w'.heap.size p lm ∧ Below W.heap.size W w') :=
    ⟨_, _, _, fun W hW => unframe_any v l W (hT.later hW) (by omega) (rb_later hv hW hW.size), fun W hW => refUnframe_any v l W (by omega) (rb_later hv hW hW.size)⟩
  obtain ⟨ad, kk, rfl⟩ := rb_len hv
  have P1 := hide P1
  have P2 := hide P2
  have P3 := hide P3
  have P4 := hide P4
  have P5 := hide P5
  have P6 := hide P6
  have R1 := hide R1
  have R2 := hide R2
  have R3 := hide R3
  have R4 := hide R4
  have R5 := hide R5
  have R6 := hide R6
  clear hE hT hv
  go_enter Tryd.func4, Tryd.ntmps4
  go_wp2_with (first
    | (go_at_call 9; refine (unhide HK).mono ?_; rintro e w1 ⟨rfl, hb1⟩)
    | (go_at_call 17; refine (unhide P1 _ hb1).mono ?_; rintro e w2 ⟨er2, rfl, e2, hb2⟩; have d2 := bt hb1 hb2)
    | (go_at_call 21; refine (unhide R1 _ d2).mono ?_; rintro e w3 ⟨rfl, hb3⟩; have d3 := bt d2 hb3; have e3 := e2.later hb3)
    | (go_at_call 20; refine (class_eo er2 c1 w3 (unhide HE _ d3) e3).mono ?_; rintro e w4 ⟨rfl, hb4⟩; have d4 := bt d3 hb4; clear hb1 hb2 hb3 hb4 d2 d3 e2 e3 P1 R1)
    | (go_at_call 18; refine (unhide P2 _ d4).mono ?_; rintro e w5 ⟨er5, rfl, e5, hb5⟩; have d5 := bt d4 hb5)
    | (go_at_call 22; refine (unhide R2 _ d5).mono ?_; rintro e w6 ⟨rfl, hb6⟩; have d6 := bt d5 hb6; have e6 := e5.later hb6)
    | (go_at_call 20; refine (class_eo er5 c2 w6 (unhide HE _ d6) e6).mono ?_; rintro e w7 ⟨rfl, hb7⟩; have d7 := bt d6 hb7; clear hb5 hb6 hb7 d4 d5 d6 e5 e6 P2 R2)
    | (go_at_call 19; refine (unhide P3 _ d7).mono ?_; rintro e w8 ⟨er8, rfl, e8, hb8⟩; have d8 := bt d7 hb8)
    | (go_at_call 23; refine (unhide R3 _ d8).mono ?_; rintro e w9 ⟨rfl, hb9⟩; have d9 := bt d8 hb9; have e9 := e8.later hb9)
    | (go_at_call 20; refine (class_eo er8 c3 w9 (unhide HE _ d9) e9).mono ?_; rintro e w10 ⟨rfl, hb10⟩; have d10 := bt d9 hb10; clear hb8 hb9 hb10 d7 d8 d9 e8 e9 P3 R3)
    | (go_at_call 24; refine (unhide P4 _ d10).mono ?_; rintro e w11 ⟨x11, er11, rfl, r11, e11, hb11⟩; have d11 := bt d10 hb11)
    | (go_at_call 25; refine (unhide R4 _ d11).mono ?_; rintro e w12 ⟨x12, rfl, r12, hb12⟩; have d12 := bt d11 hb12; have e12 := e11.later hb12; have q12 := r11.later hb12)
    | (go_at_call 26; refine (values_same x11 x12 gs w12 hgl q12 r12).mono ?_; rintro e w13 ⟨rfl, m13, hw13⟩; have hb13 : Below w12.heap.size w12 w13 := (by rw [hw13]; exact drew_below w12 m13); have d13 := bt d12 hb13; have e13 := e12.later hb13; clear hw13 q12 r12 r11)
    | (go_at_call 20; refine (class_eo er11 c4 w13 (unhide HE _ d13) e13).mono ?_; rintro e w14 ⟨rfl, hb14⟩; have d14 := bt d13 hb14; clear hb11 hb12 hb13 hb14 d10 d11 d12 d13 e11 e12 e13 P4 R4)
    | (go_at_call 27; refine (unhide P5 _ d14).mono ?_; rintro e w15 ⟨er15, rfl, e15, hb15⟩; have d15 := bt d14 hb15)
    | (go_at_call 28; refine (unhide R5 _ (bt d15 (below_alloc _ (Nat.le_refl _)))).mono ?_; rintro e w16 ⟨rfl, hb16⟩; have d16 := bt (bt d15 (below_alloc (w := w15) (.cells #[.int .u64 g.term, .int .i64 g.kind, .int .u64 g.client, .int .u64 g.seq, .string g.sql] 52) (Nat.le_refl _))) hb16; have e16 := (e15.later (below_alloc (w := w15) (.cells #[.int .u64 g.term, .int .i64 g.kind, .int .u64 g.client, .int .u64 g.seq, .string g.sql] 52) (Nat.le_refl _))).later hb16; obtain ⟨j0, j1, j2, j3, j4⟩ := (C5.new w15 g.term g.kind g.client g.seq g.sql).below hb16 (by simp); have z16 : w15.heap.size < w16.heap.size := (by have := hb16.size; simp at this; omega))
    | (go_at_call 20; refine (class_eo er15 c5 _ (unhide HE _ (bt d16 (below_alloc _ (Nat.le_refl _)))) (e16.later (below_alloc _ (Nat.le_refl _)))).mono ?_; rintro e w18 ⟨rfl, hb18⟩; have d18 := bt (bt d16 (below_alloc (w := w16) (.cells #[.int .u64 g.term, .int .i64 g.kind, .int .u64 g.client, .int .u64 g.seq, .string g.sql] 52) (Nat.le_refl _))) hb18; clear hb15 hb16 hb18 d14 d15 d16 e15 e16 j0 j1 j2 j3 j4 z16 P5 R5)
    | (go_at_call 29; refine (unhide P6 _ d18).mono ?_; rintro e w19 ⟨p19, er19, rfl, r19, e19, hb19⟩; have d19 := bt d18 hb19)
    | (go_at_call 30; refine (unhide R6 _ d19).mono ?_; rintro e w20 ⟨p20, rfl, r20, hb20⟩; have d20 := bt d19 hb20; have e20 := e19.later hb20; have q20 := rb_later r19 hb20 hb20.size)
    | (go_at_call 13; refine (bytes_same p19 p20 _ _ lm w20 q20 r20).mono ?_; rintro e w20 ⟨rfl, rfl⟩)
    | (go_at_call 20; refine (class_eo er19 c6 w20 (unhide HE _ d20) e20).mono ?_; rintro e w21 ⟨rfl, hb21⟩; have d21 := bt d20 hb21))
  go_ret
  exact ⟨rfl, d21⟩
end Go.Proofs.YtahcfanmfocljaaDoor
