/- Tokens that are written again, rows of signs: on lists of bytes, without the program. -/
import Derived.Test.YtehgoioinogmkaaGreatDoorLMath2
namespace Go.Proofs.YtehgoioinogmkaaGreatDoor
open Go.RowKit Go.Lib

/-- A token as it is written. -/
def wt (k : Nat) (x : List UInt8) : List UInt8 := if k = 4 then 39 :: (esc x ++ [39]) else x
/-- Written with a blank behind it, it is told again, whatever follows. -/
def GoodT (k : Nat) (x : List UInt8) : Prop := ∃ j, j ≠ 0 ∧ (∀ rest, pieceL (wt k x ++ 32 :: rest) = .ok (j, (wt k x).length)) ∧ tokL j (wt k x) = (k, x)
theorem up_go : ∀ c : UInt8, goK 2 c = true → goK 2 (upperB c) = true ∧ goK 2 (lowerB c) = true := byte_all (by decide +kernel)
theorem up_kd : ∀ c : UInt8, kd c = 2 → kd (upperB c) = 2 ∧ kd (lowerB c) = 2 := byte_all (by decide +kernel)
theorem up_up : ∀ c : UInt8, upperB (upperB c) = upperB c ∧ upperB (lowerB c) = upperB c ∧ lowerB (lowerB c) = lowerB c := byte_all (by decide +kernel)
theorem takeWhile_stop {p : UInt8 → Bool} {d : UInt8} (hd : p d = false) (rest : List UInt8) : ∀ {l : List UInt8}, (∀ c ∈ l, p c = true) → (l ++ d :: rest).takeWhile p = l
  | [], _ => by rw [List.nil_append, List.takeWhile_cons, hd]; rfl
  | c :: r, h => by rw [List.cons_append, List.takeWhile_cons, if_pos (h c List.mem_cons_self), takeWhile_stop hd rest fun x hx => h x (List.mem_cons_of_mem _ hx)]
theorem mem_takeWhile {p : UInt8 → Bool} : ∀ {l : List UInt8}, ∀ c ∈ l.takeWhile p, p c = true
  | [], c, h => by cases h
  | d :: r, c, h => by
    rw [List.takeWhile_cons] at h
    split at h
    · rcases List.mem_cons.1 h with rfl | h
      · assumption
      · exact mem_takeWhile c h
    · cases h
theorem take_takeWhile {p : UInt8 → Bool} : ∀ {l : List UInt8}, l.take (l.takeWhile p).length = l.takeWhile p
  | [] => rfl
  | d :: r => by
    rw [List.takeWhile_cons]
    split
    · rw [List.length_cons, List.take_succ_cons, take_takeWhile]
    · rfl
theorem piece_run2 {c : UInt8} {r : List UInt8} (hc : kd c = 2) (hr : ∀ x ∈ r, goK 2 x = true) (rest : List UInt8) {d : UInt8} (hd : kd d = 1) : pieceL (c :: (r ++ d :: rest)) = .ok (1, r.length + 1) := by
  rw [pieceL, if_neg (by rw [hc]; decide), if_pos hc]
  unfold runL
  rw [takeWhile_stop (by unfold goK; rw [hd]; rfl) rest hr]
theorem piece_run3 {c : UInt8} {r : List UInt8} (hc : kd c = 3) (hr : ∀ x ∈ r, goK 3 x = true) (rest : List UInt8) {d : UInt8} (hd : kd d = 1) : pieceL (c :: (r ++ d :: rest)) = .ok (3, r.length + 1) := by
  rw [pieceL, if_neg (by rw [hc]; decide), if_neg (by rw [hc]; decide), if_pos hc]
  unfold runL
  rw [takeWhile_stop (by unfold goK; rw [hd]; rfl) rest hr]
theorem go3_kd : ∀ c : UInt8, goK 3 c = true ↔ kd c = 3 := byte_all (by decide +kernel)
theorem good_name {c : UInt8} {r : List UInt8} (hc : kd c = 2) (hr : ∀ x ∈ r, goK 2 x = true) : GoodT (tokL 1 (c :: r)).1 (tokL 1 (c :: r)).2 := by
  have hup : upL (upL (c :: r)) = upL (c :: r) := by simp only [upL, List.map_map]; exact List.map_congr_left fun x _ => (up_up x).1
  have hul : upL (loL (c :: r)) = upL (c :: r) := by simp only [upL, loL, List.map_map]; exact List.map_congr_left fun x _ => (up_up x).2.1
  have hll : loL (loL (c :: r)) = loL (c :: r) := by simp only [loL, List.map_map]; exact List.map_congr_left fun x _ => (up_up x).2.2
  have p1 : ∀ rest, pieceL (upL (c :: r) ++ 32 :: rest) = .ok (1, (upL (c :: r)).length) := fun rest => by
    have := piece_run2 (c := upperB c) (r := r.map upperB) (up_kd c hc).1 (fun x hx => by obtain ⟨y, hy, rfl⟩ := List.mem_map.1 hx; exact (up_go y (hr y hy)).1) rest (d := 32) (by decide)
    simpa [upL] using this
  have p2 : ∀ rest, pieceL (loL (c :: r) ++ 32 :: rest) = .ok (1, (loL (c :: r)).length) := fun rest => by
    have := piece_run2 (c := lowerB c) (r := r.map lowerB) (up_kd c hc).2 (fun x hx => by obtain ⟨y, hy, rfl⟩ := List.mem_map.1 hx; exact (up_go y (hr y hy)).2) rest (d := 32) (by decide)
    simpa [loL] using this
  by_cases hw : wordsL.contains (upL (c :: r)) = true
  · have e : tokL 1 (c :: r) = (2, upL (c :: r)) := by unfold tokL; rw [if_pos rfl, if_pos hw]
    rw [e]
    refine ⟨1, by decide, p1, ?_⟩
    show tokL 1 (upL (c :: r)) = _
    unfold tokL
    rw [if_pos rfl, hup, if_pos hw]
  · have e : tokL 1 (c :: r) = (1, loL (c :: r)) := by unfold tokL; rw [if_pos rfl, if_neg hw]
    rw [e]
    refine ⟨1, by decide, p2, ?_⟩
    show tokL 1 (loL (c :: r)) = _
    unfold tokL
    rw [if_pos rfl, hul, if_neg hw, hll]
theorem dropWhile_dropWhile (p : UInt8 → Bool) : ∀ l : List UInt8, (l.dropWhile p).dropWhile p = l.dropWhile p
  | [] => rfl
  | c :: r => by
    rw [List.dropWhile_cons]
    split
    · exact dropWhile_dropWhile p r
    · rename_i h; rw [List.dropWhile_cons, if_neg h]
theorem last_oneL : ∀ {l : List UInt8}, l ≠ [] → ∃ d, l.drop (l.length - 1) = [d] ∧ d ∈ l
  | [], h => absurd rfl h
  | [c], _ => ⟨c, rfl, List.mem_cons_self⟩
  | c :: e :: r, _ => by
    obtain ⟨d, h1, h2⟩ := last_oneL (l := e :: r) (by simp)
    refine ⟨d, ?_, List.mem_cons_of_mem _ h2⟩
    simpa using h1
theorem numL_numL (l : List UInt8) : numL (numL l) = numL l := by
  by_cases h : l = []
  · subst h; rfl
  · obtain ⟨d, hd, _⟩ := last_oneL h
    have e : numL l = (l.take (l.length - 1)).dropWhile (· == 48) ++ [d] := by unfold numL; rw [hd]
    rw [e]
    unfold numL
    simp only [List.length_append, List.length_cons, List.length_nil, Nat.zero_add, Nat.add_sub_cancel, List.take_left', List.drop_left']
    rw [dropWhile_dropWhile]
theorem mem_numL {x : UInt8} {l : List UInt8} (h : x ∈ numL l) : x ∈ l := by
  unfold numL at h
  rcases List.mem_append.1 h with h | h
  · exact List.mem_of_mem_take ((List.dropWhile_sublist _).mem h)
  · exact List.mem_of_mem_drop h
theorem numL_ne {l : List UInt8} (h : l ≠ []) : numL l ≠ [] := by
  obtain ⟨d, hd, _⟩ := last_oneL h
  unfold numL
  rw [hd]; simp
theorem good_num {l : List UInt8} (h : l ≠ []) (hr : ∀ x ∈ l, kd x = 3) : GoodT (tokL 3 l).1 (tokL 3 l).2 := by
  have e : tokL 3 l = (3, numL l) := by unfold tokL; rw [if_neg (by decide), if_pos rfl]
  rw [e]
  refine ⟨3, by decide, fun rest => ?_, ?_⟩
  · show pieceL (numL l ++ 32 :: rest) = .ok (3, (numL l).length)
    have hm : ∀ x ∈ numL l, kd x = 3 := fun x hx => hr x (mem_numL hx)
    cases hn : numL l with
    | nil => exact absurd hn (numL_ne h)
    | cons c r =>
      rw [hn] at hm
      exact piece_run3 (hm c List.mem_cons_self) (fun x hx => (go3_kd x).2 (hm x (List.mem_cons_of_mem _ hx))) rest (d := 32) (by decide)
  · show tokL 3 (numL l) = _
    unfold tokL
    rw [if_neg (by decide), if_pos rfl, numL_numL]
theorem good_text {s : List UInt8} (h0 : (0 : UInt8) ∉ s) : GoodT 4 s := by
  have e : wt 4 s = 39 :: (esc s ++ [39]) := by unfold wt; rw [if_pos rfl]
  refine ⟨4, by decide, fun rest => ?_, ?_⟩
  · have := piece_quoted s (32 :: rest) (by simp) h0
    rw [e]; simpa using this
  · have := tok_quoted s []
    rw [e]; rw [List.take_of_length_le (by simp)] at this; exact this
theorem good_minus : GoodT 5 [45] := ⟨5, by decide, fun rest => by
  show pieceL (45 :: 32 :: rest) = .ok (5, 1)
  rw [pieceL, if_neg (by decide), if_neg (by decide), if_neg (by decide), if_neg (by decide), if_pos (by decide), if_neg (by simp)], rfl⟩
theorem piece_sign {c : UInt8} {r : List UInt8} (hc : kd c = 6) (hs : sgL (c :: r) ≠ 0) : pieceL (c :: r) = .ok (5, sgL (c :: r)) := by
  rw [pieceL, if_neg (by rw [hc]; decide), if_neg (by rw [hc]; decide), if_neg (by rw [hc]; decide), if_neg (by rw [hc]; decide), if_neg (by rw [hc]; decide), if_pos hc, if_neg hs]
theorem sgL_one (c : UInt8) (h : c ≠ 124) (r : List UInt8) : sgL (c :: 32 :: r) = 1 := by
  rw [sgL, if_neg h, if_neg (by simp), if_neg (by simp)]
theorem sgL_cases {c : UInt8} {r : List UInt8} (h0 : sgL (c :: r) ≠ 0) : (sgL (c :: r) = 1 ∧ c ≠ 124) ∨ (sgL (c :: r) = 2 ∧ ∃ d q, r = d :: q ∧ ((c = 124 ∧ d = 124) ∨ (c = 60 ∧ d = 62) ∨ (c = 60 ∧ d = 61) ∨ (c = 62 ∧ d = 61))) := by
  have hh : ∀ d : UInt8, r.head? = some d → ∃ q, r = d :: q := fun d hd => by cases r with | nil => cases hd | cons x q => simp at hd; exact ⟨q, by rw [hd]⟩
  rw [sgL] at h0 ⊢
  by_cases h1 : c = 124
  · rw [if_pos h1] at h0 ⊢
    by_cases h2 : r.head? = some 124
    · rw [if_pos h2]
      obtain ⟨q, e⟩ := hh _ h2
      exact .inr ⟨rfl, _, q, e, .inl ⟨h1, rfl⟩⟩
    · rw [if_neg h2] at h0; exact absurd rfl h0
  · rw [if_neg h1]
    by_cases h2 : c = 60 ∧ r.head? = some 62
    · rw [if_pos h2]
      obtain ⟨q, e⟩ := hh _ h2.2
      exact .inr ⟨rfl, _, q, e, .inr (.inl ⟨h2.1, rfl⟩)⟩
    · rw [if_neg h2]
      by_cases h3 : (c = 60 ∨ c = 62) ∧ r.head? = some 61
      · rw [if_pos h3]
        obtain ⟨q, e⟩ := hh _ h3.2
        rcases h3.1 with h4 | h4
        · exact .inr ⟨rfl, _, q, e, .inr (.inr (.inl ⟨h4, rfl⟩))⟩
        · exact .inr ⟨rfl, _, q, e, .inr (.inr (.inr ⟨h4, rfl⟩))⟩
      · rw [if_neg h3]; exact .inl ⟨rfl, h1⟩
theorem tok5 (l : List UInt8) : tokL 5 l = (5, l) := rfl
theorem good_sign {c : UInt8} {r : List UInt8} (hc : kd c = 6) (hs : sgL (c :: r) ≠ 0) : GoodT 5 ((c :: r).take (sgL (c :: r))) := by
  rcases sgL_cases hs with ⟨h1, h2⟩ | ⟨h1, d, q, rfl, h3⟩
  · rw [h1]
    refine ⟨5, by decide, fun rest => ?_, rfl⟩
    show pieceL (c :: 32 :: rest) = .ok (5, 1)
    have := sgL_one c h2 rest
    rw [piece_sign hc (by rw [this]; decide), this]
  · rw [h1]
    refine ⟨5, by decide, fun rest => ?_, rfl⟩
    show pieceL (c :: d :: 32 :: rest) = .ok (5, 2)
    have : sgL (c :: d :: 32 :: rest) = 2 := by
      rcases h3 with ⟨rfl, rfl⟩ | ⟨rfl, rfl⟩ | ⟨rfl, rfl⟩ | ⟨rfl, rfl⟩ <;> simp [sgL]
    rw [piece_sign hc (by rw [this]; decide), this]
/-- Every piece's token is told again. -/
theorem good_piece {l : List UInt8} {k m : Nat} (h : pieceL l = .ok (k, m)) (hk : k ≠ 0) : GoodT (tokL k (l.take m)).1 (tokL k (l.take m)).2 := by
  cases l with
  | nil => cases h
  | cons c r =>
    rw [pieceL] at h
    by_cases h1 : kd c = 1
    · rw [if_pos h1] at h; injection h with h; injection h with h1 h2; exact absurd h1.symm hk
    rw [if_neg h1] at h
    by_cases h2 : kd c = 2
    · rw [if_pos h2] at h; injection h with h; injection h with h1 h3
      subst h1 h3
      rw [List.take_succ_cons]
      unfold runL
      rw [take_takeWhile]
      exact good_name h2 mem_takeWhile
    rw [if_neg h2] at h
    by_cases h3 : kd c = 3
    · rw [if_pos h3] at h; injection h with h; injection h with h1 h2
      subst h1 h2
      rw [List.take_succ_cons]
      unfold runL
      rw [take_takeWhile]
      exact good_num (by simp) fun x hx => by
        rcases List.mem_cons.1 hx with rfl | hx
        · exact h3
        · exact (go3_kd x).1 (mem_takeWhile x hx)
    rw [if_neg h3] at h
    by_cases h4 : kd c = 4
    · rw [if_pos h4] at h
      cases hq : qEnd r with
      | none => rw [hq] at h; cases h
      | some n =>
        rw [hq] at h
        have hb := qEnd_bounds r n hq
        cases hi : idx 0 (r.take n) with
        | none =>
          simp only [hi] at h; injection h with h; injection h with h1 h2
          subst h1 h2
          have e : tokL 4 ((c :: r).take (n + 1)) = (4, unq (r.take (n - 1))) := by
            unfold tokL
            rw [if_neg (by decide), if_neg (by decide), if_pos rfl]
            simp only [List.take_succ_cons, List.drop_succ_cons, List.drop_zero, List.length_cons, List.length_take]
            rw [List.take_take]
            congr 3
            omega
          rw [e]
          refine good_text fun hz => ?_
          have := mem_unq hz
          rw [idx_none] at hi
          refine hi (List.mem_of_mem_take (i := n - 1) ?_)
          rw [List.take_take, Nat.min_eq_left (by omega)]; exact this
        | some i => simp only [hi] at h; cases h
    rw [if_neg h4] at h
    by_cases h5 : kd c = 5
    · rw [if_pos h5] at h
      split at h
      · injection h with h; injection h with h1 h2; exact absurd h1.symm hk
      · injection h with h; injection h with h1 h2
        subst h1 h2
        have : c = 45 := by revert h5; revert c; exact byte_all (by decide +kernel)
        subst this
        exact good_minus
    rw [if_neg h5] at h
    by_cases h6 : kd c = 6
    · rw [if_pos h6] at h
      split at h
      · cases h
      · rename_i hs
        injection h with h; injection h with h1 h2
        subst h1 h2
        exact good_sign h6 hs
    · rw [if_neg h6] at h; cases h
theorem good_all : ∀ (n : Nat) (l : List UInt8) (a : Nat) (t : List Tk), lexF n l a = .ok t → ∀ x ∈ t, GoodT x.kind x.text
  | 0, _, _, t, h, x, hx => by simp only [lexF] at h; injection h with h; subst h; cases hx
  | n + 1, l, a, t, h, x, hx => by
    rw [lexF] at h
    split at h
    · injection h with h; subst h; cases hx
    · cases hp : pieceL l with
      | error e => simp only [hp] at h; cases h
      | ok km =>
        obtain ⟨k, m⟩ := km
        simp only [hp] at h
        cases hr : lexF n (l.drop m) (a + m) with
        | error e => simp only [hr] at h; cases h
        | ok u =>
          simp only [hr] at h
          injection h with h
          have ih := good_all n _ _ u hr
          split at h
          · subst h; exact ih x hx
          · rename_i hk
            subst h
            rcases List.mem_cons.1 hx with rfl | hx
            · exact good_piece hp hk
            · exact ih x hx
/-- Tokens written one behind the other, a blank behind each. -/
def writeT (t : List Tk) : List UInt8 := t.flatMap fun x => wt x.kind x.text ++ [32]
def same2 (t u : List Tk) : Prop := t.map (fun x => (x.kind, x.text)) = u.map (fun x => (x.kind, x.text))
theorem write_again : ∀ (t : List Tk) (a : Nat), (∀ x ∈ t, GoodT x.kind x.text) → ∃ u, lexL (writeT t ++ [32]) a = .ok u ∧ same2 u t
  | [], a, _ => ⟨[], by show lexL [32] a = _; rw [lexL_blank (by decide), lexL_nil], rfl⟩
  | x :: t, a, h => by
    obtain ⟨j, hj, hp, ht⟩ := h x List.mem_cons_self
    obtain ⟨u, hu, hs⟩ := write_again t (a + (wt x.kind x.text).length + 1) fun y hy => h y (List.mem_cons_of_mem _ hy)
    have e : writeT (x :: t) ++ [32] = wt x.kind x.text ++ 32 :: (writeT t ++ [32]) := by simp [writeT]
    refine ⟨⟨x.kind, x.text, a⟩ :: u, ?_, by unfold same2 at hs ⊢; simp [hs]⟩
    rw [e, lexL_ok a (hp _), List.drop_left' rfl, lexL_blank (by decide), hu]
    simp only [List.take_left' rfl, ht, if_neg hj]

/-- A row of signs, told whole. -/
def badT (c d : UInt8) : Prop := (c = 60 ∧ d = 62) ∨ (c = 60 ∧ d = 61) ∨ (c = 62 ∧ d = 61) ∨ (c = 124 ∧ d = 124)
def Lg : Nat → List UInt8 → List Tk → Prop
  | _, l, [] => l = []
  | a, l, t :: ts => t.kind = 5 ∧ t.pos = a ∧ ∃ c q r, t.text = c :: q ∧ l = c :: (q ++ r) ∧ (q = [] → ∀ d, r.head? = some d → ¬ badT c d) ∧ Lg (a + t.text.length) r ts
theorem lex_longest : ∀ (n : Nat) (l : List UInt8) (a : Nat), (∀ c ∈ l, kd c = 6) → l.length ≤ n → (∃ t, lexF n l a = .ok t ∧ Lg a l t) ∨ (∃ i, lexF n l a = .error (a + i) ∧ l[i]? = some 124 ∧ l[i + 1]? ≠ some 124)
  | 0, l, a, _, hl => by
    obtain rfl : l = [] := List.eq_nil_of_length_eq_zero (by omega)
    exact .inl ⟨[], rfl, rfl⟩
  | n + 1, [], a, _, _ => .inl ⟨[], by simp [lexF], rfl⟩
  | n + 1, c :: r, a, h, hl => by
    have hc := h c List.mem_cons_self
    by_cases hs : sgL (c :: r) = 0
    · refine .inr ⟨0, ?_, ?_⟩
      · rw [lexF, if_neg (by simp)]
        have : pieceL (c :: r) = .error 0 := by rw [pieceL, if_neg (by rw [hc]; decide), if_neg (by rw [hc]; decide), if_neg (by rw [hc]; decide), if_neg (by rw [hc]; decide), if_neg (by rw [hc]; decide), if_pos hc, if_pos hs]
        rw [this]
      · have : c = 124 ∧ r.head? ≠ some 124 := by
          rw [sgL] at hs
          by_cases h1 : c = 124
          · rw [if_pos h1] at hs
            refine ⟨h1, fun e => ?_⟩
            rw [if_pos e] at hs; cases hs
          · rw [if_neg h1] at hs
            split at hs
            · cases hs
            · split at hs <;> cases hs
        rw [this.1]
        refine ⟨rfl, ?_⟩
        simpa [List.head?_eq_getElem?] using this.2
    · have hp := piece_sign hc hs
      rcases sgL_cases hs with ⟨h1, h2⟩ | ⟨h1, d, q, rfl, h3⟩
      · rw [h1] at hp
        rw [lexF, if_neg (by simp), hp]
        simp only [List.drop_succ_cons, List.drop_zero]
        rcases lex_longest n r (a + 1) (fun x hx => h x (List.mem_cons_of_mem _ hx)) (by simp at hl; omega) with ⟨t, ht, hL⟩ | ⟨i, hi, h4, h5⟩
        · refine .inl ⟨⟨5, [c], a⟩ :: t, by rw [ht]; rfl, rfl, rfl, c, [], r, rfl, rfl, fun _ d hd hb => ?_, hL⟩
          obtain ⟨q, rfl⟩ : ∃ q, r = d :: q := by cases r with | nil => cases hd | cons x q => simp at hd; exact ⟨q, by rw [hd]⟩
          rcases hb with ⟨rfl, rfl⟩ | ⟨rfl, rfl⟩ | ⟨rfl, rfl⟩ | ⟨rfl, rfl⟩ <;> simp [sgL] at h1
        · refine .inr ⟨i + 1, ?_, by simpa using h4, by simpa using h5⟩
          rw [hi]
          simp only
          congr 1
          omega
      · rw [h1] at hp
        rw [lexF, if_neg (by simp), hp]
        simp only [List.drop_succ_cons, List.drop_zero]
        rcases lex_longest n q (a + 2) (fun x hx => h x (List.mem_cons_of_mem _ (List.mem_cons_of_mem _ hx))) (by simp at hl; omega) with ⟨t, ht, hL⟩ | ⟨i, hi, h4, h5⟩
        · refine .inl ⟨⟨5, [c, d], a⟩ :: t, by rw [ht]; rfl, rfl, rfl, c, [d], q, rfl, rfl, (fun e => by cases e), hL⟩
        · refine .inr ⟨i + 2, ?_, by simpa using h4, by simpa using h5⟩
          rw [hi]
          simp only
          congr 1
          omega
end Go.Proofs.YtehgoioinogmkaaGreatDoor
