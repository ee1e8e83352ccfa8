/- Names, texts, tokens that are written again: on lists of bytes, without the program. -/
import Derived.Test.YtehgoioinogmkaaGreatDoorLMath
namespace Go.Proofs.YtehgoioinogmkaaGreatDoor
open Go.RowKit Go.Lib

theorem byte_all {p : UInt8 → Prop} (h : ∀ i : Fin 256, p (UInt8.ofNat i.val)) : ∀ c, p c := fun c => by
  have := h ⟨c.toNat, c.toNat_lt⟩
  simpa using this
theorem lexL_blank {c : UInt8} (h : kd c = 1) (l : List UInt8) (a : Nat) : lexL (c :: l) a = lexL l (a + 1) := by
  have hp : pieceL (c :: l) = .ok (0, 1) := by rw [pieceL, if_pos h]
  rw [lexL_ok a hp]
  simp only [List.drop_succ_cons, List.drop_zero]
  cases lexL l (a + 1) <;> rfl
/-- All tokens begin at or behind the place at which the bytes begin. -/
theorem lexF_pos : ∀ (n : Nat) (l : List UInt8) (a : Nat) (t : List Tk), lexF n l a = .ok t → ∀ x ∈ t, a ≤ x.pos
  | 0, _, _, t, h, x, hx => by simp only [lexF] at h; injection h with h; subst h; cases hx
  | n + 1, l, a, t, h, x, hx => by
    rw [lexF] at h
    split at h
    · injection h with h; subst h; cases hx
    · cases hp : pieceL l with
      | error e => simp only [hp] at h; cases h
      | ok km =>
        obtain ⟨k, m⟩ := km
        simp only [hp] at h
        cases hr : lexF n (l.drop m) (a + m) with
        | error e => simp only [hr] at h; cases h
        | ok u =>
          simp only [hr] at h
          injection h with h
          have ih := lexF_pos n _ _ u hr
          split at h
          · subst h; have := ih x hx; omega
          · subst h
            rcases List.mem_cons.1 hx with rfl | hx
            · exact Nat.le_refl _
            · have := ih x hx; omega
theorem upper_all : ∀ c : UInt8, kd c = 2 ∨ kd c = 3 → (lowerB c = c ↔ ((97 ≤ c.toNat ∧ c.toNat ≤ 122) ∨ c.toNat = 95 ∨ kd c = 3)) := byte_all (by decide +kernel)
/-- What a name is (P8.2). -/
def smallB (c : UInt8) : Bool := (97 ≤ c.toNat && c.toNat ≤ 122) || c.toNat == 95 || kd c == 3
def nameL (l : List UInt8) : Bool := l.length ≤ 20 && (match l with
  | [] => false
  | c :: r => kd c != 3 && smallB c && r.all smallB) && !wordsL.contains (upL l)
theorem small_go : ∀ c : UInt8, smallB c = true → goK 2 c = true ∧ lowerB c = c := byte_all (by decide +kernel)
theorem small_kd : ∀ c : UInt8, smallB c = true → kd c ≠ 3 → kd c = 2 := byte_all (by decide +kernel)
theorem go_small : ∀ c : UInt8, goK 2 c = true → lowerB c = c → smallB c = true := byte_all (by decide +kernel)
theorem kd2_go : ∀ c : UInt8, kd c = 2 → goK 2 c = true := byte_all (by decide +kernel)
theorem takeWhile_all {p : UInt8 → Bool} : ∀ {l : List UInt8}, (∀ c ∈ l, p c = true) → l.takeWhile p = l
  | [], _ => rfl
  | c :: r, h => by rw [List.takeWhile_cons, if_pos (h c List.mem_cons_self), takeWhile_all fun x hx => h x (List.mem_cons_of_mem _ hx)]
theorem all_takeWhile {p : UInt8 → Bool} : ∀ {l : List UInt8}, (l.takeWhile p).length = l.length → ∀ c ∈ l, p c = true
  | [], _, _, h => by cases h
  | c :: r, h, x, hx => by
    rw [List.takeWhile_cons] at h
    split at h
    · rename_i hc
      rcases List.mem_cons.1 hx with rfl | hx
      · exact hc
      · exact all_takeWhile (by simpa using h) x hx
    · simp at h
theorem map_self {f : UInt8 → UInt8} : ∀ {l : List UInt8}, l.map f = l ↔ ∀ c ∈ l, f c = c
  | [] => by simp
  | c :: r => by
    rw [List.map_cons, List.cons.injEq, map_self]
    simp
theorem lex_name {l : List UInt8} (hl : l.length ≤ 20) : (∃ t, lexL l 0 = .ok (⟨1, l, 0⟩ :: t)) ↔ nameL l = true := by
  constructor
  · rintro ⟨t, h⟩
    cases l with
    | nil => cases h
    | cons c r =>
      cases hp : pieceL (c :: r) with
      | error e => rw [lexL_error 0 (by simp) hp] at h; cases h
      | ok km =>
        obtain ⟨k, m⟩ := km
        have hs := piece_size hp
        rw [lexL_ok 0 hp] at h
        cases hr : lexL ((c :: r).drop m) (0 + m) with
        | error e => rw [hr] at h; cases h
        | ok u =>
          simp only [hr] at h
          injection h with h
          have hpos := lexF_pos _ _ _ u hr
          by_cases hk : k = 0
          · rw [if_pos hk] at h
            subst h
            have := hpos _ List.mem_cons_self
            simp at this; omega
          · rw [if_neg hk] at h
            injection h with h1 h2
            injection h1 with h1 h3 h4
            have hk1 : k = 1 ∧ wordsL.contains (upL ((c :: r).take m)) = false ∧ loL ((c :: r).take m) = c :: r := by
              unfold tokL at h1 h3
              by_cases e1 : k = 1
              · rw [if_pos e1] at h1 h3
                by_cases e2 : wordsL.contains (upL ((c :: r).take m)) = true
                · rw [if_pos e2] at h1; simp at h1
                · rw [if_neg e2] at h3; exact ⟨e1, by simpa using e2, h3⟩
              · rw [if_neg e1] at h1
                by_cases e2 : k = 3
                · rw [if_pos e2] at h1; simp at h1
                · rw [if_neg e2] at h1
                  by_cases e3 : k = 4
                  · rw [if_pos e3] at h1; simp at h1
                  · rw [if_neg e3] at h1; exact absurd h1 e1
            obtain ⟨rfl, hw, hlo⟩ := hk1
            have hm : m = (c :: r).length := by
              have := congrArg List.length hlo
              simp [loL] at this hs ⊢; omega
            subst hm
            rw [List.take_length] at hw hlo
            rw [pieceL] at hp
            have hc2 : kd c = 2 ∧ runL 2 r = r.length := by
              by_cases e1 : kd c = 1
              · rw [if_pos e1] at hp; injection hp with hp; injection hp with hp _; cases hp
              rw [if_neg e1] at hp
              by_cases e2 : kd c = 2
              · rw [if_pos e2] at hp; injection hp with hp; injection hp with _ hp; exact ⟨e2, by simpa using hp⟩
              rw [if_neg e2] at hp
              by_cases e3 : kd c = 3
              · rw [if_pos e3] at hp; injection hp with hp; injection hp with hp _; cases hp
              rw [if_neg e3] at hp
              by_cases e4 : kd c = 4
              · rw [if_pos e4] at hp
                cases hq : qEnd r with
                | none => rw [hq] at hp; cases hp
                | some n =>
                  rw [hq] at hp
                  cases hi : idx 0 (r.take n) with
                  | none => simp only [hi] at hp; injection hp with hp; injection hp with hp _; cases hp
                  | some i => simp only [hi] at hp; cases hp
              rw [if_neg e4] at hp
              by_cases e5 : kd c = 5
              · rw [if_pos e5] at hp
                split at hp
                · injection hp with hp; injection hp with hp _; cases hp
                · injection hp with hp; injection hp with hp _; cases hp
              rw [if_neg e5] at hp
              by_cases e6 : kd c = 6
              · rw [if_pos e6] at hp
                split at hp
                · cases hp
                · injection hp with hp; injection hp with hp _; cases hp
              · rw [if_neg e6] at hp; cases hp
            have hlo' := map_self.1 hlo
            have hg := all_takeWhile (l := r) (p := goK 2) hc2.2
            unfold nameL
            simp only [Bool.and_eq_true, decide_eq_true_eq, Bool.not_eq_true', List.all_eq_true, bne_iff_ne]
            refine ⟨⟨hl, ⟨by rw [hc2.1]; decide, go_small c (kd2_go c hc2.1) (hlo' c List.mem_cons_self)⟩, fun x hx => go_small x (hg x hx) (hlo' x (List.mem_cons_of_mem _ hx))⟩, hw⟩
  · intro h
    unfold nameL at h
    cases l with
    | nil => simp at h
    | cons c r =>
      simp only [Bool.and_eq_true, decide_eq_true_eq, Bool.not_eq_true', List.all_eq_true, bne_iff_ne] at h
      obtain ⟨⟨_, ⟨hc3, hcs⟩, hr⟩, hw⟩ := h
      have hp : pieceL (c :: r) = .ok (1, (c :: r).length) := by
        have hc2 := small_kd c hcs hc3
        have : runL 2 r = r.length := by
          unfold runL
          rw [takeWhile_all fun x hx => (small_go x (hr x hx)).1]
        rw [pieceL, if_neg (by rw [hc2]; decide), if_pos hc2, this]
        rfl
      refine ⟨[], ?_⟩
      rw [lexL_ok 0 hp, List.drop_length, lexL_nil]
      simp only [List.take_length]
      have hlo : loL (c :: r) = c :: r := map_self.2 fun x hx => by
        rcases List.mem_cons.1 hx with rfl | hx
        · exact (small_go _ hcs).2
        · exact (small_go _ (hr x hx)).2
      have ht : tokL 1 (c :: r) = (1, c :: r) := by
        unfold tokL
        rw [if_pos rfl, if_neg (by rw [hw]; decide), hlo]
      rw [if_neg (by decide), ht]

/-- Texts. -/
theorem unq_esc : ∀ l : List UInt8, unq (esc l) = l
  | [] => rfl
  | c :: r => by
    by_cases h : c = 39
    · rw [esc, if_pos h, unq, if_pos ⟨rfl, rfl⟩, unq_esc r, h]
    · rw [esc, if_neg h]
      have ih := unq_esc r
      cases hr : esc r with
      | nil => rw [hr] at ih; rw [unq, ← ih]; rfl
      | cons d q => rw [unq, if_neg (fun e => h e.1), ← hr, ih]
theorem qEnd_none {c : UInt8} (h : c ≠ 39) (r : List UInt8) : qEnd (c :: r) = (qEnd r).map (· + 1) := by
  cases r with
  | nil => show (if c = 39 then some 1 else none) = none; rw [if_neg h]
  | cons d q => rw [qEnd, if_neg h]
theorem qEnd_esc (x : List UInt8) (hx : x.head? ≠ some 39) : ∀ l : List UInt8, qEnd (esc l ++ 39 :: x) = some ((esc l).length + 1)
  | [] => by
    cases x with
    | nil => rfl
    | cons d q => rw [esc, List.nil_append, qEnd, if_pos rfl, if_neg (by simpa using hx)]; rfl
  | c :: r => by
    have ih := qEnd_esc x hx r
    by_cases h : c = 39
    · rw [esc, if_pos h, List.cons_append, List.cons_append, qEnd, if_pos rfl, if_pos rfl, ih]; rfl
    · rw [esc, if_neg h, List.cons_append, qEnd_none h, ih]; rfl
theorem qEnd_open : ∀ l : List UInt8, qEnd (esc l ++ [39, 39]) = none
  | [] => by rw [esc, List.nil_append, qEnd, if_pos rfl, if_pos rfl]; rfl
  | c :: r => by
    have ih := qEnd_open r
    by_cases h : c = 39
    · rw [esc, if_pos h, List.cons_append, List.cons_append, qEnd, if_pos rfl, if_pos rfl, ih]; rfl
    · rw [esc, if_neg h, List.cons_append, qEnd_none h, ih]; rfl
theorem idx_none {x : UInt8} : ∀ {l : List UInt8}, idx x l = none ↔ x ∉ l
  | [] => by simp [idx]
  | c :: r => by
    rw [idx]
    by_cases h : c = x
    · rw [if_pos h]; simp [h]
    · rw [if_neg h, Option.map_eq_none_iff, idx_none]; simp; exact fun _ e => h e.symm
theorem mem_esc {x : UInt8} : ∀ {l : List UInt8}, x ∈ esc l ↔ x ∈ l
  | [] => by simp [esc]
  | c :: r => by
    rw [esc]
    by_cases h : c = 39
    · rw [if_pos h, List.mem_cons, List.mem_cons, mem_esc, List.mem_cons, h]; grind
    · rw [if_neg h, List.mem_cons, mem_esc, List.mem_cons]
theorem mem_unq {x : UInt8} : ∀ {l : List UInt8}, x ∈ unq l → x ∈ l
  | [], h => by simp [unq] at h
  | [c], h => by simpa [unq] using h
  | c :: d :: r, h => by
    rw [unq] at h
    split at h
    · rename_i e
      rcases List.mem_cons.1 h with h | h
      · simp [h, e.1]
      · have := mem_unq (l := r) h; simp [this]
    · rcases List.mem_cons.1 h with h | h
      · simp [h]
      · have := mem_unq (l := d :: r) h; exact List.mem_cons_of_mem _ this
theorem piece_quoted (s x : List UInt8) (hx : x.head? ≠ some 39) (h0 : (0 : UInt8) ∉ s) : pieceL (39 :: (esc s ++ 39 :: x)) = .ok (4, (esc s).length + 2) := by
  rw [pieceL, if_neg (by decide), if_neg (by decide), if_neg (by decide), if_pos (by decide), qEnd_esc x hx]
  have hi : idx 0 ((esc s ++ 39 :: x).take ((esc s).length + 1)) = none := by
    rw [idx_none]
    rw [show (esc s ++ 39 :: x) = (esc s ++ [39]) ++ x by simp, List.take_left' (by simp)]
    simp [mem_esc, h0]
  simp only [hi]
theorem piece_zero (s x : List UInt8) (hx : x.head? ≠ some 39) (h0 : (0 : UInt8) ∈ s) : ∃ e, pieceL (39 :: (esc s ++ 39 :: x)) = .error e := by
  rw [pieceL, if_neg (by decide), if_neg (by decide), if_neg (by decide), if_pos (by decide), qEnd_esc x hx]
  cases hi : idx 0 ((esc s ++ 39 :: x).take ((esc s).length + 1)) with
  | none =>
    rw [idx_none] at hi
    rw [show (esc s ++ 39 :: x) = (esc s ++ [39]) ++ x by simp, List.take_left' (by simp)] at hi
    simp [mem_esc, h0] at hi
  | some i => exact ⟨i + 1, by simp only [hi]⟩
theorem piece_open (s : List UInt8) : pieceL (39 :: (esc s ++ [39, 39])) = .error 0 := by
  rw [pieceL, if_neg (by decide), if_neg (by decide), if_neg (by decide), if_pos (by decide), qEnd_open]
theorem tok_quoted (s x : List UInt8) : tokL 4 ((39 :: (esc s ++ 39 :: x)).take ((esc s).length + 2)) = (4, s) := by
  unfold tokL
  rw [if_neg (by decide), if_neg (by decide), if_pos rfl]
  have e : (39 :: (esc s ++ 39 :: x)).take ((esc s).length + 2) = 39 :: (esc s ++ [39]) := by
    rw [show (39 :: (esc s ++ 39 :: x)) = (39 :: (esc s ++ [39])) ++ x by simp, List.take_left' (by simp)]
  rw [e]
  simp [unq_esc]
theorem lexL_spaces (k : Nat) (l : List UInt8) (a : Nat) : lexL (List.replicate k 32 ++ l) a = lexL l (a + k) := by
  induction k generalizing a with
  | zero => rfl
  | succ n ih => rw [List.replicate_succ, List.cons_append, lexL_blank (by decide), ih]; congr 1; omega
end Go.Proofs.YtehgoioinogmkaaGreatDoor
