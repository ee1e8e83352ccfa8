/- Readers and the bytes that they read: what is written is read back, and what is read has just these bytes; numbers, truths, texts, lists, pairs. On byte lists, without the program. -/
import Derived.Test.YtlmjmhpdpgeplaaGreatDoorJPutRowListOfRdMathEntryRdMath2
import Derived.Test.YtlmjmhpdpgeplaaGreatDoorJPlainHandDecLenMath
namespace Go.Proofs.YtlmjmhpdpgeplaaGreatDoor
open Go.RowKit Go.Lib

/-- A reader R, the bytes E of what it reads (of what is well formed: V), at most K of them. -/
structure Codec {α : Type} (V : α → Prop) (R : List UInt8 → Except Nat Nat → α × Except Nat Nat) (E : α → Option (List UInt8)) (K : Nat) : Prop where
  back : ∀ l a x b rest, V x → E x = some b → l.drop a = b ++ rest → a ≤ l.length → R l (.ok a) = (x, .ok (a + b.length))
  canon : ∀ l a x a', R l (.ok a) = (x, .ok a') → a ≤ l.length → V x ∧ ∃ b, E x = some b ∧ l.drop a = b ++ l.drop a' ∧ a' = a + b.length ∧ a' ≤ l.length
  err : ∀ l c, (R l (.error c)).2 = .error c
  bad : ∀ l a c, (R l (.ok a)).2 = .error c → c = 20 ∨ c = 22
  len : ∀ x b, V x → E x = some b → b.length ≤ K

theorem dec_canon : ∀ (m : List UInt8) (i acc n k q : Nat), decFrom i acc m = (n, k, 0, q) → ∃ y, n = acc + y * 2 ^ (7 * i) ∧ (0 < i → 0 < y) ∧ k = i + (uvarint y).length ∧ m = uvarint y ++ m.drop (k - i)
  | [], i, acc, n, k, q, h => by simp [decFrom] at h
  | c :: r, i, acc, n, k, q, h => by
    by_cases hb : (i = 9 ∧ 1 < c.toNat) ∨ (0 < i ∧ c.toNat = 0)
    · rw [dec_form hb] at h; simp at h
    · by_cases hc : c.toNat < 128
      · rw [dec_done hb hc] at h
        simp only [Prod.mk.injEq] at h
        obtain ⟨rfl, rfl, _⟩ := h
        have e : c.toNat % 128 = c.toNat := Nat.mod_eq_of_lt hc
        refine ⟨c.toNat, by rw [e], by omega, by rw [uvarint_small hc]; rfl, ?_⟩
        rw [uvarint_small hc, show i + 1 - i = 1 by omega]
        simp
      · rw [dec_more hb hc] at h
        obtain ⟨y, h1, h2, h3, h4⟩ := dec_canon r (i + 1) _ n k q h
        have hy := h2 (by omega)
        have hcl := c.toNat_lt
        have hbig : 128 ≤ c.toNat % 128 + 128 * y := by omega
        have e1 : (c.toNat % 128 + 128 * y) / 128 = y := by omega
        have e2 : (c.toNat % 128 + 128 * y) % 128 + 128 = c.toNat := by omega
        have eu : uvarint (c.toNat % 128 + 128 * y) = c :: uvarint y := by
          rw [uvarint_big hbig, e1, e2]; simp
        refine ⟨c.toNat % 128 + 128 * y, ?_, fun _ => by omega, by rw [eu, h3]; simp; omega, ?_⟩
        · rw [h1, show 7 * (i + 1) = 7 + 7 * i by omega, Nat.pow_add, Nat.add_mul]
          have : (2 : Nat) ^ 7 = 128 := by decide
          rw [this, Nat.mul_comm 128 y, Nat.mul_assoc, Nat.add_assoc]
        · rw [eu]
          have e3 : k - i = (k - (i + 1)) + 1 := by omega
          rw [e3, List.drop_succ_cons, List.cons_append, ← h4]
theorem decU_canon {m : List UInt8} {n k q : Nat} (h : decU m = (n, k, 0, q)) : n < 18446744073709551616 ∧ k = (uvarint n).length ∧ m = uvarint n ++ m.drop k ∧ k ≤ m.length := by
  obtain ⟨y, h1, _, h3, h4⟩ := dec_canon m 0 0 n k q h
  have e : n = y := by simpa using h1
  subst e
  have h3' : k = (uvarint n).length := by simpa using h3
  rcases decU_cases m with ⟨n', k', hd, hn, hk, _⟩ | ⟨q', hd⟩ | ⟨q', hd, _⟩
  · rw [hd] at h; simp only [Prod.mk.injEq] at h
    exact ⟨by omega, h3', by simpa using h4, by omega⟩
  · rw [hd] at h; simp at h
  · rw [hd] at h; simp at h
theorem rdUp_uv {l rest : List UInt8} {a x most : Nat} (hx : x < 18446744073709551616) (hm : x ≤ most) (hd : l.drop a = uvarint x ++ rest) : rdUp l most (.ok a) = (x, .ok (a + (uvarint x).length)) := by
  have e := decU_uv x hx rest
  simp [rdUp, hd, e, hm]
theorem rdUp_canon {l : List UInt8} {a x a' most : Nat} (h : rdUp l most (.ok a) = (x, .ok a')) (ha : a ≤ l.length) : x < 18446744073709551616 ∧ x ≤ most ∧ l.drop a = uvarint x ++ l.drop a' ∧ a' = a + (uvarint x).length ∧ a' ≤ l.length := by
  obtain ⟨n, k, c, q, hd⟩ : ∃ n k c q, decU (l.drop a) = (n, k, c, q) := ⟨_, _, _, _, rfl⟩
  simp only [rdUp, hd] at h
  by_cases hc : c = 0
  · subst hc
    rw [if_pos rfl] at h
    by_cases hn : n ≤ most
    · rw [if_pos hn] at h
      simp only [Prod.mk.injEq, Except.ok.injEq] at h
      obtain ⟨rfl, rfl⟩ := h
      obtain ⟨h1, h2, h3, h4⟩ := decU_canon hd
      rw [List.drop_drop] at h3
      simp at h4
      exact ⟨h1, hn, h3, by rw [h2], by omega⟩
    · rw [if_neg hn] at h; simp at h
  · rw [if_neg hc] at h
    split at h <;> simp at h
theorem rdUp_bad {l : List UInt8} {a c most : Nat} (h : (rdUp l most (.ok a)).2 = .error c) : c = 20 ∨ c = 22 := by
  obtain ⟨n, k, e, q, hd⟩ : ∃ n k c q, decU (l.drop a) = (n, k, c, q) := ⟨_, _, _, _, rfl⟩
  simp only [rdUp, hd] at h
  by_cases hc : e = 0
  · subst hc
    rw [if_pos rfl] at h
    split at h <;> simp at h
    exact .inl h.symm
  · rw [if_neg hc] at h
    split at h
    · simp at h; exact .inr h.symm
    · simp at h; exact .inl h.symm

/-- Numbers up to most. -/
def eUp (most x : Nat) : Option (List UInt8) := if x ≤ most then some (uvarint x) else none
theorem codec_up (most : Nat) (hm : most < 18446744073709551616) : Codec (fun _ => True) (fun l s => rdUp l most s) (eUp most) 10 where
  back := by
    intro l a x b rest _ he hd ha
    unfold eUp at he
    split at he
    · injection he with he; subst he
      exact rdUp_uv (by omega) (by assumption) hd
    · cases he
  canon := by
    intro l a x a' h ha
    obtain ⟨h1, h2, h3, h4, h5⟩ := rdUp_canon h ha
    exact ⟨trivial, uvarint x, by simp [eUp, h2], h3, h4, h5⟩
  err := by intro l c; rfl
  bad := by intro l a c h; exact rdUp_bad h
  len := by
    intro x b _ he
    unfold eUp at he
    split at he
    · injection he with he; subst he
      exact uvarint_length64 (by omega)
    · cases he
/-- Numbers from lo to hi. -/
def eBetween (lo hi n : Int) : Option (List UInt8) := if lo ≤ n ∧ n ≤ hi then some (uvarint (n - lo).toNat) else none
theorem codec_between (lo hi : Int) (hlh : lo ≤ hi) (h64 : hi - lo < 18446744073709551616) : Codec (fun _ => True) (fun l s => rdBetween l lo hi s) (eBetween lo hi) 10 where
  back := by
    intro l a x b rest _ he hd ha
    unfold eBetween at he
    split at he
    · injection he with he; subst he
      have e := rdUp_uv (most := (hi - lo).toNat) (by omega) (by omega) hd
      simp only [rdBetween, e]
      congr 1; omega
    · cases he
  canon := by
    intro l a x a' h ha
    unfold rdBetween at h
    obtain ⟨n, r, hR⟩ : ∃ n r, rdUp l (hi - lo).toNat (.ok a) = (n, r) := ⟨_, _, rfl⟩
    rw [hR] at h
    cases r with
    | error c => simp at h
    | ok a2 =>
      simp only [Prod.mk.injEq, Except.ok.injEq] at h
      obtain ⟨rfl, rfl⟩ := h
      obtain ⟨h1, h2, h3, h4, h5⟩ := rdUp_canon hR ha
      refine ⟨trivial, uvarint n, ?_, h3, h4, h5⟩
      unfold eBetween
      rw [if_pos (by omega)]
      congr 2; omega
  err := by intro l c; simp [rdBetween, rdUp]
  bad := by
    intro l a c h
    unfold rdBetween at h
    cases hr : (rdUp l (hi - lo).toNat (.ok a)).2 with
    | error c2 => rw [hr] at h; simp at h; subst h; exact rdUp_bad hr
    | ok a2 => rw [hr] at h; simp at h
  len := by
    intro x b _ he
    unfold eBetween at he
    split at he
    · injection he with he; subst he
      exact uvarint_length64 (by omega)
    · cases he

/-- A codec of one thing, seen as another. -/
theorem Codec.map {α β : Type} {V : α → Prop} {R : List UInt8 → Except Nat Nat → α × Except Nat Nat} {E : α → Option (List UInt8)} {K : Nat} (C : Codec V R E K) (f : α → β) (g : β → α) (V' : β → Prop)
    (hgf : ∀ x, V x → (E x).isSome → g (f x) = x) (hfg : ∀ y, V' y → f (g y) = y) (hV : ∀ y, V' y → V (g y)) (hV' : ∀ x, V x → (E x).isSome → V' (f x)) : Codec V' (fun l s => (f (R l s).1, (R l s).2)) (fun y => E (g y)) K where
  back := by
    intro l a y b rest hv he hd ha
    have := C.back l a (g y) b rest (hV y hv) he hd ha
    simp [this, hfg y hv]
  canon := by
    intro l a y a' h ha
    simp only [Prod.mk.injEq] at h
    obtain ⟨rfl, h2⟩ := h
    obtain ⟨h3, b, h4, h5⟩ := C.canon l a _ a' (Prod.ext rfl h2) ha
    exact ⟨hV' _ h3 (by rw [h4]; rfl), b, by rw [hgf _ h3 (by rw [h4]; rfl)]; exact h4, h5⟩
  err := by intro l c; exact C.err l c
  bad := by intro l a c h; exact C.bad l a c h
  len := by intro y b hv he; exact C.len _ b (hV y hv) he

/-- One thing behind the other. -/
def rdPair {α β : Type} (R : List UInt8 → Except Nat Nat → α × Except Nat Nat) (S : List UInt8 → Except Nat Nat → β × Except Nat Nat) (l : List UInt8) (s : Except Nat Nat) : (α × β) × Except Nat Nat :=
  (((R l s).1, (S l (R l s).2).1), (S l (R l s).2).2)
def ePair {α β : Type} (E : α → Option (List UInt8)) (F : β → Option (List UInt8)) (x : α × β) : Option (List UInt8) :=
  match E x.1 with
  | none => none
  | some a => (F x.2).map (a ++ ·)
theorem Codec.pair {α β : Type} {V : α → Prop} {V' : β → Prop} {R : List UInt8 → Except Nat Nat → α × Except Nat Nat} {S : List UInt8 → Except Nat Nat → β × Except Nat Nat} {E : α → Option (List UInt8)} {F : β → Option (List UInt8)} {K L : Nat}
    (C : Codec V R E K) (D : Codec V' S F L) : Codec (fun x => V x.1 ∧ V' x.2) (rdPair R S) (ePair E F) (K + L) where
  back := by
    rintro l a ⟨x, y⟩ b rest ⟨hv, hv'⟩ he hd ha
    unfold ePair at he
    dsimp only at he hv hv'
    cases hE : E x with
    | none => rw [hE] at he; cases he
    | some b1 =>
      rw [hE] at he
      cases hF : F y with
      | none => rw [hF] at he; cases he
      | some b2 =>
        rw [hF] at he
        simp at he; subst he
        rw [List.append_assoc] at hd
        have h1 := C.back l a x b1 _ hv hE hd ha
        have hd2 : l.drop (a + b1.length) = b2 ++ rest := by rw [← List.drop_drop, hd, List.drop_left]
        have ha2 : a + b1.length ≤ l.length := by have := congrArg List.length hd; simp at this; omega
        have h2 := D.back l (a + b1.length) y b2 rest hv' hF hd2 ha2
        simp [rdPair, h1, h2, Nat.add_assoc]
  canon := by
    rintro l a ⟨x, y⟩ a' h ha
    simp only [rdPair, Prod.mk.injEq] at h
    obtain ⟨⟨rfl, rfl⟩, h3⟩ := h
    cases hr : (R l (.ok a)).2 with
    | error c => rw [hr, D.err] at h3; cases h3
    | ok a1 =>
      obtain ⟨v1, b1, e1, d1, l1, m1⟩ := C.canon l a _ a1 (Prod.ext rfl hr) ha
      rw [hr] at h3
      obtain ⟨v2, b2, e2, d2, l2, m2⟩ := D.canon l a1 _ a' (Prod.ext rfl h3) m1
      refine ⟨⟨v1, v2⟩, b1 ++ b2, ?_, ?_, ?_, m2⟩
      · simp [ePair, e1, e2]
      · rw [d1, d2, List.append_assoc]
      · rw [l2, l1, List.length_append, Nat.add_assoc]
  err := by intro l c; simp [rdPair, C.err, D.err]
  bad := by
    intro l a c h
    simp only [rdPair] at h
    cases hr : (R l (.ok a)).2 with
    | error c2 => rw [hr, D.err] at h; injection h with h; subst h; exact C.bad l a _ hr
    | ok a1 => rw [hr] at h; exact D.bad l a1 c h
  len := by
    rintro ⟨x, y⟩ b ⟨hv, hv'⟩ he
    unfold ePair at he
    dsimp only at he hv hv'
    cases hE : E x with
    | none => rw [hE] at he; cases he
    | some b1 =>
      rw [hE] at he
      cases hF : F y with
      | none => rw [hF] at he; cases he
      | some b2 =>
        rw [hF] at he
        simp at he; subst he
        have := C.len x b1 hv hE
        have := D.len y b2 hv' hF
        simp; omega

/-- Bytes behind their number. -/
def eData (most : Nat) (x : List UInt8) : Option (List UInt8) := if x.length ≤ most then some (uvarint x.length ++ x) else none
def rdDat (l : List UInt8) (most : Nat) (s : Except Nat Nat) : List UInt8 × Except Nat Nat := rdTake l (rdBetween l 0 (most : Int) s).1.toNat (rdBetween l 0 (most : Int) s).2
theorem codec_data (most : Nat) (hm : most < 18446744073709551616) : Codec (fun _ => True) (fun l s => rdDat l most s) (eData most) (10 + most) where
  back := by
    intro l a x b rest _ he hd ha
    unfold eData at he
    split at he
    · injection he with he; subst he
      rename_i hx
      rw [List.append_assoc] at hd
      have h1 := (codec_between 0 (most : Int) (by omega) (by omega)).back l a (x.length : Int) (uvarint x.length) _ trivial (by unfold eBetween; rw [if_pos (by omega)]; congr 2) hd ha
      have hd2 : l.drop (a + (uvarint x.length).length) = x ++ rest := by rw [← List.drop_drop, hd, List.drop_left]
      have hlen := congrArg List.length hd2
      simp at hlen
      simp only [rdDat, h1, Int.toNat_natCast, rdTake]
      rw [if_pos (by have := congrArg List.length hd; simp at this; omega), hd2, List.take_left]
      simp [Nat.add_assoc]
    · cases he
  canon := by
    intro l a x a' h ha
    unfold rdDat at h
    obtain ⟨n, r, hR⟩ : ∃ n r, rdBetween l 0 (most : Int) (.ok a) = (n, r) := ⟨_, _, rfl⟩
    rw [hR] at h
    cases r with
    | error c => simp [rdTake] at h
    | ok a1 =>
      obtain ⟨_, b1, e1, d1, l1, m1⟩ := (codec_between 0 (most : Int) (by omega) (by omega)).canon l a n a1 hR ha
      dsimp only at h
      unfold eBetween at e1
      split at e1
      · injection e1 with e1
        rename_i hb
        clear hR
        obtain ⟨k, rfl⟩ := Int.eq_ofNat_of_zero_le hb.1
        have e2 : ((k : Int) - 0).toNat = k := by omega
        rw [e2] at e1
        rw [Int.toNat_natCast] at h
        unfold rdTake at h
        dsimp only at h
        split at h
        · simp only [Prod.mk.injEq, Except.ok.injEq] at h
          obtain ⟨rfl, rfl⟩ := h
          rename_i hk
          have hkl : ((l.drop a1).take k).length = k := by simp; omega
          refine ⟨trivial, uvarint k ++ (l.drop a1).take k, ?_, ?_, ?_, by omega⟩
          · unfold eData
            rw [if_pos (by rw [hkl]; omega), hkl]
          · rw [d1, ← e1, List.append_assoc, ← List.drop_drop, List.take_append_drop]
          · rw [List.length_append, hkl, e1, l1, Nat.add_assoc]
        · simp at h
      · cases e1
  err := by intro l c; simp [rdDat, rdBetween, rdUp, rdTake]
  bad := by
    intro l a c h
    unfold rdDat at h
    cases hr : (rdBetween l 0 (most : Int) (.ok a)).2 with
    | error c2 => rw [hr] at h; simp [rdTake] at h; subst h; exact (codec_between 0 (most : Int) (by omega) (by omega)).bad l a _ hr
    | ok a1 =>
      rw [hr] at h
      unfold rdTake at h
      dsimp only at h
      split at h
      · simp at h
      · simp at h; exact .inr h.symm
  len := by
    intro x b _ he
    unfold eData at he
    split at he
    · injection he with he; subst he
      have := uvarint_length64 (x := x.length) (by omega)
      simp; omega
    · cases he

/-- n things, one behind the other. -/
def rdN {α : Type} (R : List UInt8 → Except Nat Nat → α × Except Nat Nat) (l : List UInt8) : Nat → Except Nat Nat → List α × Except Nat Nat
  | 0, s => ([], s)
  | n + 1, s => match (rdN R l n s).2 with
    | .error c => ([], .error c)
    | .ok a => match (R l (.ok a)).2 with
      | .error c => ([], .error c)
      | .ok b => ((rdN R l n s).1 ++ [(R l (.ok a)).1], .ok b)
/-- A list behind its number. -/
def rdList {α : Type} (R : List UInt8 → Except Nat Nat → α × Except Nat Nat) (most : Nat) (l : List UInt8) (s : Except Nat Nat) : List α × Except Nat Nat :=
  match (rdBetween l 0 (most : Int) s).2 with
  | .error c => ([], .error c)
  | .ok a => rdN R l (rdBetween l 0 (most : Int) s).1.toNat (.ok a)
def eAll {α : Type} (E : α → Option (List UInt8)) : List α → Option (List UInt8)
  | [] => some []
  | x :: r => match E x with
    | none => none
    | some a => (eAll E r).map (a ++ ·)
def eList {α : Type} (E : α → Option (List UInt8)) (most : Nat) (xs : List α) : Option (List UInt8) := if xs.length ≤ most then (eAll E xs).map (uvarint xs.length ++ ·) else none
theorem eAll_snoc {α : Type} (E : α → Option (List UInt8)) : ∀ (xs : List α) (x : α) (a b : List UInt8), eAll E xs = some a → E x = some b → eAll E (xs ++ [x]) = some (a ++ b)
  | [], x, a, b, h1, h2 => by simp [eAll] at h1; subst h1; simp [eAll, h2]
  | y :: r, x, a, b, h1, h2 => by
    simp only [eAll] at h1
    cases hy : E y with
    | none => rw [hy] at h1; cases h1
    | some c =>
      rw [hy] at h1
      cases hr : eAll E r with
      | none => rw [hr] at h1; cases h1
      | some d =>
        rw [hr] at h1
        simp at h1; subst h1
        have := eAll_snoc E r x d b hr h2
        simp [eAll, hy, this]
theorem rdN_err {α : Type} {R : List UInt8 → Except Nat Nat → α × Except Nat Nat} {l : List UInt8} {s : Except Nat Nat} {c n m : Nat} (h : (rdN R l n s).2 = .error c) (hm : n ≤ m) : (rdN R l m s).2 = .error c := by
  induction m with
  | zero => have : n = 0 := by omega
            subst this; exact h
  | succ m ih =>
    by_cases e : n = m + 1
    · subst e; exact h
    · have := ih (by omega)
      simp [rdN, this]
theorem rdN_front {α : Type} (R : List UInt8 → Except Nat Nat → α × Except Nat Nat) (l : List UInt8) (a : Nat) : ∀ n, rdN R l (n + 1) (.ok a) =
    match (R l (.ok a)).2 with
    | .error c => ([], .error c)
    | .ok b => match (rdN R l n (.ok b)).2 with
      | .error c => ([], .error c)
      | .ok d => ((R l (.ok a)).1 :: (rdN R l n (.ok b)).1, .ok d)
  | 0 => by
    cases h : (R l (.ok a)).2 with
    | error c => simp [rdN, h]
    | ok b => simp [rdN, h]
  | n + 1 => by
    have ih := rdN_front R l a n
    rw [rdN, ih]
    cases h : (R l (.ok a)).2 with
    | error c => simp
    | ok b =>
      simp only
      cases h2 : (rdN R l n (.ok b)).2 with
      | error c => simp [rdN, h2]
      | ok d =>
        simp only [rdN, h2]
        cases h3 : (R l (.ok d)).2 with
        | error c => simp
        | ok e => simp
section
variable {α : Type} {V : α → Prop} {R : List UInt8 → Except Nat Nat → α × Except Nat Nat} {E : α → Option (List UInt8)} {K : Nat}
theorem Codec.n_back (C : Codec V R E K) : ∀ (xs : List α) (l rest b : List UInt8) (a : Nat), (∀ x ∈ xs, V x) → eAll E xs = some b → l.drop a = b ++ rest → a ≤ l.length → rdN R l xs.length (.ok a) = (xs, .ok (a + b.length))
  | [], l, rest, b, a, _, he, _, _ => by simp [eAll] at he; subst he; rfl
  | x :: r, l, rest, b, a, hv, he, hd, ha => by
    simp only [eAll] at he
    cases hE : E x with
    | none => rw [hE] at he; cases he
    | some b1 =>
      rw [hE] at he
      cases hr : eAll E r with
      | none => rw [hr] at he; cases he
      | some b2 =>
        rw [hr] at he
        simp at he; subst he
        rw [List.append_assoc] at hd
        have h1 := C.back l a x b1 _ (hv x (by simp)) hE hd ha
        have hd2 : l.drop (a + b1.length) = b2 ++ rest := by rw [← List.drop_drop, hd, List.drop_left]
        have ha2 : a + b1.length ≤ l.length := by have := congrArg List.length hd; simp at this; omega
        have ih := Codec.n_back C r l rest b2 (a + b1.length) (fun y hy => hv y (by simp [hy])) hr hd2 ha2
        rw [List.length_cons, rdN_front, h1]
        simp only [ih]
        simp [Nat.add_assoc]
theorem Codec.n_canon (C : Codec V R E K) (l : List UInt8) (a : Nat) (ha : a ≤ l.length) : ∀ (n : Nat) (xs : List α) (a' : Nat), rdN R l n (.ok a) = (xs, .ok a') →
    xs.length = n ∧ (∀ x ∈ xs, V x) ∧ ∃ b, eAll E xs = some b ∧ l.drop a = b ++ l.drop a' ∧ a' = a + b.length ∧ a' ≤ l.length
  | 0, xs, a', h => by
    simp [rdN] at h
    obtain ⟨rfl, rfl⟩ := h
    exact ⟨rfl, by simp, [], rfl, by simp, by simp, ha⟩
  | n + 1, xs, a', h => by
    simp only [rdN] at h
    cases hn : (rdN R l n (.ok a)).2 with
    | error c => rw [hn] at h; simp at h
    | ok a1 =>
      rw [hn] at h
      dsimp only at h
      cases hr : (R l (.ok a1)).2 with
      | error c => rw [hr] at h; simp at h
      | ok a2 =>
        rw [hr] at h
        simp only [Prod.mk.injEq, Except.ok.injEq] at h
        obtain ⟨rfl, rfl⟩ := h
        obtain ⟨k1, k2, b, k3, k4, k5, k6⟩ := Codec.n_canon C l a ha n _ a1 (Prod.ext rfl hn)
        obtain ⟨v2, b2, e2, d2, l2, m2⟩ := C.canon l a1 _ a2 (Prod.ext rfl hr) k6
        refine ⟨by simp [k1], ?_, b ++ b2, eAll_snoc E _ _ b b2 k3 e2, ?_, ?_, m2⟩
        · intro x hx
          rcases List.mem_append.1 hx with hx | hx
          · exact k2 x hx
          · simp at hx; subst hx; exact v2
        · rw [k4, d2, List.append_assoc]
        · rw [l2, k5, List.length_append, Nat.add_assoc]
theorem Codec.n_bad (C : Codec V R E K) (l : List UInt8) (a : Nat) : ∀ (n c : Nat), (rdN R l n (.ok a)).2 = .error c → c = 20 ∨ c = 22
  | 0, c, h => by simp [rdN] at h
  | n + 1, c, h => by
    simp only [rdN] at h
    cases hn : (rdN R l n (.ok a)).2 with
    | error c2 => rw [hn] at h; simp at h; subst h; exact Codec.n_bad C l a n _ hn
    | ok a1 =>
      rw [hn] at h
      dsimp only at h
      cases hr : (R l (.ok a1)).2 with
      | error c2 => rw [hr] at h; simp at h; subst h; exact C.bad l a1 _ hr
      | ok a2 => rw [hr] at h; simp at h
theorem Codec.n_len (C : Codec V R E K) : ∀ (xs : List α) (b : List UInt8), (∀ x ∈ xs, V x) → eAll E xs = some b → b.length ≤ xs.length * K
  | [], b, _, he => by simp [eAll] at he; subst he; simp
  | x :: r, b, hv, he => by
    simp only [eAll] at he
    cases hE : E x with
    | none => rw [hE] at he; cases he
    | some b1 =>
      rw [hE] at he
      cases hr : eAll E r with
      | none => rw [hr] at he; cases he
      | some b2 =>
        rw [hr] at he
        simp at he; subst he
        have h1 := C.len x b1 (hv x (by simp)) hE
        have h2 := Codec.n_len C r b2 (fun y hy => hv y (by simp [hy])) hr
        simp [Nat.add_mul]; omega
theorem Codec.list (C : Codec V R E K) (most : Nat) (hm : most < 18446744073709551616) : Codec (fun xs => ∀ x ∈ xs, V x) (rdList R most) (eList E most) (10 + most * K) where
  back := by
    intro l a xs b rest hv he hd ha
    unfold eList at he
    split at he
    · rename_i hx
      cases hr : eAll E xs with
      | none => rw [hr] at he; cases he
      | some b2 =>
        rw [hr] at he
        simp at he; subst he
        rw [List.append_assoc] at hd
        have h1 := (codec_between 0 (most : Int) (by omega) (by omega)).back l a (xs.length : Int) (uvarint xs.length) _ trivial (by unfold eBetween; rw [if_pos (by omega)]; congr 2) hd ha
        have hd2 : l.drop (a + (uvarint xs.length).length) = b2 ++ rest := by rw [← List.drop_drop, hd, List.drop_left]
        have ha2 : a + (uvarint xs.length).length ≤ l.length := by have := congrArg List.length hd; simp at this; omega
        have h2 := C.n_back xs l rest b2 _ hv hr hd2 ha2
        simp only [rdList, h1, Int.toNat_natCast, h2]
        simp [Nat.add_assoc]
    · cases he
  canon := by
    intro l a xs a' h ha
    unfold rdList at h
    obtain ⟨n, r, hR⟩ : ∃ n r, rdBetween l 0 (most : Int) (.ok a) = (n, r) := ⟨_, _, rfl⟩
    rw [hR] at h
    cases r with
    | error c => simp at h
    | ok a1 =>
      obtain ⟨_, b1, e1, d1, l1, m1⟩ := (codec_between 0 (most : Int) (by omega) (by omega)).canon l a n a1 hR ha
      dsimp only at h
      unfold eBetween at e1
      split at e1
      · injection e1 with e1
        rename_i hb
        clear hR
        obtain ⟨k, rfl⟩ := Int.eq_ofNat_of_zero_le hb.1
        have e2 : ((k : Int) - 0).toNat = k := by omega
        rw [e2] at e1
        rw [Int.toNat_natCast] at h
        obtain ⟨k1, k2, b, k3, k4, k5, k6⟩ := C.n_canon l a1 m1 k xs a' h
        subst k1
        refine ⟨k2, uvarint xs.length ++ b, ?_, ?_, ?_, k6⟩
        · unfold eList
          rw [if_pos (by omega), k3]; rfl
        · rw [d1, ← e1, k4, List.append_assoc]
        · rw [k5, l1, ← e1, List.length_append, Nat.add_assoc]
      · cases e1
  err := by intro l c; simp [rdList, rdBetween, rdUp]
  bad := by
    intro l a c h
    unfold rdList at h
    cases hr : (rdBetween l 0 (most : Int) (.ok a)).2 with
    | error c2 => rw [hr] at h; simp at h; subst h; exact (codec_between 0 (most : Int) (by omega) (by omega)).bad l a _ hr
    | ok a1 => rw [hr] at h; exact C.n_bad l a1 _ c h
  len := by
    intro xs b hv he
    unfold eList at he
    split at he
    · rename_i hx
      cases hr : eAll E xs with
      | none => rw [hr] at he; cases he
      | some b2 =>
        rw [hr] at he
        simp at he; subst he
        have h1 := uvarint_length64 (x := xs.length) (by omega)
        have h2 := C.n_len xs b2 hv hr
        have h3 : xs.length * K ≤ most * K := Nat.mul_le_mul_right _ hx
        simp; omega
    · cases he
end
end Go.Proofs.YtlmjmhpdpgeplaaGreatDoor
