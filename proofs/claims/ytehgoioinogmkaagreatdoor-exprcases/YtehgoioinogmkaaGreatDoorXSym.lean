/- Texts said piece by piece: what the document's lexer and parser tell of them, as plain functions. -/
import Derived.Test.YtehgoioinogmkaaGreatDoorXParse
namespace Go.Proofs.YtehgoioinogmkaaGreatDoor
open Go.RowKit Go.Lib

abbrev Tv := Nat × List UInt8
def tv (t : Tk) : Tv := (t.kind, t.text)
/-- l, wherever it begins, has these tokens. -/
def LexV (l : List UInt8) (V : List Tv) : Prop := ∀ a, ∃ ts : List Tk, ts.map tv = V ∧ ∀ n, l.length ≤ n → lexF n l a = .ok ts
theorem LexV.nil : LexV [] [] := fun a => ⟨[], rfl, fun n _ => by cases n <;> rfl⟩
theorem LexV.step {l l' : List UInt8} {V : List Tv} (k m : Nat) (hp : pieceL l = .ok (k, m)) (hd : l.drop m = l') (h : LexV l' V) : LexV l (if k = 0 then V else tokL k (l.take m) :: V) := by
  subst hd
  intro a
  obtain ⟨ts, h1, h2⟩ := h (a + m)
  have hs := piece_size hp
  refine ⟨if k = 0 then ts else ⟨(tokL k (l.take m)).1, (tokL k (l.take m)).2, a⟩ :: ts, ?_, fun n hn => ?_⟩
  · by_cases hk : k = 0
    · rw [if_pos hk, if_pos hk]; exact h1
    · rw [if_neg hk, if_neg hk, List.map_cons, h1]; rfl
  · cases n with
    | zero => exact absurd hn (by omega)
    | succ n =>
      rw [lexF, if_neg (by intro e; rw [e] at hs; simp at hs; omega), hp]
      show (match lexF n (l.drop m) (a + m) with | .error e => (.error e : Except Nat (List Tk)) | .ok t => .ok (if k = 0 then t else ⟨(tokL k (l.take m)).1, (tokL k (l.take m)).2, a⟩ :: t)) = _
      rw [h2 n (by rw [List.length_drop]; omega)]
/-- The same, a token said. -/
theorem LexV.tok {l l' : List UInt8} {V : List Tv} (k m : Nat) (t : Tv) (hp : pieceL l = .ok (k, m)) (hd : l.drop m = l') (hk : k ≠ 0) (ht : tokL k (l.take m) = t) (h : LexV l' V) : LexV l (t :: V) := by
  have := LexV.step k m hp hd h
  rwa [if_neg hk, ht] at this
theorem LexV.skip {l l' : List UInt8} {V : List Tv} (m : Nat) (hp : pieceL l = .ok (0, m)) (hd : l.drop m = l') (h : LexV l' V) : LexV l V := LexV.step 0 m hp hd h

/-- A parser without an error, these tokens ahead of it. -/
def At (T : List Tk) (S : PS) (V : List Tv) : Prop := S.err = 0 ∧ (T.drop S.i).map tv = V
theorem At.tk {T : List Tk} {S : PS} {t : Tv} {V : List Tv} (h : At T S (t :: V)) : tv (tkS T S) = t ∧ S.i < T.length := by
  obtain ⟨_, h⟩ := h
  cases hd : T.drop S.i with
  | nil => rw [hd] at h; cases h
  | cons x xs =>
    rw [hd, List.map_cons] at h
    injection h with h1 _
    have hl : S.i < T.length := by
      rcases Nat.lt_or_ge S.i T.length with h | h
      · exact h
      · rw [List.drop_eq_nil_of_le h] at hd; cases hd
    rw [List.drop_eq_getElem_cons hl] at hd
    injection hd with h3 _
    refine ⟨?_, hl⟩
    unfold tkS
    rw [List.getD_eq_getElem?_getD, List.getElem?_eq_getElem hl, h3]
    exact h1
theorem At.kind {T : List Tk} {S : PS} {t : Tv} {V : List Tv} (h : At T S (t :: V)) : (tkS T S).kind = t.1 := by rw [← h.tk.1]; rfl
theorem At.text {T : List Tk} {S : PS} {t : Tv} {V : List Tv} (h : At T S (t :: V)) : (tkS T S).text = t.2 := by rw [← h.tk.1]; rfl
theorem At.is {T : List Tk} {S : PS} {t : Tv} {V : List Tv} (h : At T S (t :: V)) (k : Nat) (x : List UInt8) : isS T k x S = (t.1 == k && t.2 == x) := by
  unfold isS
  rw [h.1, h.kind, h.text]
  rfl
theorem At.next {T : List Tk} {S : PS} {t u : Tv} {V : List Tv} (h : At T S (t :: u :: V)) : At T (nextS T S) (u :: V) ∧ (nextS T S).deep = S.deep := by
  have hl := h.tk.2
  have hd := h.2
  rw [List.drop_eq_getElem_cons hl, List.map_cons] at hd
  injection hd with _ h2
  have h3 : S.i + 1 < T.length := by
    rcases Nat.lt_or_ge (S.i + 1) T.length with h | h
    · exact h
    · rw [List.drop_eq_nil_of_le h] at h2; cases h2
  unfold nextS
  rw [if_pos ⟨h.1, h3⟩]
  exact ⟨⟨h.1, h2⟩, rfl⟩
theorem At.deep {T : List Tk} {S : PS} {V : List Tv} (h : At T S V) (d : Int) : At T { S with deep := d } V := h
/-- What a call told: an expression, what is ahead then, how much is open. -/
def To (T : List Tk) (r : Ex × PS) (E : Ex) (V : List Tv) (d : Int) : Prop := r.1 = E ∧ At T r.2 V ∧ r.2.deep = d

theorem At.may {T : List Tk} {S : PS} {t u : Tv} {V : List Tv} (h : At T S (t :: u :: V)) {k : Nat} {x : List UInt8} (he : (t.1 == k && t.2 == x) = true) : At T (mayS T k x S) (u :: V) ∧ (mayS T k x S).deep = S.deep := by
  unfold mayS
  rw [h.is, he]
  exact h.next
theorem At.mayNot {T : List Tk} {S : PS} {t : Tv} {V : List Tv} (h : At T S (t :: V)) {k : Nat} {x : List UInt8} (he : (t.1 == k && t.2 == x) = false) : mayS T k x S = S := by
  unfold mayS
  rw [h.is, he]
  rfl
theorem At.must {T : List Tk} {S : PS} {t u : Tv} {V : List Tv} (h : At T S (t :: u :: V)) {k : Nat} {x : List UInt8} (he : (t.1 == k && t.2 == x) = true) : At T (mustS T k x S) (u :: V) ∧ (mustS T k x S).deep = S.deep := by
  unfold mustS
  rw [h.is, he]
  exact h.next
theorem At.open {T : List Tk} {S : PS} {t u : Tv} {V : List Tv} (h : At T S (t :: u :: V)) {x : List UInt8} (he : (t.1 == 5 && t.2 == x || t.1 == 2 && t.2 == x) = true) (hd : S.deep ≠ 30) : At T (openS T x S) (u :: V) ∧ (openS T x S).deep = wrap64 (S.deep + 1) := by
  unfold openS
  rw [h.is, h.is, he, if_pos rfl, if_neg hd]
  exact (h.deep _).next
/-- Tokens that end an expression here. -/
def fullL : List Tv := [(5, [44]), (5, [41]), (0, []), (2, [87, 72, 69, 78]), (2, [84, 72, 69, 78]), (2, [69, 76, 83, 69]), (2, [69, 78, 68])]
def noK (l : List Tv) (t : Tv) : Bool := l.all fun q => !(t.1 == q.1 && t.2 == q.2)
theorem noK_get {l : List Tv} {t : Tv} (h : noK l t = true) {k : Nat} {x : List UInt8} (hm : (k, x) ∈ l) : (t.1 == k && t.2 == x) = false := by
  have := List.all_eq_true.1 h _ hm
  revert this
  cases (t.1 == k && t.2 == x) <;> simp
def ops2 : List Tv := [(5, [42]), (5, [47]), (5, [37])]
def ops3 : List Tv := [(5, [43]), (5, [45]), (5, [124, 124])]
def ops4 : List Tv := [(5, [61]), (5, [60, 62]), (5, [60]), (5, [60, 61]), (5, [62]), (5, [62, 61]), (2, [73, 83])]
def ops4b : List Tv := [(2, [78, 79, 84]), (2, [73, 78]), (2, [66, 69, 84, 87, 69, 69, 78])]
def ops6 : List Tv := [(2, [65, 78, 68])]
def ops7 : List Tv := [(2, [79, 82])]
theorem full_no {t : Tv} (h : t ∈ fullL) : noK ops2 t = true ∧ noK ops3 t = true ∧ noK ops4 t = true ∧ noK ops4b t = true ∧ noK ops6 t = true ∧ noK ops7 t = true := by
  simp only [fullL, List.mem_cons, List.not_mem_nil, or_false] at h
  rcases h with rfl | rfl | rfl | rfl | rfl | rfl | rfl <;> decide
section
variable {T : List Tk}
theorem lvl1 (n : Nat) (S : PS) : lev T (n + 1) 1 S = factorS T (lev T n 1) (lev T n 7) n S := by rw [lev]; rfl
theorem lvl2 (n : Nat) (S : PS) : lev T (n + 1) 2 S = loopG T (lev T n 1) [42] [47] [37] 13 14 15 n (lev T n 1 S).1 (lev T n 1 S).2 := by rw [lev]; rfl
theorem lvl3 (n : Nat) (S : PS) : lev T (n + 1) 3 S = loopG T (lev T n 2) [43] [45] [124, 124] 11 12 16 n (lev T n 2 S).1 (lev T n 2 S).2 := by rw [lev]; rfl
theorem lvl4 (n : Nat) (S : PS) : lev T (n + 1) 4 S = testS T (lev T n 3) (lev T n 7) n S := by rw [lev]; rfl
theorem lvl5 (n : Nat) (S : PS) (h : isS T 2 [78, 79, 84] S = false) : lev T (n + 1) 5 S = lev T n 4 S := by rw [lev]; simp [h]
theorem lvl6 (n : Nat) (S : PS) : lev T (n + 1) 6 S = loopW T (lev T n 5) [65, 78, 68] 17 n (lev T n 5 S).1 (lev T n 5 S).2 := by rw [lev]; rfl
theorem lvl7 (n : Nat) (S : PS) : lev T (n + 1) 7 S = loopW T (lev T n 6) [79, 82] 18 n (lev T n 6 S).1 (lev T n 6 S).2 := by rw [lev]; rfl
theorem loopG_stop {sub : PS → Ex × PS} {g1 g2 g3 : List UInt8} {o1 o2 o3 : Int} {n : Nat} {a : Ex} {S : PS} {t : Tv} {V : List Tv} (h : At T S (t :: V)) (hn : noK [(5, g1), (5, g2), (5, g3)] t = true) : loopG T sub g1 g2 g3 o1 o2 o3 n a S = (a, S) := by
  cases n with
  | zero => rfl
  | succ n => rw [loopG, h.is, h.is, h.is, noK_get hn (by simp), noK_get hn (by simp), noK_get hn (by simp)]; rfl
theorem loopW_stop {sub : PS → Ex × PS} {kw : List UInt8} {op : Int} {n : Nat} {a : Ex} {S : PS} {t : Tv} {V : List Tv} (h : At T S (t :: V)) (hn : noK [(2, kw)] t = true) : loopW T sub kw op n a S = (a, S) := by
  cases n with
  | zero => rfl
  | succ n => rw [loopW, h.is, noK_get hn (by simp)]; rfl
variable {E : Ex} {t : Tv} {V : List Tv} {d : Int} {n : Nat} {S : PS}
theorem To.up2 (h : To T (lev T n 1 S) E (t :: V) d) (ht : noK ops2 t = true) : To T (lev T (n + 1) 2 S) E (t :: V) d := by
  obtain ⟨h1, h2, h3⟩ := h
  rw [lvl2, loopG_stop h2 ht]
  exact ⟨h1, h2, h3⟩
theorem To.up3 (h : To T (lev T n 2 S) E (t :: V) d) (ht : noK ops3 t = true) : To T (lev T (n + 1) 3 S) E (t :: V) d := by
  obtain ⟨h1, h2, h3⟩ := h
  rw [lvl3, loopG_stop h2 ht]
  exact ⟨h1, h2, h3⟩
theorem signI_none (h : At T S (t :: V)) (ht : noK ops4 t = true) : signI T S 0 signsL = none := by
  have h1 := fun x (hm : ((5, x) : Tv) ∈ ops4) => noK_get ht hm
  simp only [signsL, signI, h.is, h1 [61] (by decide), h1 [60, 62] (by decide), h1 [60] (by decide), h1 [60, 61] (by decide), h1 [62] (by decide), h1 [62, 61] (by decide), Bool.false_eq_true, if_false]
theorem To.up4 (h : To T (lev T n 3 S) E (t :: V) d) (ht : noK ops4 t = true) (ht' : noK ops4b t = true) : To T (lev T (n + 1) 4 S) E (t :: V) d := by
  obtain ⟨h1, h2, h3⟩ := h
  rw [lvl4]
  unfold testS
  simp only [signI_none h2 ht]
  rw [h2.is, noK_get ht (by decide), if_neg (by decide), h2.mayNot (noK_get ht' (by decide)), h2.is, noK_get ht' (by decide), if_neg (by decide), h2.is, noK_get ht' (by decide), if_neg (by decide), h2.is, noK_get ht' (by decide), if_neg (by decide), if_neg (by decide)]
  exact ⟨h1, h2, h3⟩
theorem To.up5 {t0 : Tv} {V0 : List Tv} (h0 : At T S (t0 :: V0)) (hN : (t0.1 == 2 && t0.2 == [78, 79, 84]) = false) (h : To T (lev T n 4 S) E (t :: V) d) : To T (lev T (n + 1) 5 S) E (t :: V) d := by
  rw [lvl5 n S (by rw [h0.is]; exact hN)]
  exact h
theorem To.up6 (h : To T (lev T n 5 S) E (t :: V) d) (ht : noK ops6 t = true) : To T (lev T (n + 1) 6 S) E (t :: V) d := by
  obtain ⟨h1, h2, h3⟩ := h
  rw [lvl6, loopW_stop h2 ht]
  exact ⟨h1, h2, h3⟩
theorem To.up7 (h : To T (lev T n 6 S) E (t :: V) d) (ht : noK ops7 t = true) : To T (lev T (n + 1) 7 S) E (t :: V) d := by
  obtain ⟨h1, h2, h3⟩ := h
  rw [lvl7, loopW_stop h2 ht]
  exact ⟨h1, h2, h3⟩
theorem To.up47 {t0 : Tv} {V0 : List Tv} (h0 : At T S (t0 :: V0)) (hN : (t0.1 == 2 && t0.2 == [78, 79, 84]) = false) (h : To T (lev T n 4 S) E (t :: V) d) (ht : t ∈ fullL) : To T (lev T (n + 3) 7 S) E (t :: V) d :=
  ((h.up5 h0 hN).up6 (full_no ht).2.2.2.2.1).up7 (full_no ht).2.2.2.2.2
theorem To.up27 {t0 : Tv} {V0 : List Tv} (h0 : At T S (t0 :: V0)) (hN : (t0.1 == 2 && t0.2 == [78, 79, 84]) = false) (h : To T (lev T n 2 S) E (t :: V) d) (ht : t ∈ fullL) : To T (lev T (n + 5) 7 S) E (t :: V) d :=
  ((h.up3 (full_no ht).2.1).up4 (full_no ht).2.2.1 (full_no ht).2.2.2.1).up47 h0 hN ht
theorem At.num {x : List UInt8} {u : Tv} (h : At T S ((3, x) :: u :: V)) (hx : x.length < 19) : To T (lev T (n + 1) 1 S) (valE 2 (wrap64 (numF x)) []) (u :: V) S.deep := by
  rw [lvl1]
  unfold factorS
  rw [h.is, if_neg (by show ¬ ((3 == 5 && _) = true); simp), if_neg (by simp [h.1]), if_pos h.kind]
  unfold numberS
  rw [if_neg (by rw [h.text]; show ¬ (19 < x.length ∨ (x.length = 19 ∧ _)); omega), h.text]
  exact ⟨rfl, h.next.1, h.next.2⟩
theorem At.null {u : Tv} (h : At T S ((2, [78, 85, 76, 76]) :: u :: V)) : To T (lev T (n + 1) 1 S) (valE 0 0 []) (u :: V) S.deep := by
  rw [lvl1]
  unfold factorS
  rw [h.is, if_neg (by decide), if_neg (by simp [h.1]), if_neg (by rw [h.kind]; decide), if_neg (by rw [h.kind]; decide), if_neg (by rw [h.kind]; decide), h.is, if_pos (by decide)]
  exact ⟨rfl, h.next.1, h.next.2⟩
/-- A number divided by a number. -/
theorem At.quot {x y : List UInt8} {u : Tv} (h : At T S ((3, x) :: (5, [47]) :: (3, y) :: u :: V)) (hx : x.length < 19) (hy : y.length < 19) (hu : noK ops2 u = true) :
    To T (lev T (n + 3) 2 S) (binE 14 (valE 2 (wrap64 (numF x)) []) (valE 2 (wrap64 (numF y)) [])) (u :: V) S.deep := by
  obtain ⟨h1, h2, h3⟩ := h.num (n := n + 1) hx
  obtain ⟨g1, g2, g3⟩ := (h2.next.1).num (n := n + 1) hy
  rw [lvl2, loopG, h2.is, if_neg (by decide), h2.is, if_pos (by decide), loopG_stop g2 hu, h1, g1]
  exact ⟨rfl, g2, by rw [g3, h2.next.2, h3]⟩
end
end Go.Proofs.YtehgoioinogmkaaGreatDoor
