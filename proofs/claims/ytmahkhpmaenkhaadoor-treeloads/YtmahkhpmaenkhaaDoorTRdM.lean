/- Reading a tree's bytes, on lists of bytes: without the program. -/
import Derived.Test.YtmahkhpmaenkhaaDoorTOneM
import Derived.Test.YtmahkhpmaenkhaaDoorCodec
namespace Go.Proofs.YtmahkhpmaenkhaaDoor
open Go.RowKit Go.Lib

/-- How many there are of something: a number, and where what follows begins. -/
def rdNum (l : List UInt8) (a : Nat) : Option (Nat × Nat) :=
  if (decU (l.drop a)).2.2.1 = 0 ∧ (decU (l.drop a)).1 ≤ l.length - a - (decU (l.drop a)).2.1 then some ((decU (l.drop a)).1, a + (decU (l.drop a)).2.1) else none
def rdTx (l : List UInt8) (a : Nat) : Option (ByteArray × Nat) :=
  match rdNum l a with
  | none => none
  | some (n, a') => some (⟨((l.drop a').take n).toArray⟩, a' + n)
def rdIt (l : List UInt8) (a : Nat) (fr : ByteArray) : Option (It × Nat) :=
  match rdTx l a with
  | none => none
  | some (k, a1) => if kc k fr < 0 then none else
    match rdTx l a1 with
    | none => none
    | some (v, a2) => some ((k, v), a2)
def rdIts (l : List UInt8) : Nat → Nat → ByteArray → Option (List It × Nat × ByteArray)
  | 0, a, fr => some ([], a, fr)
  | n + 1, a, fr =>
    match rdIt l a fr with
    | none => none
    | some (x, a') =>
      match rdIts l n a' (behindK x.1) with
      | none => none
      | some (xs, r) => some (x :: xs, r)
def rdTree (l : List UInt8) : Option (List It) :=
  match rdNum l 0 with
  | none => none
  | some (n, a) =>
    match rdIts l n a ⟨#[]⟩ with
    | none => none
    | some (xs, a', _) => if a' < l.length then none else some xs
theorem rdNum_some {l : List UInt8} {a n a' : Nat} (h : rdNum l a = some (n, a')) (ha : a ≤ l.length) : l.drop a = uvarint n ++ l.drop a' ∧ a' = a + (uvarint n).length ∧ a' + n ≤ l.length ∧ n < 18446744073709551616 := by
  unfold rdNum at h
  split at h
  · rename_i hc
    obtain ⟨D, hD⟩ : ∃ D, D = decU (l.drop a) := ⟨_, rfl⟩
    rw [← hD] at h hc
    obtain ⟨m, k, c, q⟩ := D
    have hd := hD.symm
    simp only at h hc
    obtain ⟨h0, hle⟩ := hc
    subst h0
    injection h with h
    injection h with h1 h2
    subst h1 h2
    obtain ⟨c1, c2, c3, c4⟩ := decU_canon hd
    rw [List.drop_drop] at c3
    rw [List.length_drop] at c4
    exact ⟨c3, by omega, by omega, c1⟩
  · cases h
theorem rdNum_uv {l rest : List UInt8} {a n : Nat} (hn : n < 18446744073709551616) (hd : l.drop a = uvarint n ++ rest) (hr : n ≤ rest.length) : rdNum l a = some (n, a + (uvarint n).length) := by
  unfold rdNum
  have e : decU (l.drop a) = (n, (uvarint n).length, 0, 0) := by rw [hd]; exact decU_uv n hn rest
  have hl := congrArg List.length hd
  rw [List.length_drop, List.length_append] at hl
  rw [e]
  exact if_pos ⟨rfl, by show n ≤ l.length - a - (uvarint n).length; omega⟩
theorem rdTx_some {l : List UInt8} {a a' : Nat} {k : ByteArray} (h : rdTx l a = some (k, a')) (ha : a ≤ l.length) : l.drop a = txtB k ++ l.drop a' ∧ a < a' ∧ a' ≤ l.length ∧ k.size ≤ l.length := by
  unfold rdTx at h
  cases hn : rdNum l a with
  | none => rw [hn] at h; cases h
  | some p =>
    obtain ⟨n, a1⟩ := p
    rw [hn] at h
    injection h with h
    injection h with h1 h2
    obtain ⟨e1, e2, e3, e4⟩ := rdNum_some hn ha
    have hsz : k.size = n := by
      rw [← h1]
      show ((l.drop a1).take n).toArray.size = n
      rw [List.size_toArray, List.length_take, List.length_drop]; omega
    have hd : k.data.toList = (l.drop a1).take n := by rw [← h1]
    have hu := uvarint_pos n
    refine ⟨?_, by omega, by omega, by omega⟩
    unfold txtB
    rw [hsz, hd, e1, List.append_assoc, ← h2, ← List.drop_drop, List.take_append_drop]
theorem rdTx_back {l rest : List UInt8} {a : Nat} {k : ByteArray} (hk : k.size < 18446744073709551616) (hd : l.drop a = txtB k ++ rest) : rdTx l a = some (k, a + (txtB k).length) := by
  have hkd : k.data.toList.length = k.size := by rw [Array.length_toList]; rfl
  have h1 : rdNum l a = some (k.size, a + (uvarint k.size).length) := rdNum_uv (rest := k.data.toList ++ rest) hk (by rw [hd]; unfold txtB; rw [List.append_assoc]) (by rw [List.length_append, hkd]; omega)
  unfold rdTx
  rw [h1]
  have h2 : l.drop (a + (uvarint k.size).length) = k.data.toList ++ rest := by
    rw [← List.drop_drop, hd]; unfold txtB
    rw [List.append_assoc, List.drop_left]
  simp only
  rw [h2, ← hkd, List.take_left]
  unfold txtB
  rw [List.length_append, hkd]
  simp [Nat.add_assoc]
theorem rdIt_some {l : List UInt8} {a a' : Nat} {fr : ByteArray} {x : It} (h : rdIt l a fr = some (x, a')) (ha : a ≤ l.length) : l.drop a = itB x ++ l.drop a' ∧ a < a' ∧ a' ≤ l.length ∧ 0 ≤ kc x.1 fr ∧ x.1.size ≤ l.length ∧ x.2.size ≤ l.length := by
  unfold rdIt at h
  cases h1 : rdTx l a with
  | none => rw [h1] at h; cases h
  | some p =>
    obtain ⟨k, a1⟩ := p
    rw [h1] at h
    simp only at h
    split at h
    · cases h
    · rename_i hk
      cases h2 : rdTx l a1 with
      | none => rw [h2] at h; cases h
      | some p =>
        obtain ⟨v, a2⟩ := p
        rw [h2] at h
        injection h with h
        injection h with e1 e2
        subst e1 e2
        obtain ⟨q1, q2, q3, q4⟩ := rdTx_some h1 ha
        obtain ⟨r1, r2, r3, r4⟩ := rdTx_some h2 q3
        refine ⟨?_, by omega, r3, by show 0 ≤ kc k fr; omega, q4, r4⟩
        unfold itB
        rw [q1, r1, List.append_assoc]
theorem rdIt_back {l rest : List UInt8} {a : Nat} {fr : ByteArray} {x : It} (h1 : x.1.size < 18446744073709551616) (h2 : x.2.size < 18446744073709551616) (hk : 0 ≤ kc x.1 fr) (hd : l.drop a = itB x ++ rest) : rdIt l a fr = some (x, a + (itB x).length) := by
  unfold itB at hd
  rw [List.append_assoc] at hd
  unfold rdIt
  rw [rdTx_back h1 hd]
  simp only
  rw [if_neg (by omega)]
  have hd2 : l.drop (a + (txtB x.1).length) = txtB x.2 ++ rest := by rw [← List.drop_drop, hd, List.drop_left]
  rw [rdTx_back h2 hd2]
  unfold itB
  rw [List.length_append]
  simp [Nat.add_assoc]
/-- Nothing stands between a key and the least one behind it. -/
theorem behind_le {k z : ByteArray} : 0 ≤ kc z (behindK k) ↔ kc k z < 0 := by
  have key : ∀ x y : List UInt8, 0 ≤ compareBytes y (x ++ [0]) ↔ compareBytes x y < 0 := by
    intro x
    induction x with
    | nil =>
      intro y
      cases y with
      | nil => simp [compareBytes]
      | cons b y =>
        rw [List.nil_append, cb_cons]
        have hb := compareInt_cmp.range (b.toNat : Int) ((0 : UInt8).toNat : Int)
        have : compareBytes y [] = 0 ∨ compareBytes y [] = 1 := by cases y <;> simp [compareBytes]
        have h0 : compareBytes [] (b :: y) = -1 := rfl
        rw [h0]
        have hb2 : 0 ≤ compareInt (b.toNat : Int) ((0 : UInt8).toNat : Int) := by
          unfold compareInt
          repeat' split
          all_goals first | omega | (rename_i h; have : ((0 : UInt8).toNat : Int) = 0 := rfl; omega)
        unfold first0
        constructor
        · intro _; omega
        · intro _; split <;> omega
    | cons a x ih =>
      intro y
      cases y with
      | nil =>
        have h1 : compareBytes [] (a :: (x ++ [0])) = -1 := rfl
        have h2 : compareBytes (a :: x) [] = 1 := rfl
        rw [List.cons_append, h1, h2]; omega
      | cons b y =>
        rw [List.cons_append, cb_cons, cb_cons]
        have ih := ih y
        have ha := compareInt_cmp.anti (a.toNat : Int) (b.toNat : Int)
        unfold first0
        split <;> split <;> omega
  have e : (behindK k).data.toList = k.data.toList ++ [0] := by
    unfold behindK
    simp
  unfold kc
  rw [e]
  exact key _ _
theorem empty_le (z : ByteArray) : 0 ≤ kc z ⟨#[]⟩ := by
  unfold kc
  cases z.data.toList <;> simp [compareBytes]
theorem rdIts_some {l : List UInt8} : ∀ {n a a' : Nat} {fr fr' : ByteArray} {xs : List It}, rdIts l n a fr = some (xs, a', fr') → a ≤ l.length → l.drop a = dumpL xs ++ l.drop a' ∧ a' ≤ l.length ∧ xs.length = n ∧ Srt xs ∧ (∀ x ∈ xs, 0 ≤ kc x.1 fr ∧ x.1.size ≤ l.length ∧ x.2.size ≤ l.length) ∧ a + n ≤ a'
  | 0, a, a', fr, fr', xs, h, ha => by
    unfold rdIts at h
    injection h with h
    injection h with h1 h2
    injection h2 with h2 h3
    subst h1 h2 h3
    exact ⟨by simp [dumpL], ha, rfl, List.Pairwise.nil, (fun _ h => by cases h), by omega⟩
  | n + 1, a, a', fr, fr', xs, h, ha => by
    unfold rdIts at h
    cases h1 : rdIt l a fr with
    | none => rw [h1] at h; cases h
    | some p =>
      obtain ⟨x, a1⟩ := p
      rw [h1] at h
      simp only at h
      cases h2 : rdIts l n a1 (behindK x.1) with
      | none => rw [h2] at h; cases h
      | some p =>
        obtain ⟨ys, a2, fr2⟩ := p
        rw [h2] at h
        injection h with h
        injection h with e1 e2
        injection e2 with e2 e3
        subst e1 e2 e3
        obtain ⟨q1, q2, q3, q4, q5, q6⟩ := rdIt_some h1 ha
        obtain ⟨r1, r2, r3, r4, r5, r6⟩ := rdIts_some h2 q3
        refine ⟨?_, r2, by rw [List.length_cons, r3], List.pairwise_cons.2 ⟨fun y hy => behind_le.1 (r5 y hy).1, r4⟩, fun y hy => ?_, by omega⟩
        · rw [q1, r1]; simp [dumpL]
        · rcases List.mem_cons.1 hy with rfl | hy
          · exact ⟨q4, q5, q6⟩
          · have h3 := behind_le.1 (r5 y hy).1
            refine ⟨?_, (r5 y hy).2⟩
            rcases Int.lt_or_le (kc y.1 fr) 0 with h4 | h4
            · have h5 := kc_lt_trans h3 h4
              omega
            · exact h4
theorem rdIts_back {l rest : List UInt8} : ∀ {xs : List It} {a : Nat} {fr : ByteArray}, Srt xs → (∀ x ∈ xs, x.1.size < 18446744073709551616 ∧ x.2.size < 18446744073709551616 ∧ 0 ≤ kc x.1 fr) → l.drop a = dumpL xs ++ rest → ∃ fr', rdIts l xs.length a fr = some (xs, a + (dumpL xs).length, fr')
  | [], a, fr, _, _, _ => ⟨fr, by simp [rdIts, dumpL]⟩
  | x :: xs, a, fr, hs, hx, hd => by
    obtain ⟨h1, h2⟩ := List.pairwise_cons.1 hs
    have e : dumpL (x :: xs) = itB x ++ dumpL xs := by simp [dumpL]
    rw [e, List.append_assoc] at hd
    obtain ⟨x1, x2, x3⟩ := hx x (List.mem_cons_self ..)
    have hd2 : l.drop (a + (itB x).length) = dumpL xs ++ rest := by rw [← List.drop_drop, hd, List.drop_left]
    obtain ⟨fr', ih⟩ := rdIts_back (fr := behindK x.1) h2 (fun y hy => ⟨(hx y (List.mem_cons_of_mem _ hy)).1, (hx y (List.mem_cons_of_mem _ hy)).2.1, behind_le.2 (h1 y hy)⟩) hd2
    refine ⟨fr', ?_⟩
    rw [List.length_cons, rdIts, rdIt_back x1 x2 x3 hd]
    simp only
    rw [ih, e, List.length_append]
    simp [Nat.add_assoc]
/-- One behind the other. -/
theorem rdIts_add {l : List UInt8} : ∀ {m n a : Nat} {fr : ByteArray}, rdIts l (m + n) a fr = match rdIts l m a fr with | none => none | some (xs, a', fr') => match rdIts l n a' fr' with | none => none | some (ys, r) => some (xs ++ ys, r)
  | 0, n, a, fr => by
    rw [Nat.zero_add]
    simp only [rdIts]
    cases rdIts l n a fr with
    | none => rfl
    | some p => rfl
  | m + 1, n, a, fr => by
    rw [show m + 1 + n = (m + n) + 1 by omega]
    simp only [rdIts]
    cases rdIt l a fr with
    | none => rfl
    | some p =>
      obtain ⟨x, a'⟩ := p
      simp only
      rw [rdIts_add (m := m)]
      cases rdIts l m a' (behindK x.1) with
      | none => rfl
      | some p =>
        obtain ⟨xs, a2, fr2⟩ := p
        simp only
        cases rdIts l n a2 fr2 with
        | none => rfl
        | some p => rfl
theorem rdIts_one {l : List UInt8} {a : Nat} {fr : ByteArray} : rdIts l 1 a fr = match rdIt l a fr with | none => none | some (x, a') => some ([x], a', behindK x.1) := by
  simp only [rdIts]
theorem rdTree_some {l : List UInt8} {F : List It} (h : rdTree l = some F) : dumpF F = l ∧ Srt F ∧ (∀ x ∈ F, x.1.size ≤ l.length ∧ x.2.size ≤ l.length) ∧ F.length ≤ l.length := by
  unfold rdTree at h
  cases h1 : rdNum l 0 with
  | none => rw [h1] at h; cases h
  | some p =>
    obtain ⟨n, a⟩ := p
    rw [h1] at h
    simp only at h
    obtain ⟨e1, e2, e3, e4⟩ := rdNum_some h1 (Nat.zero_le _)
    cases h2 : rdIts l n a ⟨#[]⟩ with
    | none => rw [h2] at h; cases h
    | some p =>
      obtain ⟨xs, a', fr'⟩ := p
      rw [h2] at h
      simp only at h
      split at h
      · cases h
      · rename_i hlt
        injection h with h
        subst h
        obtain ⟨r1, r2, r3, r4, r5, r6⟩ := rdIts_some h2 (by omega)
        refine ⟨?_, r4, fun x hx => (r5 x hx).2, by omega⟩
        unfold dumpF
        rw [r3]
        have : l.drop a' = [] := List.drop_eq_nil_of_le (by omega)
        rw [this, List.append_nil] at r1
        rw [← r1, ← e1, List.drop_zero]
theorem rdTree_back {F : List It} (hs : Srt F) (hF : F.length < 18446744073709551616) (hx : ∀ x ∈ F, x.1.size < 18446744073709551616 ∧ x.2.size < 18446744073709551616) : rdTree (dumpF F) = some F := by
  have hle : F.length ≤ (dumpL F).length := by
    clear hs hF hx
    induction F with
    | nil => exact Nat.zero_le _
    | cons x F ih =>
      have e : dumpL (x :: F) = itB x ++ dumpL F := by simp [dumpL]
      have : 1 ≤ (itB x).length := by unfold itB txtB; have := uvarint_pos x.1.size; simp only [List.length_append]; omega
      rw [e, List.length_append, List.length_cons]; omega
  have h1 : rdNum (dumpF F) 0 = some (F.length, 0 + (uvarint F.length).length) := rdNum_uv hF (by rw [List.drop_zero]; rfl) hle
  have h2 : (dumpF F).drop (0 + (uvarint F.length).length) = dumpL F ++ [] := by
    rw [Nat.zero_add, List.append_nil]; unfold dumpF; exact List.drop_left
  obtain ⟨fr', h3⟩ := rdIts_back (fr := ⟨#[]⟩) hs (fun x hx' => ⟨(hx x hx').1, (hx x hx').2, empty_le _⟩) h2
  unfold rdTree
  rw [h1]
  simp only
  rw [h3]
  simp only
  rw [if_neg]
  unfold dumpF
  rw [List.length_append]
  omega
end Go.Proofs.YtmahkhpmaenkhaaDoor
