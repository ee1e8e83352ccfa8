/- Numbers as keys; what trees of them have: without the program's calls, but number. -/
import Derived.Test.YtlmjmhpdpgeplaaGreatDoorTTr
import Derived.Test.YtlmjmhpdpgeplaaGreatDoorCodec
namespace Go.Proofs.YtlmjmhpdpgeplaaGreatDoor
open Go.RowKit Go.Lib

theorem mem_ins {F : List It} {x z : It} (hs : Srt F) : z ∈ insL x F ↔ z = x ∨ (z ∈ F ∧ kc z.1 x.1 ≠ 0) := by
  induction F with
  | nil => simp [insL]
  | cons y l ih =>
    obtain ⟨h1, h2⟩ := List.pairwise_cons.1 hs
    rw [insL]
    split
    · rename_i hy
      rw [List.mem_cons, ih h2, List.mem_cons]
      constructor
      · rintro (rfl | rfl | h)
        · exact .inr ⟨.inl rfl, by omega⟩
        · exact .inl rfl
        · exact .inr ⟨.inr h.1, h.2⟩
      · rintro (rfl | ⟨rfl | h, h'⟩)
        · exact .inr (.inl rfl)
        · exact .inl rfl
        · exact .inr (.inr ⟨h, h'⟩)
    · rename_i hy
      split
      · rename_i he
        have e := kc_eq he
        rw [List.mem_cons, List.mem_cons]
        constructor
        · rintro (rfl | h)
          · exact .inl rfl
          · refine .inr ⟨.inr h, ?_⟩
            have := h1 z h
            rw [e] at this
            have := kc_cmp.anti z.1 x.1
            omega
        · rintro (rfl | ⟨rfl | h, h'⟩)
          · exact .inl rfl
          · exact absurd he h'
          · exact .inr h
      · rename_i he
        rw [List.mem_cons]
        constructor
        · rintro (rfl | h)
          · exact .inl rfl
          · refine .inr ⟨h, ?_⟩
            rcases List.mem_cons.1 h with rfl | h
            · exact he
            · have h3 := h1 z h
              have h4 : kc x.1 y.1 < 0 := kc_flip.2 (by omega)
              have := kc_lt_trans h4 h3
              have := kc_cmp.anti z.1 x.1
              omega
        · rintro (rfl | ⟨h, h'⟩)
          · exact .inl rfl
          · exact .inr h
theorem mem_del {F : List It} {k : ByteArray} {z : It} (hs : Srt F) : z ∈ delL k F ↔ z ∈ F ∧ kc z.1 k ≠ 0 := by
  induction F with
  | nil => simp [delL]
  | cons y l ih =>
    obtain ⟨h1, h2⟩ := List.pairwise_cons.1 hs
    rw [delL]
    split
    · rename_i hy
      rw [List.mem_cons, ih h2, List.mem_cons]
      constructor
      · rintro (rfl | h)
        · exact ⟨.inl rfl, by omega⟩
        · exact ⟨.inr h.1, h.2⟩
      · rintro ⟨rfl | h, h'⟩
        · exact .inl rfl
        · exact .inr ⟨h, h'⟩
    · rename_i hy
      split
      · rename_i he
        have e := kc_eq he
        rw [List.mem_cons]
        constructor
        · intro h
          refine ⟨.inr h, ?_⟩
          have := h1 z h
          rw [e] at this
          have := kc_cmp.anti z.1 k
          omega
        · rintro ⟨rfl | h, h'⟩
          · exact absurd he h'
          · exact h
      · rename_i he
        constructor
        · intro h
          refine ⟨h, ?_⟩
          rcases List.mem_cons.1 h with rfl | h
          · exact he
          · have h3 := h1 z h
            have h4 : kc k y.1 < 0 := kc_flip.2 (by omega)
            have := kc_lt_trans h4 h3
            have := kc_cmp.anti z.1 k
            omega
        · exact fun h => h.1
theorem srt_ext : ∀ {F G : List It}, Srt F → Srt G → (∀ z, z ∈ F ↔ z ∈ G) → F = G
  | [], [], _, _, _ => rfl
  | [], y :: G, _, _, h => by have := (h y).2 (List.mem_cons_self ..); cases this
  | x :: F, [], _, _, h => by have := (h x).1 (List.mem_cons_self ..); cases this
  | x :: F, y :: G, hF, hG, h => by
    obtain ⟨f1, f2⟩ := List.pairwise_cons.1 hF
    obtain ⟨g1, g2⟩ := List.pairwise_cons.1 hG
    have exy : x = y := by
      rcases List.mem_cons.1 ((h x).1 (List.mem_cons_self ..)) with e | hx
      · exact e
      · rcases List.mem_cons.1 ((h y).2 (List.mem_cons_self ..)) with e | hy
        · exact e.symm
        · have h1 := g1 x hx
          have h2 := f1 y hy
          have := kc_cmp.anti x.1 y.1
          omega
    subst exy
    have : F = G := by
      refine srt_ext f2 g2 (fun z => ⟨fun hz => ?_, fun hz => ?_⟩)
      · rcases List.mem_cons.1 ((h z).1 (List.mem_cons_of_mem _ hz)) with rfl | h'
        · have := f1 z hz; rw [kc_self] at this; omega
        · exact h'
      · rcases List.mem_cons.1 ((h z).2 (List.mem_cons_of_mem _ hz)) with rfl | h'
        · have := g1 z hz; rw [kc_self] at this; omega
        · exact h'
    rw [this]
theorem ins_le (x : It) (F : List It) : (insL x F).length ≤ F.length + 1 := by
  induction F with
  | nil => simp [insL]
  | cons y l ih =>
    rw [insL]
    split
    · simp only [List.length_cons]; omega
    · split <;> simp
theorem del_le (k : ByteArray) (F : List It) : (delL k F).length ≤ F.length := (delL_sub F).length_le

/-- A number's two bytes; keys and values made of them. -/
def nb1 (j : Nat) : UInt8 := UInt8.ofNat (j / 256)
def nb0 (j : Nat) : UInt8 := UInt8.ofNat j
def kN (j : Nat) : ByteArray := ⟨#[nb1 j, nb0 j]⟩
def vN (j : Nat) : ByteArray := ⟨#[nb0 j]⟩
def kX (j : Nat) : ByteArray := ⟨#[nb1 j, nb0 j, 120]⟩
def itN (j : Nat) : It := (kN j, vN j)
theorem nb1_nat {j : Nat} (h : j < 65536) : (nb1 j).toNat = j / 256 := by unfold nb1; rw [UInt8.toNat_ofNat']; omega
theorem nb0_nat (j : Nat) : (nb0 j).toNat = j % 256 := by unfold nb0; rw [UInt8.toNat_ofNat']
theorem kN_inj {i j : Nat} (hi : i < 65536) (hj : j < 65536) (h : kN i = kN j) : i = j := by
  have h0 := congrArg (fun k : ByteArray => k.data.toList) h
  simp only [kN, List.cons.injEq, and_true] at h0
  have h1 := congrArg UInt8.toNat h0.1
  have h2 := congrArg UInt8.toNat h0.2
  rw [nb1_nat hi, nb1_nat hj] at h1
  rw [nb0_nat, nb0_nat] at h2
  omega
theorem kN_size (j : Nat) : (kN j).size = 2 := rfl
theorem kX_size (j : Nat) : (kX j).size = 3 := rfl
theorem kN_kX {i j : Nat} : kc (kN i) (kX j) ≠ 0 := fun h => by
  have := congrArg ByteArray.size (kc_eq h)
  rw [kN_size, kX_size] at this
  omega
theorem kX_kN {i j : Nat} : kc (kX i) (kN j) ≠ 0 := fun h => by
  have := congrArg ByteArray.size (kc_eq h)
  rw [kN_size, kX_size] at this
  omega
theorem itN_eq {i j : Nat} (hi : i < 65536) (hj : j < 65536) (h : kc (kN i) (kN j) = 0) : i = j := kN_inj hi hj (kc_eq h)
/-- A tree of just these numbers. -/
def InvA (ks : List Nat) (F : List It) : Prop := Srt F ∧ F.length ≤ ks.length ∧ ∀ z, z ∈ F ↔ ∃ j ∈ ks, z = itN j
/-- These numbers, and some with an x. -/
def InvB (ks xs : List Nat) (n : Nat) (F : List It) : Prop := Srt F ∧ F.length ≤ n ∧ (∀ j ∈ ks, itN j ∈ F) ∧ ∀ z ∈ F, (∃ j ∈ ks, z = itN j) ∨ ∃ j ∈ xs, z.1 = kX j
theorem InvA.nil : InvA [] [] := ⟨List.Pairwise.nil, Nat.le_refl _, fun z => by simp⟩
theorem InvA.ins {ks : List Nat} {F : List It} {j : Nat} (h : InvA ks F) (hk : ∀ i ∈ ks, i < 65536) (hj : j < 65536) : InvA (ks ++ [j]) (insL (itN j) F) := by
  obtain ⟨h1, h2, h3⟩ := h
  refine ⟨insL_srt h1, by have := ins_le (itN j) F; simp; omega, fun z => ?_⟩
  rw [mem_ins h1, h3]
  constructor
  · rintro (rfl | ⟨⟨i, hi, rfl⟩, _⟩)
    · exact ⟨j, by simp, rfl⟩
    · exact ⟨i, by simp [hi], rfl⟩
  · rintro ⟨i, hi, rfl⟩
    rcases List.mem_append.1 hi with hi | hi
    · by_cases e : i = j
      · exact .inl (by rw [e])
      · exact .inr ⟨⟨i, hi, rfl⟩, fun h => e (itN_eq (hk i hi) hj h)⟩
    · rw [List.mem_singleton.1 hi]; exact .inl rfl
theorem InvB.nil : InvB [] [] 0 [] := ⟨List.Pairwise.nil, Nat.le_refl _, (fun _ h => by cases h), (fun _ h => by cases h)⟩
theorem InvB.insX {ks xs : List Nat} {n : Nat} {F : List It} {v : ByteArray} (j : Nat) (h : InvB ks xs n F) : InvB ks (xs ++ [j]) (n + 1) (insL (kX j, v) F) := by
  obtain ⟨h1, h2, h3, h4⟩ := h
  refine ⟨insL_srt h1, by have := ins_le (kX j, v) F; omega, fun i hi => (mem_ins h1).2 (.inr ⟨h3 i hi, kN_kX⟩), fun z hz => ?_⟩
  rcases (mem_ins h1).1 hz with rfl | ⟨hz, _⟩
  · exact .inr ⟨j, by simp, rfl⟩
  · exact (h4 z hz).imp id (fun ⟨i, hi, e⟩ => ⟨i, by simp [hi], e⟩)
theorem InvB.more {ks xs xs' : List Nat} {n n' : Nat} {F : List It} (h : InvB ks xs n F) (hx : ∀ i ∈ xs, i ∈ xs') (hn : n ≤ n') : InvB ks xs' n' F := ⟨h.1, Nat.le_trans h.2.1 hn, h.2.2.1, fun z hz => (h.2.2.2 z hz).imp id (fun ⟨i, hi, e⟩ => ⟨i, hx i hi, e⟩)⟩
/-- Put twice: what stands last counts. -/
theorem InvB.ins2 {ks xs : List Nat} {n : Nat} {F : List It} {v : ByteArray} {j : Nat} (h : InvB ks xs n F) (hk : ∀ i ∈ ks, i < 65536) (hj : j < 65536) : InvB (ks ++ [j]) xs (n + 2) (insL (itN j) (insL (kN j, v) F)) := by
  obtain ⟨h1, h2, h3, h4⟩ := h
  have s1 := insL_srt (x := (kN j, v)) h1
  refine ⟨insL_srt s1, by have := ins_le (kN j, v) F; have := ins_le (itN j) (insL (kN j, v) F); omega, fun i hi => ?_, fun z hz => ?_⟩
  · rw [mem_ins s1]
    rcases List.mem_append.1 hi with hi | hi
    · by_cases e : i = j
      · exact .inl (by rw [e])
      · have hne : kc (itN i).1 (kN j) ≠ 0 := fun h => e (itN_eq (hk i hi) hj h)
        exact .inr ⟨(mem_ins h1).2 (.inr ⟨h3 i hi, hne⟩), hne⟩
    · rw [List.mem_singleton.1 hi]; exact .inl rfl
  · rcases (mem_ins s1).1 hz with rfl | ⟨hz, hne⟩
    · exact .inl ⟨j, by simp, rfl⟩
    · rcases (mem_ins h1).1 hz with rfl | ⟨hz, _⟩
      · exact absurd (kc_self _) hne
      · exact (h4 z hz).imp (fun ⟨i, hi, e⟩ => ⟨i, by simp [hi], e⟩) id
theorem InvB.delX {ks xs : List Nat} {n j : Nat} {F : List It} (h : InvB ks (j :: xs) n F) : InvB ks xs n (delL (kX j) F) := by
  obtain ⟨h1, h2, h3, h4⟩ := h
  refine ⟨delL_srt h1, Nat.le_trans (del_le _ _) h2, fun i hi => (mem_del h1).2 ⟨h3 i hi, kN_kX⟩, fun z hz => ?_⟩
  obtain ⟨hz, hne⟩ := (mem_del h1).1 hz
  rcases h4 z hz with h | ⟨i, hi, e⟩
  · exact .inl h
  · rcases List.mem_cons.1 hi with rfl | hi
    · rw [e] at hne; exact absurd (kc_self _) hne
    · exact .inr ⟨i, hi, e⟩
theorem InvB.same {ks ks' : List Nat} {n : Nat} {F G : List It} (h : InvB ks [] n F) (h' : InvA ks' G) (hk : ∀ i, i ∈ ks ↔ i ∈ ks') : F = G := by
  obtain ⟨h1, h2, h3, h4⟩ := h
  refine srt_ext h1 h'.1 (fun z => ?_)
  rw [h'.2.2]
  constructor
  · intro hz
    rcases h4 z hz with ⟨i, hi, e⟩ | ⟨i, hi, _⟩
    · exact ⟨i, (hk i).1 hi, e⟩
    · cases hi
  · rintro ⟨i, hi, rfl⟩
    exact h3 i ((hk i).2 hi)
theorem InvA.sml {ks : List Nat} {F : List It} (h : InvA ks F) : Sml F := fun y hy => by
  obtain ⟨j, _, rfl⟩ := (h.2.2 y).1 hy
  exact ⟨by show (kN j).size ≤ _; rw [kN_size]; omega, by show (vN j).size ≤ _; show 1 ≤ _; omega⟩
theorem itB_le {y : It} {m : Nat} (h1 : y.1.size ≤ m) (h2 : y.2.size ≤ m) (hm : m ≤ 1000000) : (itB y).length ≤ 2 * m + 20 := by
  unfold itB txtB
  have u1 := (uv_len y.1.size (by omega)).2
  have u2 := (uv_len y.2.size (by omega)).2
  have e1 : y.1.data.toList.length = y.1.size := by rw [Array.length_toList]; rfl
  have e2 : y.2.data.toList.length = y.2.size := by rw [Array.length_toList]; rfl
  simp only [List.length_append]
  omega
theorem dumpL_le {m : Nat} (hm : m ≤ 1000000) : ∀ {F : List It}, (∀ y ∈ F, y.1.size ≤ m ∧ y.2.size ≤ m) → (dumpL F).length ≤ F.length * (2 * m + 20)
  | [], _ => by simp [dumpL]
  | y :: F, h => by
    have ih := dumpL_le hm (F := F) (fun z hz => h z (List.mem_cons_of_mem _ hz))
    have h1 := itB_le (h y (List.mem_cons_self ..)).1 (h y (List.mem_cons_self ..)).2 hm
    have e : dumpL (y :: F) = itB y ++ dumpL F := by simp [dumpL]
    rw [e, List.length_append, List.length_cons, Nat.add_mul]
    omega
theorem InvA.dump {ks : List Nat} {F : List It} (h : InvA ks F) (hk : ks.length ≤ 1000) : (dumpL F).length ≤ 900000000 := by
  have h1 := dumpL_le (m := 2) (by omega) (F := F) (fun y hy => by
    obtain ⟨j, _, rfl⟩ := (h.2.2 y).1 hy
    exact ⟨Nat.le_of_eq (kN_size j), by show 1 ≤ 2; omega⟩)
  have h2 := h.2.1
  omega
end Go.Proofs.YtlmjmhpdpgeplaaGreatDoor
/- Reading a tree's bytes, on lists of bytes: without the program. -/
namespace Go.Proofs.YtlmjmhpdpgeplaaGreatDoor
open Go.RowKit Go.Lib

/-- How many there are of something: a number, and where what follows begins. -/
def rdNum (l : List UInt8) (a : Nat) : Option (Nat × Nat) :=
  if (decU (l.drop a)).2.2.1 = 0 ∧ (decU (l.drop a)).1 ≤ l.length - a - (decU (l.drop a)).2.1 then some ((decU (l.drop a)).1, a + (decU (l.drop a)).2.1) else none
def rdTx (l : List UInt8) (a : Nat) : Option (ByteArray × Nat) :=
  match rdNum l a with
  | none => none
  | some (n, a') => some (⟨((l.drop a').take n).toArray⟩, a' + n)
def rdIt (l : List UInt8) (a : Nat) (fr : ByteArray) : Option (It × Nat) :=
  match rdTx l a with
  | none => none
  | some (k, a1) => if kc k fr < 0 then none else
    match rdTx l a1 with
    | none => none
    | some (v, a2) => some ((k, v), a2)
def rdIts (l : List UInt8) : Nat → Nat → ByteArray → Option (List It × Nat × ByteArray)
  | 0, a, fr => some ([], a, fr)
  | n + 1, a, fr =>
    match rdIt l a fr with
    | none => none
    | some (x, a') =>
      match rdIts l n a' (behindK x.1) with
      | none => none
      | some (xs, r) => some (x :: xs, r)
def rdTree (l : List UInt8) : Option (List It) :=
  match rdNum l 0 with
  | none => none
  | some (n, a) =>
    match rdIts l n a ⟨#[]⟩ with
    | none => none
    | some (xs, a', _) => if a' < l.length then none else some xs
theorem rdNum_some {l : List UInt8} {a n a' : Nat} (h : rdNum l a = some (n, a')) (ha : a ≤ l.length) : l.drop a = uvarint n ++ l.drop a' ∧ a' = a + (uvarint n).length ∧ a' + n ≤ l.length ∧ n < 18446744073709551616 := by
  unfold rdNum at h
  split at h
  · rename_i hc
    obtain ⟨D, hD⟩ : ∃ D, D = decU (l.drop a) := ⟨_, rfl⟩
    rw [← hD] at h hc
    obtain ⟨m, k, c, q⟩ := D
    have hd := hD.symm
    simp only at h hc
    obtain ⟨h0, hle⟩ := hc
    subst h0
    injection h with h
    injection h with h1 h2
    subst h1 h2
    obtain ⟨c1, c2, c3, c4⟩ := decU_canon hd
    rw [List.drop_drop] at c3
    rw [List.length_drop] at c4
    exact ⟨c3, by omega, by omega, c1⟩
  · cases h
theorem rdNum_uv {l rest : List UInt8} {a n : Nat} (hn : n < 18446744073709551616) (hd : l.drop a = uvarint n ++ rest) (hr : n ≤ rest.length) : rdNum l a = some (n, a + (uvarint n).length) := by
  unfold rdNum
  have e : decU (l.drop a) = (n, (uvarint n).length, 0, 0) := by rw [hd]; exact decU_uv n hn rest
  have hl := congrArg List.length hd
  rw [List.length_drop, List.length_append] at hl
  rw [e]
  exact if_pos ⟨rfl, by show n ≤ l.length - a - (uvarint n).length; omega⟩
theorem rdTx_some {l : List UInt8} {a a' : Nat} {k : ByteArray} (h : rdTx l a = some (k, a')) (ha : a ≤ l.length) : l.drop a = txtB k ++ l.drop a' ∧ a < a' ∧ a' ≤ l.length ∧ k.size ≤ l.length := by
  unfold rdTx at h
  cases hn : rdNum l a with
  | none => rw [hn] at h; cases h
  | some p =>
    obtain ⟨n, a1⟩ := p
    rw [hn] at h
    injection h with h
    injection h with h1 h2
    obtain ⟨e1, e2, e3, e4⟩ := rdNum_some hn ha
    have hsz : k.size = n := by
      rw [← h1]
      show ((l.drop a1).take n).toArray.size = n
      rw [List.size_toArray, List.length_take, List.length_drop]; omega
    have hd : k.data.toList = (l.drop a1).take n := by rw [← h1]
    have hu := uvarint_pos n
    refine ⟨?_, by omega, by omega, by omega⟩
    unfold txtB
    rw [hsz, hd, e1, List.append_assoc, ← h2, ← List.drop_drop, List.take_append_drop]
theorem rdTx_back {l rest : List UInt8} {a : Nat} {k : ByteArray} (hk : k.size < 18446744073709551616) (hd : l.drop a = txtB k ++ rest) : rdTx l a = some (k, a + (txtB k).length) := by
  have hkd : k.data.toList.length = k.size := by rw [Array.length_toList]; rfl
  have h1 : rdNum l a = some (k.size, a + (uvarint k.size).length) := rdNum_uv (rest := k.data.toList ++ rest) hk (by rw [hd]; unfold txtB; rw [List.append_assoc]) (by rw [List.length_append, hkd]; omega)
  unfold rdTx
  rw [h1]
  have h2 : l.drop (a + (uvarint k.size).length) = k.data.toList ++ rest := by
    rw [← List.drop_drop, hd]; unfold txtB
    rw [List.append_assoc, List.drop_left]
  simp only
  rw [h2, ← hkd, List.take_left]
  unfold txtB
  rw [List.length_append, hkd]
  simp [Nat.add_assoc]
theorem rdIt_some {l : List UInt8} {a a' : Nat} {fr : ByteArray} {x : It} (h : rdIt l a fr = some (x, a')) (ha : a ≤ l.length) : l.drop a = itB x ++ l.drop a' ∧ a < a' ∧ a' ≤ l.length ∧ 0 ≤ kc x.1 fr ∧ x.1.size ≤ l.length ∧ x.2.size ≤ l.length := by
  unfold rdIt at h
  cases h1 : rdTx l a with
  | none => rw [h1] at h; cases h
  | some p =>
    obtain ⟨k, a1⟩ := p
    rw [h1] at h
    simp only at h
    split at h
    · cases h
    · rename_i hk
      cases h2 : rdTx l a1 with
      | none => rw [h2] at h; cases h
      | some p =>
        obtain ⟨v, a2⟩ := p
        rw [h2] at h
        injection h with h
        injection h with e1 e2
        subst e1 e2
        obtain ⟨q1, q2, q3, q4⟩ := rdTx_some h1 ha
        obtain ⟨r1, r2, r3, r4⟩ := rdTx_some h2 q3
        refine ⟨?_, by omega, r3, by show 0 ≤ kc k fr; omega, q4, r4⟩
        unfold itB
        rw [q1, r1, List.append_assoc]
theorem rdIt_back {l rest : List UInt8} {a : Nat} {fr : ByteArray} {x : It} (h1 : x.1.size < 18446744073709551616) (h2 : x.2.size < 18446744073709551616) (hk : 0 ≤ kc x.1 fr) (hd : l.drop a = itB x ++ rest) : rdIt l a fr = some (x, a + (itB x).length) := by
  unfold itB at hd
  rw [List.append_assoc] at hd
  unfold rdIt
  rw [rdTx_back h1 hd]
  simp only
  rw [if_neg (by omega)]
  have hd2 : l.drop (a + (txtB x.1).length) = txtB x.2 ++ rest := by rw [← List.drop_drop, hd, List.drop_left]
  rw [rdTx_back h2 hd2]
  unfold itB
  rw [List.length_append]
  simp [Nat.add_assoc]
/-- Nothing stands between a key and the least one behind it. -/
theorem behind_le {k z : ByteArray} : 0 ≤ kc z (behindK k) ↔ kc k z < 0 := by
  have key : ∀ x y : List UInt8, 0 ≤ compareBytes y (x ++ [0]) ↔ compareBytes x y < 0 := by
    intro x
    induction x with
    | nil =>
      intro y
      cases y with
      | nil => simp [compareBytes]
      | cons b y =>
        rw [List.nil_append, cb_cons]
        have hb := compareInt_cmp.range (b.toNat : Int) ((0 : UInt8).toNat : Int)
        have : compareBytes y [] = 0 ∨ compareBytes y [] = 1 := by cases y <;> simp [compareBytes]
        have h0 : compareBytes [] (b :: y) = -1 := rfl
        rw [h0]
        have hb2 : 0 ≤ compareInt (b.toNat : Int) ((0 : UInt8).toNat : Int) := by
          unfold compareInt
          repeat' split
          all_goals first | omega | (rename_i h; have : ((0 : UInt8).toNat : Int) = 0 := rfl; omega)
        unfold first0
        constructor
        · intro _; omega
        · intro _; split <;> omega
    | cons a x ih =>
      intro y
      cases y with
      | nil =>
        have h1 : compareBytes [] (a :: (x ++ [0])) = -1 := rfl
        have h2 : compareBytes (a :: x) [] = 1 := rfl
        rw [List.cons_append, h1, h2]; omega
      | cons b y =>
        rw [List.cons_append, cb_cons, cb_cons]
        have ih := ih y
        have ha := compareInt_cmp.anti (a.toNat : Int) (b.toNat : Int)
        unfold first0
        split <;> split <;> omega
  have e : (behindK k).data.toList = k.data.toList ++ [0] := by
    unfold behindK
    simp
  unfold kc
  rw [e]
  exact key _ _
theorem empty_le (z : ByteArray) : 0 ≤ kc z ⟨#[]⟩ := by
  unfold kc
  cases z.data.toList <;> simp [compareBytes]
theorem rdIts_some {l : List UInt8} : ∀ {n a a' : Nat} {fr fr' : ByteArray} {xs : List It}, rdIts l n a fr = some (xs, a', fr') → a ≤ l.length → l.drop a = dumpL xs ++ l.drop a' ∧ a' ≤ l.length ∧ xs.length = n ∧ Srt xs ∧ (∀ x ∈ xs, 0 ≤ kc x.1 fr ∧ x.1.size ≤ l.length ∧ x.2.size ≤ l.length) ∧ a + n ≤ a'
  | 0, a, a', fr, fr', xs, h, ha => by
    unfold rdIts at h
    injection h with h
    injection h with h1 h2
    injection h2 with h2 h3
    subst h1 h2 h3
    exact ⟨by simp [dumpL], ha, rfl, List.Pairwise.nil, (fun _ h => by cases h), by omega⟩
  | n + 1, a, a', fr, fr', xs, h, ha => by
    unfold rdIts at h
    cases h1 : rdIt l a fr with
    | none => rw [h1] at h; cases h
    | some p =>
      obtain ⟨x, a1⟩ := p
      rw [h1] at h
      simp only at h
      cases h2 : rdIts l n a1 (behindK x.1) with
      | none => rw [h2] at h; cases h
      | some p =>
        obtain ⟨ys, a2, fr2⟩ := p
        rw [h2] at h
        injection h with h
        injection h with e1 e2
        injection e2 with e2 e3
        subst e1 e2 e3
        obtain ⟨q1, q2, q3, q4, q5, q6⟩ := rdIt_some h1 ha
        obtain ⟨r1, r2, r3, r4, r5, r6⟩ := rdIts_some h2 q3
        refine ⟨?_, r2, by rw [List.length_cons, r3], List.pairwise_cons.2 ⟨fun y hy => behind_le.1 (r5 y hy).1, r4⟩, fun y hy => ?_, by omega⟩
        · rw [q1, r1]; simp [dumpL]
        · rcases List.mem_cons.1 hy with rfl | hy
          · exact ⟨q4, q5, q6⟩
          · have h3 := behind_le.1 (r5 y hy).1
            refine ⟨?_, (r5 y hy).2⟩
            rcases Int.lt_or_le (kc y.1 fr) 0 with h4 | h4
            · have h5 := kc_lt_trans h3 h4
              omega
            · exact h4
theorem rdIts_back {l rest : List UInt8} : ∀ {xs : List It} {a : Nat} {fr : ByteArray}, Srt xs → (∀ x ∈ xs, x.1.size < 18446744073709551616 ∧ x.2.size < 18446744073709551616 ∧ 0 ≤ kc x.1 fr) → l.drop a = dumpL xs ++ rest → ∃ fr', rdIts l xs.length a fr = some (xs, a + (dumpL xs).length, fr')
  | [], a, fr, _, _, _ => ⟨fr, by simp [rdIts, dumpL]⟩
  | x :: xs, a, fr, hs, hx, hd => by
    obtain ⟨h1, h2⟩ := List.pairwise_cons.1 hs
    have e : dumpL (x :: xs) = itB x ++ dumpL xs := by simp [dumpL]
    rw [e, List.append_assoc] at hd
    obtain ⟨x1, x2, x3⟩ := hx x (List.mem_cons_self ..)
    have hd2 : l.drop (a + (itB x).length) = dumpL xs ++ rest := by rw [← List.drop_drop, hd, List.drop_left]
    obtain ⟨fr', ih⟩ := rdIts_back (fr := behindK x.1) h2 (fun y hy => ⟨(hx y (List.mem_cons_of_mem _ hy)).1, (hx y (List.mem_cons_of_mem _ hy)).2.1, behind_le.2 (h1 y hy)⟩) hd2
    refine ⟨fr', ?_⟩
    rw [List.length_cons, rdIts, rdIt_back x1 x2 x3 hd]
    simp only
    rw [ih, e, List.length_append]
    simp [Nat.add_assoc]
/-- One behind the other. -/
theorem rdIts_add {l : List UInt8} : ∀ {m n a : Nat} {fr : ByteArray}, rdIts l (m + n) a fr = match rdIts l m a fr with | none => none | some (xs, a', fr') => match rdIts l n a' fr' with | none => none | some (ys, r) => some (xs ++ ys, r)
  | 0, n, a, fr => by
    rw [Nat.zero_add]
    simp only [rdIts]
    cases rdIts l n a fr with
    | none => rfl
    | some p => rfl
  | m + 1, n, a, fr => by
    rw [show m + 1 + n = (m + n) + 1 by omega]
    simp only [rdIts]
    cases rdIt l a fr with
    | none => rfl
    | some p =>
      obtain ⟨x, a'⟩ := p
      simp only
      rw [rdIts_add (m := m)]
      cases rdIts l m a' (behindK x.1) with
      | none => rfl
      | some p =>
        obtain ⟨xs, a2, fr2⟩ := p
        simp only
        cases rdIts l n a2 fr2 with
        | none => rfl
        | some p => rfl
theorem rdIts_one {l : List UInt8} {a : Nat} {fr : ByteArray} : rdIts l 1 a fr = match rdIt l a fr with | none => none | some (x, a') => some ([x], a', behindK x.1) := by
  simp only [rdIts]
theorem rdTree_some {l : List UInt8} {F : List It} (h : rdTree l = some F) : dumpF F = l ∧ Srt F ∧ (∀ x ∈ F, x.1.size ≤ l.length ∧ x.2.size ≤ l.length) ∧ F.length ≤ l.length := by
  unfold rdTree at h
  cases h1 : rdNum l 0 with
  | none => rw [h1] at h; cases h
  | some p =>
    obtain ⟨n, a⟩ := p
    rw [h1] at h
    simp only at h
    obtain ⟨e1, e2, e3, e4⟩ := rdNum_some h1 (Nat.zero_le _)
    cases h2 : rdIts l n a ⟨#[]⟩ with
    | none => rw [h2] at h; cases h
    | some p =>
      obtain ⟨xs, a', fr'⟩ := p
      rw [h2] at h
      simp only at h
      split at h
      · cases h
      · rename_i hlt
        injection h with h
        subst h
        obtain ⟨r1, r2, r3, r4, r5, r6⟩ := rdIts_some h2 (by omega)
        refine ⟨?_, r4, fun x hx => (r5 x hx).2, by omega⟩
        unfold dumpF
        rw [r3]
        have : l.drop a' = [] := List.drop_eq_nil_of_le (by omega)
        rw [this, List.append_nil] at r1
        rw [← r1, ← e1, List.drop_zero]
theorem rdTree_back {F : List It} (hs : Srt F) (hF : F.length < 18446744073709551616) (hx : ∀ x ∈ F, x.1.size < 18446744073709551616 ∧ x.2.size < 18446744073709551616) : rdTree (dumpF F) = some F := by
  have hle : F.length ≤ (dumpL F).length := by
    clear hs hF hx
    induction F with
    | nil => exact Nat.zero_le _
    | cons x F ih =>
      have e : dumpL (x :: F) = itB x ++ dumpL F := by simp [dumpL]
      have : 1 ≤ (itB x).length := by unfold itB txtB; have := uvarint_pos x.1.size; simp only [List.length_append]; omega
      rw [e, List.length_append, List.length_cons]; omega
  have h1 : rdNum (dumpF F) 0 = some (F.length, 0 + (uvarint F.length).length) := rdNum_uv hF (by rw [List.drop_zero]; rfl) hle
  have h2 : (dumpF F).drop (0 + (uvarint F.length).length) = dumpL F ++ [] := by
    rw [Nat.zero_add, List.append_nil]; unfold dumpF; exact List.drop_left
  obtain ⟨fr', h3⟩ := rdIts_back (fr := ⟨#[]⟩) hs (fun x hx' => ⟨(hx x hx').1, (hx x hx').2, empty_le _⟩) h2
  unfold rdTree
  rw [h1]
  simp only
  rw [h3]
  simp only
  rw [if_neg]
  unfold dumpF
  rw [List.length_append]
  omega
end Go.Proofs.YtlmjmhpdpgeplaaGreatDoor
