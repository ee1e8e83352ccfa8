/- Numbers as keys; what trees of them have: without the program's calls, but number. -/
import Derived.Test.YtmahkhpmaenkhaaDoorTTr
namespace Go.Proofs.YtmahkhpmaenkhaaDoor
open Go.RowKit Go.Lib

theorem mem_ins {F : List It} {x z : It} (hs : Srt F) : z ∈ insL x F ↔ z = x ∨ (z ∈ F ∧ kc z.1 x.1 ≠ 0) := by
  induction F with
  | nil => simp [insL]
  | cons y l ih =>
    obtain ⟨h1, h2⟩ := List.pairwise_cons.1 hs
    rw [insL]
    split
    · rename_i hy
      rw [List.mem_cons, ih h2, List.mem_cons]
      constructor
      · rintro (rfl | rfl | h)
        · exact .inr ⟨.inl rfl, by omega⟩
        · exact .inl rfl
        · exact .inr ⟨.inr h.1, h.2⟩
      · rintro (rfl | ⟨rfl | h, h'⟩)
        · exact .inr (.inl rfl)
        · exact .inl rfl
        · exact .inr (.inr ⟨h, h'⟩)
    · rename_i hy
      split
      · rename_i he
        have e := kc_eq he
        rw [List.mem_cons, List.mem_cons]
        constructor
        · rintro (rfl | h)
          · exact .inl rfl
          · refine .inr ⟨.inr h, ?_⟩
            have := h1 z h
            rw [e] at this
            have := kc_cmp.anti z.1 x.1
            omega
        · rintro (rfl | ⟨rfl | h, h'⟩)
          · exact .inl rfl
          · exact absurd he h'
          · exact .inr h
      · rename_i he
        rw [List.mem_cons]
        constructor
        · rintro (rfl | h)
          · exact .inl rfl
          · refine .inr ⟨h, ?_⟩
            rcases List.mem_cons.1 h with rfl | h
            · exact he
            · have h3 := h1 z h
              have h4 : kc x.1 y.1 < 0 := kc_flip.2 (by omega)
              have := kc_lt_trans h4 h3
              have := kc_cmp.anti z.1 x.1
              omega
        · rintro (rfl | ⟨h, h'⟩)
          · exact .inl rfl
          · exact .inr h
theorem mem_del {F : List It} {k : ByteArray} {z : It} (hs : Srt F) : z ∈ delL k F ↔ z ∈ F ∧ kc z.1 k ≠ 0 := by
  induction F with
  | nil => simp [delL]
  | cons y l ih =>
    obtain ⟨h1, h2⟩ := List.pairwise_cons.1 hs
    rw [delL]
    split
    · rename_i hy
      rw [List.mem_cons, ih h2, List.mem_cons]
      constructor
      · rintro (rfl | h)
        · exact ⟨.inl rfl, by omega⟩
        · exact ⟨.inr h.1, h.2⟩
      · rintro ⟨rfl | h, h'⟩
        · exact .inl rfl
        · exact .inr ⟨h, h'⟩
    · rename_i hy
      split
      · rename_i he
        have e := kc_eq he
        rw [List.mem_cons]
        constructor
        · intro h
          refine ⟨.inr h, ?_⟩
          have := h1 z h
          rw [e] at this
          have := kc_cmp.anti z.1 k
          omega
        · rintro ⟨rfl | h, h'⟩
          · exact absurd he h'
          · exact h
      · rename_i he
        constructor
        · intro h
          refine ⟨h, ?_⟩
          rcases List.mem_cons.1 h with rfl | h
          · exact he
          · have h3 := h1 z h
            have h4 : kc k y.1 < 0 := kc_flip.2 (by omega)
            have := kc_lt_trans h4 h3
            have := kc_cmp.anti z.1 k
            omega
        · exact fun h => h.1
theorem srt_ext : ∀ {F G : List It}, Srt F → Srt G → (∀ z, z ∈ F ↔ z ∈ G) → F = G
  | [], [], _, _, _ => rfl
  | [], y :: G, _, _, h => by have := (h y).2 (List.mem_cons_self ..); cases this
  | x :: F, [], _, _, h => by have := (h x).1 (List.mem_cons_self ..); cases this
  | x :: F, y :: G, hF, hG, h => by
    obtain ⟨f1, f2⟩ := List.pairwise_cons.1 hF
    obtain ⟨g1, g2⟩ := List.pairwise_cons.1 hG
    have exy : x = y := by
      rcases List.mem_cons.1 ((h x).1 (List.mem_cons_self ..)) with e | hx
      · exact e
      · rcases List.mem_cons.1 ((h y).2 (List.mem_cons_self ..)) with e | hy
        · exact e.symm
        · have h1 := g1 x hx
          have h2 := f1 y hy
          have := kc_cmp.anti x.1 y.1
          omega
    subst exy
    have : F = G := by
      refine srt_ext f2 g2 (fun z => ⟨fun hz => ?_, fun hz => ?_⟩)
      · rcases List.mem_cons.1 ((h z).1 (List.mem_cons_of_mem _ hz)) with rfl | h'
        · have := f1 z hz; rw [kc_self] at this; omega
        · exact h'
      · rcases List.mem_cons.1 ((h z).2 (List.mem_cons_of_mem _ hz)) with rfl | h'
        · have := g1 z hz; rw [kc_self] at this; omega
        · exact h'
    rw [this]
theorem ins_le (x : It) (F : List It) : (insL x F).length ≤ F.length + 1 := by
  induction F with
  | nil => simp [insL]
  | cons y l ih =>
    rw [insL]
    split
    · simp only [List.length_cons]; omega
    · split <;> simp
theorem del_le (k : ByteArray) (F : List It) : (delL k F).length ≤ F.length := (delL_sub F).length_le

/-- A number's two bytes; keys and values made of them. -/
def nb1 (j : Nat) : UInt8 := UInt8.ofNat (j / 256)
def nb0 (j : Nat) : UInt8 := UInt8.ofNat j
def kN (j : Nat) : ByteArray := ⟨#[nb1 j, nb0 j]⟩
def vN (j : Nat) : ByteArray := ⟨#[nb0 j]⟩
def kX (j : Nat) : ByteArray := ⟨#[nb1 j, nb0 j, 120]⟩
def itN (j : Nat) : It := (kN j, vN j)
theorem nb1_nat {j : Nat} (h : j < 65536) : (nb1 j).toNat = j / 256 := by unfold nb1; rw [UInt8.toNat_ofNat']; omega
theorem nb0_nat (j : Nat) : (nb0 j).toNat = j % 256 := by unfold nb0; rw [UInt8.toNat_ofNat']
theorem kN_inj {i j : Nat} (hi : i < 65536) (hj : j < 65536) (h : kN i = kN j) : i = j := by
  have h0 := congrArg (fun k : ByteArray => k.data.toList) h
  simp only [kN, List.cons.injEq, and_true] at h0
  have h1 := congrArg UInt8.toNat h0.1
  have h2 := congrArg UInt8.toNat h0.2
  rw [nb1_nat hi, nb1_nat hj] at h1
  rw [nb0_nat, nb0_nat] at h2
  omega
theorem kN_size (j : Nat) : (kN j).size = 2 := rfl
theorem kX_size (j : Nat) : (kX j).size = 3 := rfl
theorem kN_kX {i j : Nat} : kc (kN i) (kX j) ≠ 0 := fun h => by
  have := congrArg ByteArray.size (kc_eq h)
  rw [kN_size, kX_size] at this
  omega
theorem kX_kN {i j : Nat} : kc (kX i) (kN j) ≠ 0 := fun h => by
  have := congrArg ByteArray.size (kc_eq h)
  rw [kN_size, kX_size] at this
  omega
theorem itN_eq {i j : Nat} (hi : i < 65536) (hj : j < 65536) (h : kc (kN i) (kN j) = 0) : i = j := kN_inj hi hj (kc_eq h)
/-- A tree of just these numbers. -/
def InvA (ks : List Nat) (F : List It) : Prop := Srt F ∧ F.length ≤ ks.length ∧ ∀ z, z ∈ F ↔ ∃ j ∈ ks, z = itN j
/-- These numbers, and some with an x. -/
def InvB (ks xs : List Nat) (n : Nat) (F : List It) : Prop := Srt F ∧ F.length ≤ n ∧ (∀ j ∈ ks, itN j ∈ F) ∧ ∀ z ∈ F, (∃ j ∈ ks, z = itN j) ∨ ∃ j ∈ xs, z.1 = kX j
theorem InvA.nil : InvA [] [] := ⟨List.Pairwise.nil, Nat.le_refl _, fun z => by simp⟩
theorem InvA.ins {ks : List Nat} {F : List It} {j : Nat} (h : InvA ks F) (hk : ∀ i ∈ ks, i < 65536) (hj : j < 65536) : InvA (ks ++ [j]) (insL (itN j) F) := by
  obtain ⟨h1, h2, h3⟩ := h
  refine ⟨insL_srt h1, by have := ins_le (itN j) F; simp; omega, fun z => ?_⟩
  rw [mem_ins h1, h3]
  constructor
  · rintro (rfl | ⟨⟨i, hi, rfl⟩, _⟩)
    · exact ⟨j, by simp, rfl⟩
    · exact ⟨i, by simp [hi], rfl⟩
  · rintro ⟨i, hi, rfl⟩
    rcases List.mem_append.1 hi with hi | hi
    · by_cases e : i = j
      · exact .inl (by rw [e])
      · exact .inr ⟨⟨i, hi, rfl⟩, fun h => e (itN_eq (hk i hi) hj h)⟩
    · rw [List.mem_singleton.1 hi]; exact .inl rfl
theorem InvB.nil : InvB [] [] 0 [] := ⟨List.Pairwise.nil, Nat.le_refl _, (fun _ h => by cases h), (fun _ h => by cases h)⟩
theorem InvB.insX {ks xs : List Nat} {n : Nat} {F : List It} {v : ByteArray} (j : Nat) (h : InvB ks xs n F) : InvB ks (xs ++ [j]) (n + 1) (insL (kX j, v) F) := by
  obtain ⟨h1, h2, h3, h4⟩ := h
  refine ⟨insL_srt h1, by have := ins_le (kX j, v) F; omega, fun i hi => (mem_ins h1).2 (.inr ⟨h3 i hi, kN_kX⟩), fun z hz => ?_⟩
  rcases (mem_ins h1).1 hz with rfl | ⟨hz, _⟩
  · exact .inr ⟨j, by simp, rfl⟩
  · exact (h4 z hz).imp id (fun ⟨i, hi, e⟩ => ⟨i, by simp [hi], e⟩)
theorem InvB.more {ks xs xs' : List Nat} {n n' : Nat} {F : List It} (h : InvB ks xs n F) (hx : ∀ i ∈ xs, i ∈ xs') (hn : n ≤ n') : InvB ks xs' n' F := ⟨h.1, Nat.le_trans h.2.1 hn, h.2.2.1, fun z hz => (h.2.2.2 z hz).imp id (fun ⟨i, hi, e⟩ => ⟨i, hx i hi, e⟩)⟩
/-- Put twice: what stands last counts. -/
theorem InvB.ins2 {ks xs : List Nat} {n : Nat} {F : List It} {v : ByteArray} {j : Nat} (h : InvB ks xs n F) (hk : ∀ i ∈ ks, i < 65536) (hj : j < 65536) : InvB (ks ++ [j]) xs (n + 2) (insL (itN j) (insL (kN j, v) F)) := by
  obtain ⟨h1, h2, h3, h4⟩ := h
  have s1 := insL_srt (x := (kN j, v)) h1
  refine ⟨insL_srt s1, by have := ins_le (kN j, v) F; have := ins_le (itN j) (insL (kN j, v) F); omega, fun i hi => ?_, fun z hz => ?_⟩
  · rw [mem_ins s1]
    rcases List.mem_append.1 hi with hi | hi
    · by_cases e : i = j
      · exact .inl (by rw [e])
      · have hne : kc (itN i).1 (kN j) ≠ 0 := fun h => e (itN_eq (hk i hi) hj h)
        exact .inr ⟨(mem_ins h1).2 (.inr ⟨h3 i hi, hne⟩), hne⟩
    · rw [List.mem_singleton.1 hi]; exact .inl rfl
  · rcases (mem_ins s1).1 hz with rfl | ⟨hz, hne⟩
    · exact .inl ⟨j, by simp, rfl⟩
    · rcases (mem_ins h1).1 hz with rfl | ⟨hz, _⟩
      · exact absurd (kc_self _) hne
      · exact (h4 z hz).imp (fun ⟨i, hi, e⟩ => ⟨i, by simp [hi], e⟩) id
theorem InvB.delX {ks xs : List Nat} {n j : Nat} {F : List It} (h : InvB ks (j :: xs) n F) : InvB ks xs n (delL (kX j) F) := by
  obtain ⟨h1, h2, h3, h4⟩ := h
  refine ⟨delL_srt h1, Nat.le_trans (del_le _ _) h2, fun i hi => (mem_del h1).2 ⟨h3 i hi, kN_kX⟩, fun z hz => ?_⟩
  obtain ⟨hz, hne⟩ := (mem_del h1).1 hz
  rcases h4 z hz with h | ⟨i, hi, e⟩
  · exact .inl h
  · rcases List.mem_cons.1 hi with rfl | hi
    · rw [e] at hne; exact absurd (kc_self _) hne
    · exact .inr ⟨i, hi, e⟩
theorem InvB.same {ks ks' : List Nat} {n : Nat} {F G : List It} (h : InvB ks [] n F) (h' : InvA ks' G) (hk : ∀ i, i ∈ ks ↔ i ∈ ks') : F = G := by
  obtain ⟨h1, h2, h3, h4⟩ := h
  refine srt_ext h1 h'.1 (fun z => ?_)
  rw [h'.2.2]
  constructor
  · intro hz
    rcases h4 z hz with ⟨i, hi, e⟩ | ⟨i, hi, _⟩
    · exact ⟨i, (hk i).1 hi, e⟩
    · cases hi
  · rintro ⟨i, hi, rfl⟩
    exact h3 i ((hk i).2 hi)
theorem InvA.sml {ks : List Nat} {F : List It} (h : InvA ks F) : Sml F := fun y hy => by
  obtain ⟨j, _, rfl⟩ := (h.2.2 y).1 hy
  exact ⟨by show (kN j).size ≤ _; rw [kN_size]; omega, by show (vN j).size ≤ _; show 1 ≤ _; omega⟩
theorem itB_le {y : It} {m : Nat} (h1 : y.1.size ≤ m) (h2 : y.2.size ≤ m) (hm : m ≤ 1000000) : (itB y).length ≤ 2 * m + 20 := by
  unfold itB txtB
  have u1 := (uv_len y.1.size (by omega)).2
  have u2 := (uv_len y.2.size (by omega)).2
  have e1 : y.1.data.toList.length = y.1.size := by rw [Array.length_toList]; rfl
  have e2 : y.2.data.toList.length = y.2.size := by rw [Array.length_toList]; rfl
  simp only [List.length_append]
  omega
theorem dumpL_le {m : Nat} (hm : m ≤ 1000000) : ∀ {F : List It}, (∀ y ∈ F, y.1.size ≤ m ∧ y.2.size ≤ m) → (dumpL F).length ≤ F.length * (2 * m + 20)
  | [], _ => by simp [dumpL]
  | y :: F, h => by
    have ih := dumpL_le hm (F := F) (fun z hz => h z (List.mem_cons_of_mem _ hz))
    have h1 := itB_le (h y (List.mem_cons_self ..)).1 (h y (List.mem_cons_self ..)).2 hm
    have e : dumpL (y :: F) = itB y ++ dumpL F := by simp [dumpL]
    rw [e, List.length_append, List.length_cons, Nat.add_mul]
    omega
theorem InvA.dump {ks : List Nat} {F : List It} (h : InvA ks F) (hk : ks.length ≤ 1000) : (dumpL F).length ≤ 900000000 := by
  have h1 := dumpL_le (m := 2) (by omega) (F := F) (fun y hy => by
    obtain ⟨j, _, rfl⟩ := (h.2.2 y).1 hy
    exact ⟨Nat.le_of_eq (kN_size j), by show 1 ≤ 2; omega⟩)
  have h2 := h.2.1
  omega
set_option maxHeartbeats 3200000 in
theorem number_any {j : Nat} (hj : j < 65536) (w : World) : Calls Tryd.prog 9 #[.int .u16 (j : Int)] w fun e w' => e = .returned (.slice (some ⟨w.heap.size, 0, none⟩) 2 2) ∧ w' = w.alloc (.cells #[.int .u8 ((nb1 j).toNat : Int), .int .u8 ((nb0 j).toNat : Int)] 5) := by
  have h1 : (j : Int) / 256 = ((nb1 j).toNat : Int) := by rw [nb1_nat hj]; omega
  have h0 : (j : Int) % 256 = ((nb0 j).toNat : Int) := by rw [nb0_nat]; omega
  have h2 : ((nb1 j).toNat : Int) % 256 = ((nb1 j).toNat : Int) := by have := (nb1 j).toNat_lt; omega
  have hji : (j : Int) < 65536 := by omega
  go_enter Tryd.func9, Tryd.ntmps9
  go_wp2_with fail
  go_ret
  exact ⟨rfl, rfl⟩
end Go.Proofs.YtmahkhpmaenkhaaDoor
