/- Values, entries, texts, rows, replies and messages on byte lists: what is written is read back, and what is read has just these bytes. Without the program. -/
import Derived.Test.YthphadbcebeoaaaGreatDoorCodec
import Derived.Test.YthphadbcebeoaaaGreatDoorRowMath
namespace Go.Proofs.YthphadbcebeoaaaGreatDoor
open Go.RowKit Go.Lib

/-- Bytes of a value, of an entry, of a text, of a truth. -/
def eVal (g : GV) : Option (List UInt8) := if g.may then some g.bytes else none
def eEnt (g : GE) : Option (List UInt8) := if g.may then some g.bytes else none
def eText (most : Nat) (t : ByteArray) : Option (List UInt8) := eData most t.data.toList
def eBool (t : Bool) : Option (List UInt8) := eUp 1 (if t then 1 else 0)
abbrev m64 : Nat := 18446744073709551615

theorem bet_canon {l : List UInt8} {a a' : Nat} {lo hi n : Int} (h : rdBetween l lo hi (.ok a) = (n, .ok a')) (ha : a ≤ l.length) (hlh : lo ≤ hi) (h64 : hi - lo < 18446744073709551616) :
    lo ≤ n ∧ n ≤ hi ∧ l.drop a = uvarint (n - lo).toNat ++ l.drop a' ∧ a' = a + (uvarint (n - lo).toNat).length ∧ a' ≤ l.length := by
  obtain ⟨_, b, h1, h2, h3, h4⟩ := (codec_between lo hi hlh h64).canon l a n a' h ha
  unfold eBetween at h1
  split at h1
  · injection h1 with h1; subst h1
    rename_i hb
    exact ⟨hb.1, hb.2, h2, h3, h4⟩
  · cases h1
theorem bet_bad {l : List UInt8} {a c : Nat} {lo hi n : Int} (h : rdBetween l lo hi (.ok a) = (n, .error c)) (hlh : lo ≤ hi) (h64 : hi - lo < 18446744073709551616) : n = 0 ∧ (c = 20 ∨ c = 22) := by
  have h2 : (rdBetween l lo hi (.ok a)).2 = .error c := by rw [h]
  have := rdBetween_err h2
  rw [h] at this
  injection this with h3 _
  exact ⟨h3, (codec_between lo hi hlh h64).bad l a c h2⟩
theorem rdText_e (l : List UInt8) (c : Nat) : rdText l (.error c) = ([], .error c) := by simp [rdText, rdB_err]
theorem text_list (t : ByteArray) : (⟨t.data.toList.toArray⟩ : ByteArray) = t := by cases t; simp
theorem size_list (x : List UInt8) : (⟨x.toArray⟩ : ByteArray).size = x.length := by simp [ByteArray.size]

theorem unzig_range {n : Nat} (h : n < 18446744073709551616) : -9223372036854775808 ≤ unzig n ∧ unzig n < 9223372036854775808 := by
  unfold unzig
  split <;> omega
theorem zigzag_unzig (n : Nat) : zigzag (unzig n) = n := by
  unfold unzig zigzag
  split <;> split <;> omega

theorem codec_val : Codec GV.ok rdVal eVal 100 where
  back := by
    intro l a g b rest hg he hd ha
    unfold eVal at he
    split at he
    · injection he with he; subst he
      rename_i hm
      have hs := val_same l a
      rw [hd, val_back g hg hm rest] at hs
      exact (hs.1 rfl).1
    · cases he
  canon := by
    intro l a g a' h ha
    obtain ⟨k, r, h3⟩ : ∃ k r, rdBetween l 0 3 (.ok a) = (k, r) := ⟨_, _, rfl⟩
    unfold rdVal at h
    rw [h3] at h
    cases r with
    | error c =>
      obtain ⟨rfl, _⟩ := bet_bad h3 (by omega) (by omega)
      simp at h
    | ok a1 =>
      obtain ⟨k1, k2, k3, k4, k5⟩ := bet_canon h3 ha (by omega) (by omega)
      rw [show (k - 0).toNat = k.toNat by omega] at k3 k4
      dsimp only at h
      by_cases e1 : k = 1
      · subst e1
        rw [if_pos rfl] at h
        obtain ⟨n, r, h4⟩ : ∃ k r, rdBetween l 0 1 (.ok a1) = (k, r) := ⟨_, _, rfl⟩
        rw [h4] at h
        simp only [Prod.mk.injEq] at h
        obtain ⟨rfl, rfl⟩ := h
        obtain ⟨n1, n2, n3, n4, n5⟩ := bet_canon h4 k5 (by omega) (by omega)
        rw [show (n - 0).toNat = n.toNat by omega] at n3 n4
        have hm : GV.may ⟨1, n, ⟨#[]⟩⟩ = true := by
          have : n = 0 ∨ n = 1 := by omega
          rcases this with rfl | rfl <;> decide +kernel
        refine ⟨⟨by dsimp only; omega, by dsimp only; omega, by dsimp only; decide⟩, uvarint 1 ++ uvarint n.toNat, ?_, ?_, ?_, n5⟩
        · simp [eVal, hm, GV.bytes]
        · rw [k3, n3]; simp
        · rw [n4, k4]; simp [Nat.add_assoc]
      · rw [if_neg e1] at h
        by_cases e2 : k = 2
        · subst e2
          rw [if_pos rfl] at h
          obtain ⟨n, r, h4⟩ : ∃ k r, rdUp l 18446744073709551615 (.ok a1) = (k, r) := ⟨_, _, rfl⟩
          rw [h4] at h
          simp only [Prod.mk.injEq] at h
          obtain ⟨rfl, rfl⟩ := h
          obtain ⟨n1, n2, n3, n4, n5⟩ := rdUp_canon h4 k5
          obtain ⟨z1, z2⟩ := unzig_range n1
          have hm : GV.may ⟨2, unzig n, ⟨#[]⟩⟩ = true := by simp [GV.may]
          refine ⟨⟨z1, z2, by dsimp only; decide⟩, uvarint 2 ++ uvarint n, ?_, ?_, ?_, n5⟩
          · simp [eVal, hm, GV.bytes, zigzag_unzig]
          · rw [k3, n3]; simp
          · rw [n4, k4]; simp [Nat.add_assoc]
        · rw [if_neg e2] at h
          by_cases e3 : k = 3
          · subst e3
            rw [if_pos rfl] at h
            unfold rdText at h
            obtain ⟨n, r, h4⟩ : ∃ k r, rdBetween l 0 40 (.ok a1) = (k, r) := ⟨_, _, rfl⟩
            rw [h4] at h
            cases r with
            | error c => simp at h
            | ok a2 =>
              obtain ⟨n1, n2, n3, n4, n5⟩ := bet_canon h4 k5 (by omega) (by omega)
              rw [show (n - 0).toNat = n.toNat by omega] at n3 n4
              obtain ⟨q, rfl⟩ := Int.eq_ofNat_of_zero_le n1
              simp only [Int.toNat_natCast] at h n3 n4
              by_cases hz : 0 ≤ indexByte ((l.drop a2).take q) 0
              · rw [if_pos hz] at h; simp at h
              · rw [if_neg hz] at h
                unfold rdTake at h
                dsimp only at h
                by_cases hq : q ≤ l.length - a2
                · rw [if_pos hq] at h
                  simp only [Prod.mk.injEq, Except.ok.injEq] at h
                  obtain ⟨rfl, rfl⟩ := h
                  have hql : ((l.drop a2).take q).length = q := by simp; omega
                  have hm : GV.may ⟨3, 0, ⟨((l.drop a2).take q).toArray⟩⟩ = true := by
                    simp only [GV.may, size_list, hql]
                    simp
                    exact ⟨by omega, by omega⟩
                  refine ⟨⟨by dsimp only; omega, by dsimp only; omega, by dsimp only; rw [size_list, hql]; unfold maxLen; omega⟩, uvarint 3 ++ (uvarint q ++ (l.drop a2).take q), ?_, ?_, ?_, by omega⟩
                  · simp [eVal, hm, GV.bytes, size_list, hql]
                  · rw [k3, n3, ← List.drop_drop]
                    simp only [List.append_assoc, List.take_append_drop]
                    rfl
                  · have e3 : (uvarint (3 : Int).toNat).length = (uvarint 3).length := rfl
                    rw [List.length_append, List.length_append, hql]
                    omega
                · rw [if_neg hq] at h; simp at h
          · rw [if_neg e3] at h
            simp only [Prod.mk.injEq, Except.ok.injEq] at h
            obtain ⟨rfl, rfl⟩ := h
            have e0 : k = 0 := by omega
            subst e0
            have hm : GV.may ⟨0, 0, ⟨#[]⟩⟩ = true := by decide +kernel
            refine ⟨⟨by dsimp only; omega, by dsimp only; omega, by dsimp only; decide⟩, uvarint 0, ?_, k3, k4, k5⟩
            simp [eVal, hm, GV.bytes]
  err := by intro l c; simp [rdVal, rdB_err]
  bad := by
    intro l a c h
    have hs := val_same l a
    have hc : (refVal (l.drop a)).2.2 = 0 ∨ (refVal (l.drop a)).2.2 = 20 ∨ (refVal (l.drop a)).2.2 = 22 := by
      generalize l.drop a = m
      unfold refVal
      split
      · simp
      · rename_i c r
        have hd : (decU r).2.2.1 = 0 ∨ (decU r).2.2.1 = 20 ∨ (decU r).2.2.1 = 22 := by
          rcases decU_cases r with ⟨_, _, e, _⟩ | ⟨_, e⟩ | ⟨_, e, _⟩ <;> simp [e]
        split
        · simp
        · split
          · split
            · simp
            · split <;> simp
          · split
            · split
              · simp
              · simpa using hd
            · split
              · split
                · simp
                · split
                  · simp
                  · split
                    · simp
                    · split <;> simp
              · simp
    by_cases h0 : (refVal (l.drop a)).2.2 = 0
    · have := (hs.1 h0).1
      rw [this] at h; cases h
    · have := hs.2 h0
      rw [this] at h
      injection h with h
      omega
  len := by
    intro g b hg he
    unfold eVal at he
    split at he
    · injection he with he; subst he
      exact may_len (by assumption) hg
    · cases he

theorem rdSql_eq (l : List UInt8) (s : Except Nat Nat) : rdSql l s = rdDat l 2000 s := rfl
theorem m64_canon {l : List UInt8} {a n a' : Nat} (h : rdMax l (.ok a) = (n, .ok a')) (ha : a ≤ l.length) : n < 18446744073709551616 ∧ l.drop a = uvarint n ++ l.drop a' ∧ a' = a + (uvarint n).length ∧ a' ≤ l.length := by
  obtain ⟨h1, _, h3, h4, h5⟩ := rdUp_canon (show rdUp l 18446744073709551615 (.ok a) = (n, .ok a') from h) ha
  exact ⟨h1, h3, h4, h5⟩
theorem m64_bad {l : List UInt8} {a n c : Nat} (h : rdMax l (.ok a) = (n, .error c)) : c = 20 ∨ c = 22 := rdUp_bad (most := 18446744073709551615) (by rw [show rdUp l 18446744073709551615 (.ok a) = (n, .error c) from h])

theorem codec_ent : Codec GE.ok rdEnt eEnt 2100 where
  back := by
    intro l a g b rest hg he hd ha
    unfold eEnt at he
    split at he
    · injection he with he; subst he
      rename_i hm
      obtain ⟨hk, hsz⟩ := ent_may hm
      obtain ⟨h1, h2, h3, h4⟩ := hg
      have u : ∀ k, k ≤ 1 → (uvarint k).length = 1 := fun k hk => by rw [uvarint_small (by omega)]; rfl
      rcases hk with hk | hk
      · have eb : g.bytes = uvarint g.term ++ uvarint 0 := by rw [hk]; simp [GE.bytes]
        rw [eb, List.append_assoc] at hd
        have m0 := rdMax_uv h1 hd
        have b1 := kind_one (k := 0) (by decide) (drop_next hd)
        simp only [rdEnt, m0, b1]
        rw [if_neg (by decide), eb]
        rw [hk]
        simp [u 0 (by decide), Nat.add_assoc]
      · obtain ⟨te, k, c, q, t⟩ := g
        dsimp only at hk h1 h2 h3 h4 hsz
        subst hk
        have eb : GE.bytes ⟨te, 1, c, q, t⟩ = uvarint te ++ (uvarint 1 ++ (uvarint c ++ (uvarint q ++ (uvarint t.size ++ t.data.toList)))) := by simp [GE.bytes]
        have hl : t.data.toList.length = t.size := bytes_length t
        rw [eb] at hd ⊢
        simp only [List.append_assoc] at hd
        have hd1 := drop_next hd
        have hd2 := drop_next hd1
        have hd3 := drop_next hd2
        have hd4 := drop_next hd3
        rw [u 1 (by decide)] at hd2 hd3 hd4
        have m0 := rdMax_uv h1 hd
        have b1 := kind_one (k := 1) (by decide) hd1
        have m2 := rdMax_uv h2 hd2
        have m3 := rdMax_uv h3 hd3
        have hlen := congrArg List.length hd
        simp [u 1 (by decide), hl] at hlen
        have s4 := sql_back hsz (by omega) hd4
        simp only [rdEnt, m0, b1]
        rw [if_pos (by decide)]
        simp only [m2, m3, s4]
        simp [u 1 (by decide), hl]
        omega
    · cases he
  canon := by
    intro l a g a' h ha
    obtain ⟨te, r, h0⟩ : ∃ k r, rdMax l (.ok a) = (k, r) := ⟨_, _, rfl⟩
    unfold rdEnt at h
    rw [h0] at h
    cases r with
    | error c => simp [rdB_err] at h
    | ok a1 =>
      obtain ⟨t1, t2, t3, t4⟩ := m64_canon h0 ha
      obtain ⟨k, r, h1⟩ : ∃ k r, rdBetween l 0 1 (.ok a1) = (k, r) := ⟨_, _, rfl⟩
      dsimp only at h
      rw [h1] at h
      cases r with
      | error c =>
        obtain ⟨rfl, _⟩ := bet_bad h1 (by omega) (by omega)
        simp at h
      | ok a2 =>
        obtain ⟨k1, k2, k3, k4, k5⟩ := bet_canon h1 t4 (by omega) (by omega)
        rw [show (k - 0).toNat = k.toNat by omega] at k3 k4
        dsimp only at h
        by_cases e1 : k = 1
        · subst e1
          rw [if_pos rfl] at h
          obtain ⟨c, r, h2⟩ : ∃ k r, rdMax l (.ok a2) = (k, r) := ⟨_, _, rfl⟩
          rw [h2] at h
          cases r with
          | error e => simp [rdMax_err, rdSql_err] at h
          | ok a3 =>
            obtain ⟨c1, c2, c3, c4⟩ := m64_canon h2 k5
            dsimp only at h
            obtain ⟨q, r, h3⟩ : ∃ k r, rdMax l (.ok a3) = (k, r) := ⟨_, _, rfl⟩
            rw [h3] at h
            cases r with
            | error e => simp [rdSql_err] at h
            | ok a4 =>
              obtain ⟨q1, q2, q3, q4⟩ := m64_canon h3 c4
              dsimp only at h
              obtain ⟨S, r, h4⟩ : ∃ k r, rdSql l (.ok a4) = (k, r) := ⟨_, _, rfl⟩
              rw [h4] at h
              simp only [Prod.mk.injEq] at h
              obtain ⟨rfl, rfl⟩ := h
              obtain ⟨_, b, s1, s2, s3, s4⟩ := (codec_data 2000 (by decide)).canon l a4 S a' h4 q4
              unfold eData at s1
              split at s1
              · injection s1 with s1; subst s1
                rename_i hs
                have hm : GE.may ⟨te, 1, c, q, ⟨S.toArray⟩⟩ = true := by simp [GE.may, size_list, hs]
                refine ⟨⟨t1, c1, q1, by dsimp only; rw [size_list]; unfold maxLen; omega⟩, GE.bytes ⟨te, 1, c, q, ⟨S.toArray⟩⟩, by simp [eEnt, hm], ?_, ?_, s4⟩
                · rw [t2, k3, c2, q2, s2]
                  simp [GE.bytes, size_list]
                · rw [s3, q3, c3, k4, t3]
                  simp [GE.bytes, size_list]
                  omega
              · cases s1
        · rw [if_neg e1] at h
          simp only [Prod.mk.injEq, Except.ok.injEq] at h
          obtain ⟨rfl, rfl⟩ := h
          have e0 : k = 0 := by omega
          subst e0
          have hm : GE.may ⟨te, 0, 0, 0, ⟨#[]⟩⟩ = true := by simp [GE.may]; decide
          refine ⟨⟨t1, by dsimp only; decide, by dsimp only; decide, by dsimp only; decide⟩, GE.bytes ⟨te, 0, 0, 0, ⟨#[]⟩⟩, by simp [eEnt, hm], ?_, ?_, k5⟩
          · rw [t2, k3]; simp [GE.bytes]
          · rw [k4, t3]; simp [GE.bytes, Nat.add_assoc]
  err := by intro l c; simp [rdEnt, rdMax_err, rdB_err]
  bad := by
    intro l a c h
    obtain ⟨te, r, h0⟩ : ∃ k r, rdMax l (.ok a) = (k, r) := ⟨_, _, rfl⟩
    unfold rdEnt at h
    rw [h0] at h
    cases r with
    | error e => simp [rdB_err] at h; subst h; exact m64_bad h0
    | ok a1 =>
      obtain ⟨k, r, h1⟩ : ∃ k r, rdBetween l 0 1 (.ok a1) = (k, r) := ⟨_, _, rfl⟩
      dsimp only at h
      rw [h1] at h
      cases r with
      | error e =>
        obtain ⟨rfl, hb⟩ := bet_bad h1 (by omega) (by omega)
        simp at h; subst h; exact hb
      | ok a2 =>
        dsimp only at h
        by_cases e1 : k = 1
        · rw [if_pos e1] at h
          obtain ⟨c2, r, h2⟩ : ∃ k r, rdMax l (.ok a2) = (k, r) := ⟨_, _, rfl⟩
          rw [h2] at h
          cases r with
          | error e => simp [rdMax_err, rdSql_err] at h; subst h; exact m64_bad h2
          | ok a3 =>
            dsimp only at h
            obtain ⟨q, r, h3⟩ : ∃ k r, rdMax l (.ok a3) = (k, r) := ⟨_, _, rfl⟩
            rw [h3] at h
            cases r with
            | error e => simp [rdSql_err] at h; subst h; exact m64_bad h3
            | ok a4 => exact (codec_data 2000 (by decide)).bad l a4 c h
        · rw [if_neg e1] at h; simp at h
  len := by
    intro g b hg he
    unfold eEnt at he
    split at he
    · injection he with he; subst he
      rename_i hm
      obtain ⟨_, hsz⟩ := ent_may hm
      obtain ⟨h1, h2, h3, h4⟩ := hg
      have u1 := uvarint_length64 h1
      have u2 := uvarint_length64 h2
      have u3 := uvarint_length64 h3
      have u4 := uvarint_length64 (x := g.sql.size) (by omega)
      have hk : g.kind = 0 ∨ g.kind = 1 := by
        simp [GE.may] at hm
        rcases hm.1 with ⟨⟨⟨h, _⟩, _⟩, _⟩ | h
        · exact .inl h
        · exact .inr h
      have u5 : (uvarint g.kind.toNat).length ≤ 10 := uvarint_length64 (by rcases hk with h | h <;> rw [h] <;> decide)
      unfold GE.bytes
      have hl : g.sql.data.toList.length = g.sql.size := bytes_length g.sql
      split <;> simp [hl] <;> omega
    · cases he

/-- The program's readers of texts and truths. -/
def rdTxt (most : Nat) (l : List UInt8) (s : Except Nat Nat) : ByteArray × Except Nat Nat := (⟨(rdDat l most s).1.toArray⟩, (rdDat l most s).2)
def rdTru (l : List UInt8) (s : Except Nat Nat) : Bool × Except Nat Nat := ((rdUp l 1 s).1 == 1, (rdUp l 1 s).2)
theorem codec_text (most : Nat) (hm : most ≤ 1000000000) : Codec (fun t : ByteArray => t.size ≤ maxLen) (rdTxt most) (eText most) (10 + most) :=
  (codec_data most (by omega)).map (fun x => (⟨x.toArray⟩ : ByteArray)) (fun t => t.data.toList) _ (fun x _ _ => by simp) (fun t _ => text_list t) (fun _ _ => trivial) (fun x _ h => by
    rw [size_list]
    unfold eData at h
    split at h
    · unfold maxLen; omega
    · cases h)
theorem codec_bool : Codec (fun _ : Bool => True) rdTru eBool 10 :=
  (codec_up 1 (by decide)).map (fun x => x == 1) (fun t => if t then 1 else 0) _ (fun x _ h => by
    unfold eUp at h
    split at h
    · rename_i hx
      have : x = 0 ∨ x = 1 := by omega
      rcases this with rfl | rfl <;> rfl
    · cases h) (fun t _ => by cases t <;> rfl) (fun _ _ => trivial) (fun _ _ _ => trivial)
theorem codec_num : Codec (fun n : Nat => n < 18446744073709551616) rdMax (eUp m64) 10 :=
  { back := fun l a x b rest _ he hd ha => (codec_up m64 (by decide)).back l a x b rest trivial he hd ha
    canon := fun l a x a' h ha => by
      obtain ⟨_, h2⟩ := (codec_up m64 (by decide)).canon l a x a' h ha
      exact ⟨(m64_canon h ha).1, h2⟩
    err := fun l c => rfl
    bad := fun l a c h => rdUp_bad h
    len := fun x b _ he => (codec_up m64 (by decide)).len x b trivial he }

abbrev rdRow' : List UInt8 → Except Nat Nat → List GV × Except Nat Nat := rdList rdVal 64
theorem rdVals_eq (l : List UInt8) (s : Except Nat Nat) : ∀ n, rdVals l n s = rdN rdVal l n s
  | 0 => rfl
  | n + 1 => by rw [rdVals, rdN, rdVals_eq l s n]; rfl
theorem codec_row : Codec (fun gs : List GV => ∀ g ∈ gs, g.ok) rdRow' (eList eVal 64) 6410 := codec_val.list 64 (by decide)
theorem codec_ents : Codec (fun es : List GE => ∀ g ∈ es, g.ok) (rdList rdEnt 1000) (eList eEnt 1000) 2100010 := codec_ent.list 1000 (by decide)
theorem codec_cols : Codec (fun ts : List ByteArray => ∀ t ∈ ts, t.size ≤ maxLen) (rdList (rdTxt 2000) 64) (eList (eText 2000) 64) 128650 := (codec_text 2000 (by decide)).list 64 (by decide)
theorem codec_rows : Codec (fun rs : List (List GV) => ∀ r ∈ rs, ∀ g ∈ r, g.ok) (rdList rdRow' 20000) (eList (eList eVal 64) 20000) 128200010 := codec_row.list 20000 (by decide)

/-- A reply: seq, class, columns, rows, count, index. -/
abbrev GRp := Nat × Int × List ByteArray × List (List GV) × Int × Nat
abbrev rdRep : List UInt8 → Except Nat Nat → GRp × Except Nat Nat :=
  rdPair rdMax (rdPair (fun l s => rdBetween l 0 100 s) (rdPair (rdList (rdTxt 2000) 64) (rdPair (rdList rdRow' 20000) (rdPair (fun l s => rdBetween l 0 262144 s) rdMax))))
abbrev eRep : GRp → Option (List UInt8) :=
  ePair (eUp m64) (ePair (eBetween 0 100) (ePair (eList (eText 2000) 64) (ePair (eList (eList eVal 64) 20000) (ePair (eBetween 0 262144) (eUp m64)))))
abbrev vRep (x : GRp) : Prop := x.1 < 18446744073709551616 ∧ True ∧ (∀ t ∈ x.2.2.1, t.size ≤ maxLen) ∧ (∀ r ∈ x.2.2.2.1, ∀ g ∈ r, g.ok) ∧ True ∧ x.2.2.2.2.2 < 18446744073709551616
theorem codec_rep : Codec vRep rdRep eRep 128328700 :=
  codec_num.pair ((codec_between 0 100 (by omega) (by omega)).pair (codec_cols.pair (codec_rows.pair ((codec_between 0 262144 (by omega) (by omega)).pair codec_num))))

/-- A message: kind, from, to, term, index, logterm, entries, commit, round, ok, off, data, done, client, seq, sql, reply, hint. -/
abbrev GMs := Int × Int × Int × Nat × Nat × Nat × List GE × Nat × Nat × Bool × Int × List UInt8 × Bool × Nat × Nat × ByteArray × GRp × Int
abbrev rdMsg : List UInt8 → Except Nat Nat → GMs × Except Nat Nat :=
  rdPair (fun l s => rdBetween l 1 8 s) (rdPair (fun l s => rdBetween l (-1) 1000 s) (rdPair (fun l s => rdBetween l (-1) 1000 s) (rdPair rdMax (rdPair rdMax (rdPair rdMax (rdPair (rdList rdEnt 1000) (rdPair rdMax (rdPair rdMax (rdPair rdTru (rdPair (fun l s => rdBetween l 0 262144 s)
    (rdPair (fun l s => rdDat l 262144 s) (rdPair rdTru (rdPair rdMax (rdPair rdMax (rdPair (rdTxt 2000) (rdPair rdRep (fun l s => rdBetween l (-1) 1000 s)))))))))))))))))
abbrev eMsg : GMs → Option (List UInt8) :=
  ePair (eBetween 1 8) (ePair (eBetween (-1) 1000) (ePair (eBetween (-1) 1000) (ePair (eUp m64) (ePair (eUp m64) (ePair (eUp m64) (ePair (eList eEnt 1000) (ePair (eUp m64) (ePair (eUp m64) (ePair eBool (ePair (eBetween 0 262144)
    (ePair (eData 262144) (ePair eBool (ePair (eUp m64) (ePair (eUp m64) (ePair (eText 2000) (ePair eRep (eBetween (-1) 1000)))))))))))))))))
abbrev vMsg (x : GMs) : Prop :=
  True ∧ True ∧ True ∧ x.2.2.2.1 < 18446744073709551616 ∧ x.2.2.2.2.1 < 18446744073709551616 ∧ x.2.2.2.2.2.1 < 18446744073709551616 ∧ (∀ g ∈ x.2.2.2.2.2.2.1, g.ok) ∧ x.2.2.2.2.2.2.2.1 < 18446744073709551616 ∧ x.2.2.2.2.2.2.2.2.1 < 18446744073709551616 ∧ True ∧ True ∧
    True ∧ True ∧ x.2.2.2.2.2.2.2.2.2.2.2.2.2.1 < 18446744073709551616 ∧ x.2.2.2.2.2.2.2.2.2.2.2.2.2.2.1 < 18446744073709551616 ∧ x.2.2.2.2.2.2.2.2.2.2.2.2.2.2.2.1.size ≤ maxLen ∧ vRep x.2.2.2.2.2.2.2.2.2.2.2.2.2.2.2.2.1 ∧ True
theorem codec_msg : Codec vMsg rdMsg eMsg 130693014 :=
  (codec_between 1 8 (by omega) (by omega)).pair ((codec_between (-1) 1000 (by omega) (by omega)).pair ((codec_between (-1) 1000 (by omega) (by omega)).pair (codec_num.pair (codec_num.pair (codec_num.pair (codec_ents.pair (codec_num.pair (codec_num.pair (codec_bool.pair ((codec_between 0 262144 (by omega) (by omega)).pair
    ((codec_data 262144 (by decide)).pair (codec_bool.pair (codec_num.pair (codec_num.pair ((codec_text 2000 (by decide)).pair (codec_rep.pair (codec_between (-1) 1000 (by omega) (by omega))))))))))))))))))
end Go.Proofs.YthphadbcebeoaaaGreatDoor
