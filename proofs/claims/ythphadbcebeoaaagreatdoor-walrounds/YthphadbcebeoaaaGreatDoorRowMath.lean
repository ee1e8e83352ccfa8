/- Rows and entries on byte lists: what is written is read back, a proper beginning is told as short. -/
import Derived.Test.YthphadbcebeoaaaGreatDoorJJointRdAllRefRowValsInLawWrites
import Derived.Test.YthphadbcebeoaaaGreatDoorJRdMathRdMath2
import Derived.Test.YthphadbcebeoaaaGreatDoorJVals3Rows2PutRowListOfKnownLenMathLawLengths
import Derived.Test.YthphadbcebeoaaaGreatDoorJRef1IntTextLawNumbersLaidBytesIn
namespace Go.Proofs.YthphadbcebeoaaaGreatDoor
open Go.RowKit Go.Lib

theorem dec_cut : ∀ (x i acc c : Nat), c < (uvarint x).length → i + (uvarint x).length ≤ 10 → decFrom i acc ((uvarint x).take c) = (0, 0, 22, i + c) := by
  intro x
  induction x using Nat.strongRecOn with
  | _ x ih =>
    intro i acc c hc hi
    cases c with
    | zero => simp [decFrom]
    | succ c =>
      rcases Nat.lt_or_ge x 128 with h | h
      · rw [uvarint_small h] at hc; simp at hc
      · rw [uvarint_big h] at hc hi ⊢
        simp only [List.length_cons] at hc hi
        have hb : ((x % 128 + 128).toUInt8).toNat = x % 128 + 128 := toUInt8_toNat (by omega)
        rw [List.take_succ_cons, dec_more (by rw [hb]; omega) (by rw [hb]; omega), ih (x / 128) (by omega) (i + 1) _ c (by omega) (by omega)]
        congr 3; omega
theorem decU_cut {x c : Nat} (hx : x < 18446744073709551616) (hc : c < (uvarint x).length) : ∃ q, decU ((uvarint x).take c) = (0, 0, 22, q) :=
  ⟨_, dec_cut x 0 0 c hc (by have := uvarint_length64 hx; omega)⟩
theorem decU_short {x : Nat} {l : List UInt8} {c : Nat} (hx : x < 18446744073709551616) (hc : c < (uvarint x).length) : ∃ q, decU ((uvarint x ++ l).take c) = (0, 0, 22, q) := by
  rw [List.take_append_of_le_length (by omega)]; exact decU_cut hx hc
theorem text_empty {t : ByteArray} (h : t.toList = []) : t = ⟨#[]⟩ := by
  have h0 := isEmpty_size t (by rw [h]; rfl)
  apply ByteArray.ext
  apply Array.eq_empty_of_size_eq_zero
  exact h0

theorem val_back (g : GV) (hg : g.ok) (hm : g.may = true) (rest : List UInt8) : refVal (g.bytes ++ rest) = (g, g.bytes.length, 0) := by
  obtain ⟨k, n, t⟩ := g
  obtain ⟨h1, h2, h3⟩ := hg
  dsimp only at h1 h2 h3
  simp [GV.may] at hm
  rcases hm with ((⟨⟨rfl, rfl⟩, ht⟩ | ⟨⟨rfl, hn⟩, ht⟩) | ⟨rfl, ht⟩) | ⟨⟨⟨rfl, rfl⟩, hs⟩, hz⟩
  · obtain rfl := text_empty ht
    have e : GV.bytes ⟨0, 0, ⟨#[]⟩⟩ = [0] := by simp [GV.bytes, uvarint_small]
    rw [e]; rfl
  · obtain rfl := text_empty ht
    rcases hn with rfl | rfl
    · have e : GV.bytes ⟨1, 0, ⟨#[]⟩⟩ = [1, 0] := by simp [GV.bytes, uvarint_small]
      rw [e]; rfl
    · have e : GV.bytes ⟨1, 1, ⟨#[]⟩⟩ = [1, 1] := by simp [GV.bytes, uvarint_small]
      rw [e]; rfl
  · obtain rfl := text_empty ht
    have hzl := zigzag_lt h1 (by omega : n ≤ 9223372036854775807)
    have e : GV.bytes ⟨2, n, ⟨#[]⟩⟩ = 2 :: uvarint (zigzag n) := by simp [GV.bytes, uvarint_small]
    have hd := decU_uv (zigzag n) hzl rest
    rw [e]
    simp [refVal, hd, unzig_zigzag h1 h2]
    omega
  · have hs' : t.size < 128 := by omega
    have e : GV.bytes ⟨3, 0, t⟩ = 3 :: (t.size).toUInt8 :: t.data.toList := by simp [GV.bytes, uvarint_small, hs']
    have hb : ((t.size).toUInt8).toNat = t.size := toUInt8_toNat (by omega)
    have hl : t.data.toList.length = t.size := bytes_length t
    have htk : (t.data.toList ++ rest).take t.size = t.data.toList := by rw [← hl, List.take_left]
    have hz' : ¬ (0 ≤ indexByte t.data.toList 0) := by omega
    have h40 : ¬ (40 < t.size) := by omega
    rw [e]
    simp [refVal, hb, htk, hz', h40, hl]
    rw [if_neg (by omega), show 2 + t.size = t.size + 1 + 1 by omega]
theorem val_cut (g : GV) (hg : g.ok) (hm : g.may = true) (c : Nat) (hc : c < g.bytes.length) : (refVal (g.bytes.take c)).2.2 = 22 := by
  cases c with
  | zero => rfl
  | succ c =>
    obtain ⟨k, n, t⟩ := g
    obtain ⟨h1, h2, h3⟩ := hg
    dsimp only at h1 h2 h3
    simp [GV.may] at hm
    rcases hm with ((⟨⟨rfl, rfl⟩, ht⟩ | ⟨⟨rfl, hn⟩, ht⟩) | ⟨rfl, ht⟩) | ⟨⟨⟨rfl, rfl⟩, hs⟩, hz⟩
    · have e : GV.bytes ⟨0, 0, t⟩ = [0] := by simp [GV.bytes, uvarint_small]
      rw [e] at hc; simp at hc
    · have e : GV.bytes ⟨1, n, t⟩ = [1, n.toNat.toUInt8] := by
        have : n.toNat < 128 := by omega
        simp [GV.bytes, uvarint_small, this]
      rw [e] at hc ⊢
      have hc0 : c = 0 := by simp at hc; omega
      subst hc0
      rfl
    · have hzl := zigzag_lt h1 (by omega : n ≤ 9223372036854775807)
      have e : GV.bytes ⟨2, n, t⟩ = 2 :: uvarint (zigzag n) := by simp [GV.bytes, uvarint_small]
      rw [e] at hc ⊢
      simp at hc
      obtain ⟨q, hd⟩ := decU_cut hzl hc
      simp [refVal, hd]
    · have hs' : t.size < 128 := by omega
      have e : GV.bytes ⟨3, 0, t⟩ = 3 :: (t.size).toUInt8 :: t.data.toList := by simp [GV.bytes, uvarint_small, hs']
      have hb : ((t.size).toUInt8).toNat = t.size := toUInt8_toNat (by omega)
      have hl : t.data.toList.length = t.size := bytes_length t
      rw [e] at hc ⊢
      cases c with
      | zero => rfl
      | succ c =>
        simp only [List.length_cons, hl] at hc
        have h40 : ¬ (40 < t.size) := by omega
        have hi : ¬ (0 ≤ indexByte ((t.data.toList.take c).take t.size) 0) := by
          have hall := (indexByte_zero_iff t.data.toList).1 hz
          have := (indexByte_zero_iff ((t.data.toList.take c).take t.size)).2 (by
            intro i hi
            simp at hi
            have := hall i (by omega)
            simpa [List.getD_eq_getElem?_getD, List.getElem?_take, show i < t.size by omega, show i < c by omega] using this)
          omega
        have hlt : (t.data.toList.take c).length < t.size := by simp; omega
        simp only [List.take_succ_cons]
        simp [refVal, hb, h40, hi]
        rw [if_pos (by simp at hlt; omega)]

/-- Reading n and one more values, the first one first. -/
theorem rdVals_front (l : List UInt8) (a : Nat) : ∀ n, rdVals l (n + 1) (.ok a) =
    match (rdVal l (.ok a)).2 with
    | .error c => ([], .error c)
    | .ok b => match (rdVals l n (.ok b)).2 with
      | .error c => ([], .error c)
      | .ok d => ((rdVal l (.ok a)).1 :: (rdVals l n (.ok b)).1, .ok d)
  | 0 => by
    cases h : (rdVal l (.ok a)).2 with
    | error c => simp [rdVals, h]
    | ok b => simp [rdVals, h]
  | n + 1 => by
    have ih := rdVals_front l a n
    rw [rdVals, ih]
    cases h : (rdVal l (.ok a)).2 with
    | error c => simp
    | ok b =>
      simp only
      cases h2 : (rdVals l n (.ok b)).2 with
      | error c => simp [rdVals, h2]
      | ok d =>
        simp only [rdVals, h2]
        cases h3 : (rdVal l (.ok d)).2 with
        | error c => simp
        | ok e => simp
end Go.Proofs.YthphadbcebeoaaaGreatDoor
namespace Go.Proofs.YthphadbcebeoaaaGreatDoor
open Go.RowKit Go.Lib

def valsBytes (gs : List GV) : List UInt8 := gs.flatMap GV.bytes
theorem vals_back : ∀ (gs : List GV) (l rest : List UInt8) (a : Nat), (∀ g ∈ gs, g.ok ∧ g.may = true) → l.drop a = valsBytes gs ++ rest → rdVals l gs.length (.ok a) = (gs, .ok (a + (valsBytes gs).length))
  | [], l, rest, a, _, _ => rfl
  | g :: r, l, rest, a, h, hd => by
    obtain ⟨h1, h2⟩ := h g (by simp)
    have hd1 : l.drop a = g.bytes ++ (valsBytes r ++ rest) := by rw [hd]; simp [valsBytes]
    have hs := val_same l a
    rw [hd1, val_back g h1 h2] at hs
    have e1 := (hs.1 rfl).1
    dsimp only at e1
    have hd2 : l.drop (a + g.bytes.length) = valsBytes r ++ rest := by rw [← List.drop_drop, hd1, List.drop_left]
    have ih := vals_back r l rest (a + g.bytes.length) (fun x hx => h x (by simp [hx])) hd2
    rw [List.length_cons, rdVals_front, e1]
    simp only [ih]
    simp [valsBytes, Nat.add_assoc]
theorem vals_cut : ∀ (gs : List GV) (l : List UInt8) (a c : Nat), (∀ g ∈ gs, g.ok ∧ g.may = true) → l.drop a = (valsBytes gs).take c → c < (valsBytes gs).length → (rdVals l gs.length (.ok a)).2 = .error 22
  | [], l, a, c, _, _, hc => by simp [valsBytes] at hc
  | g :: r, l, a, c, h, hd, hc => by
    obtain ⟨h1, h2⟩ := h g (by simp)
    have eB : valsBytes (g :: r) = g.bytes ++ valsBytes r := by simp [valsBytes]
    rw [eB] at hd hc
    have hs := val_same l a
    rw [List.length_cons, rdVals_front]
    rcases Nat.lt_or_ge c g.bytes.length with hlt | hge
    · rw [List.take_append_of_le_length (by omega)] at hd
      rw [hd] at hs
      have e22 := val_cut g h1 h2 c hlt
      have e1 := hs.2 (by rw [e22]; decide)
      rw [e22] at e1
      rw [e1]
    · have hd1 : l.drop a = g.bytes ++ (valsBytes r).take (c - g.bytes.length) := by
        rw [hd, List.take_append, List.take_of_length_le hge]
      rw [hd1, val_back g h1 h2] at hs
      have e1 := (hs.1 rfl).1
      dsimp only at e1
      have hd2 : l.drop (a + g.bytes.length) = (valsBytes r).take (c - g.bytes.length) := by rw [← List.drop_drop, hd1, List.drop_left]
      have ih := vals_cut r l (a + g.bytes.length) (c - g.bytes.length) (fun x hx => h x (by simp [hx])) hd2 (by simp at hc; omega)
      rw [e1]
      simp only [ih]
theorem putVals_form : ∀ (gs : List GV) (l0 b : List UInt8), putVals gs (some l0) = some b → b = l0 ++ valsBytes gs ∧ ∀ g ∈ gs, g.may = true
  | [], l0, b, h => by
    have : some l0 = some b := h
    injection this with this
    exact ⟨by simp [valsBytes, this], by simp⟩
  | g :: r, l0, b, h => by
    have e : putVals (g :: r) (some l0) = putVals r (putVal g (some l0)) := rfl
    rw [e] at h
    cases hm : g.may with
    | false =>
      rw [putVal, if_neg (by simp [hm]), putVals_none] at h; cases h
    | true =>
      rw [putVal, if_pos hm] at h
      obtain ⟨e1, e2⟩ := putVals_form r _ b h
      refine ⟨by rw [e1]; simp [valsBytes], fun x hx => ?_⟩
      rcases List.mem_cons.1 hx with rfl | hx
      · exact hm
      · exact e2 x hx
theorem rowBytes_form {gs : List GV} {b : List UInt8} (h : rowBytes gs = some b) : b = gs.length.toUInt8 :: valsBytes gs ∧ gs.length ≤ 64 ∧ ∀ g ∈ gs, g.may = true := by
  unfold rowBytes at h
  by_cases h64 : gs.length ≤ 64
  · rw [putLen, if_pos (by omega)] at h
    obtain ⟨e1, e2⟩ := putVals_form gs _ b h
    refine ⟨?_, h64, e2⟩
    rw [e1, uvarint_small (by omega)]
    simp
  · rw [putVals_long (by omega)] at h; cases h
theorem row_back {gs : List GV} {b : List UInt8} (hg : ∀ g ∈ gs, g.ok) (h : rowBytes gs = some b) (rest : List UInt8) : rdRow (b ++ rest) (.ok 0) = (gs, .ok b.length) := by
  obtain ⟨rfl, h64, hm⟩ := rowBytes_form h
  have hb : (gs.length.toUInt8).toNat = gs.length := toUInt8_toNat (by omega)
  have h3 : rdBetween (gs.length.toUInt8 :: valsBytes gs ++ rest) 0 64 (.ok 0) = if (gs.length.toUInt8).toNat ≤ 64 then (((gs.length.toUInt8).toNat : Int), .ok (0 + 1)) else (0, .error 20) := rdB_small (hi := 64) (a := 0) (r := valsBytes gs ++ rest) (by decide) rfl
  rw [hb, if_pos h64] at h3
  have hv := vals_back gs (gs.length.toUInt8 :: valsBytes gs ++ rest) rest (0 + 1) (fun g hx => ⟨hg g hx, hm g hx⟩) rfl
  simp only [rdRow, h3, Int.toNat_natCast, hv]
  simp; omega
theorem row_cut {gs : List GV} {b : List UInt8} (hg : ∀ g ∈ gs, g.ok) (h : rowBytes gs = some b) (c : Nat) (hc : c < b.length) : (rdRow (b.take c) (.ok 0)).2 = .error 22 := by
  obtain ⟨rfl, h64, hm⟩ := rowBytes_form h
  have hb : (gs.length.toUInt8).toNat = gs.length := toUInt8_toNat (by omega)
  cases c with
  | zero =>
    have h3 : rdBetween [] 0 64 (.ok 0) = (0, .error 22) := rdB_nil (hi := 64) rfl
    simp [rdRow, h3]
  | succ c =>
    rw [List.take_succ_cons]
    have h3 : rdBetween (gs.length.toUInt8 :: (valsBytes gs).take c) 0 64 (.ok 0) = if (gs.length.toUInt8).toNat ≤ 64 then (((gs.length.toUInt8).toNat : Int), .ok (0 + 1)) else (0, .error 20) := rdB_small (hi := 64) (a := 0) (r := (valsBytes gs).take c) (by decide) rfl
    rw [hb, if_pos h64] at h3
    have hv := vals_cut gs (gs.length.toUInt8 :: (valsBytes gs).take c) (0 + 1) c (fun g hx => ⟨hg g hx, hm g hx⟩) rfl (by simpa using hc)
    simp only [rdRow, h3, Int.toNat_natCast, hv]
end Go.Proofs.YthphadbcebeoaaaGreatDoor
namespace Go.Proofs.YthphadbcebeoaaaGreatDoor
open Go.RowKit Go.Lib

theorem rdMax_uv {l rest : List UInt8} {a x : Nat} (hx : x < 18446744073709551616) (hd : l.drop a = uvarint x ++ rest) : rdMax l (.ok a) = (x, .ok (a + (uvarint x).length)) := by
  have := rdMax_ok (l := l) (a := a) (n := x) (k := (uvarint x).length) (c := 0) (q := 0) (by rw [hd, decU_uv x hx])
  simpa using this
theorem rdMax_cut {l rest : List UInt8} {a x c : Nat} (hx : x < 18446744073709551616) (hc : c < (uvarint x).length) (hd : l.drop a = (uvarint x ++ rest).take c) : rdMax l (.ok a) = (0, .error 22) := by
  obtain ⟨q, hq⟩ := decU_short (l := rest) hx hc
  have := rdMax_ok (l := l) (a := a) (n := 0) (k := 0) (c := 22) (q := q) (by rw [hd, hq])
  simpa using this
theorem two_small {x : Nat} (hx : x ≤ 2000) (rest : List UInt8) (c : Nat) : twoMore ((uvarint x ++ rest).take c) = false := by
  rcases Nat.lt_or_ge x 128 with h | h
  · rw [uvarint_small h]
    match c with
    | 0 => rfl
    | 1 => rfl
    | c + 2 =>
      have hb : (x.toUInt8).toNat = x := toUInt8_toNat (by omega)
      match rest with
      | [] => rfl
      | y :: r => simp [twoMore, hb]; omega
  · rw [uvarint_big h, uvarint_small (show x / 128 < 128 by omega)]
    have hb : ((x / 128).toUInt8).toNat = x / 128 := toUInt8_toNat (by omega)
    match c with
    | 0 => rfl
    | 1 => rfl
    | c + 2 => simp [twoMore, hb]; omega
theorem sql_back {l rest : List UInt8} {a : Nat} {t : ByteArray} (ht : t.size ≤ 2000) (ha : a ≤ l.length) (hd : l.drop a = uvarint t.size ++ (t.data.toList ++ rest)) : rdSql l (.ok a) = (t.data.toList, .ok (a + ((uvarint t.size).length + t.size))) := by
  have hs := rdSql_ok l a ha
  have hl : t.data.toList.length = t.size := bytes_length t
  have h2 : twoMore (l.drop a) = false := by
    have := two_small ht (t.data.toList ++ rest) (uvarint t.size ++ (t.data.toList ++ rest)).length
    rw [List.take_length] at this
    rw [hd]; exact this
  have hdec : decU (l.drop a) = (t.size, (uvarint t.size).length, 0, 0) := by rw [hd, decU_uv t.size (by omega)]
  have hlen : (l.drop a).length = (uvarint t.size).length + (t.size + rest.length) := by rw [hd]; simp [hl]
  have hx : refTxt (l.drop a) 2000 = (t.data.toList, (uvarint t.size).length + t.size, 0) := by
    unfold refTxt
    rw [hdec]
    simp only [if_true]
    rw [if_neg (by omega), if_neg (by rw [hlen]; omega), hd, List.drop_left, ← hl, List.take_left]
  rw [h2, if_neg (by decide), hx] at hs
  exact (hs.1 rfl).1
theorem sql_cut {l rest : List UInt8} {a c : Nat} {t : ByteArray} (ht : t.size ≤ 2000) (ha : a ≤ l.length) (hr : rest = []) (hc : c < (uvarint t.size).length + t.size) (hd : l.drop a = (uvarint t.size ++ (t.data.toList ++ rest)).take c) : (rdSql l (.ok a)).2 = .error 22 := by
  subst hr
  have hs := rdSql_ok l a ha
  have hl : t.data.toList.length = t.size := bytes_length t
  rw [hd, two_small ht, if_neg (by decide)] at hs
  have hx : (refTxt ((uvarint t.size ++ (t.data.toList ++ [])).take c) 2000).2.2 = 22 := by
    rcases Nat.lt_or_ge c (uvarint t.size).length with hlt | hge
    · obtain ⟨q, hq⟩ := decU_short (l := t.data.toList ++ []) (show t.size < 18446744073709551616 by omega) hlt
      simp only [refTxt, hq]
      simp
    · have e : (uvarint t.size ++ (t.data.toList ++ [])).take c = uvarint t.size ++ t.data.toList.take (c - (uvarint t.size).length) := by
        rw [List.append_nil, List.take_append, List.take_of_length_le hge]
      rw [e]
      have hq := decU_uv t.size (show t.size < 18446744073709551616 by omega) (t.data.toList.take (c - (uvarint t.size).length))
      simp only [refTxt, hq]
      have h1 : ¬ 2000 < t.size := by omega
      have h2 : (uvarint t.size ++ t.data.toList.take (c - (uvarint t.size).length)).length - (uvarint t.size).length < t.size := by simp; omega
      rw [if_neg h1, if_pos h2]
      rfl
  have := hs.2 (by rw [hx]; decide)
  rw [hx] at this
  exact this

theorem kind_one {l rest : List UInt8} {a k : Nat} (hk : k ≤ 1) (hd : l.drop a = uvarint k ++ rest) : rdBetween l 0 1 (.ok a) = ((k : Int), .ok (a + 1)) := by
  rw [uvarint_small (by omega)] at hd
  have hb : (k.toUInt8).toNat = k := toUInt8_toNat (by omega)
  have h3 : rdBetween l 0 1 (.ok a) = if (k.toUInt8).toNat ≤ 1 then (((k.toUInt8).toNat : Int), .ok (a + 1)) else (0, .error 20) := rdB_small (hi := 1) (by decide) hd
  rw [hb, if_pos hk] at h3
  exact h3
theorem drop_next {l p q : List UInt8} {a : Nat} (h : l.drop a = p ++ q) : l.drop (a + p.length) = q := by rw [← List.drop_drop, h, List.drop_left]
theorem ent_may {g : GE} (hm : g.may = true) : (g = ⟨g.term, 0, 0, 0, ⟨#[]⟩⟩ ∨ g.kind = 1) ∧ g.sql.size ≤ 2000 := by
  obtain ⟨te, k, c, q, t⟩ := g
  simp [GE.may] at hm
  refine ⟨?_, hm.2⟩
  rcases hm.1 with ⟨⟨⟨rfl, rfl⟩, rfl⟩, ht⟩ | rfl
  · obtain rfl := text_empty ht
    exact .inl rfl
  · exact .inr rfl
theorem ent_back (g : GE) (hg : g.ok) (hm : g.may = true) (rest : List UInt8) : rdEnt (g.bytes ++ rest) (.ok 0) = (g, .ok g.bytes.length) := by
  obtain ⟨hk, hsz⟩ := ent_may hm
  obtain ⟨h1, h2, h3, h4⟩ := hg
  rcases hk with hk | hk
  · have eb : g.bytes = uvarint g.term ++ uvarint 0 := by rw [hk]; simp [GE.bytes]
    rw [eb]
    have hd0 : (uvarint g.term ++ uvarint 0 ++ rest).drop 0 = uvarint g.term ++ (uvarint 0 ++ rest) := by simp
    have m0 := rdMax_uv h1 hd0
    have b1 := kind_one (k := 0) (by decide) (drop_next hd0)
    have u0 : (uvarint 0).length = 1 := by rw [uvarint_small (by decide)]; rfl
    simp only [rdEnt, m0, b1]
    rw [if_neg (by decide)]
    rw [hk]
    simp [u0]
  · obtain ⟨te, k, c, q, t⟩ := g
    dsimp only at hk h1 h2 h3 h4 hsz
    subst hk
    have eb : GE.bytes ⟨te, 1, c, q, t⟩ = uvarint te ++ (uvarint 1 ++ (uvarint c ++ (uvarint q ++ (uvarint t.size ++ t.data.toList)))) := by simp [GE.bytes]
    have u1 : (uvarint 1).length = 1 := by rw [uvarint_small (by decide)]; rfl
    have hl : t.data.toList.length = t.size := bytes_length t
    rw [eb]
    generalize hL : uvarint te ++ (uvarint 1 ++ (uvarint c ++ (uvarint q ++ (uvarint t.size ++ t.data.toList)))) ++ rest = l
    have hd0 : l.drop 0 = uvarint te ++ (uvarint 1 ++ (uvarint c ++ (uvarint q ++ (uvarint t.size ++ (t.data.toList ++ rest))))) := by rw [← hL]; simp
    have hd1 := drop_next hd0
    have hd2 := drop_next hd1
    have hd3 := drop_next hd2
    have hd4 := drop_next hd3
    rw [u1] at hd2 hd3 hd4
    have m0 := rdMax_uv h1 hd0
    have b1 := kind_one (k := 1) (by decide) hd1
    have m2 := rdMax_uv h2 hd2
    have m3 := rdMax_uv h3 hd3
    have hlen : 0 + (uvarint te).length + 1 + (uvarint c).length + (uvarint q).length ≤ l.length := by rw [← hL]; simp [u1]; omega
    have s4 := sql_back hsz hlen hd4
    simp only [rdEnt, m0, b1]
    rw [if_pos (by decide)]
    simp only [m2, m3, s4]
    simp [u1, hl]
    omega
theorem rdMax_e (l : List UInt8) (c : Nat) : rdMax l (.error c) = (0, .error c) := rfl
theorem ent_cut (g : GE) (hg : g.ok) (hm : g.may = true) (c' : Nat) (hc : c' < g.bytes.length) : (rdEnt (g.bytes.take c') (.ok 0)).2 = .error 22 := by
  obtain ⟨hk, hsz⟩ := ent_may hm
  obtain ⟨h1, h2, h3, h4⟩ := hg
  obtain ⟨te, k, c, q, t⟩ := g
  dsimp only at hk h1 h2 h3 h4 hsz
  have u1 : ∀ k, k ≤ 1 → (uvarint k).length = 1 := fun k hk => by rw [uvarint_small (by omega)]; rfl
  obtain ⟨X, eb, hX⟩ : ∃ X, GE.bytes ⟨te, k, c, q, t⟩ = uvarint te ++ (uvarint k.toNat ++ X) ∧ (k = 0 ∧ X = [] ∨ k = 1 ∧ X = uvarint c ++ (uvarint q ++ (uvarint t.size ++ t.data.toList))) := by
    rcases hk with hk | rfl
    · injection hk with _ hk0 _ _ _
      subst hk0
      exact ⟨[], by simp [GE.bytes], .inl ⟨rfl, rfl⟩⟩
    · exact ⟨uvarint c ++ (uvarint q ++ (uvarint t.size ++ t.data.toList)), by simp [GE.bytes], .inr ⟨rfl, rfl⟩⟩
  rw [eb] at hc ⊢
  generalize hL : (uvarint te ++ (uvarint k.toNat ++ X)).take c' = l
  have hd0 : l.drop 0 = (uvarint te ++ (uvarint k.toNat ++ X)).take c' := by rw [← hL]; rfl
  rcases Nat.lt_or_ge c' (uvarint te).length with hlt | hge
  · have m0 := rdMax_cut h1 hlt hd0
    simp [rdEnt, m0, rdB_err]
  · rw [List.take_append, List.take_of_length_le hge] at hd0
    have m0 := rdMax_uv h1 hd0
    have hd1 := drop_next hd0
    have hk01 : k.toNat ≤ 1 := by rcases hX with ⟨rfl, _⟩ | ⟨rfl, _⟩ <;> decide
    rcases Nat.lt_or_ge (c' - (uvarint te).length) 1 with hlt1 | hge1
    · have e0 : c' - (uvarint te).length = 0 := by omega
      rw [e0, List.take_zero] at hd1
      have b1 : rdBetween l 0 1 (.ok (0 + (uvarint te).length)) = (0, .error 22) := rdB_nil (hi := 1) hd1
      simp only [rdEnt, m0, b1]
      rw [if_neg (by decide)]
    · rw [List.take_append, List.take_of_length_le (by rw [u1 _ hk01]; omega), u1 _ hk01] at hd1
      have b1 := kind_one hk01 hd1
      rcases hX with ⟨rfl, rfl⟩ | ⟨rfl, rfl⟩
      · simp [u1 0 (by decide)] at hc; omega
      · have hd2 := drop_next hd1
        rw [u1 _ hk01] at hd2
        generalize hD : c' - (uvarint te).length - 1 = d at hd2
        have hdl : d < (uvarint c ++ (uvarint q ++ (uvarint t.size ++ t.data.toList))).length := by
          simp [u1 1 (by decide)] at hc ⊢; omega
        rcases Nat.lt_or_ge d (uvarint c).length with hlt2 | hge2
        · have m2 := rdMax_cut h2 hlt2 hd2
          simp only [rdEnt, m0, b1]
          rw [if_pos (by decide)]
          simp only [m2, rdMax_e, rdSql_err]
        · rw [List.take_append, List.take_of_length_le hge2] at hd2
          have m2 := rdMax_uv h2 hd2
          have hd3 := drop_next hd2
          rcases Nat.lt_or_ge (d - (uvarint c).length) (uvarint q).length with hlt3 | hge3
          · have m3 := rdMax_cut h3 hlt3 hd3
            simp only [rdEnt, m0, b1]
            rw [if_pos (by decide)]
            simp only [m2, m3, rdSql_err]
          · rw [List.take_append, List.take_of_length_le hge3] at hd3
            have m3 := rdMax_uv h3 hd3
            have hd4 := drop_next hd3
            have hl : t.data.toList.length = t.size := bytes_length t
            have hlen : 0 + (uvarint te).length + 1 + (uvarint c).length + (uvarint q).length ≤ l.length := by
              rw [← hL]; simp [u1 1 (by decide)]; omega
            have s4 := sql_cut (rest := []) hsz hlen rfl (c := d - (uvarint c).length - (uvarint q).length) (by simp [hl] at hdl; omega) (by rw [List.append_nil]; exact hd4)
            simp only [rdEnt, m0, b1]
            rw [if_pos (by decide)]
            simp only [m2, m3, s4]
end Go.Proofs.YthphadbcebeoaaaGreatDoor
