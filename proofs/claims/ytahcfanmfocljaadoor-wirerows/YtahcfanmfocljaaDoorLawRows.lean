/- Rows and entries on byte lists; arguments; contracts; the walk of the statement WireRows: it answers true; nothing old turns. -/
import Derived.Test.YtahcfanmfocljaaDoorJoint
import Derived.Test.YtahcfanmfocljaaDoorRdMath2
import Derived.Test.YtahcfanmfocljaaDoorLenMath
import Derived.Test.YtahcfanmfocljaaDoorIntText
import Derived.Test.YtahcfanmfocljaaDoorLawWrites
import Derived.Test.YtahcfanmfocljaaDoorLawReads
namespace Go.Proofs.YtahcfanmfocljaaDoor
open Go.RowKit Go.Lib

theorem dec_cut : ∀ (x i acc c : Nat), c < (uvarint x).length → i + (uvarint x).length ≤ 10 → decFrom i acc ((uvarint x).take c) = (0, 0, 22, i + c) := by
  intro x
  induction x using Nat.strongRecOn with
  | _ x ih =>
    intro i acc c hc hi
    cases c with
    | zero => simp [decFrom]
    | succ c =>
      rcases Nat.lt_or_ge x 128 with h | h
      · rw [uvarint_small h] at hc; simp at hc
      · rw [uvarint_big h] at hc hi ⊢
        simp only [List.length_cons] at hc hi
        have hb : ((x % 128 + 128).toUInt8).toNat = x % 128 + 128 := toUInt8_toNat (by omega)
        rw [List.take_succ_cons, dec_more (by rw [hb]; omega) (by rw [hb]; omega), ih (x / 128) (by omega) (i + 1) _ c (by omega) (by omega)]
        congr 3; omega
theorem decU_cut {x c : Nat} (hx : x < 18446744073709551616) (hc : c < (uvarint x).length) : ∃ q, decU ((uvarint x).take c) = (0, 0, 22, q) :=
  ⟨_, dec_cut x 0 0 c hc (by have := uvarint_length64 hx; omega)⟩
theorem decU_short {x : Nat} {l : List UInt8} {c : Nat} (hx : x < 18446744073709551616) (hc : c < (uvarint x).length) : ∃ q, decU ((uvarint x ++ l).take c) = (0, 0, 22, q) := by
  rw [List.take_append_of_le_length (by omega)]; exact decU_cut hx hc
theorem text_empty {t : ByteArray} (h : t.toList = []) : t = ⟨#[]⟩ := by
  have h0 := isEmpty_size t (by rw [h]; rfl)
  apply ByteArray.ext
  apply Array.eq_empty_of_size_eq_zero
  exact h0

theorem val_back (g : GV) (hg : g.ok) (hm : g.may = true) (rest : List UInt8) : refVal (g.bytes ++ rest) = (g, g.bytes.length, 0) := by
  obtain ⟨k, n, t⟩ := g
  obtain ⟨h1, h2, h3⟩ := hg
  dsimp only at h1 h2 h3
  simp [GV.may] at hm
  rcases hm with ((⟨⟨rfl, rfl⟩, ht⟩ | ⟨⟨rfl, hn⟩, ht⟩) | ⟨rfl, ht⟩) | ⟨⟨⟨rfl, rfl⟩, hs⟩, hz⟩
  · obtain rfl := text_empty ht
    have e : GV.bytes ⟨0, 0, ⟨#[]⟩⟩ = [0] := by simp [GV.bytes, uvarint_small]
    rw [e]; rfl
  · obtain rfl := text_empty ht
    rcases hn with rfl | rfl
    · have e : GV.bytes ⟨1, 0, ⟨#[]⟩⟩ = [1, 0] := by simp [GV.bytes, uvarint_small]
      rw [e]; rfl
    · have e : GV.bytes ⟨1, 1, ⟨#[]⟩⟩ = [1, 1] := by simp [GV.bytes, uvarint_small]
      rw [e]; rfl
  · obtain rfl := text_empty ht
    have hzl := zigzag_lt h1 (by omega : n ≤ 9223372036854775807)
    have e : GV.bytes ⟨2, n, ⟨#[]⟩⟩ = 2 :: uvarint (zigzag n) := by simp [GV.bytes, uvarint_small]
    have hd := decU_uv (zigzag n) hzl rest
    rw [e]
    simp [refVal, hd, unzig_zigzag h1 h2]
    omega
  · have hs' : t.size < 128 := by omega
    have e : GV.bytes ⟨3, 0, t⟩ = 3 :: (t.size).toUInt8 :: t.data.toList := by simp [GV.bytes, uvarint_small, hs']
    have hb : ((t.size).toUInt8).toNat = t.size := toUInt8_toNat (by omega)
    have hl : t.data.toList.length = t.size := bytes_length t
    have htk : (t.data.toList ++ rest).take t.size = t.data.toList := by rw [← hl, List.take_left]
    have hz' : ¬ (0 ≤ indexByte t.data.toList 0) := by omega
    have h40 : ¬ (40 < t.size) := by omega
    rw [e]
    simp [refVal, hb, htk, hz', h40, hl]
    rw [if_neg (by omega), show 2 + t.size = t.size + 1 + 1 by omega]
theorem val_cut (g : GV) (hg : g.ok) (hm : g.may = true) (c : Nat) (hc : c < g.bytes.length) : (refVal (g.bytes.take c)).2.2 = 22 := by
  cases c with
  | zero => rfl
  | succ c =>
    obtain ⟨k, n, t⟩ := g
    obtain ⟨h1, h2, h3⟩ := hg
    dsimp only at h1 h2 h3
    simp [GV.may] at hm
    rcases hm with ((⟨⟨rfl, rfl⟩, ht⟩ | ⟨⟨rfl, hn⟩, ht⟩) | ⟨rfl, ht⟩) | ⟨⟨⟨rfl, rfl⟩, hs⟩, hz⟩
    · have e : GV.bytes ⟨0, 0, t⟩ = [0] := by simp [GV.bytes, uvarint_small]
      rw [e] at hc; simp at hc
    · have e : GV.bytes ⟨1, n, t⟩ = [1, n.toNat.toUInt8] := by
        have : n.toNat < 128 := by omega
        simp [GV.bytes, uvarint_small, this]
      rw [e] at hc ⊢
      have hc0 : c = 0 := by simp at hc; omega
      subst hc0
      rfl
    · have hzl := zigzag_lt h1 (by omega : n ≤ 9223372036854775807)
      have e : GV.bytes ⟨2, n, t⟩ = 2 :: uvarint (zigzag n) := by simp [GV.bytes, uvarint_small]
      rw [e] at hc ⊢
      simp at hc
      obtain ⟨q, hd⟩ := decU_cut hzl hc
      simp [refVal, hd]
    · have hs' : t.size < 128 := by omega
      have e : GV.bytes ⟨3, 0, t⟩ = 3 :: (t.size).toUInt8 :: t.data.toList := by simp [GV.bytes, uvarint_small, hs']
      have hb : ((t.size).toUInt8).toNat = t.size := toUInt8_toNat (by omega)
      have hl : t.data.toList.length = t.size := bytes_length t
      rw [e] at hc ⊢
      cases c with
      | zero => rfl
      | succ c =>
        simp only [List.length_cons, hl] at hc
        have h40 : ¬ (40 < t.size) := by omega
        have hi : ¬ (0 ≤ indexByte ((t.data.toList.take c).take t.size) 0) := by
          have hall := (indexByte_zero_iff t.data.toList).1 hz
          have := (indexByte_zero_iff ((t.data.toList.take c).take t.size)).2 (by
            intro i hi
            simp at hi
            have := hall i (by omega)
            simpa [List.getD_eq_getElem?_getD, List.getElem?_take, show i < t.size by omega, show i < c by omega] using this)
          omega
        have hlt : (t.data.toList.take c).length < t.size := by simp; omega
        simp only [List.take_succ_cons]
        simp [refVal, hb, h40, hi]
        rw [if_pos (by simp at hlt; omega)]

/-- Reading n and one more values, the first one first. -/
theorem rdVals_front (l : List UInt8) (a : Nat) : ∀ n, rdVals l (n + 1) (.ok a) =
    match (rdVal l (.ok a)).2 with
    | .error c => ([], .error c)
    | .ok b => match (rdVals l n (.ok b)).2 with
      | .error c => ([], .error c)
      | .ok d => ((rdVal l (.ok a)).1 :: (rdVals l n (.ok b)).1, .ok d)
  | 0 => by
    cases h : (rdVal l (.ok a)).2 with
    | error c => simp [rdVals, h]
    | ok b => simp [rdVals, h]
  | n + 1 => by
    have ih := rdVals_front l a n
    rw [rdVals, ih]
    cases h : (rdVal l (.ok a)).2 with
    | error c => simp
    | ok b =>
      simp only
      cases h2 : (rdVals l n (.ok b)).2 with
      | error c => simp [rdVals, h2]
      | ok d =>
        simp only [rdVals, h2]
        cases h3 : (rdVal l (.ok d)).2 with
        | error c => simp
        | ok e => simp
end Go.Proofs.YtahcfanmfocljaaDoor
namespace Go.Proofs.YtahcfanmfocljaaDoor
open Go.RowKit Go.Lib

def valsBytes (gs : List GV) : List UInt8 := gs.flatMap GV.bytes
theorem vals_back : ∀ (gs : List GV) (l rest : List UInt8) (a : Nat), (∀ g ∈ gs, g.ok ∧ g.may = true) → l.drop a = valsBytes gs ++ rest → rdVals l gs.length (.ok a) = (gs, .ok (a + (valsBytes gs).length))
  | [], l, rest, a, _, _ => rfl
  | g :: r, l, rest, a, h, hd => by
    obtain ⟨h1, h2⟩ := h g (by simp)
    have hd1 : l.drop a = g.bytes ++ (valsBytes r ++ rest) := by rw [hd]; simp [valsBytes]
    have hs := val_same l a
    rw [hd1, val_back g h1 h2] at hs
    have e1 := (hs.1 rfl).1
    dsimp only at e1
    have hd2 : l.drop (a + g.bytes.length) = valsBytes r ++ rest := by rw [← List.drop_drop, hd1, List.drop_left]
    have ih := vals_back r l rest (a + g.bytes.length) (fun x hx => h x (by simp [hx])) hd2
    rw [List.length_cons, rdVals_front, e1]
    simp only [ih]
    simp [valsBytes, Nat.add_assoc]
theorem vals_cut : ∀ (gs : List GV) (l : List UInt8) (a c : Nat), (∀ g ∈ gs, g.ok ∧ g.may = true) → l.drop a = (valsBytes gs).take c → c < (valsBytes gs).length → (rdVals l gs.length (.ok a)).2 = .error 22
  | [], l, a, c, _, _, hc => by simp [valsBytes] at hc
  | g :: r, l, a, c, h, hd, hc => by
    obtain ⟨h1, h2⟩ := h g (by simp)
    have eB : valsBytes (g :: r) = g.bytes ++ valsBytes r := by simp [valsBytes]
    rw [eB] at hd hc
    have hs := val_same l a
    rw [List.length_cons, rdVals_front]
    rcases Nat.lt_or_ge c g.bytes.length with hlt | hge
    · rw [List.take_append_of_le_length (by omega)] at hd
      rw [hd] at hs
      have e22 := val_cut g h1 h2 c hlt
      have e1 := hs.2 (by rw [e22]; decide)
      rw [e22] at e1
      rw [e1]
    · have hd1 : l.drop a = g.bytes ++ (valsBytes r).take (c - g.bytes.length) := by
        rw [hd, List.take_append, List.take_of_length_le hge]
      rw [hd1, val_back g h1 h2] at hs
      have e1 := (hs.1 rfl).1
      dsimp only at e1
      have hd2 : l.drop (a + g.bytes.length) = (valsBytes r).take (c - g.bytes.length) := by rw [← List.drop_drop, hd1, List.drop_left]
      have ih := vals_cut r l (a + g.bytes.length) (c - g.bytes.length) (fun x hx => h x (by simp [hx])) hd2 (by simp at hc; omega)
      rw [e1]
      simp only [ih]
theorem putVals_form : ∀ (gs : List GV) (l0 b : List UInt8), putVals gs (some l0) = some b → b = l0 ++ valsBytes gs ∧ ∀ g ∈ gs, g.may = true
  | [], l0, b, h => by
    have : some l0 = some b := h
    injection this with this
    exact ⟨by simp [valsBytes, this], by simp⟩
  | g :: r, l0, b, h => by
    have e : putVals (g :: r) (some l0) = putVals r (putVal g (some l0)) := rfl
    rw [e] at h
    cases hm : g.may with
    | false =>
      rw [putVal, if_neg (by simp [hm]), putVals_none] at h; cases h
    | true =>
      rw [putVal, if_pos hm] at h
      obtain ⟨e1, e2⟩ := putVals_form r _ b h
      refine ⟨by rw [e1]; simp [valsBytes], fun x hx => ?_⟩
      rcases List.mem_cons.1 hx with rfl | hx
      · exact hm
      · exact e2 x hx
theorem rowBytes_form {gs : List GV} {b : List UInt8} (h : rowBytes gs = some b) : b = gs.length.toUInt8 :: valsBytes gs ∧ gs.length ≤ 64 ∧ ∀ g ∈ gs, g.may = true := by
  unfold rowBytes at h
  by_cases h64 : gs.length ≤ 64
  · rw [putLen, if_pos (by omega)] at h
    obtain ⟨e1, e2⟩ := putVals_form gs _ b h
    refine ⟨?_, h64, e2⟩
    rw [e1, uvarint_small (by omega)]
    simp
  · rw [putVals_long (by omega)] at h; cases h
theorem row_back {gs : List GV} {b : List UInt8} (hg : ∀ g ∈ gs, g.ok) (h : rowBytes gs = some b) (rest : List UInt8) : rdRow (b ++ rest) (.ok 0) = (gs, .ok b.length) := by
  obtain ⟨rfl, h64, hm⟩ := rowBytes_form h
  have hb : (gs.length.toUInt8).toNat = gs.length := toUInt8_toNat (by omega)
  have h3 : rdBetween (gs.length.toUInt8 :: valsBytes gs ++ rest) 0 64 (.ok 0) = if (gs.length.toUInt8).toNat ≤ 64 then (((gs.length.toUInt8).toNat : Int), .ok (0 + 1)) else (0, .error 20) := rdB_small (hi := 64) (a := 0) (r := valsBytes gs ++ rest) (by decide) rfl
  rw [hb, if_pos h64] at h3
  have hv := vals_back gs (gs.length.toUInt8 :: valsBytes gs ++ rest) rest (0 + 1) (fun g hx => ⟨hg g hx, hm g hx⟩) rfl
  simp only [rdRow, h3, Int.toNat_natCast, hv]
  simp; omega
theorem row_cut {gs : List GV} {b : List UInt8} (hg : ∀ g ∈ gs, g.ok) (h : rowBytes gs = some b) (c : Nat) (hc : c < b.length) : (rdRow (b.take c) (.ok 0)).2 = .error 22 := by
  obtain ⟨rfl, h64, hm⟩ := rowBytes_form h
  have hb : (gs.length.toUInt8).toNat = gs.length := toUInt8_toNat (by omega)
  cases c with
  | zero =>
    have h3 : rdBetween [] 0 64 (.ok 0) = (0, .error 22) := rdB_nil (hi := 64) rfl
    simp [rdRow, h3]
  | succ c =>
    rw [List.take_succ_cons]
    have h3 : rdBetween (gs.length.toUInt8 :: (valsBytes gs).take c) 0 64 (.ok 0) = if (gs.length.toUInt8).toNat ≤ 64 then (((gs.length.toUInt8).toNat : Int), .ok (0 + 1)) else (0, .error 20) := rdB_small (hi := 64) (a := 0) (r := (valsBytes gs).take c) (by decide) rfl
    rw [hb, if_pos h64] at h3
    have hv := vals_cut gs (gs.length.toUInt8 :: (valsBytes gs).take c) (0 + 1) c (fun g hx => ⟨hg g hx, hm g hx⟩) rfl (by simpa using hc)
    simp only [rdRow, h3, Int.toNat_natCast, hv]
end Go.Proofs.YtahcfanmfocljaaDoor
namespace Go.Proofs.YtahcfanmfocljaaDoor
open Go.RowKit Go.Lib

theorem rdMax_uv {l rest : List UInt8} {a x : Nat} (hx : x < 18446744073709551616) (hd : l.drop a = uvarint x ++ rest) : rdMax l (.ok a) = (x, .ok (a + (uvarint x).length)) := by
  have := rdMax_ok (l := l) (a := a) (n := x) (k := (uvarint x).length) (c := 0) (q := 0) (by rw [hd, decU_uv x hx])
  simpa using this
theorem rdMax_cut {l rest : List UInt8} {a x c : Nat} (hx : x < 18446744073709551616) (hc : c < (uvarint x).length) (hd : l.drop a = (uvarint x ++ rest).take c) : rdMax l (.ok a) = (0, .error 22) := by
  obtain ⟨q, hq⟩ := decU_short (l := rest) hx hc
  have := rdMax_ok (l := l) (a := a) (n := 0) (k := 0) (c := 22) (q := q) (by rw [hd, hq])
  simpa using this
theorem two_small {x : Nat} (hx : x ≤ 2000) (rest : List UInt8) (c : Nat) : twoMore ((uvarint x ++ rest).take c) = false := by
  rcases Nat.lt_or_ge x 128 with h | h
  · rw [uvarint_small h]
    match c with
    | 0 => rfl
    | 1 => rfl
    | c + 2 =>
      have hb : (x.toUInt8).toNat = x := toUInt8_toNat (by omega)
      match rest with
      | [] => rfl
      | y :: r => simp [twoMore, hb]; omega
  · rw [uvarint_big h, uvarint_small (show x / 128 < 128 by omega)]
    have hb : ((x / 128).toUInt8).toNat = x / 128 := toUInt8_toNat (by omega)
    match c with
    | 0 => rfl
    | 1 => rfl
    | c + 2 => simp [twoMore, hb]; omega
theorem sql_back {l rest : List UInt8} {a : Nat} {t : ByteArray} (ht : t.size ≤ 2000) (ha : a ≤ l.length) (hd : l.drop a = uvarint t.size ++ (t.data.toList ++ rest)) : rdSql l (.ok a) = (t.data.toList, .ok (a + ((uvarint t.size).length + t.size))) := by
  have hs := rdSql_ok l a ha
  have hl : t.data.toList.length = t.size := bytes_length t
  have h2 : twoMore (l.drop a) = false := by
    have := two_small ht (t.data.toList ++ rest) (uvarint t.size ++ (t.data.toList ++ rest)).length
    rw [List.take_length] at this
    rw [hd]; exact this
  have hdec : decU (l.drop a) = (t.size, (uvarint t.size).length, 0, 0) := by rw [hd, decU_uv t.size (by omega)]
  have hlen : (l.drop a).length = (uvarint t.size).length + (t.size + rest.length) := by rw [hd]; simp [hl]
  have hx : refTxt (l.drop a) 2000 = (t.data.toList, (uvarint t.size).length + t.size, 0) := by
    unfold refTxt
    rw [hdec]
    simp only [if_true]
    rw [if_neg (by omega), if_neg (by rw [hlen]; omega), hd, List.drop_left, ← hl, List.take_left]
  rw [h2, if_neg (by decide), hx] at hs
  exact (hs.1 rfl).1
theorem sql_cut {l rest : List UInt8} {a c : Nat} {t : ByteArray} (ht : t.size ≤ 2000) (ha : a ≤ l.length) (hr : rest = []) (hc : c < (uvarint t.size).length + t.size) (hd : l.drop a = (uvarint t.size ++ (t.data.toList ++ rest)).take c) : (rdSql l (.ok a)).2 = .error 22 := by
  subst hr
  have hs := rdSql_ok l a ha
  have hl : t.data.toList.length = t.size := bytes_length t
  rw [hd, two_small ht, if_neg (by decide)] at hs
  have hx : (refTxt ((uvarint t.size ++ (t.data.toList ++ [])).take c) 2000).2.2 = 22 := by
    rcases Nat.lt_or_ge c (uvarint t.size).length with hlt | hge
    · obtain ⟨q, hq⟩ := decU_short (l := t.data.toList ++ []) (show t.size < 18446744073709551616 by omega) hlt
      simp only [refTxt, hq]
      simp
    · have e : (uvarint t.size ++ (t.data.toList ++ [])).take c = uvarint t.size ++ t.data.toList.take (c - (uvarint t.size).length) := by
        rw [List.append_nil, List.take_append, List.take_of_length_le hge]
      rw [e]
      have hq := decU_uv t.size (show t.size < 18446744073709551616 by omega) (t.data.toList.take (c - (uvarint t.size).length))
      simp only [refTxt, hq]
      have h1 : ¬ 2000 < t.size := by omega
      have h2 : (uvarint t.size ++ t.data.toList.take (c - (uvarint t.size).length)).length - (uvarint t.size).length < t.size := by simp; omega
      rw [if_neg h1, if_pos h2]
      rfl
  have := hs.2 (by rw [hx]; decide)
  rw [hx] at this
  exact this

theorem kind_one {l rest : List UInt8} {a k : Nat} (hk : k ≤ 1) (hd : l.drop a = uvarint k ++ rest) : rdBetween l 0 1 (.ok a) = ((k : Int), .ok (a + 1)) := by
  rw [uvarint_small (by omega)] at hd
  have hb : (k.toUInt8).toNat = k := toUInt8_toNat (by omega)
  have h3 : rdBetween l 0 1 (.ok a) = if (k.toUInt8).toNat ≤ 1 then (((k.toUInt8).toNat : Int), .ok (a + 1)) else (0, .error 20) := rdB_small (hi := 1) (by decide) hd
  rw [hb, if_pos hk] at h3
  exact h3
theorem drop_next {l p q : List UInt8} {a : Nat} (h : l.drop a = p ++ q) : l.drop (a + p.length) = q := by rw [← List.drop_drop, h, List.drop_left]
theorem ent_may {g : GE} (hm : g.may = true) : (g = ⟨g.term, 0, 0, 0, ⟨#[]⟩⟩ ∨ g.kind = 1) ∧ g.sql.size ≤ 2000 := by
  obtain ⟨te, k, c, q, t⟩ := g
  simp [GE.may] at hm
  refine ⟨?_, hm.2⟩
  rcases hm.1 with ⟨⟨⟨rfl, rfl⟩, rfl⟩, ht⟩ | rfl
  · obtain rfl := text_empty ht
    exact .inl rfl
  · exact .inr rfl
theorem ent_back (g : GE) (hg : g.ok) (hm : g.may = true) (rest : List UInt8) : rdEnt (g.bytes ++ rest) (.ok 0) = (g, .ok g.bytes.length) := by
  obtain ⟨hk, hsz⟩ := ent_may hm
  obtain ⟨h1, h2, h3, h4⟩ := hg
  rcases hk with hk | hk
  · have eb : g.bytes = uvarint g.term ++ uvarint 0 := by rw [hk]; simp [GE.bytes]
    rw [eb]
    have hd0 : (uvarint g.term ++ uvarint 0 ++ rest).drop 0 = uvarint g.term ++ (uvarint 0 ++ rest) := by simp
    have m0 := rdMax_uv h1 hd0
    have b1 := kind_one (k := 0) (by decide) (drop_next hd0)
    have u0 : (uvarint 0).length = 1 := by rw [uvarint_small (by decide)]; rfl
    simp only [rdEnt, m0, b1]
    rw [if_neg (by decide)]
    rw [hk]
    simp [u0]
  · obtain ⟨te, k, c, q, t⟩ := g
    dsimp only at hk h1 h2 h3 h4 hsz
    subst hk
    have eb : GE.bytes ⟨te, 1, c, q, t⟩ = uvarint te ++ (uvarint 1 ++ (uvarint c ++ (uvarint q ++ (uvarint t.size ++ t.data.toList)))) := by simp [GE.bytes]
    have u1 : (uvarint 1).length = 1 := by rw [uvarint_small (by decide)]; rfl
    have hl : t.data.toList.length = t.size := bytes_length t
    rw [eb]
    generalize hL : uvarint te ++ (uvarint 1 ++ (uvarint c ++ (uvarint q ++ (uvarint t.size ++ t.data.toList)))) ++ rest = l
    have hd0 : l.drop 0 = uvarint te ++ (uvarint 1 ++ (uvarint c ++ (uvarint q ++ (uvarint t.size ++ (t.data.toList ++ rest))))) := by rw [← hL]; simp
    have hd1 := drop_next hd0
    have hd2 := drop_next hd1
    have hd3 := drop_next hd2
    have hd4 := drop_next hd3
    rw [u1] at hd2 hd3 hd4
    have m0 := rdMax_uv h1 hd0
    have b1 := kind_one (k := 1) (by decide) hd1
    have m2 := rdMax_uv h2 hd2
    have m3 := rdMax_uv h3 hd3
    have hlen : 0 + (uvarint te).length + 1 + (uvarint c).length + (uvarint q).length ≤ l.length := by rw [← hL]; simp [u1]; omega
    have s4 := sql_back hsz hlen hd4
    simp only [rdEnt, m0, b1]
    rw [if_pos (by decide)]
    simp only [m2, m3, s4]
    simp [u1, hl]
    omega
theorem rdMax_e (l : List UInt8) (c : Nat) : rdMax l (.error c) = (0, .error c) := rfl
theorem ent_cut (g : GE) (hg : g.ok) (hm : g.may = true) (c' : Nat) (hc : c' < g.bytes.length) : (rdEnt (g.bytes.take c') (.ok 0)).2 = .error 22 := by
  obtain ⟨hk, hsz⟩ := ent_may hm
  obtain ⟨h1, h2, h3, h4⟩ := hg
  obtain ⟨te, k, c, q, t⟩ := g
  dsimp only at hk h1 h2 h3 h4 hsz
  have u1 : ∀ k, k ≤ 1 → (uvarint k).length = 1 := fun k hk => by rw [uvarint_small (by omega)]; rfl
  obtain ⟨X, eb, hX⟩ : ∃ X, GE.bytes ⟨te, k, c, q, t⟩ = uvarint te ++ (uvarint k.toNat ++ X) ∧ (k = 0 ∧ X = [] ∨ k = 1 ∧ X = uvarint c ++ (uvarint q ++ (uvarint t.size ++ t.data.toList))) := by
    rcases hk with hk | rfl
    · injection hk with _ hk0 _ _ _
      subst hk0
      exact ⟨[], by simp [GE.bytes], .inl ⟨rfl, rfl⟩⟩
    · exact ⟨uvarint c ++ (uvarint q ++ (uvarint t.size ++ t.data.toList)), by simp [GE.bytes], .inr ⟨rfl, rfl⟩⟩
  rw [eb] at hc ⊢
  generalize hL : (uvarint te ++ (uvarint k.toNat ++ X)).take c' = l
  have hd0 : l.drop 0 = (uvarint te ++ (uvarint k.toNat ++ X)).take c' := by rw [← hL]; rfl
  rcases Nat.lt_or_ge c' (uvarint te).length with hlt | hge
  · have m0 := rdMax_cut h1 hlt hd0
    simp [rdEnt, m0, rdB_err]
  · rw [List.take_append, List.take_of_length_le hge] at hd0
    have m0 := rdMax_uv h1 hd0
    have hd1 := drop_next hd0
    have hk01 : k.toNat ≤ 1 := by rcases hX with ⟨rfl, _⟩ | ⟨rfl, _⟩ <;> decide
    rcases Nat.lt_or_ge (c' - (uvarint te).length) 1 with hlt1 | hge1
    · have e0 : c' - (uvarint te).length = 0 := by omega
      rw [e0, List.take_zero] at hd1
      have b1 : rdBetween l 0 1 (.ok (0 + (uvarint te).length)) = (0, .error 22) := rdB_nil (hi := 1) hd1
      simp only [rdEnt, m0, b1]
      rw [if_neg (by decide)]
    · rw [List.take_append, List.take_of_length_le (by rw [u1 _ hk01]; omega), u1 _ hk01] at hd1
      have b1 := kind_one hk01 hd1
      rcases hX with ⟨rfl, rfl⟩ | ⟨rfl, rfl⟩
      · simp [u1 0 (by decide)] at hc; omega
      · have hd2 := drop_next hd1
        rw [u1 _ hk01] at hd2
        generalize hD : c' - (uvarint te).length - 1 = d at hd2
        have hdl : d < (uvarint c ++ (uvarint q ++ (uvarint t.size ++ t.data.toList))).length := by
          simp [u1 1 (by decide)] at hc ⊢; omega
        rcases Nat.lt_or_ge d (uvarint c).length with hlt2 | hge2
        · have m2 := rdMax_cut h2 hlt2 hd2
          simp only [rdEnt, m0, b1]
          rw [if_pos (by decide)]
          simp only [m2, rdMax_e, rdSql_err]
        · rw [List.take_append, List.take_of_length_le hge2] at hd2
          have m2 := rdMax_uv h2 hd2
          have hd3 := drop_next hd2
          rcases Nat.lt_or_ge (d - (uvarint c).length) (uvarint q).length with hlt3 | hge3
          · have m3 := rdMax_cut h3 hlt3 hd3
            simp only [rdEnt, m0, b1]
            rw [if_pos (by decide)]
            simp only [m2, m3, rdSql_err]
          · rw [List.take_append, List.take_of_length_le hge3] at hd3
            have m3 := rdMax_uv h3 hd3
            have hd4 := drop_next hd3
            have hl : t.data.toList.length = t.size := bytes_length t
            have hlen : 0 + (uvarint te).length + 1 + (uvarint c).length + (uvarint q).length ≤ l.length := by
              rw [← hL]; simp [u1 1 (by decide)]; omega
            have s4 := sql_cut (rest := []) hsz hlen rfl (c := d - (uvarint c).length - (uvarint q).length) (by simp [hl] at hdl; omega) (by rw [List.append_nil]; exact hd4)
            simp only [rdEnt, m0, b1]
            rw [if_pos (by decide)]
            simp only [m2, m3, s4]
end Go.Proofs.YtahcfanmfocljaaDoor
namespace Go.Proofs.YtahcfanmfocljaaDoor
open Go.ChangeShapes Go.WideShapes Go.ChangeAt Go.RowKit Go.Lib

/-- A row of values, whatever its length; an empty one may lie anywhere. -/
def RVe (w : World) (B : Nat) (v : Value) (gs : List GV) : Prop := RVu w B v gs ∨ (gs = [] ∧ ∃ a cap, v = .slice (some a) 0 cap)
theorem RVe.later {w w' : World} {B B' : Nat} {v : Value} {gs : List GV} (h : RVe w B v gs) (hb : Below B w w') (hB : B ≤ B') : RVe w' B' v gs := by
  rcases h with h | h
  · exact .inl (h.later hb hB)
  · exact .inr h
/-- A row of rows. -/
def RRs (w : World) (B : Nat) (v : Value) (rs : List (Value × List GV)) : Prop :=
  rs.length ≤ maxLen ∧ (∀ x ∈ rs, RVe w B x.1 x.2) ∧ ((v = .slice none 0 0 ∧ rs = []) ∨
    ∃ b off cap, b < B ∧ v = .slice (some ⟨b, off, none⟩) rs.length cap ∧ ∀ i x, rs[i]? = some x → w.cell? ⟨b, off + i, none⟩ = some x.1)
/-- A row of entries. -/
def REs (w : World) (B : Nat) (v : Value) (es : List GE) : Prop :=
  es.length ≤ maxLen ∧ (∀ g ∈ es, g.ok) ∧ ((v = .slice none 0 0 ∧ es = []) ∨
    ∃ b off cap, b < B ∧ v = .slice (some ⟨b, off, none⟩) es.length cap ∧ ∀ i g, es[i]? = some g → w.cell? ⟨b, off + i * 5, none⟩ = some (.int .u64 g.term) ∧ w.cell? ⟨b, off + i * 5 + 1, none⟩ = some (.int .i64 g.kind) ∧ w.cell? ⟨b, off + i * 5 + 2, none⟩ = some (.int .u64 g.client) ∧ w.cell? ⟨b, off + i * 5 + 3, none⟩ = some (.int .u64 g.seq) ∧ w.cell? ⟨b, off + i * 5 + 4, none⟩ = some (.string g.sql))

theorem Tryd.cells45 : Tryd.prog.cellsOf 45 = 1 := by kernel_rfl
section
variable {H : Type} {enc : TypeId × Value → H} {W : World} {base : Nat} {sp : Nat → Bool} {hd : Bool}

theorem vals_cells {fuel : Nat} {cs : List Value} {x : DataW H × List MemPlace} (h : DataW.trod enc Tryd.prog W base sp hd fuel 45 cs = some x) :
    ∃ v gs, cs = [v] ∧ RVe W W.heap.size v gs := by
  rcases DataW.trod_slice Tryd.underlying45 h with ⟨hcs, _⟩ | ⟨y, len, cap, elems, rest, n, _, hcs, _, hb, hl, hm, hlen, hel, _⟩
  · exact ⟨_, [], hcs, .inl ⟨Nat.zero_le _, fun g hg => (by cases hg), .inl ⟨rfl, rfl⟩⟩⟩
  · refine ⟨.slice (some y) len cap, ?_⟩
    rw [Tryd.cells81] at hel
    cases len with
    | zero => exact ⟨[], hcs, .inr ⟨rfl, y, cap, rfl⟩⟩
    | succ len =>
      have first : ∃ g : GV, W.cell? y = some (.int .i64 g.kind) := by
        have he := hel 0 (by omega)
        rw [List.getElem?_eq_getElem (by omega), Option.bind_eq_some_iff] at he
        obtain ⟨cs', hc, ht⟩ := he
        obtain ⟨g, _, rfl⟩ := val_in ht
        obtain ⟨_, _, hcell⟩ := World.cells?_some hc
        have c0 := hcell 0 (by omega)
        exact ⟨g, by simpa [Addr.add] using c0⟩
      obtain ⟨g0, hy⟩ := first
      have hspot := World.cell?_spot hy
      have hblk : y.block < W.heap.size := lt_of_cell hy
      obtain ⟨b, off, spot⟩ := y
      dsimp only at hspot hblk
      subst hspot
      have each : ∀ i, i < len + 1 → ∃ g : GV, g.ok ∧ W.cell? ⟨b, off + i * 3, none⟩ = some (.int .i64 g.kind) ∧ W.cell? ⟨b, off + i * 3 + 1, none⟩ = some (.int .i64 g.int) ∧ W.cell? ⟨b, off + i * 3 + 2, none⟩ = some (.string g.text) := by
        intro i hi
        have he := hel i hi
        rw [List.getElem?_eq_getElem (by omega), Option.bind_eq_some_iff] at he
        obtain ⟨cs', hc, ht⟩ := he
        obtain ⟨g, hg, rfl⟩ := val_in ht
        obtain ⟨_, _, hcell⟩ := World.cells?_some hc
        rw [Go.WideShapes.add_plain] at hcell
        have c0 := hcell 0 (by omega)
        have c1 := hcell 1 (by omega)
        have c2 := hcell 2 (by omega)
        rw [Go.WideShapes.add_plain] at c0 c1 c2
        exact ⟨g, hg, by simpa using c0, by simpa using c1, by simpa using c2⟩
      obtain ⟨gs, hgl, hgs⟩ := list_of _ (len + 1) each
      refine ⟨gs, hcs, .inl ⟨by omega, fun g hg => ?_, .inr ⟨b, off, cap, hblk, by rw [hgl], fun i g hg => (hgs i g hg).2⟩⟩⟩
      obtain ⟨i, hi⟩ := List.mem_iff_getElem?.1 hg
      exact (hgs i g hi).1

set_option maxRecDepth 100000 in
theorem rows_addr {b0 : Nat} {a : Addr} {len cap : Nat} (h : Value.okWide Tryd.prog W .any b0 76 (.slice (some a) len cap)) : a.spot = none ∧ a.block < W.heap.size := by
  simp only [Value.okWide, Tryd.underlying76, Cell.okWide, Cell.ok] at h
  obtain ⟨_, _, _, h2, row, cells, h3, _⟩ := h
  refine ⟨h2, ?_⟩
  rcases Nat.lt_or_ge a.block W.heap.size with h' | h'
  · exact h'
  · simp [World.shape?, Array.getElem?_eq_none h'] at h3
set_option maxRecDepth 100000 in
theorem ents_addr {b0 : Nat} {a : Addr} {len cap : Nat} (h : Value.okWide Tryd.prog W .any b0 77 (.slice (some a) len cap)) : a.spot = none ∧ a.block < W.heap.size := by
  simp only [Value.okWide, Tryd.underlying77, Cell.okWide, Cell.ok] at h
  obtain ⟨_, _, _, h2, row, cells, h3, _⟩ := h
  refine ⟨h2, ?_⟩
  rcases Nat.lt_or_ge a.block W.heap.size with h' | h'
  · exact h'
  · simp [World.shape?, Array.getElem?_eq_none h'] at h3
set_option maxRecDepth 100000 in
theorem rows_in {b0 : Nat} {a : Option Addr} {len cap : Nat} {d : DataW H} {ps : List MemPlace}
    (hv : Value.okWide Tryd.prog W .any b0 76 (.slice a len cap)) (hT : DataW.Trod enc Tryd.prog W base sp hd 76 (.slice a len cap) d ps) :
    ∃ rs, rs.length = len ∧ RRs W W.heap.size (.slice a len cap) rs := by
  obtain ⟨fuel, hf⟩ := hT
  rcases DataW.trod_slice Tryd.underlying76 hf with ⟨hcs, _⟩ | ⟨x, l, c, elems, rest, n, _, hcs, _, hb, hl, hm, hlen, hel, _⟩
  · simp [Value.cells] at hcs
    obtain ⟨rfl, rfl, rfl⟩ := hcs
    exact ⟨[], rfl, Nat.zero_le _, fun g hg => (by cases hg), .inl ⟨rfl, rfl⟩⟩
  · simp [Value.cells] at hcs
    obtain ⟨rfl, rfl, rfl⟩ := hcs
    obtain ⟨hs, hblk⟩ := rows_addr hv
    obtain ⟨b, off, spot⟩ := x
    simp only at hs
    subst hs
    rw [Tryd.cells45] at hel
    have each : ∀ i, i < len → ∃ x : Value × List GV, RVe W W.heap.size x.1 x.2 ∧ W.cell? ⟨b, off + i, none⟩ = some x.1 := by
      intro i hi
      have he := hel i hi
      rw [List.getElem?_eq_getElem (by omega), Option.bind_eq_some_iff] at he
      obtain ⟨cs, hc, ht⟩ := he
      obtain ⟨v, gs, rfl, hr⟩ := vals_cells ht
      obtain ⟨_, _, hcell⟩ := World.cells?_some hc
      rw [Go.WideShapes.add_plain] at hcell
      have c0 := hcell 0 (by omega)
      rw [Go.WideShapes.add_plain] at c0
      exact ⟨(v, gs), hr, by simpa using c0⟩
    obtain ⟨rs, hgl, hgs⟩ := list_of _ len each
    refine ⟨rs, hgl, by omega, fun g hg => ?_, .inr ⟨b, off, cap, hblk, by rw [hgl], fun i g hg => (hgs i g hg).2⟩⟩
    obtain ⟨i, hi⟩ := List.mem_iff_getElem?.1 hg
    exact (hgs i g hi).1
theorem list5 {α : Type} {cs : List α} (h : cs.length = 5) : ∃ a b c d e, cs = [a, b, c, d, e] := by
  match cs, h with
  | [a, b, c, d, e], _ => exact ⟨a, b, c, d, e, rfl⟩
set_option maxRecDepth 100000 in
theorem ent_cells {fuel : Nat} {cs : List Value} {x : DataW H × List MemPlace} (h : DataW.trod enc Tryd.prog W base sp hd fuel 52 cs = some x) :
    ∃ g : GE, g.ok ∧ cs = [.int .u64 g.term, .int .i64 g.kind, .int .u64 g.client, .int .u64 g.seq, .string g.sql] := by
  obtain ⟨y0, y1, y2, y3, y4, n, hl, h0, h1, h2, h3, h4⟩ := trod_struct5 Tryd.underlying52 h
  rw [Tryd.cells52] at hl
  obtain ⟨a, b, c, e, s, rfl⟩ := list5 hl
  simp [Tryd.cells9, Tryd.cells22, Tryd.cells3] at h0 h1 h2 h3 h4
  obtain ⟨te, e0, _, w0⟩ := DataW.trod_int Tryd.underlying22 h0
  obtain ⟨k, e1, _, _⟩ := DataW.trod_int Tryd.underlying3 h1
  obtain ⟨cl, e2, _, w2⟩ := DataW.trod_int Tryd.underlying22 h2
  obtain ⟨q, e3, _, w3⟩ := DataW.trod_int Tryd.underlying22 h3
  obtain ⟨t, e4, _, w4⟩ := DataW.trod_string Tryd.underlying9 h4
  simp at e0 e1 e2 e3 e4
  subst e0 e1 e2 e3 e4
  have b0 := bounds_u64 w0
  have b2 := bounds_u64 w2
  have b3 := bounds_u64 w3
  obtain ⟨te, rfl⟩ := Int.eq_ofNat_of_zero_le b0.1
  obtain ⟨cl, rfl⟩ := Int.eq_ofNat_of_zero_le b2.1
  obtain ⟨q, rfl⟩ := Int.eq_ofNat_of_zero_le b3.1
  exact ⟨⟨te, k, cl, q, t⟩, ⟨by dsimp only; omega, by dsimp only; omega, by dsimp only; omega, w4⟩, rfl⟩
set_option maxRecDepth 100000 in
theorem ents_in {b0 : Nat} {a : Option Addr} {len cap : Nat} {d : DataW H} {ps : List MemPlace}
    (hv : Value.okWide Tryd.prog W .any b0 77 (.slice a len cap)) (hT : DataW.Trod enc Tryd.prog W base sp hd 77 (.slice a len cap) d ps) :
    ∃ es, es.length = len ∧ REs W W.heap.size (.slice a len cap) es := by
  obtain ⟨fuel, hf⟩ := hT
  rcases DataW.trod_slice Tryd.underlying77 hf with ⟨hcs, _⟩ | ⟨x, l, c, elems, rest, n, _, hcs, _, hb, hl, hm, hlen, hel, _⟩
  · simp [Value.cells] at hcs
    obtain ⟨rfl, rfl, rfl⟩ := hcs
    exact ⟨[], rfl, Nat.zero_le _, fun g hg => (by cases hg), .inl ⟨rfl, rfl⟩⟩
  · simp [Value.cells] at hcs
    obtain ⟨rfl, rfl, rfl⟩ := hcs
    obtain ⟨hs, hblk⟩ := ents_addr hv
    obtain ⟨b, off, spot⟩ := x
    simp only at hs
    subst hs
    rw [Tryd.cells52] at hel
    have each : ∀ i, i < len → ∃ g : GE, g.ok ∧ W.cell? ⟨b, off + i * 5, none⟩ = some (.int .u64 g.term) ∧ W.cell? ⟨b, off + i * 5 + 1, none⟩ = some (.int .i64 g.kind) ∧ W.cell? ⟨b, off + i * 5 + 2, none⟩ = some (.int .u64 g.client) ∧ W.cell? ⟨b, off + i * 5 + 3, none⟩ = some (.int .u64 g.seq) ∧ W.cell? ⟨b, off + i * 5 + 4, none⟩ = some (.string g.sql) := by
      intro i hi
      have he := hel i hi
      rw [List.getElem?_eq_getElem (by omega), Option.bind_eq_some_iff] at he
      obtain ⟨cs, hc, ht⟩ := he
      obtain ⟨g, hg, rfl⟩ := ent_cells ht
      obtain ⟨_, _, hcell⟩ := World.cells?_some hc
      rw [Go.WideShapes.add_plain] at hcell
      have c0 := hcell 0 (by omega)
      have c1 := hcell 1 (by omega)
      have c2 := hcell 2 (by omega)
      have c3 := hcell 3 (by omega)
      have c4 := hcell 4 (by omega)
      rw [Go.WideShapes.add_plain] at c0 c1 c2 c3 c4
      exact ⟨g, hg, by simpa using c0, by simpa using c1, by simpa using c2, by simpa using c3, by simpa using c4⟩
    obtain ⟨es, hgl, hgs⟩ := list_of _ len each
    refine ⟨es, hgl, by omega, fun g hg => ?_, .inr ⟨b, off, cap, hblk, by rw [hgl], fun i g hg => (hgs i g hg).2⟩⟩
    obtain ⟨i, hi⟩ := List.mem_iff_getElem?.1 hg
    exact (hgs i g hi).1
end
end Go.Proofs.YtahcfanmfocljaaDoor
namespace Go.Proofs.YtahcfanmfocljaaDoor
open Go.RowKit Go.Lib

set_option maxHeartbeats 1600000 in
theorem wlist_empty (p : Nat) (ad : Addr) (cap : Nat) (s : Option (List UInt8)) (w : World) (hw : WS w p s) (hl : ∀ l, s = some l → l.length ≤ 1000000) :
    Calls Tryd.prog 71 #[.pointer (some ⟨p, 0, none⟩), .slice (some ad) 0 cap, .int .i64 64, .func (.func 72) #[.pointer (some ⟨p, 0, none⟩)] #[]] w fun e w' =>
      e = .returned (.tuple #[]) ∧ WS w' p (putVals [] (putLen 0 64 s)) ∧ Fr 5 p w w' := by
  have HB := hide (wbetween_any p 0 0 64 s w (by omega) (by omega) (by omega) hw (fun l h => by have := hl l h; omega))
  clear hw hl
  go_enter Tryd.func71, Tryd.ntmps71
  go_wp2_with (first | (go_at_call 76; refine (unhide HB).mono ?_; rintro e w1 ⟨rfl, hw1, hf1⟩))
  clear HB
  refine wp_loop_rounds 1 ?_
  rw [rounds_succ]
  go_wp2
  first | go_end0 | refine bodyPost_ret (results_none rfl _ _ _) rfl ?_
  exact ⟨rfl, by simpa [putVals, putLen] using hw1, hf1⟩
set_option maxHeartbeats 1600000 in
theorem wrow_empty (p : Nat) (ad : Addr) (cap : Nat) (s : Option (List UInt8)) (w : World) (hw : WS w p s) (hl : ∀ l, s = some l → l.length ≤ 1000000) :
    Calls Tryd.prog 54 #[.pointer (some ⟨p, 0, none⟩), .slice (some ad) 0 cap] w fun e w' =>
      e = .returned (.tuple #[]) ∧ WS w' p (putVals [] (putLen 0 64 s)) ∧ Fr 5 p w w' := by
  have hmf : ∀ (fn : Fn) (first cap : Array Value) (w : World), (Instr.makeFunc fn first cap).run Tryd.prog w = .ok (.func fn first cap) w := fun _ _ _ _ => rfl
  have HL := hide (wlist_empty p ad cap s w hw hl)
  clear hw hl
  go_enter Tryd.func54, Tryd.ntmps54
  go_wp2_with (first | (go_at_call 71; refine (unhide HL).mono ?_; rintro e w1 ⟨rfl, hw1, hf1⟩))
  first | go_end0 | refine bodyPost_ret (results_none rfl _ _ _) rfl ?_
  exact ⟨rfl, hw1, hf1⟩
set_option maxHeartbeats 1600000 in
theorem putRow_empty (ad : Addr) (cap : Nat) (w : World) : Calls Tryd.prog 32 #[.slice (some ad) 0 cap] w fun e w' => DonePost (rowBytes []) w.heap.size w e w' := by
  have HR := hide (wrow_empty w.heap.size ad cap (some []) _ (WS.new w) (by intro l h; injection h with h; subst h; simp))
  have HB := hide ((Below.refl w.heap.size w).alloc (Nat.le_refl _) (.cells #[.slice none 0 0, .nilIface] 101))
  have e : rowBytes [] = some (uvarint 0) := rfl
  have e2 : putVals [] (putLen 0 64 (some [])) = some (uvarint 0) := rfl
  rw [e]
  rw [e2] at HR
  generalize uvarint 0 = l at *
  go_enter Tryd.func32, Tryd.ntmps32
  go_wp2_with (first | (go_at_call 54; refine (unhide HR).mono ?_; rintro e w1 ⟨rfl, hw1, hf1⟩) | (go_at_call 55; refine (wdone_any w.heap.size (some l) _ hw1).mono ?_; rintro e w2 ⟨a, k, rfl, ho, hb2⟩))
  go_ret2
  exact ⟨a, k, rfl, own_weaker (by omega) ho, ((unhide HB).trans hf1.1).trans (hb2.mono (by omega))⟩
theorem putRow_e (v : Value) (gs : List GV) (w : World) (hv : RVe w w.heap.size v gs) (hl : gs.length ≤ 70) : Calls Tryd.prog 32 #[v] w fun e w' => DonePost (rowBytes gs) w.heap.size w e w' := by
  rcases hv with h | ⟨rfl, a, cap, rfl⟩
  · exact putRow_any v gs w (h.rv (by omega))
  · exact putRow_empty a cap w

/-- A Boolean that, if true, bounds a length. -/
def UpTo (n most : Nat) (e : Ending) : Prop := ∃ m, e = .returned (.bool m) ∧ (m = true → n ≤ most)
set_option maxHeartbeats 1600000 in
theorem few_70 (v : Value) (gs : List GV) (w : World) (hv : RVe w w.heap.size v gs) :
    Calls Tryd.prog 31 #[v, .int .i64 70] w fun e w' => UpTo gs.length 70 e ∧ w' = w := by
  have empty : ∀ ad cap, Calls Tryd.prog 31 #[.slice ad 0 cap, .int .i64 70] w fun e w' => UpTo 0 70 e ∧ w' = w := by
    intro ad cap
    go_enter Tryd.func31, Tryd.ntmps31
    go_wp2
    refine wp_loop_rounds 1 ?_
    rw [rounds_succ]
    go_wp2
    go_ret
    exact ⟨⟨_, rfl, fun _ => Nat.zero_le _⟩, rfl⟩
  rcases hv with hv | ⟨rfl, a, cap, rfl⟩
  · obtain ⟨h1, h2, ⟨rfl, rfl⟩ | ⟨b, off, cap, hb, rfl, hc⟩⟩ := hv
    · exact empty none 0
    · have HC := hide hc
      have HO := hide h2
      have h1' : (gs.length : Int) ≤ 9223372036854775807 := by unfold maxLen at h1; omega
      clear hc h2 h1 empty
      go_enter Tryd.func31, Tryd.ntmps31
      go_wp2
      go_loop [5] (fun i => ∃ k : Nat, k ≤ gs.length ∧ i = .int .i64 k) (fun i => gs.length - (intOf i).toNat)
      case atStart => exact ⟨0, by omega, rfl⟩
      case round =>
        obtain ⟨k, hk, rfl⟩ := hrel
        by_cases hlt : k < gs.length
        · obtain ⟨g, hgk⟩ : ∃ g, gs[k]? = some g := ⟨gs[k], List.getElem?_eq_getElem hlt⟩
          obtain ⟨c0, c1, c2⟩ := unhide HC k g hgk
          have hgo := unhide HO g (List.mem_of_getElem? hgk)
          have hsz : (g.text.size : Int) ≤ 9223372036854775807 := by have := hgo.2.2; unfold maxLen at this; omega
          clear HC HO hgk hgo c0 c1
          by_cases h100 : (100 : Int) < (g.text.size : Int)
          · go_wp2
            go_ret
            exact ⟨⟨false, rfl, fun h => by cases h⟩, rfl⟩
          · go_wp2
            go_round
            case rel => exact ⟨k + 1, by omega, by go_num⟩
            case measure => simp [intOf]; omega
        · clear HC HO
          go_wp2
          go_ret
          exact ⟨⟨_, rfl, fun h => by have := of_decide_eq_true h; omega⟩, rfl⟩
  · exact empty (some a) cap
set_option maxHeartbeats 1600000 in
theorem small_12 (v : Value) (es : List GE) (w : World) (hv : REs w w.heap.size v es) :
    Calls Tryd.prog 40 #[v, .int .i64 12] w fun e w' => UpTo es.length 12 e ∧ w' = w := by
  obtain ⟨h1, h2, ⟨rfl, rfl⟩ | ⟨b, off, cap, hb, rfl, hc⟩⟩ := hv
  · go_enter Tryd.func40, Tryd.ntmps40
    go_wp2
    refine wp_loop_rounds 1 ?_
    rw [rounds_succ]
    go_wp2
    go_ret
    exact ⟨⟨_, rfl, fun _ => Nat.zero_le _⟩, rfl⟩
  · have HC := hide hc
    have HO := hide h2
    have h1' : (es.length : Int) ≤ 9223372036854775807 := by unfold maxLen at h1; omega
    clear hc h2 h1
    go_enter Tryd.func40, Tryd.ntmps40
    go_wp2
    go_loop [5] (fun i => ∃ k : Nat, k ≤ es.length ∧ i = .int .i64 k) (fun i => es.length - (intOf i).toNat)
    case atStart => exact ⟨0, by omega, rfl⟩
    case round =>
      obtain ⟨k, hk, rfl⟩ := hrel
      by_cases hlt : k < es.length
      · obtain ⟨g, hgk⟩ : ∃ g, es[k]? = some g := ⟨es[k], List.getElem?_eq_getElem hlt⟩
        obtain ⟨c0, c1, c2, c3, c4⟩ := unhide HC k g hgk
        have hgo := unhide HO g (List.mem_of_getElem? hgk)
        have hsz : (g.sql.size : Int) ≤ 9223372036854775807 := by have := hgo.2.2.2; unfold maxLen at this; omega
        clear HC HO hgk hgo c0 c1 c2 c3
        by_cases h100 : (2100 : Int) < (g.sql.size : Int)
        · go_wp2
          go_ret
          exact ⟨⟨false, rfl, fun h => by cases h⟩, rfl⟩
        · go_wp2
          go_round
          case rel => exact ⟨k + 1, by omega, by go_num⟩
          case measure => simp [intOf]; omega
      · clear HC HO
        go_wp2
        go_ret
        exact ⟨⟨_, rfl, fun h => by have := of_decide_eq_true h; omega⟩, rfl⟩

theorem row_good (v : Value) (l : List UInt8) (gs : List GV) (k : Nat) (w : World) (hE : ET w) (hv : RBp w w.heap.size v l) (h : rdRow l (.ok 0) = (gs, .ok k)) :
    Calls Tryd.prog 24 #[v] w fun e w' => ∃ x, e = .returned (.tuple #[x, .int .i64 (k : Int), .nilIface]) ∧ RW w' x gs ∧ Below w.heap.size w w' := by
  refine (row_any v l w hE hv).mono fun e w' hp => ?_
  rw [h] at hp
  obtain ⟨x, rfl, ho, hb⟩ := hp
  exact ⟨x, rfl, own_rw ho, hb⟩
theorem row_short (v : Value) (l : List UInt8) (w : World) (hE : ET w) (hv : RBp w w.heap.size v l) (h : (rdRow l (.ok 0)).2 = .error 22) :
    Calls Tryd.prog 24 #[v] w fun e w' => ∃ x y b pl, e = .returned (.tuple #[x, y, ev b]) ∧ ErrAt w' b pl 22 ∧ Below w.heap.size w w' := by
  refine (row_any v l w hE hv).mono fun e w' hp => ?_
  unfold RowPost at hp
  rw [h] at hp
  obtain ⟨b, pl, rfl, he, _, hb⟩ := hp
  exact ⟨_, _, b, pl, rfl, he, hb⟩
theorem entry_good (v : Value) (l : List UInt8) (g : GE) (k : Nat) (w : World) (hE : ET w) (hv : RBp w w.heap.size v l) (h : rdEnt l (.ok 0) = (g, .ok k)) :
    Calls Tryd.prog 27 #[v] w fun e w' => e = .returned (.tuple #[.agg #[.int .u64 g.term, .int .i64 g.kind, .int .u64 g.client, .int .u64 g.seq, .string g.sql], .int .i64 (k : Int), .nilIface]) ∧ Below w.heap.size w w' := by
  refine (entry_any v l w hE hv).mono fun e w' hp => ?_
  rw [h] at hp
  exact hp
theorem entry_short (v : Value) (l : List UInt8) (w : World) (hE : ET w) (hv : RBp w w.heap.size v l) (h : (rdEnt l (.ok 0)).2 = .error 22) :
    Calls Tryd.prog 27 #[v] w fun e w' => ∃ b pl, e = .returned (.tuple #[.agg #[.int .u64 0, .int .i64 0, .int .u64 0, .int .u64 0, .string ⟨#[]⟩], .int .i64 0, ev b]) ∧ ErrAt w' b pl 22 ∧ Below w.heap.size w w' := by
  refine (entry_any v l w hE hv).mono fun e w' hp => ?_
  unfold EntPost at hp
  rw [h] at hp
  exact hp
/-- A row that reads as these values; an empty one may lie anywhere. -/
def RWe (w : World) (v : Value) (gs : List GV) : Prop := RW w v gs ∨ (gs = [] ∧ ∃ a k, v = .slice a 0 k)
theorem RVe.rw' {w : World} {v : Value} {gs : List GV} (h : RVe w w.heap.size v gs) : RWe w v gs := by
  rcases h with ⟨_, _, h⟩ | ⟨rfl, a, cap, rfl⟩
  · exact .inl h
  · exact .inr ⟨rfl, _, _, rfl⟩
set_option maxHeartbeats 1600000 in
theorem values_e (v v' : Value) (gs : List GV) (w : World) (hl : gs.length ≤ 1000000) (h : RW w v gs) (h' : RWe w v' gs) :
    Calls Tryd.prog 26 #[v, v'] w fun e w' => e = .returned (.bool true) ∧ ∃ m, w' = w.drewN m := by
  rcases h' with h' | ⟨rfl, a', k', rfl⟩
  · exact values_same v v' gs w hl h h'
  · have e : ∃ a k, v = .slice a 0 k := by
      rcases h with ⟨rfl, _⟩ | ⟨b, off, cap, _, rfl, _⟩
      · exact ⟨_, _, rfl⟩
      · exact ⟨_, _, rfl⟩
    obtain ⟨a, k, rfl⟩ := e
    clear h
    go_enter Tryd.func26, Tryd.ntmps26
    go_wp2
    refine wp_loop_rounds 1 ?_
    rw [rounds_succ]
    go_wp2
    go_ret
    exact ⟨rfl, 0, rfl⟩
end Go.Proofs.YtahcfanmfocljaaDoor
namespace Go.Proofs.YtahcfanmfocljaaDoor
open Go.RowKit Go.Lib

theorem Tryd.infoR : (Tryd.prog.info? 45).map (fun i => (i.zero, i.size, i.bytes)) = some (some (.slice none 0 0), 1, 24) := by kernel_rfl
theorem Tryd.infoE : (Tryd.prog.info? 52).map (fun i => (i.zero, i.size, i.bytes)) = some (some (.agg #[.int .u64 0, .int .i64 0, .int .u64 0, .int .u64 0, .string ⟨#[]⟩]), 5, 48) := by kernel_rfl
theorem own_keepT {w w' : World} {B : Nat} {e T : TypeId} {sz : Nat} {v : Value} {n : Nat} {xs : List Value} (h : w.ownsRow B e sz v n xs) (hk : KeepT T w w') (hne : e ≠ T) : w'.ownsRow B e sz v n xs := by
  obtain ⟨h1, h2 | ⟨g, cap, cur, h3, h4, h5, h6⟩⟩ := h
  · exact ⟨h1, .inl h2⟩
  · have hg : g < w.heap.size := by
      rcases Nat.lt_or_ge g w.heap.size with h' | h'
      · exact h'
      · rw [Array.getElem?_eq_none h'] at h5; cases h5
    refine ⟨h1, .inr ⟨g, cap, cur, h3, h4, (hk.2 g hg (fun c e => ?_)).trans h5, h6⟩⟩
    rw [h5] at e
    injection e with e
    injection e with _ e _
    exact hne e
theorem RVe.slice {w : World} {B : Nat} {v : Value} {gs : List GV} (h : RVe w B v gs) : ∃ a k, v = .slice a gs.length k := by
  rcases h with ⟨_, _, ⟨rfl, rfl⟩ | ⟨b, off, cap, _, rfl, _⟩⟩ | ⟨rfl, a, cap, rfl⟩
  · exact ⟨_, _, rfl⟩
  · exact ⟨_, _, rfl⟩
  · exact ⟨_, _, rfl⟩
theorem RVe.ok {w : World} {B : Nat} {v : Value} {gs : List GV} (h : RVe w B v gs) : ∀ g ∈ gs, g.ok := by
  rcases h with ⟨_, h, _⟩ | ⟨rfl, _⟩
  · exact h
  · intro g hg; cases hg
theorem row_size {gs : List GV} {b : List UInt8} (hg : ∀ g ∈ gs, g.ok) (h : rowBytes gs = some b) : b.length ≤ 10000 := by
  obtain ⟨_, h64, _⟩ := rowBytes_form h
  unfold rowBytes at h
  rw [putLen, if_pos (by omega)] at h
  have h1 := putVals_len hg b h
  have h2 := uvarint_length64 (x := gs.length) (by omega)
  simp at h1
  omega

/-- A row that was kept: its value, what it reads as, its bytes. -/
abbrev KR := Value × List GV × List UInt8
def goodK (w : World) (x : KR) : Prop := RVe w w.heap.size x.1 x.2.1 ∧ rowBytes x.2.1 = some x.2.2
def bytesK (ks : List KR) : List UInt8 := ks.flatMap (·.2.2)
theorem bytesK_snoc (ks : List KR) (x : KR) : bytesK (ks ++ [x]) = bytesK ks ++ x.2.2 := by simp [bytesK]
theorem bytesK_len {w : World} : ∀ {ks : List KR}, (∀ x ∈ ks, goodK w x) → (bytesK ks).length ≤ ks.length * 10000
  | [], _ => by simp [bytesK]
  | x :: r, h => by
    have h1 := row_size (h x (by simp)).1.ok (h x (by simp)).2
    have h2 := bytesK_len (ks := r) (fun y hy => h y (by simp [hy]))
    have e : bytesK (x :: r) = x.2.2 ++ bytesK r := by simp [bytesK]
    rw [e]; simp; omega
/-- What stands at the head of the first loop. -/
def L1 (w w1 wr : World) (v7 v8 : Value) (ks : List KR) (m : Nat) : Prop :=
  (∀ x ∈ ks, goodK w x) ∧ ks.length ≤ m ∧ wr.ownsRow w1.heap.size 5 1 v7 (bytesK ks).length (byteCells (bytesK ks)) ∧ wr.ownsRow w1.heap.size 45 1 v8 ks.length (ks.map (·.1)) ∧ Below w1.heap.size w1 wr

/-- An entry that was kept, and its bytes. -/
abbrev KE := GE × List UInt8
def goodE (x : KE) : Prop := x.1.ok ∧ entBytes x.1 = some x.2
def bytesE (xs : List KE) : List UInt8 := xs.flatMap (·.2)
theorem bytesE_snoc (xs : List KE) (x : KE) : bytesE (xs ++ [x]) = bytesE xs ++ x.2 := by simp [bytesE]
theorem ent_form {g : GE} {l : List UInt8} (h : entBytes g = some l) : g.may = true ∧ l = g.bytes := by
  unfold entBytes at h
  cases hm : g.may with
  | false => rw [putEnt_no hm] at h; cases h
  | true =>
    rw [putEnt_yes hm] at h
    injection h with h
    exact ⟨rfl, h.symm⟩
theorem ent_size {g : GE} {l : List UInt8} (hg : g.ok) (h : entBytes g = some l) : l.length ≤ 100000 := by
  obtain ⟨hm, rfl⟩ := ent_form h
  exact ge_bytes_len hg hm
theorem bytesE_len : ∀ {xs : List KE}, (∀ x ∈ xs, goodE x) → (bytesE xs).length ≤ xs.length * 100000
  | [], _ => by simp [bytesE]
  | x :: r, h => by
    have h1 := ent_size (h x (by simp)).1 (h x (by simp)).2
    have h2 := bytesE_len (xs := r) (fun y hy => h y (by simp [hy]))
    have e : bytesE (x :: r) = x.2 ++ bytesE r := by simp [bytesE]
    rw [e]; simp; omega
def geCells (g : GE) : List Value := [.int .u64 g.term, .int .i64 g.kind, .int .u64 g.client, .int .u64 g.seq, .string g.sql]
def gesCells (xs : List KE) : List Value := xs.flatMap fun x => geCells x.1
theorem gesCells_snoc (xs : List KE) (x : KE) : gesCells (xs ++ [x]) = gesCells xs ++ geCells x.1 := by simp [gesCells]
theorem five_new (w : World) (g : GE) (e : TypeId) : ∀ j v, (geCells g)[j]? = some v → (w.alloc (.cells #[.int .u64 g.term, .int .i64 g.kind, .int .u64 g.client, .int .u64 g.seq, .string g.sql] e)).cell? ((⟨w.heap.size, 0, none⟩ : Addr).add j) = some v := by
  intro j v hj
  match j, hj with
  | 0, hj => simp [geCells] at hj; subst hj; simp [Addr.add]
  | 1, hj => simp [geCells] at hj; subst hj; simp [Addr.add]
  | 2, hj => simp [geCells] at hj; subst hj; simp [Addr.add]
  | 3, hj => simp [geCells] at hj; subst hj; simp [Addr.add]
  | 4, hj => simp [geCells] at hj; subst hj; simp [Addr.add]
theorem five_cell (g : GE) : ∀ u ∈ geCells g, u.oneCell' = true := by
  intro u hu
  simp [geCells] at hu
  rcases hu with rfl | rfl | rfl | rfl | rfl <;> rfl
/-- What stands at the head of the second loop. -/
def L2 (w1 wr : World) (v7 v8 v9 : Value) (ks : List KR) (xs : List KE) (m : Nat) : Prop :=
  (∀ x ∈ xs, goodE x) ∧ xs.length ≤ m ∧ wr.ownsRow w1.heap.size 5 1 v7 (bytesK ks ++ bytesE xs).length (byteCells (bytesK ks ++ bytesE xs)) ∧ wr.ownsRow w1.heap.size 45 1 v8 ks.length (ks.map (·.1)) ∧
    wr.ownsRow w1.heap.size 52 5 v9 xs.length (gesCells xs) ∧ Below w1.heap.size w1 wr

/-- A cell of a row of the call's own. -/
theorem own_cell1 {w : World} {B : Nat} {e : TypeId} {a : Option Addr} {n cap k : Nat} {xs : List Value} {u : Value} (h : w.ownsRow B e 1 (.slice a n cap) n xs) (hx : xs[k]? = some u) : ∃ g, a = some ⟨g, 0, none⟩ ∧ g < w.heap.size ∧ w.cell? ⟨g, k, none⟩ = some u := by
  obtain ⟨h1, ⟨hv, h2⟩ | ⟨g, cap', cur, hv, h4, h5, h6, h7, h8, h9⟩⟩ := h
  · subst h2
    rw [List.getElem?_eq_none (by omega)] at hx; cases hx
  · injection hv with e1 _ _
    refine ⟨g, e1, ?_, ?_⟩
    · rcases Nat.lt_or_ge g w.heap.size with h' | h'
      · exact h'
      · rw [Array.getElem?_eq_none h'] at h5; cases h5
    · have hlt : k < n := by
        have := (List.getElem?_eq_some_iff.1 hx).1
        omega
      rw [← h9, Nat.mul_one, List.getElem?_take, if_pos hlt, Array.getElem?_toList] at hx
      simp [World.cell?, h5, hx]
/-- What stands at the head of the third loop. -/
def L3 (w1 wr : World) (v7 v8 v9 : Value) (ks : List KR) (xs : List KE) (k : Nat) : Prop :=
  RBp wr wr.heap.size v7 (bytesK (ks.drop k) ++ bytesE xs) ∧ wr.ownsRow w1.heap.size 45 1 v8 ks.length (ks.map (·.1)) ∧
    wr.ownsRow w1.heap.size 52 5 v9 xs.length (gesCells xs) ∧ Below w1.heap.size w1 wr
theorem bytesK_drop {ks : List KR} {k : Nat} {x : KR} (h : ks[k]? = some x) : bytesK (ks.drop k) = x.2.2 ++ bytesK (ks.drop (k + 1)) := by
  have hl := (List.getElem?_eq_some_iff.1 h).1
  have e : ks[k] = x := by rw [List.getElem?_eq_getElem hl] at h; injection h
  rw [List.drop_eq_getElem_cons hl, e]; simp [bytesK]

theorem ges_get : ∀ (xs : List KE) (i j : Nat) (x : KE), xs[i]? = some x → j < 5 → (gesCells xs)[i * 5 + j]? = (geCells x.1)[j]?
  | [], i, j, g, h, hj => by simp at h
  | y :: r, 0, j, g, h, hj => by
    simp at h; subst h
    rw [gesCells, List.flatMap_cons, List.getElem?_append_left (by simp [geCells]; omega)]
    simp
  | y :: r, i + 1, j, g, h, hj => by
    have h' : r[i]? = some g := by simpa using h
    have ih := ges_get r i j g h' hj
    rw [gesCells, List.flatMap_cons, List.getElem?_append_right (by simp [geCells]; omega)]
    have e : (i + 1) * 5 + j - (geCells y.1).length = i * 5 + j := by simp [geCells]; omega
    rw [e]; exact ih
/-- An entry of a row of the call's own. -/
theorem own_cell5 {w : World} {B : Nat} {a : Option Addr} {cap k : Nat} {xs : List KE} {x : KE} (h : w.ownsRow B 52 5 (.slice a xs.length cap) xs.length (gesCells xs)) (hx : xs[k]? = some x) :
    ∃ g, a = some ⟨g, 0, none⟩ ∧ g < w.heap.size ∧ w.cell? ⟨g, k * 5, none⟩ = some (.int .u64 x.1.term) ∧ w.cell? ⟨g, k * 5 + 1, none⟩ = some (.int .i64 x.1.kind) ∧ w.cell? ⟨g, k * 5 + 2, none⟩ = some (.int .u64 x.1.client) ∧ w.cell? ⟨g, k * 5 + 3, none⟩ = some (.int .u64 x.1.seq) ∧ w.cell? ⟨g, k * 5 + 4, none⟩ = some (.string x.1.sql) := by
  have hlt := (List.getElem?_eq_some_iff.1 hx).1
  obtain ⟨h1, ⟨hv, h2⟩ | ⟨g, cap', cur, hv, h4, h5, h6, h7, h8, h9⟩⟩ := h
  · omega
  · injection hv with e1 _ _
    have cell : ∀ j u, j < 5 → (geCells x.1)[j]? = some u → w.cell? ⟨g, k * 5 + j, none⟩ = some u := by
      intro j u hj hu
      have e2 := ges_get xs k j x hx hj
      rw [hu, ← h9] at e2
      rw [List.getElem?_take, if_pos (by omega), Array.getElem?_toList] at e2
      simp [World.cell?, h5, e2]
    refine ⟨g, e1, ?_, by simpa using cell 0 _ (by omega) rfl, cell 1 _ (by omega) rfl, cell 2 _ (by omega) rfl, cell 3 _ (by omega) rfl, cell 4 _ (by omega) rfl⟩
    rcases Nat.lt_or_ge g w.heap.size with h' | h'
    · exact h'
    · rw [Array.getElem?_eq_none h'] at h5; cases h5
/-- What stands at the head of the fourth loop. -/
def L4 (w1 wr : World) (v7 v9 : Value) (xs : List KE) (k : Nat) : Prop :=
  RBp wr wr.heap.size v7 (bytesE (xs.drop k)) ∧ wr.ownsRow w1.heap.size 52 5 v9 xs.length (gesCells xs) ∧ Below w1.heap.size w1 wr
theorem bytesE_drop {xs : List KE} {k : Nat} {x : KE} (h : xs[k]? = some x) : bytesE (xs.drop k) = x.2 ++ bytesE (xs.drop (k + 1)) := by
  have hl := (List.getElem?_eq_some_iff.1 h).1
  have e : xs[k] = x := by rw [List.getElem?_eq_getElem hl] at h; injection h
  rw [List.drop_eq_getElem_cons hl, e]; simp [bytesE]
theorem gb_pos (g : GE) : 0 < g.bytes.length := by
  have := uvarint_pos g.term
  unfold GE.bytes
  rw [List.length_append]; omega

set_option maxHeartbeats 6400000 in
set_option maxRecDepth 100000 in
theorem rows_main (vR vE : Value) (rs : List (Value × List GV)) (es : List GE) (cut : Int) (w : World) (hE : ET w) (hT : ST w) (hR : RRs w w.heap.size vR rs) (hEs : REs w w.heap.size vE es) (hrl : rs.length ≤ 12) :
    Calls Tryd.prog 8 #[vR, vE, .int .i64 cut] w fun e w' => e = .returned (.bool true) ∧ Below w.heap.size w w' := by
  obtain ⟨ir, hir, hr0, hr1, hr2⟩ := info_parts Tryd.infoR
  obtain ⟨ie, hie, he0, he1, he2⟩ := info_parts Tryd.infoE
  have HK := hide (known_any w hE hT)
  have HE := hide (fun (W : World) (hb : Below w.heap.size w W) => hE.later hb)
  have HSm := hide (fun (W : World) (hb : Below w.heap.size w W) => small_12 vE es W (by
    obtain ⟨h1, h2, h3 | ⟨b, off, cap, hbB, rfl, hc⟩⟩ := hEs
    · exact ⟨h1, h2, .inl h3⟩
    · refine ⟨h1, h2, .inr ⟨b, off, cap, Nat.lt_of_lt_of_le hbB hb.size, rfl, fun i g hg => ?_⟩⟩
      obtain ⟨c0, c1, c2, c3, c4⟩ := hc i g hg
      exact ⟨(hb.cell (p := ⟨b, off + i * 5, none⟩) hbB).trans c0, (hb.cell (p := ⟨b, off + i * 5 + 1, none⟩) hbB).trans c1, (hb.cell (p := ⟨b, off + i * 5 + 2, none⟩) hbB).trans c2, (hb.cell (p := ⟨b, off + i * 5 + 3, none⟩) hbB).trans c3, (hb.cell (p := ⟨b, off + i * 5 + 4, none⟩) hbB).trans c4⟩))
  obtain ⟨aR, kR, eR⟩ : ∃ a k, vR = .slice a rs.length k := by
    obtain ⟨_, _, ⟨rfl, rfl⟩ | ⟨b, off, cap, _, rfl, _⟩⟩ := hR
    · exact ⟨_, _, rfl⟩
    · exact ⟨_, _, rfl⟩
  subst eR
  have HRows : Hid (∀ k x, rs[k]? = some x → RVe w w.heap.size x.1 x.2 ∧ ∃ b off, b < w.heap.size ∧ aR = some ⟨b, off, none⟩ ∧ w.cell? ⟨b, off + k, none⟩ = some x.1) := hide (by
    intro k x hx
    obtain ⟨_, h2, ⟨_, rfl⟩ | ⟨b, off, cap, hbB, hv, hc⟩⟩ := hR
    · simp at hx
    · injection hv with e1 _ _
      exact ⟨h2 x (List.mem_of_getElem? hx), b, off, hbB, e1, hc k x hx⟩)
  obtain ⟨aE, kE, eE⟩ : ∃ a k, vE = .slice a es.length k := by
    obtain ⟨_, _, ⟨rfl, rfl⟩ | ⟨b, off, cap, _, rfl, _⟩⟩ := hEs
    · exact ⟨_, _, rfl⟩
    · exact ⟨_, _, rfl⟩
  subst eE
  have HEnts : Hid (∀ k g, es[k]? = some g → g.ok ∧ ∃ b off, b < w.heap.size ∧ aE = some ⟨b, off, none⟩ ∧ w.cell? ⟨b, off + k * 5, none⟩ = some (.int .u64 g.term) ∧ w.cell? ⟨b, off + k * 5 + 1, none⟩ = some (.int .i64 g.kind) ∧ w.cell? ⟨b, off + k * 5 + 2, none⟩ = some (.int .u64 g.client) ∧ w.cell? ⟨b, off + k * 5 + 3, none⟩ = some (.int .u64 g.seq) ∧ w.cell? ⟨b, off + k * 5 + 4, none⟩ = some (.string g.sql)) := hide (by
    intro k g hg
    obtain ⟨_, h2, ⟨_, rfl⟩ | ⟨b, off, cap, hbB, hv, hc⟩⟩ := hEs
    · simp at hg
    · injection hv with e1 _ _
      exact ⟨h2 g (List.mem_of_getElem? hg), b, off, hbB, e1, hc k g hg⟩)
  have q1 : ¬ ((12 : Int) < (rs.length : Int)) := by omega
  clear hE hT hR hEs
  go_enter Tryd.func8, Tryd.ntmps8
  go_wp2_with (first
    | (go_at_call 9; refine (unhide HK).mono ?_; rintro e w1 ⟨rfl, hb1⟩))
  refine (unhide HSm _ hb1).mono ?_
  rintro e w1 ⟨⟨m, rfl, hm⟩, rfl⟩
  clear HSm HK
  cases m with
  | false =>
    go_wp2
    go_ret
    exact ⟨rfl, hb1⟩
  | true =>
    have hel := hm rfl
    clear hm
    go_wp2
    go_loopw [7, 8, 10] (fun v7 v8 i wr => ∃ (k : Nat) (ks : List KR), k ≤ rs.length ∧ i = .int .i64 k ∧ L1 w w1 wr v7 v8 ks k) (fun _ _ i _ => rs.length - (intOf i).toNat)
    case atStart => exact ⟨0, [], Nat.zero_le _, rfl, fun x hx => (by cases hx), Nat.le_refl _, World.ownsRow_nil _ _ _ _, World.ownsRow_nil _ _ _ _, Below.refl _ _⟩
    case round =>
      obtain ⟨k, ks, hk, rfl, hL⟩ := hrel
      have hbw : Below w1.heap.size w1 wr := hL.2.2.2.2
      have dw := bt hb1 hbw
      have HL := hide hL
      clear hL
      by_cases hlt : k < rs.length
      · obtain ⟨x, hxk⟩ : ∃ x, rs[k]? = some x := ⟨rs[k], List.getElem?_eq_getElem hlt⟩
        obtain ⟨hrv, b, off, hbB, rfl, hc⟩ := unhide HRows k x hxk
        obtain ⟨xv, gs⟩ := x
        dsimp only at hrv hc
        have hrv' := hrv.later dw dw.size
        obtain ⟨ax, kx, rfl⟩ := hrv.slice
        have hcr : wr.cell? ⟨b, off + k, none⟩ = some (.slice ax gs.length kx) := (dw.cell (p := ⟨b, off + k, none⟩) hbB).trans hc
        have hk' : (k : Int) < (rs.length : Int) := by omega
        have HV := hide hrv
        have HV' := hide hrv'
        have HCell := hide hc
        clear hrv hrv' hc hxk HRows
        go_wp2_with (first | (go_at_call 9; fail))
        refine (few_70 _ gs wr (unhide HV')).mono ?_
        rintro e wr ⟨⟨m, rfl, hm⟩, rfl⟩
        cases m with
        | false =>
          go_wp2
          go_ret
          exact ⟨rfl, dw⟩
        | true =>
          have hgl := hm rfl
          clear hm
          have HP := hide (putRow_e _ gs wr (unhide HV') hgl)
          cases hb : rowBytes gs with
          | none =>
            rw [hb] at HP
            go_wp2_with (first | (go_at_call 32; refine (unhide HP).mono ?_; rintro e w2 ⟨b2, pl2, rfl, _, _, hb2⟩))
            go_roundw
            case rel =>
              obtain ⟨g1, g2, g3, g4, g5⟩ := unhide HL
              exact ⟨k + 1, ks, by omega, by go_num, g1, by omega, own_later g3 hb2, own_later g4 hb2, g5.trans (hb2.mono g5.size)⟩
            case measure => simp [intOf]; omega
          | some l =>
            rw [hb] at HP
            have HBy := hide hb
            have hll := row_size (unhide HV).ok hb
            obtain ⟨g1, g2, g3, g4, g5⟩ := unhide HL
            have hkl := bytesK_len g1
            have G1 := hide g1
            have G3 := hide g3
            have G4 := hide g4
            have z1 := g5.size
            clear hb g1 g3 g4 g5
            go_wp2_with (first
              | (go_at_call 32; refine (unhide HP).mono ?_; rintro e w2 ⟨a2, k2, rfl, ho2, hb2⟩; have r2 := rb_own (l := l) ho2 (by omega); have z2 := hb2.size; have O3 := own_later (unhide G3) hb2; clear ho2 hcr)
              | (at_builtin; refine wpList_append_rb rfl (.tmp 62) (.tmp 63) rfl w1.heap.size _ _ _ rfl O3 _ _ l rfl r2 (by omega) (by omega) (by omega) ?_; intro v3 w3 ho3 hk3 hb3; have o4 := own_keepT (own_later (unhide G4) hb2) hk3 (by decide); have O4 := hide o4; have H3 := hide ho3; have d3 := (dw.trans (hb2.mono dw.size)).trans (hb3.mono hb1.size); have hcr3 : w3.cell? ⟨b, off + k, none⟩ = some (.slice ax gs.length kx) := (d3.cell (p := ⟨b, off + k, none⟩) hbB).trans (unhide HCell); have z3 := hb3.size; clear O3 ho3 o4 r2)
              | (at_builtin; refine wpList_append_own _ rfl (.tmp 65) (.tmp 70) 76 rfl w1.heap.size 45 ir _ 1 24 Tryd.underlying76 hir hr0 hr1 hr2 rfl (by decide) _ _ _ rfl ((unhide O4).alloc _) ⟨w3.heap.size, 0, none⟩ 1 1 [.slice ax gs.length kx] rfl rfl ?_ ?_ (by unfold maxLen; omega) (by omega) (by simp; omega) ?_))
            · intro j u hj
              match j, hj with
              | 0, hj => simp at hj; subst hj; simp [Addr.add]
            · intro u hu
              simp at hu; subst hu; rfl
            · intro v5 w5 ho5 hg5 _
              have hk5 := KeepT.of_grown ((unhide O4).alloc (.cells #[.slice ax gs.length kx] 45)) hg5
              have o3 := own_keepT ((unhide H3).alloc (.cells #[.slice ax gs.length kx] 45)) hk5 (by decide)
              have hb5 : Below w1.heap.size w3 w5 := ((Below.refl w1.heap.size w3).alloc (by omega) _).grown hg5 (by simp; omega) (own_block_ge ((unhide O4).alloc (.cells #[.slice ax gs.length kx] 45)))
              have O5 := hide ho5
              have O3 := hide o3
              clear ho5 o3 hg5 hk5 hcr3
              go_wp2
              go_roundw
              case rel =>
                refine ⟨k + 1, ks ++ [(.slice ax gs.length kx, gs, l)], by omega, by go_num, fun y hy => ?_, by simp; omega, ?_, ?_, ((hbw.trans (hb2.mono (by omega))).trans hb3).trans hb5⟩
                · rcases List.mem_append.1 hy with hy | hy
                  · exact unhide G1 y hy
                  · obtain rfl := List.mem_singleton.1 hy
                    exact ⟨unhide HV, unhide HBy⟩
                · rw [bytesK_snoc, List.length_append, byteCells_append]; exact unhide O3
                · rw [List.length_append, List.map_append]; exact unhide O5
              case measure => simp [intOf]; omega
      · clear HRows
        go_wp2
        obtain ⟨g1, g2, g3, g4, g5⟩ := unhide HL
        have hks : ks.length ≤ 12 := by omega
        have hkl := bytesK_len g1
        have G1 := hide g1
        have st : L2 w1 wr u7 u8 (.slice none 0 0) ks [] 0 := ⟨fun x hx => (by cases hx), Nat.le_refl _, by simpa [bytesE] using g3, g4, World.ownsRow_nil _ _ _ _, g5⟩
        have ST2 := hide st
        clear st g1 g3 g4 g5 g2 HL hbw dw hlt hk
        go_loopw [7, 9, 13] (fun v7 v9 i wr => ∃ (k : Nat) (xs : List KE), k ≤ es.length ∧ i = .int .i64 k ∧ L2 w1 wr v7 u8 v9 ks xs k) (fun _ _ i _ => es.length - (intOf i).toNat)
        case atStart => exact ⟨0, [], Nat.zero_le _, rfl, unhide ST2⟩
        case round =>
          obtain ⟨k, xs, hk, rfl, hL⟩ := hrel
          have hbw : Below w1.heap.size w1 wr := hL.2.2.2.2.2
          have dw := bt hb1 hbw
          have HL := hide hL
          clear hL ST2
          by_cases hlt : k < es.length
          · obtain ⟨g, hgk⟩ : ∃ g, es[k]? = some g := ⟨es[k], List.getElem?_eq_getElem hlt⟩
            obtain ⟨hg, b, off, hbB, rfl, c0, c1, c2, c3, c4⟩ := unhide HEnts k g hgk
            have n0 := (dw.cell (p := ⟨b, off + k * 5, none⟩) hbB).trans c0
            have n1 := (dw.cell (p := ⟨b, off + k * 5 + 1, none⟩) hbB).trans c1
            have n2 := (dw.cell (p := ⟨b, off + k * 5 + 2, none⟩) hbB).trans c2
            have n3 := (dw.cell (p := ⟨b, off + k * 5 + 3, none⟩) hbB).trans c3
            have n4 := (dw.cell (p := ⟨b, off + k * 5 + 4, none⟩) hbB).trans c4
            have C0 := hide c0
            have C1 := hide c1
            have C2 := hide c2
            have C3 := hide c3
            have C4 := hide c4
            have hk' : (k : Int) < (es.length : Int) := by omega
            have HG := hide hg
            clear c0 c1 c2 c3 c4 hgk HEnts
            have HP : Hid (Calls Tryd.prog 34 #[.agg #[.int .u64 g.term, .int .i64 g.kind, .int .u64 g.client, .int .u64 g.seq, .string g.sql]] wr fun e w' => DonePost (entBytes g) wr.heap.size wr e w') := hide (putEntry_any g wr hg)
            clear hg
            cases hb : entBytes g with
            | none =>
              rw [hb] at HP
              go_wp2_with (first | (go_at_call 34; refine (unhide HP).mono ?_; rintro e w2 ⟨b2, pl2, rfl, _, _, hb2⟩))
              go_roundw
              case rel =>
                obtain ⟨g1, g2, g3, g4, g5, g6⟩ := unhide HL
                exact ⟨k + 1, xs, by omega, by go_num, g1, by omega, own_later g3 hb2, own_later g4 hb2, own_later g5 hb2, g6.trans (hb2.mono g6.size)⟩
              case measure => simp [intOf]; omega
            | some l =>
              rw [hb] at HP
              have HBy := hide hb
              have hll := ent_size (unhide HG) hb
              obtain ⟨g1, g2, g3, g4, g5, g6⟩ := unhide HL
              have hxl := bytesE_len g1
              have GX := hide g1
              have G3 := hide g3
              have G4 := hide g4
              have G5 := hide g5
              have z1 := g6.size
              have hlen : (bytesK ks ++ bytesE xs).length = (bytesK ks).length + (bytesE xs).length := List.length_append
              clear hb g1 g3 g4 g5 g6
              go_wp2_with (first
                | (go_at_call 34; refine (unhide HP).mono ?_; rintro e w2 ⟨a2, k2, rfl, ho2, hb2⟩; have r2 := rb_own (l := l) ho2 (by omega); have z2 := hb2.size; have O3 := own_later (unhide G3) hb2; clear ho2 n0 n1 n2 n3 n4)
                | (at_builtin; refine wpList_append_rb rfl (.tmp 88) (.tmp 89) rfl w1.heap.size _ _ _ rfl O3 _ _ l rfl r2 (by omega) (by omega) (by omega) ?_; intro v3 w3 ho3 hk3 hb3; have O4 := hide (own_keepT (own_later (unhide G4) hb2) hk3 (by decide)); have O5 := hide (own_keepT (own_later (unhide G5) hb2) hk3 (by decide)); have H3 := hide ho3; have d3 := (dw.trans (hb2.mono dw.size)).trans (hb3.mono hb1.size); have n0 := (d3.cell (p := ⟨b, off + k * 5, none⟩) hbB).trans (unhide C0); have n1 := (d3.cell (p := ⟨b, off + k * 5 + 1, none⟩) hbB).trans (unhide C1); have n2 := (d3.cell (p := ⟨b, off + k * 5 + 2, none⟩) hbB).trans (unhide C2); have n3 := (d3.cell (p := ⟨b, off + k * 5 + 3, none⟩) hbB).trans (unhide C3); have n4 := (d3.cell (p := ⟨b, off + k * 5 + 4, none⟩) hbB).trans (unhide C4); have z3 := hb3.size; clear O3 ho3 r2)
                | (at_builtin; refine wpList_append_own _ rfl (.tmp 91) (.tmp 96) 77 rfl w1.heap.size 52 ie _ 5 48 Tryd.underlying77 hie he0 he1 he2 rfl (by decide) _ _ _ rfl ((unhide O5).alloc _) ⟨w3.heap.size, 0, none⟩ 1 1 (geCells g) rfl rfl ?_ (five_cell g) (by unfold maxLen; omega) (by omega) (by simp; omega) ?_))
              · intro j u hj
                exact five_new w3 g 52 j u hj
              · intro v5 w5 ho5 hg5 _
                have hk5 := KeepT.of_grown ((unhide O5).alloc (.cells #[.int .u64 g.term, .int .i64 g.kind, .int .u64 g.client, .int .u64 g.seq, .string g.sql] 52)) hg5
                have Q3 := hide (own_keepT ((unhide H3).alloc (.cells #[.int .u64 g.term, .int .i64 g.kind, .int .u64 g.client, .int .u64 g.seq, .string g.sql] 52)) hk5 (by decide))
                have Q4 := hide (own_keepT ((unhide O4).alloc (.cells #[.int .u64 g.term, .int .i64 g.kind, .int .u64 g.client, .int .u64 g.seq, .string g.sql] 52)) hk5 (by decide))
                have hb5 : Below w1.heap.size w3 w5 := ((Below.refl w1.heap.size w3).alloc (by omega) _).grown hg5 (by simp; omega) (own_block_ge ((unhide O5).alloc (.cells #[.int .u64 g.term, .int .i64 g.kind, .int .u64 g.client, .int .u64 g.seq, .string g.sql] 52)))
                have Q5 := hide ho5
                clear ho5 hg5 hk5 n0 n1 n2 n3 n4
                go_wp2
                go_roundw
                case rel =>
                  refine ⟨k + 1, xs ++ [(g, l)], by omega, by go_num, fun y hy => ?_, by simp; omega, ?_, unhide Q4, ?_, ((hbw.trans (hb2.mono (by omega))).trans hb3).trans hb5⟩
                  · rcases List.mem_append.1 hy with hy | hy
                    · exact unhide GX y hy
                    · obtain rfl := List.mem_singleton.1 hy
                      exact ⟨unhide HG, unhide HBy⟩
                  · rw [bytesE_snoc, ← List.append_assoc, List.length_append, byteCells_append]; exact unhide Q3
                  · rw [List.length_append, gesCells_snoc]; exact unhide Q5
                case measure => simp [intOf]; omega
          · clear HEnts
            go_wp2
            obtain ⟨g1, g2, g3, g4, g5, g6⟩ := unhide HL
            have hxl := bytesE_len g1
            have GX := hide g1
            have hxs : xs.length ≤ 12 := by omega
            have hlen : (bytesK ks ++ bytesE xs).length = (bytesK ks).length + (bytesE xs).length := List.length_append
            obtain ⟨a8, k8, e8⟩ := own_slice g4
            obtain ⟨a9, k9, e9⟩ := own_slice g5
            have r7 := rb_own g3 (by omega)
            have st : L3 w1 wr u7 u8 u9 ks xs 0 := ⟨r7, g4, g5, g6⟩
            subst e8 e9
            have ST3 := hide st
            clear st r7 g1 g3 g4 g5 g6 g2 HL hbw dw hlt hk
            go_loopw [7, 16] (fun v7 i wr => ∃ k : Nat, k ≤ ks.length ∧ i = .int .i64 k ∧ L3 w1 wr v7 (.slice a8 ks.length k8) (.slice a9 xs.length k9) ks xs k) (fun _ i _ => ks.length - (intOf i).toNat)
            case atStart => exact ⟨0, Nat.zero_le _, rfl, unhide ST3⟩
            case round =>
              obtain ⟨k, hk, rfl, hr7, hg4, hg5, hbw⟩ := hrel
              have dw := bt hb1 hbw
              have G4 := hide hg4
              have G5 := hide hg5
              clear hg4 hg5 ST3
              by_cases hlt : k < ks.length
              · obtain ⟨x, hxk⟩ : ∃ x, ks[k]? = some x := ⟨ks[k], List.getElem?_eq_getElem hlt⟩
                obtain ⟨hrv, hby⟩ := unhide G1 x (List.mem_of_getElem? hxk)
                have hmap : (ks.map (·.1))[k]? = some x.1 := by rw [List.getElem?_map, hxk]; rfl
                have hsplit := bytesK_drop hxk
                obtain ⟨xv, gs, b⟩ := x
                dsimp only at hrv hby hmap hsplit
                obtain ⟨ax, kx, rfl⟩ := hrv.slice
                obtain ⟨g8, rfl, hg8, hcell8⟩ := own_cell1 (unhide G4) hmap
                have HCell := hide hcell8
                have HV := hide hrv
                have hok := hrv.ok
                have hbpos : 0 < b.length := by rw [(rowBytes_form hby).1]; simp
                have hgl : gs.length ≤ 64 := (rowBytes_form hby).2.1
                have hk' : (k : Int) < (ks.length : Int) := by omega
                rw [hsplit, List.append_assoc] at hr7
                have hback := row_back hok hby (bytesK (ks.drop (k + 1)) ++ bytesE xs)
                have hcut := fun c hc => row_cut hok hby c hc
                have htake : ∀ c, c < b.length → (b ++ (bytesK (ks.drop (k + 1)) ++ bytesE xs)).take c = b.take c := fun c hc => List.take_append_of_le_length (by omega)
                have hdrop : (b ++ (bytesK (ks.drop (k + 1)) ++ bytesE xs)).drop b.length = bytesK (ks.drop (k + 1)) ++ bytesE xs := List.drop_left
                have hlenA : b.length ≤ (b ++ (bytesK (ks.drop (k + 1)) ++ bytesE xs)).length := by simp
                generalize hA : b ++ (bytesK (ks.drop (k + 1)) ++ bytesE xs) = A at *
                obtain ⟨hl12, ⟨_, hnil⟩ | ⟨b7, off7, cap7, hb7, hcap7, hm7, rfl, hcell7⟩⟩ := hr7
                · rw [hnil, List.length_nil] at hlenA; omega
                have hrow : RBp wr wr.heap.size (.slice (some ⟨b7, off7, none⟩) A.length cap7) A := ⟨hl12, .inr ⟨b7, off7, cap7, hb7, hcap7, hm7, rfl, hcell7⟩⟩
                have HRow := hide (row_good _ A gs b.length wr (unhide HE _ dw) hrow hback)
                have HSh : Hid (∀ c, c < b.length → ∀ W, Below wr.heap.size wr W → Calls Tryd.prog 24 #[.slice (some ⟨b7, off7, none⟩) c cap7] W fun e w' => ∃ x y b pl, e = .returned (.tuple #[x, y, ev b]) ∧ ErrAt w' b pl 22 ∧ Below W.heap.size W w') :=
                  hide fun c hc W hW => row_short _ (A.take c) W (unhide HE _ (bt dw hW)) (rb_later (rb_first hrow (by omega)) hW hW.size) (by rw [htake c hc]; exact hcut c hc)
                have hm8 : (cap7 : Int) ≤ 9223372036854775807 := by unfold maxLen at hm7; omega
                have hnext1 : cap7 ≠ b.length → RBp wr wr.heap.size (.slice (some ⟨b7, off7 + b.length, none⟩) (A.length - b.length) (cap7 - b.length)) (bytesK (ks.drop (k + 1)) ++ bytesE xs) := fun _ => by
                  have := rb_drop (at' := b.length) hb7 hlenA hcap7 hm7 hl12 hcell7
                  rwa [hdrop] at this
                have hnext2 : cap7 = b.length → RBp wr wr.heap.size (.slice (some ⟨b7, off7, none⟩) (A.length - b.length) 0) (bytesK (ks.drop (k + 1)) ++ bytesE xs) := fun hce => by
                  have := rb_end (w := wr) (at' := b.length) hb7 hlenA hcap7 hce off7
                  rwa [hdrop] at this
                clear hrow hback hcut htake hdrop hcell7 hsplit hmap hxk hrv hok hby hcell8 hA
                generalize A.length = n7 at *
                generalize b.length = nb at *
                clear A
                by_cases hce : cap7 = nb
                · have hn7 : n7 = nb := by omega
                  have hnx := hnext2 hce
                  clear hnext1 hnext2
                  subst hce
                  subst hn7
                  rw [Nat.sub_self] at hnx
                  have HNext := hide hnx
                  clear hnx
                  by_cases hcu : 0 ≤ cut ∧ cut < (n7 : Int)
                  · obtain ⟨c, rfl⟩ := Int.eq_ofNat_of_zero_le hcu.1
                    have hcn : c < n7 := by omega
                    have hcn' : (c : Int) < (n7 : Int) := by omega
                    have hc0 : (0 : Int) ≤ (c : Int) := by omega
                    have HShort := hide (unhide HSh c hcn)
                    clear hcu HSh
                    go_wp2_with (first
                      | (go_at_call 24; refine (unhide HRow).mono ?_; rintro e w2 ⟨x2, rfl, rw2, hb2⟩; have d2 := bt dw hb2; have cell2 : w2.cell? ⟨g8, k, none⟩ = some (.slice ax gs.length kx) := (hb2.cell (p := ⟨g8, k, none⟩) hg8).trans (unhide HCell); clear HRow)
                      | (go_at_call 26; refine (values_e x2 _ gs w2 (by omega) rw2 ((unhide HV).later d2 d2.size).rw').mono ?_; rintro e w3 ⟨rfl, m3, hw3⟩; have hb3 : Below w2.heap.size w2 w3 := (by rw [hw3]; exact drew_below w2 m3); have c3 := bt hb2 hb3; clear hw3 cell2)
                      | (go_at_call 24; refine (unhide HShort _ c3).mono ?_; rintro e w4 ⟨x4, y4, b4, pl4, rfl, he4, hb4⟩; have c4 := bt c3 hb4; clear HShort)
                      | (go_at_call 20; refine (class_at b4 pl4 22 w4 (unhide HE _ (bt dw c4)) he4).mono ?_; rintro e w5 ⟨rfl, hb5⟩; have c5 := bt c4 hb5))
                    go_roundw
                    case rel => exact ⟨k + 1, by omega, by go_num, rb_later (unhide HNext) c5 c5.size, own_later (unhide G4) c5, own_later (unhide G5) c5, hbw.trans (c5.mono hbw.size)⟩
                    case measure => simp [intOf]; omega
                  · clear HSh
                    by_cases hcu0 : 0 ≤ cut
                    · have hcu1 : ¬ (cut < (n7 : Int)) := by omega
                      clear hcu
                      go_wp2_with (first
                        | (go_at_call 24; refine (unhide HRow).mono ?_; rintro e w2 ⟨x2, rfl, rw2, hb2⟩; have d2 := bt dw hb2; have cell2 : w2.cell? ⟨g8, k, none⟩ = some (.slice ax gs.length kx) := (hb2.cell (p := ⟨g8, k, none⟩) hg8).trans (unhide HCell); clear HRow)
                        | (go_at_call 26; refine (values_e x2 _ gs w2 (by omega) rw2 ((unhide HV).later d2 d2.size).rw').mono ?_; rintro e w3 ⟨rfl, m3, hw3⟩; have hb3 : Below w2.heap.size w2 w3 := (by rw [hw3]; exact drew_below w2 m3); have c3 := bt hb2 hb3; clear hw3 cell2))
                      go_roundw
                      case rel => exact ⟨k + 1, by omega, by go_num, rb_later (unhide HNext) c3 c3.size, own_later (unhide G4) c3, own_later (unhide G5) c3, hbw.trans (c3.mono hbw.size)⟩
                      case measure => simp [intOf]; omega
                    · clear hcu
                      go_wp2_with (first
                        | (go_at_call 24; refine (unhide HRow).mono ?_; rintro e w2 ⟨x2, rfl, rw2, hb2⟩; have d2 := bt dw hb2; have cell2 : w2.cell? ⟨g8, k, none⟩ = some (.slice ax gs.length kx) := (hb2.cell (p := ⟨g8, k, none⟩) hg8).trans (unhide HCell); clear HRow)
                        | (go_at_call 26; refine (values_e x2 _ gs w2 (by omega) rw2 ((unhide HV).later d2 d2.size).rw').mono ?_; rintro e w3 ⟨rfl, m3, hw3⟩; have hb3 : Below w2.heap.size w2 w3 := (by rw [hw3]; exact drew_below w2 m3); have c3 := bt hb2 hb3; clear hw3 cell2))
                      go_roundw
                      case rel => exact ⟨k + 1, by omega, by go_num, rb_later (unhide HNext) c3 c3.size, own_later (unhide G4) c3, own_later (unhide G5) c3, hbw.trans (c3.mono hbw.size)⟩
                      case measure => simp [intOf]; omega
                · have HNext := hide (hnext1 hce)
                  clear hnext1 hnext2
                  by_cases hcu : 0 ≤ cut ∧ cut < (nb : Int)
                  · obtain ⟨c, rfl⟩ := Int.eq_ofNat_of_zero_le hcu.1
                    have hcn : c < nb := by omega
                    have hcn' : (c : Int) < (nb : Int) := by omega
                    have hc0 : (0 : Int) ≤ (c : Int) := by omega
                    have HShort := hide (unhide HSh c hcn)
                    clear hcu HSh
                    go_wp2_with (first
                      | (go_at_call 24; refine (unhide HRow).mono ?_; rintro e w2 ⟨x2, rfl, rw2, hb2⟩; have d2 := bt dw hb2; have cell2 : w2.cell? ⟨g8, k, none⟩ = some (.slice ax gs.length kx) := (hb2.cell (p := ⟨g8, k, none⟩) hg8).trans (unhide HCell); clear HRow)
                      | (go_at_call 26; refine (values_e x2 _ gs w2 (by omega) rw2 ((unhide HV).later d2 d2.size).rw').mono ?_; rintro e w3 ⟨rfl, m3, hw3⟩; have hb3 : Below w2.heap.size w2 w3 := (by rw [hw3]; exact drew_below w2 m3); have c3 := bt hb2 hb3; clear hw3 cell2)
                      | (go_at_call 24; refine (unhide HShort _ c3).mono ?_; rintro e w4 ⟨x4, y4, b4, pl4, rfl, he4, hb4⟩; have c4 := bt c3 hb4; clear HShort)
                      | (go_at_call 20; refine (class_at b4 pl4 22 w4 (unhide HE _ (bt dw c4)) he4).mono ?_; rintro e w5 ⟨rfl, hb5⟩; have c5 := bt c4 hb5))
                    go_roundw
                    case rel => exact ⟨k + 1, by omega, by go_num, rb_later (unhide HNext) c5 c5.size, own_later (unhide G4) c5, own_later (unhide G5) c5, hbw.trans (c5.mono hbw.size)⟩
                    case measure => simp [intOf]; omega
                  · have hcu' : ¬ (0 ≤ cut) ∨ ¬ (cut < (nb : Int)) := by omega
                    clear HSh
                    by_cases hcu0 : 0 ≤ cut
                    · have hcu1 : ¬ (cut < (nb : Int)) := by omega
                      clear hcu hcu'
                      go_wp2_with (first
                        | (go_at_call 24; refine (unhide HRow).mono ?_; rintro e w2 ⟨x2, rfl, rw2, hb2⟩; have d2 := bt dw hb2; have cell2 : w2.cell? ⟨g8, k, none⟩ = some (.slice ax gs.length kx) := (hb2.cell (p := ⟨g8, k, none⟩) hg8).trans (unhide HCell); clear HRow)
                        | (go_at_call 26; refine (values_e x2 _ gs w2 (by omega) rw2 ((unhide HV).later d2 d2.size).rw').mono ?_; rintro e w3 ⟨rfl, m3, hw3⟩; have hb3 : Below w2.heap.size w2 w3 := (by rw [hw3]; exact drew_below w2 m3); have c3 := bt hb2 hb3; clear hw3 cell2))
                      go_roundw
                      case rel => exact ⟨k + 1, by omega, by go_num, rb_later (unhide HNext) c3 c3.size, own_later (unhide G4) c3, own_later (unhide G5) c3, hbw.trans (c3.mono hbw.size)⟩
                      case measure => simp [intOf]; omega
                    · clear hcu hcu'
                      go_wp2_with (first
                        | (go_at_call 24; refine (unhide HRow).mono ?_; rintro e w2 ⟨x2, rfl, rw2, hb2⟩; have d2 := bt dw hb2; have cell2 : w2.cell? ⟨g8, k, none⟩ = some (.slice ax gs.length kx) := (hb2.cell (p := ⟨g8, k, none⟩) hg8).trans (unhide HCell); clear HRow)
                        | (go_at_call 26; refine (values_e x2 _ gs w2 (by omega) rw2 ((unhide HV).later d2 d2.size).rw').mono ?_; rintro e w3 ⟨rfl, m3, hw3⟩; have hb3 : Below w2.heap.size w2 w3 := (by rw [hw3]; exact drew_below w2 m3); have c3 := bt hb2 hb3; clear hw3 cell2))
                      go_roundw
                      case rel => exact ⟨k + 1, by omega, by go_num, rb_later (unhide HNext) c3 c3.size, own_later (unhide G4) c3, own_later (unhide G5) c3, hbw.trans (c3.mono hbw.size)⟩
                      case measure => simp [intOf]; omega
              · go_wp2
                have hkk : k = ks.length := by omega
                have hr8 := hr7
                rw [hkk, List.drop_length] at hr8
                have e0 : bytesK [] ++ bytesE xs = bytesE xs := rfl
                rw [e0] at hr8
                have st : L4 w1 wr u7 (.slice a9 xs.length k9) xs 0 := ⟨hr8, unhide G5, hbw⟩
                have ST4 := hide st
                clear st hr8 hr7 hkk e0 G4 G5 hbw dw hlt hk
                go_loopw [7, 23] (fun v7 i wr => ∃ k : Nat, k ≤ xs.length ∧ i = .int .i64 k ∧ L4 w1 wr v7 (.slice a9 xs.length k9) xs k) (fun _ i _ => xs.length - (intOf i).toNat)
                case atStart => exact ⟨0, Nat.zero_le _, rfl, unhide ST4⟩
                case round =>
                  obtain ⟨k, hk, rfl, hr7, hg5, hbw⟩ := hrel
                  have dw := bt hb1 hbw
                  have G5 := hide hg5
                  clear hg5 ST4
                  by_cases hlt : k < xs.length
                  · obtain ⟨x, hxk⟩ : ∃ x, xs[k]? = some x := ⟨xs[k], List.getElem?_eq_getElem hlt⟩
                    obtain ⟨hgo, hby⟩ := unhide GX x (List.mem_of_getElem? hxk)
                    have hsplit := bytesE_drop hxk
                    obtain ⟨g9, rfl, hg9, q0, q1', q2, q3, q4⟩ := own_cell5 (unhide G5) hxk
                    obtain ⟨g, b⟩ := x
                    dsimp only at hgo hby hsplit q0 q1' q2 q3 q4
                    obtain ⟨hmay, rfl⟩ := ent_form hby
                    have C0 := hide q0
                    have C1 := hide q1'
                    have C2 := hide q2
                    have C3 := hide q3
                    have C4 := hide q4
                    have hbpos := gb_pos g
                    have hk' : (k : Int) < (xs.length : Int) := by omega
                    rw [hsplit] at hr7
                    have hback := ent_back g hgo hmay (bytesE (xs.drop (k + 1)))
                    have hcut := fun c hc => ent_cut g hgo hmay c hc
                    have htake : ∀ c, c < g.bytes.length → (g.bytes ++ bytesE (xs.drop (k + 1))).take c = g.bytes.take c := fun c hc => List.take_append_of_le_length (by omega)
                    have hdrop : (g.bytes ++ bytesE (xs.drop (k + 1))).drop g.bytes.length = bytesE (xs.drop (k + 1)) := List.drop_left
                    have hlenA : g.bytes.length ≤ (g.bytes ++ bytesE (xs.drop (k + 1))).length := by simp
                    generalize hA : g.bytes ++ bytesE (xs.drop (k + 1)) = A at *
                    obtain ⟨hl12, ⟨_, hnil⟩ | ⟨b7, off7, cap7, hb7, hcap7, hm7, rfl, hcell7⟩⟩ := hr7
                    · rw [hnil, List.length_nil] at hlenA; omega
                    have hrow : RBp wr wr.heap.size (.slice (some ⟨b7, off7, none⟩) A.length cap7) A := ⟨hl12, .inr ⟨b7, off7, cap7, hb7, hcap7, hm7, rfl, hcell7⟩⟩
                    have HEn := hide (entry_good _ A g g.bytes.length wr (unhide HE _ dw) hrow hback)
                    have HSh : Hid (∀ c, c < g.bytes.length → ∀ W, Below wr.heap.size wr W → Calls Tryd.prog 27 #[.slice (some ⟨b7, off7, none⟩) c cap7] W fun e w' => ∃ b pl, e = .returned (.tuple #[.agg #[.int .u64 0, .int .i64 0, .int .u64 0, .int .u64 0, .string ⟨#[]⟩], .int .i64 0, ev b]) ∧ ErrAt w' b pl 22 ∧ Below W.heap.size W w') :=
                      hide fun c hc W hW => entry_short _ (A.take c) W (unhide HE _ (bt dw hW)) (rb_later (rb_first hrow (by omega)) hW hW.size) (by rw [htake c hc]; exact hcut c hc)
                    have hm8 : (cap7 : Int) ≤ 9223372036854775807 := by unfold maxLen at hm7; omega
                    have hnext1 : cap7 ≠ g.bytes.length → RBp wr wr.heap.size (.slice (some ⟨b7, off7 + g.bytes.length, none⟩) (A.length - g.bytes.length) (cap7 - g.bytes.length)) (bytesE (xs.drop (k + 1))) := fun _ => by
                      have := rb_drop (at' := g.bytes.length) hb7 hlenA hcap7 hm7 hl12 hcell7
                      rwa [hdrop] at this
                    have hnext2 : cap7 = g.bytes.length → RBp wr wr.heap.size (.slice (some ⟨b7, off7, none⟩) (A.length - g.bytes.length) 0) (bytesE (xs.drop (k + 1))) := fun hce => by
                      have := rb_end (w := wr) (at' := g.bytes.length) hb7 hlenA hcap7 hce off7
                      rwa [hdrop] at this
                    clear hrow hback hcut htake hdrop hcell7 hsplit hxk hgo hby hA q0 q1' q2 q3 q4
                    generalize A.length = n7 at *
                    generalize g.bytes.length = nb at *
                    clear A
                    by_cases hce : cap7 = nb
                    · have hn7 : n7 = nb := by omega
                      have hnx := hnext2 hce
                      clear hnext1 hnext2
                      subst hce
                      subst hn7
                      rw [Nat.sub_self] at hnx
                      have HNext := hide hnx
                      clear hnx
                      by_cases hcu : 0 ≤ cut ∧ cut < (n7 : Int)
                      · obtain ⟨c, rfl⟩ := Int.eq_ofNat_of_zero_le hcu.1
                        have hcn : c < n7 := by omega
                        have hcn' : (c : Int) < (n7 : Int) := by omega
                        have hc0 : (0 : Int) ≤ (c : Int) := by omega
                        have HShort := hide (unhide HSh c hcn)
                        clear hcu HSh
                        go_wp2_with (first
                          | (go_at_call 27; refine (unhide HEn).mono ?_; rintro e w2 ⟨rfl, hb2⟩; have z2 : g9 < w2.heap.size := Nat.lt_of_lt_of_le hg9 hb2.size; have n0 := (hb2.cell (p := ⟨g9, k * 5, none⟩) hg9).trans (unhide C0); have n1 := (hb2.cell (p := ⟨g9, k * 5 + 1, none⟩) hg9).trans (unhide C1); have n2 := (hb2.cell (p := ⟨g9, k * 5 + 2, none⟩) hg9).trans (unhide C2); have n3 := (hb2.cell (p := ⟨g9, k * 5 + 3, none⟩) hg9).trans (unhide C3); have n4 := (hb2.cell (p := ⟨g9, k * 5 + 4, none⟩) hg9).trans (unhide C4); have c2 := bt hb2 (below_alloc (w := w2) (.cells #[.int .u64 g.term, .int .i64 g.kind, .int .u64 g.client, .int .u64 g.seq, .string g.sql] 52) (Nat.le_refl _)); clear HEn))
                        go_quiet (fail)
                        clear n0 n1 n2 n3 n4
                        have c3 := bt c2 (drew_below (w2.alloc (.cells #[.int .u64 g.term, .int .i64 g.kind, .int .u64 g.client, .int .u64 g.seq, .string g.sql] 52)) nq)
                        generalize (w2.alloc (.cells #[.int .u64 g.term, .int .i64 g.kind, .int .u64 g.client, .int .u64 g.seq, .string g.sql] 52)).drewN nq = w3 at *
                        go_wp2_with (first
                          | (go_at_call 27; refine (unhide HShort _ c3).mono ?_; rintro e w4 ⟨b4, pl4, rfl, he4, hb4⟩; have c4 := bt (bt c3 hb4) (below_alloc (w := w4) (.cells #[.int .u64 0, .int .i64 0, .int .u64 0, .int .u64 0, .string ⟨#[]⟩] 52) (Nat.le_refl _)); have he5 := he4.alloc (.cells #[.int .u64 0, .int .i64 0, .int .u64 0, .int .u64 0, .string ⟨#[]⟩] 52); clear HShort)
                          | (go_at_call 20; refine (class_at b4 pl4 22 _ (unhide HE _ (bt dw c4)) he5).mono ?_; rintro e w5 ⟨rfl, hb5⟩; have c5 := bt c4 hb5))
                        go_roundw
                        case rel => exact ⟨k + 1, by omega, by go_num, rb_later (unhide HNext) c5 c5.size, own_later (unhide G5) c5, hbw.trans (c5.mono hbw.size)⟩
                        case measure => simp [intOf]; omega
                      · clear HSh
                        by_cases hcu0 : 0 ≤ cut
                        · have hcu1 : ¬ (cut < (n7 : Int)) := by omega
                          clear hcu
                          go_wp2_with (first
                            | (go_at_call 27; refine (unhide HEn).mono ?_; rintro e w2 ⟨rfl, hb2⟩; have z2 : g9 < w2.heap.size := Nat.lt_of_lt_of_le hg9 hb2.size; have n0 := (hb2.cell (p := ⟨g9, k * 5, none⟩) hg9).trans (unhide C0); have n1 := (hb2.cell (p := ⟨g9, k * 5 + 1, none⟩) hg9).trans (unhide C1); have n2 := (hb2.cell (p := ⟨g9, k * 5 + 2, none⟩) hg9).trans (unhide C2); have n3 := (hb2.cell (p := ⟨g9, k * 5 + 3, none⟩) hg9).trans (unhide C3); have n4 := (hb2.cell (p := ⟨g9, k * 5 + 4, none⟩) hg9).trans (unhide C4); have c2 := bt hb2 (below_alloc (w := w2) (.cells #[.int .u64 g.term, .int .i64 g.kind, .int .u64 g.client, .int .u64 g.seq, .string g.sql] 52) (Nat.le_refl _)); clear HEn))
                          go_quiet (fail)
                          clear n0 n1 n2 n3 n4
                          have c3 := bt c2 (drew_below (w2.alloc (.cells #[.int .u64 g.term, .int .i64 g.kind, .int .u64 g.client, .int .u64 g.seq, .string g.sql] 52)) nq)
                          generalize (w2.alloc (.cells #[.int .u64 g.term, .int .i64 g.kind, .int .u64 g.client, .int .u64 g.seq, .string g.sql] 52)).drewN nq = w3 at *
                          go_wp2
                          go_roundw
                          case rel => exact ⟨k + 1, by omega, by go_num, rb_later (unhide HNext) c3 c3.size, own_later (unhide G5) c3, hbw.trans (c3.mono hbw.size)⟩
                          case measure => simp [intOf]; omega
                        · clear hcu
                          go_wp2_with (first
                            | (go_at_call 27; refine (unhide HEn).mono ?_; rintro e w2 ⟨rfl, hb2⟩; have z2 : g9 < w2.heap.size := Nat.lt_of_lt_of_le hg9 hb2.size; have n0 := (hb2.cell (p := ⟨g9, k * 5, none⟩) hg9).trans (unhide C0); have n1 := (hb2.cell (p := ⟨g9, k * 5 + 1, none⟩) hg9).trans (unhide C1); have n2 := (hb2.cell (p := ⟨g9, k * 5 + 2, none⟩) hg9).trans (unhide C2); have n3 := (hb2.cell (p := ⟨g9, k * 5 + 3, none⟩) hg9).trans (unhide C3); have n4 := (hb2.cell (p := ⟨g9, k * 5 + 4, none⟩) hg9).trans (unhide C4); have c2 := bt hb2 (below_alloc (w := w2) (.cells #[.int .u64 g.term, .int .i64 g.kind, .int .u64 g.client, .int .u64 g.seq, .string g.sql] 52) (Nat.le_refl _)); clear HEn))
                          go_quiet (fail)
                          clear n0 n1 n2 n3 n4
                          have c3 := bt c2 (drew_below (w2.alloc (.cells #[.int .u64 g.term, .int .i64 g.kind, .int .u64 g.client, .int .u64 g.seq, .string g.sql] 52)) nq)
                          generalize (w2.alloc (.cells #[.int .u64 g.term, .int .i64 g.kind, .int .u64 g.client, .int .u64 g.seq, .string g.sql] 52)).drewN nq = w3 at *
                          go_wp2
                          go_roundw
                          case rel => exact ⟨k + 1, by omega, by go_num, rb_later (unhide HNext) c3 c3.size, own_later (unhide G5) c3, hbw.trans (c3.mono hbw.size)⟩
                          case measure => simp [intOf]; omega
                    · have HNext := hide (hnext1 hce)
                      clear hnext1 hnext2
                      by_cases hcu : 0 ≤ cut ∧ cut < (nb : Int)
                      · obtain ⟨c, rfl⟩ := Int.eq_ofNat_of_zero_le hcu.1
                        have hcn : c < nb := by omega
                        have hcn' : (c : Int) < (nb : Int) := by omega
                        have hc0 : (0 : Int) ≤ (c : Int) := by omega
                        have HShort := hide (unhide HSh c hcn)
                        clear hcu HSh
                        go_wp2_with (first
                          | (go_at_call 27; refine (unhide HEn).mono ?_; rintro e w2 ⟨rfl, hb2⟩; have z2 : g9 < w2.heap.size := Nat.lt_of_lt_of_le hg9 hb2.size; have n0 := (hb2.cell (p := ⟨g9, k * 5, none⟩) hg9).trans (unhide C0); have n1 := (hb2.cell (p := ⟨g9, k * 5 + 1, none⟩) hg9).trans (unhide C1); have n2 := (hb2.cell (p := ⟨g9, k * 5 + 2, none⟩) hg9).trans (unhide C2); have n3 := (hb2.cell (p := ⟨g9, k * 5 + 3, none⟩) hg9).trans (unhide C3); have n4 := (hb2.cell (p := ⟨g9, k * 5 + 4, none⟩) hg9).trans (unhide C4); have c2 := bt hb2 (below_alloc (w := w2) (.cells #[.int .u64 g.term, .int .i64 g.kind, .int .u64 g.client, .int .u64 g.seq, .string g.sql] 52) (Nat.le_refl _)); clear HEn))
                        go_quiet (fail)
                        clear n0 n1 n2 n3 n4
                        have c3 := bt c2 (drew_below (w2.alloc (.cells #[.int .u64 g.term, .int .i64 g.kind, .int .u64 g.client, .int .u64 g.seq, .string g.sql] 52)) nq)
                        generalize (w2.alloc (.cells #[.int .u64 g.term, .int .i64 g.kind, .int .u64 g.client, .int .u64 g.seq, .string g.sql] 52)).drewN nq = w3 at *
                        go_wp2_with (first
                          | (go_at_call 27; refine (unhide HShort _ c3).mono ?_; rintro e w4 ⟨b4, pl4, rfl, he4, hb4⟩; have c4 := bt (bt c3 hb4) (below_alloc (w := w4) (.cells #[.int .u64 0, .int .i64 0, .int .u64 0, .int .u64 0, .string ⟨#[]⟩] 52) (Nat.le_refl _)); have he5 := he4.alloc (.cells #[.int .u64 0, .int .i64 0, .int .u64 0, .int .u64 0, .string ⟨#[]⟩] 52); clear HShort)
                          | (go_at_call 20; refine (class_at b4 pl4 22 _ (unhide HE _ (bt dw c4)) he5).mono ?_; rintro e w5 ⟨rfl, hb5⟩; have c5 := bt c4 hb5))
                        go_roundw
                        case rel => exact ⟨k + 1, by omega, by go_num, rb_later (unhide HNext) c5 c5.size, own_later (unhide G5) c5, hbw.trans (c5.mono hbw.size)⟩
                        case measure => simp [intOf]; omega
                      · clear HSh
                        by_cases hcu0 : 0 ≤ cut
                        · have hcu1 : ¬ (cut < (nb : Int)) := by omega
                          clear hcu
                          go_wp2_with (first
                            | (go_at_call 27; refine (unhide HEn).mono ?_; rintro e w2 ⟨rfl, hb2⟩; have z2 : g9 < w2.heap.size := Nat.lt_of_lt_of_le hg9 hb2.size; have n0 := (hb2.cell (p := ⟨g9, k * 5, none⟩) hg9).trans (unhide C0); have n1 := (hb2.cell (p := ⟨g9, k * 5 + 1, none⟩) hg9).trans (unhide C1); have n2 := (hb2.cell (p := ⟨g9, k * 5 + 2, none⟩) hg9).trans (unhide C2); have n3 := (hb2.cell (p := ⟨g9, k * 5 + 3, none⟩) hg9).trans (unhide C3); have n4 := (hb2.cell (p := ⟨g9, k * 5 + 4, none⟩) hg9).trans (unhide C4); have c2 := bt hb2 (below_alloc (w := w2) (.cells #[.int .u64 g.term, .int .i64 g.kind, .int .u64 g.client, .int .u64 g.seq, .string g.sql] 52) (Nat.le_refl _)); clear HEn))
                          go_quiet (fail)
                          clear n0 n1 n2 n3 n4
                          have c3 := bt c2 (drew_below (w2.alloc (.cells #[.int .u64 g.term, .int .i64 g.kind, .int .u64 g.client, .int .u64 g.seq, .string g.sql] 52)) nq)
                          generalize (w2.alloc (.cells #[.int .u64 g.term, .int .i64 g.kind, .int .u64 g.client, .int .u64 g.seq, .string g.sql] 52)).drewN nq = w3 at *
                          go_wp2
                          go_roundw
                          case rel => exact ⟨k + 1, by omega, by go_num, rb_later (unhide HNext) c3 c3.size, own_later (unhide G5) c3, hbw.trans (c3.mono hbw.size)⟩
                          case measure => simp [intOf]; omega
                        · clear hcu
                          go_wp2_with (first
                            | (go_at_call 27; refine (unhide HEn).mono ?_; rintro e w2 ⟨rfl, hb2⟩; have z2 : g9 < w2.heap.size := Nat.lt_of_lt_of_le hg9 hb2.size; have n0 := (hb2.cell (p := ⟨g9, k * 5, none⟩) hg9).trans (unhide C0); have n1 := (hb2.cell (p := ⟨g9, k * 5 + 1, none⟩) hg9).trans (unhide C1); have n2 := (hb2.cell (p := ⟨g9, k * 5 + 2, none⟩) hg9).trans (unhide C2); have n3 := (hb2.cell (p := ⟨g9, k * 5 + 3, none⟩) hg9).trans (unhide C3); have n4 := (hb2.cell (p := ⟨g9, k * 5 + 4, none⟩) hg9).trans (unhide C4); have c2 := bt hb2 (below_alloc (w := w2) (.cells #[.int .u64 g.term, .int .i64 g.kind, .int .u64 g.client, .int .u64 g.seq, .string g.sql] 52) (Nat.le_refl _)); clear HEn))
                          go_quiet (fail)
                          clear n0 n1 n2 n3 n4
                          have c3 := bt c2 (drew_below (w2.alloc (.cells #[.int .u64 g.term, .int .i64 g.kind, .int .u64 g.client, .int .u64 g.seq, .string g.sql] 52)) nq)
                          generalize (w2.alloc (.cells #[.int .u64 g.term, .int .i64 g.kind, .int .u64 g.client, .int .u64 g.seq, .string g.sql] 52)).drewN nq = w3 at *
                          go_wp2
                          go_roundw
                          case rel => exact ⟨k + 1, by omega, by go_num, rb_later (unhide HNext) c3 c3.size, own_later (unhide G5) c3, hbw.trans (c3.mono hbw.size)⟩
                          case measure => simp [intOf]; omega
                  · have hkk : k = xs.length := by omega
                    rw [hkk, List.drop_length] at hr7
                    obtain ⟨a7, k7, e7⟩ := rb_len hr7
                    subst e7
                    clear hr7 hkk
                    go_wp2
                    go_ret
                    exact ⟨rfl, dw⟩
end Go.Proofs.YtahcfanmfocljaaDoor
