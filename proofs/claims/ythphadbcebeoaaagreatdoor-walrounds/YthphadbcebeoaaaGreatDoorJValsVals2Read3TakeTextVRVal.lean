/- Contracts of package wire's writer of values. -/
import Derived.Test.YthphadbcebeoaaaGreatDoorJNumsFaultsWriterUint
import Derived.Lib.Bytealg
import Derived.Test.YthphadbcebeoaaaGreatDoorUpto2
import Derived.Lib.BytesEntry
import Derived.Laws.BytesArg
import Derived.Lib.IndexLaws
namespace Go.Proofs.YthphadbcebeoaaaGreatDoor
open Go.RowKit Go.Lib

/-- An api.Value. -/
structure GV where
  kind : Int
  int : Int
  text : ByteArray
def GV.agg (g : GV) : Value := .agg #[.int .i64 g.kind, .int .i64 g.int, .string g.text]
def GV.ok (g : GV) : Prop := -9223372036854775808 ≤ g.int ∧ g.int < 9223372036854775808 ∧ g.text.size ≤ maxLen
/-- It may be (P1.2). -/
def GV.may (g : GV) : Bool :=
  (g.kind == 0 && g.int == 0 && g.text.toList.isEmpty) || (g.kind == 1 && (g.int == 0 || g.int == 1) && g.text.toList.isEmpty) || (g.kind == 2 && g.text.toList.isEmpty) ||
  (g.kind == 3 && g.int == 0 && g.text.size ≤ 40 && indexByte g.text.data.toList 0 < 0)
/-- Its bytes. -/
def GV.bytes (g : GV) : List UInt8 :=
  uvarint g.kind.toNat ++ (if g.kind = 1 then uvarint g.int.toNat else if g.kind = 2 then uvarint (zigzag g.int) else if g.kind = 3 then uvarint g.text.size ++ g.text.data.toList else [])

theorem ret_bool {a b : Bool} (h : a = b) : Ending.returned (.bool a) = .returned (.bool b) := by rw [h]
end Go.Proofs.YthphadbcebeoaaaGreatDoor
/- Contracts of package wire's writer: texts, values. -/
namespace Go.Proofs.YthphadbcebeoaaaGreatDoor
open Go.RowKit Go.Lib

theorem strCells_eq (t : ByteArray) : strCells t = byteCells t.data.toList := rfl
theorem bytes_length (t : ByteArray) : t.data.toList.length = t.size := by simp

/-- What a writer has behind a text. -/
def putText (t : ByteArray) (most : Int) (s : Option (List UInt8)) : Option (List UInt8) :=
  if (t.size : Int) ≤ most then s.map (· ++ (uvarint t.size ++ t.data.toList)) else none

set_option maxHeartbeats 1600000 in
theorem wtext_none (p : Nat) (t : ByteArray) (most : Int) (s : Option (List UInt8)) (w : World) (h0 : 0 ≤ most) (hm : most ≤ 1000000000) (ht : t.size ≤ 9223372036854775807) (hw : WS w p s) (hl : ∀ l, s = some l → l.length ≤ 1000000000)
    (hn : (t.size : Int) ≤ most → s = none) :
    Calls Tryz.prog 112 #[.pointer (some ⟨p, 0, none⟩), .string t, .int .i64 most] w fun e w' => e = .returned (.tuple #[]) ∧ WS w' p none ∧ Fr 5 p w w' := by
  have ht' : (t.size : Int) ≤ 9223372036854775807 := by omega
  have HB := hide (wbetween_any p (t.size : Int) 0 most s w (by omega) h0 hm hw hl)
  have e : (if 0 ≤ (t.size : Int) ∧ (t.size : Int) ≤ most then s.map (· ++ uvarint ((t.size : Int) - 0).toNat) else none) = none := by
    split
    · rw [hn (by omega)]; rfl
    · rfl
  rw [e] at HB
  clear hw hl hn e
  go_enter Tryz.func112, Tryz.ntmps112
  go_wp2_with (go_at_call 111; refine (unhide HB).mono ?_; rintro e w1 ⟨rfl, ⟨f0, f1, b, pl, c0, c1, hb, he⟩, hb1⟩)
  first | go_end0 | refine bodyPost_ret (results_none rfl _ _ _) rfl ?_
  exact ⟨rfl, ⟨f0, f1, b, pl, c0, c1, hb, he⟩, hb1⟩

set_option maxHeartbeats 1600000 in
theorem wtext_some (p : Nat) (t : ByteArray) (most : Int) (l : List UInt8) (w : World) (h0 : 0 ≤ most) (hm : most ≤ 1000000000) (hw : WS w p (some l)) (hl : l.length ≤ 900000000) (ht : (t.size : Int) ≤ most) :
    Calls Tryz.prog 112 #[.pointer (some ⟨p, 0, none⟩), .string t, .int .i64 most] w fun e w' => e = .returned (.tuple #[]) ∧ WS w' p (some (l ++ (uvarint t.size ++ t.data.toList))) ∧ Fr 5 p w w' := by
  obtain ⟨i0, hi, hz0, hz1, hz2⟩ := info_parts Tryz.infoB
  have hp := hw.lt
  have HB := hide (wbetween_any p (t.size : Int) 0 most (some l) w (by omega) h0 hm hw (by intro l' h; injection h with h; subst h; omega))
  rw [if_pos (by omega), show ((t.size : Int) - 0).toNat = t.size by omega, Option.map_some] at HB
  have hu := uvarint_length64 (x := t.size) (by omega)
  have HL : Hid ((l ++ uvarint t.size).length = l.length + (uvarint t.size).length) := List.length_append
  clear hw
  go_enter Tryz.func112, Tryz.ntmps112
  go_wp2_with (first | (go_at_call 111; refine (unhide HB).mono ?_; rintro e w1 ⟨rfl, ⟨f0, f1, v, c0, c1, ho⟩, hb1⟩; have hs1 := hb1.1.size) | (at_builtin; refine wpList_append_own_string _ rfl (.tmp 20) (.tmp 21) 22 9 rfl (p + 1) 5 i0 Tryz.underlying22 Tryz.underlying9 hi hz0 hz1 hz2 _ _ _ rfl ho t rfl (by have := unhide HL; unfold maxLen; omega) (by have := unhide HL; omega) (by omega) ?_))
  intro v' w2 ho2 hg2 _
  obtain ⟨a2, k2, hv2⟩ := own_slice ho2
  subst hv2
  have hb2 : Below (p + 1) w1 w2 := (Below.refl _ _).grown hg2 (by omega) (own_block_ge ho)
  have d0 : w2.cell? ⟨p, 0, none⟩ = some v := (hb2.cell (p := ⟨p, 0, none⟩) (Nat.lt_succ_self p)).trans c0
  have g0 : w2.frozen? ⟨p, 0, none⟩ = false := (hb2.frozen (p := ⟨p, 0, none⟩) (Nat.lt_succ_self p)).trans f0
  have R := hide (WS.more (l' := l ++ (uvarint t.size ++ t.data.toList)) c0 c1 f0 f1 hb2 (KeepT.of_grown ho hg2) (by
    have e1 : (l ++ (uvarint t.size ++ t.data.toList)).length = l.length + (uvarint t.size).length + t.size := by rw [List.length_append, List.length_append, bytes_length]; omega
    rw [e1, ← List.append_assoc, byteCells_append]; exact ho2))
  clear ho2 hg2 hb2
  go_wp2
  first | go_end0 | refine bodyPost_ret (results_none rfl _ _ _) rfl ?_
  exact ⟨rfl, (unhide R).1, hb1.trans (unhide R).2⟩

theorem wtext_any (p : Nat) (t : ByteArray) (most : Int) (s : Option (List UInt8)) (w : World) (h0 : 0 ≤ most) (hm : most ≤ 1000000000) (ht : t.size ≤ maxLen) (hw : WS w p s) (hl : ∀ l, s = some l → l.length ≤ 900000000) :
    Calls Tryz.prog 112 #[.pointer (some ⟨p, 0, none⟩), .string t, .int .i64 most] w fun e w' => e = .returned (.tuple #[]) ∧ WS w' p (putText t most s) ∧ Fr 5 p w w' := by
  unfold putText
  by_cases h : (t.size : Int) ≤ most
  · rw [if_pos h]
    cases s with
    | none => exact wtext_none p t most none w h0 hm (by unfold maxLen at ht; omega) hw (by simp) (fun _ => rfl)
    | some l => exact wtext_some p t most l w h0 hm hw (hl l rfl) h
  · rw [if_neg h]
    exact wtext_none p t most s w h0 hm (by unfold maxLen at ht; omega) hw (fun l e => by have := hl l e; omega) (fun h' => absurd h' h)
end Go.Proofs.YthphadbcebeoaaaGreatDoor
/- Contracts of the reader's between, number, take, text and value. -/
namespace Go.Proofs.YthphadbcebeoaaaGreatDoor
open Go.RowKit Go.Lib

theorem rdUp_le {l : List UInt8} {most a : Nat} {s : Except Nat Nat} (h : (rdUp l most s).2 = .ok a) : (rdUp l most s).1 ≤ most := by
  cases s with
  | error c => simp [rdUp] at h
  | ok b =>
    unfold rdUp at h ⊢
    dsimp only at h ⊢
    by_cases h1 : (decU (l.drop b)).2.2.1 = 0
    · by_cases h2 : (decU (l.drop b)).1 ≤ most
      · simp [h1, h2]
      · simp [h1, h2] at h
    · rw [if_neg h1] at h; split at h <;> cases h

def rdBetween (l : List UInt8) (lo hi : Int) (s : Except Nat Nat) : Int × Except Nat Nat :=
  match (rdUp l (hi - lo).toNat s).2 with
  | .ok a => (lo + (rdUp l (hi - lo).toNat s).1, .ok a)
  | .error c => (0, .error c)

theorem RS.cells_ok {w : World} {p a : Nat} {l : List UInt8} (h : RS w p l (.ok a)) : w.cell? ⟨p, 1, none⟩ = some (.int .i64 (a : Int)) ∧ w.cell? ⟨p, 2, none⟩ = some .nilIface ∧ a ≤ l.length := by
  obtain ⟨_, _, _, _, _, h0, h1, h2⟩ := h; exact ⟨h1, h2, h0⟩
theorem RS.cells_err {w : World} {p c : Nat} {l : List UInt8} (h : RS w p l (.error c)) : ∃ b, w.cell? ⟨p, 2, none⟩ = some (ev b) := by
  obtain ⟨_, _, _, _, _, a, b, pl, _, _, h2, _⟩ := h; exact ⟨b, h2⟩

set_option maxHeartbeats 1600000 in
theorem rbetween_any (p : Nat) (lo hi : Int) (l : List UInt8) (s : Except Nat Nat) (w : World) (h : RS w p l s) (hlo : -1000 ≤ lo) (hlh : lo ≤ hi) (hhi : hi ≤ 1000000000) :
    Calls Tryz.prog 125 #[.pointer (some ⟨p, 0, none⟩), .int .i64 lo, .int .i64 hi] w fun e w' =>
      e = .returned (.int .i64 (rdBetween l lo hi s).1) ∧ RS w' p l (rdBetween l lo hi s).2 ∧ Fq p w w' := by
  obtain ⟨d, hd⟩ := Int.eq_ofNat_of_zero_le (show 0 ≤ hi - lo by omega)
  have hd2 : (d : Int) ≤ 1000001000 := by omega
  have HD := hide hd
  have HU := hide (upTo_any p d l s w h)
  unfold rdBetween
  rw [hd, Int.toNat_natCast]
  clear hd h
  cases hr : (rdUp l d s).2 with
  | ok a =>
    have hle := rdUp_le hr
    rw [hr] at HU
    generalize (rdUp l d s).1 = n at *
    have hn : (n : Int) ≤ 1000001000 := by omega
    clear hr hle
    go_enter Tryz.func125, Tryz.ntmps125
    go_wp2_with (go_at_call 133; rw [unhide HD]; refine (unhide HU).mono ?_; rintro e w1 ⟨rfl, hr1, hf1⟩; obtain ⟨k1, k2, k3⟩ := hr1.cells_ok)
    go_ret
    exact ⟨rfl, hr1, hf1⟩
  | error c =>
    rw [hr] at HU
    generalize (rdUp l d s).1 = n at *
    clear hr
    go_enter Tryz.func125, Tryz.ntmps125
    go_wp2_with (go_at_call 133; rw [unhide HD]; refine (unhide HU).mono ?_; rintro e w1 ⟨rfl, hr1, hf1⟩; obtain ⟨b1, k2⟩ := hr1.cells_err)
    go_ret
    exact ⟨rfl, hr1, hf1⟩

theorem rnumber_any (p : Nat) (l : List UInt8) (s : Except Nat Nat) (w : World) (h : RS w p l s) :
    Calls Tryz.prog 124 #[.pointer (some ⟨p, 0, none⟩)] w fun e w' =>
      e = .returned (.int .u64 ((rdUp l 18446744073709551615 s).1 : Int)) ∧ RS w' p l (rdUp l 18446744073709551615 s).2 ∧ Fq p w w' := by
  have HU := hide (upTo_any p 18446744073709551615 l s w h)
  generalize rdUp l 18446744073709551615 s = r at *
  clear h
  go_enter Tryz.func124, Tryz.ntmps124
  go_wp2_with (go_at_call 133; refine (unhide HU).mono ?_; rintro e w1 ⟨rfl, hr1, hf1⟩)
  go_ret
  exact ⟨rfl, hr1, hf1⟩

/-- Taking n bytes. -/
def rdTake (l : List UInt8) (n : Nat) : Except Nat Nat → List UInt8 × Except Nat Nat
  | .error c => ([], .error c)
  | .ok a => if n ≤ l.length - a then ((l.drop a).take n, .ok (a + n)) else ([], .error 22)
end Go.Proofs.YthphadbcebeoaaaGreatDoor
/- Contracts of the reader's take and of string(bytes). -/
namespace Go.Proofs.YthphadbcebeoaaaGreatDoor
open Go.RowKit Go.Lib

theorem nums_eq (l : List UInt8) : strOfNums (l.map fun c => (c.toNat : Int)) = ⟨l.toArray⟩ := by
  apply ByteArray.ext
  apply Array.ext'
  have e : ((fun n : Int => UInt8.ofNat n.toNat) ∘ fun c : UInt8 => (c.toNat : Int)) = id := by funext c; simp
  rw [strOfNums_data, List.map_map, e, List.map_id]
theorem conv_any (v : Value) (B : Nat) (l : List UInt8) (w : World) (hv : RBp w B v l) : (convert 22 9 v).run Tryz.prog w = .ok (.string ⟨l.toArray⟩) w := by
  obtain ⟨hlen, ⟨rfl, rfl⟩ | ⟨b, off, cap, hbB, hcap, hm, rfl, hcell⟩⟩ := hv
  · exact run_convert_bytes_nil w _ _ Tryz.underlying22 Tryz.underlying5 0 0 _ Tryz.underlying9
  · have h := run_convert_bytes_arg (P := Tryz.prog) w 22 5 Tryz.underlying22 Tryz.underlying5 b off l.length cap (l.map fun c => (c.toNat : Int)) (by simp) (fun i hi => by
      rw [hcell i hi]; simp [hi]) 9 Tryz.underlying9
    rw [h, nums_eq]

set_option maxHeartbeats 1600000 in
theorem rtake_err (p n c : Nat) (l : List UInt8) (w : World) (h : RS w p l (.error c)) :
    Calls Tryz.prog 140 #[.pointer (some ⟨p, 0, none⟩), .int .i64 n] w fun e w' => e = .returned (.slice none 0 0) ∧ w' = w := by
  obtain ⟨b, hb⟩ := h.cells_err
  clear h
  go_enter Tryz.func140, Tryz.ntmps140
  go_wp2
  go_ret
  exact ⟨rfl, rfl⟩

theorem rb_len {w : World} {B : Nat} {v : Value} {l : List UInt8} (h : RBp w B v l) : ∃ a k, v = .slice a l.length k := by
  obtain ⟨hlen, ⟨rfl, rfl⟩ | ⟨b, off, cap, hbB, hcap, hm, rfl, hcell⟩⟩ := h
  · exact ⟨none, 0, rfl⟩
  · exact ⟨_, _, rfl⟩
theorem rest_rs' (p a : Nat) (l : List UInt8) (w : World) (h : RS w p l (.ok a)) :
    Calls Tryz.prog 136 #[.pointer (some ⟨p, 0, none⟩)] w fun e w' => ∃ ad k n, e = .returned (.slice ad (l.length - a) k) ∧ w' = w.drewN n ∧ RBp (w.drewN n) p (.slice ad (l.length - a) k) (l.drop a) := by
  refine (rest_rs p a l w h).mono ?_
  rintro e w' ⟨v', n, rfl, rfl, hv'⟩
  obtain ⟨ad, k, rfl⟩ := rb_len hv'
  rw [List.length_drop] at hv' ⊢
  exact ⟨ad, k, n, rfl, rfl, hv'⟩

set_option maxHeartbeats 3200000 in
theorem rtake_short (p a n : Nat) (l : List UInt8) (w : World) (h : RS w p l (.ok a)) (hn : l.length - a < n) :
    Calls Tryz.prog 140 #[.pointer (some ⟨p, 0, none⟩), .int .i64 n] w fun e w' => e = .returned (.slice none 0 0) ∧ RS w' p l (.error 22) ∧ Fq p w w' := by
  have hp := h.lt
  have hle := h.at_le
  have HR := hide h
  obtain ⟨hE, hG, f1, f2, ⟨v, h0, hv⟩, hs0, hs1, hs2⟩ := h
  obtain ⟨ad0, k0, rfl⟩ := rb_len hv
  clear hE hv
  have hn' : ((l.length - a : Nat) : Int) < (n : Int) := by omega
  go_enter Tryz.func140, Tryz.ntmps140
  go_wp2_with (first
    | (go_at_call 136; refine (rest_rs' p a l _ (unhide HR)).mono ?_; rintro e w1 ⟨ad, k, n1, rfl, rfl, hv'⟩; clear hv')
    | (go_at_call 90; refine (fault_b 22 _ _).mono ?_; rintro e w4 ⟨rfl, he4, hb4⟩; have R4 := hide (((unhide HR).drewN n1).later hb4))
    | (go_at_call 138; refine (rfail_ok p a _ _ _ l _ (unhide R4) (by simp; omega) he4).mono ?_; rintro e w6 ⟨rfl, hr6, hf6⟩))
  go_ret
  exact ⟨rfl, hr6, (((Fq.refl p w).drewN n1).trans (Fq.of hb4 (by simp; omega))).trans hf6⟩

theorem rb_take {w : World} {B b off cap a n : Nat} {l : List UInt8} (hbB : b < B) (hl : a ≤ l.length) (hn : n ≤ l.length - a) (hcap : l.length ≤ cap) (hm : cap ≤ maxLen) (hlen : l.length ≤ 1000000000000)
    (hcell : ∀ i, i < l.length → w.cell? ⟨b, off + i, none⟩ = some (.int .u8 ((l.getD i 0).toNat : Int))) : RBp w B (.slice (some ⟨b, off + a, none⟩) (a + n - a) (cap - a)) ((l.drop a).take n) := by
  have e0 : ((l.drop a).take n).length = a + n - a := by simp; omega
  refine ⟨by omega, .inr ⟨b, off + a, cap - a, hbB, by omega, by omega, by rw [e0], fun i hi => ?_⟩⟩
  have hi' : i < n := by omega
  have e : ((l.drop a).take n).getD i 0 = l.getD (a + i) 0 := by
    simp [List.getD_eq_getElem?_getD, hi']
  rw [e, Nat.add_assoc]; exact hcell (a + i) (by omega)
theorem rb_take0 {w : World} {B b off cap a n : Nat} {l : List UInt8} (hbB : b < B) (hn : n ≤ l.length - a) (hcap : l.length ≤ cap) (hce : cap = a) (k : Nat) (hk : k ≤ maxLen) :
    RBp w B (.slice (some ⟨b, off, none⟩) (a + n - a) k) ((l.drop a).take n) := by
  have hn0 : n = 0 := by omega
  subst hn0
  refine ⟨by simp, .inr ⟨b, off, k, hbB, by simp, hk, by simp, fun i hi => by simp at hi⟩⟩

set_option maxHeartbeats 3200000 in
theorem rtake_fit (p a n : Nat) (l : List UInt8) (w : World) (h : RS w p l (.ok a)) (hn : n ≤ l.length - a) :
    Calls Tryz.prog 140 #[.pointer (some ⟨p, 0, none⟩), .int .i64 n] w fun e w' => ∃ v', e = .returned v' ∧ RBp w' p v' ((l.drop a).take n) ∧ RS w' p l (.ok (a + n)) ∧ Fq p w w' := by
  have hp := h.lt
  have hle := h.at_le
  have HR := hide h
  obtain ⟨hE, hG, f1, f2, ⟨v, h0, hv⟩, hs0, hs1, hs2⟩ := h
  have hn' : ¬ (((l.length - a : Nat) : Int) < (n : Int)) := by omega
  obtain ⟨hlen, ⟨rfl, rfl⟩ | ⟨b, off, cap, hbB, hcap, hm, rfl, hcell⟩⟩ := hv
  · have e : a = 0 := by simpa using hs0
    subst e
    have e : n = 0 := by simpa using hn
    subst e
    clear hE
    go_enter Tryz.func140, Tryz.ntmps140
    go_wp2_with (first
      | (go_at_call 136; refine (rest_rs' p 0 [] _ (unhide HR)).mono ?_; rintro e w1 ⟨ad, k, n1, rfl, rfl, hv'⟩; clear hv'))
    go_quiet (fail)
    go_wp2
    go_ret
    have R := (RS.moved (a' := 0 + 0) ((unhide HR).drewN n1) (by simp))
    exact ⟨_, rfl, ⟨by simp, .inl ⟨rfl, rfl⟩⟩, R.1.drewN nq, (((Fq.refl p w).drewN n1).trans R.2).drewN nq⟩
  · have hm' := hm
    unfold maxLen at hm
    clear hE
    by_cases hce : cap = a
    · have HT := hide (fun w' k (hk : k ≤ maxLen) => rb_take0 (w := w') (off := off) hbB hn hcap hce k hk)
      go_enter Tryz.func140, Tryz.ntmps140
      go_wp2_with (first
        | (go_at_call 136; refine (rest_rs' p a l _ (unhide HR)).mono ?_; rintro e w1 ⟨ad, k, n1, rfl, rfl, hv'⟩; clear hv'))
      go_quiet (fail)
      go_wp2
      go_ret
      have R := (RS.moved (a' := a + n) ((unhide HR).drewN n1) (by omega))
      exact ⟨_, rfl, unhide HT _ _ (by unfold maxLen; omega), R.1.drewN nq, (((Fq.refl p w).drewN n1).trans R.2).drewN nq⟩
    · have HC := hide hcell
      clear hcell
      go_enter Tryz.func140, Tryz.ntmps140
      go_wp2_with (first
        | (go_at_call 136; refine (rest_rs' p a l _ (unhide HR)).mono ?_; rintro e w1 ⟨ad, k, n1, rfl, rfl, hv'⟩; clear hv'))
      go_quiet (fail)
      go_wp2
      go_ret
      have R := (RS.moved (a' := a + n) ((unhide HR).drewN n1) (by omega))
      exact ⟨_, rfl, (rb_take hbB hs0 hn hcap hm' hlen (unhide HC)).below ((((Fq.refl p w).drewN n1).trans R.2).drewN nq).1 (Nat.le_refl _), R.1.drewN nq, (((Fq.refl p w).drewN n1).trans R.2).drewN nq⟩

theorem rtake_any (p n : Nat) (l : List UInt8) (s : Except Nat Nat) (w : World) (h : RS w p l s) :
    Calls Tryz.prog 140 #[.pointer (some ⟨p, 0, none⟩), .int .i64 n] w fun e w' => ∃ v', e = .returned v' ∧ RBp w' p v' (rdTake l n s).1 ∧ RS w' p l (rdTake l n s).2 ∧ Fq p w w' := by
  cases s with
  | error c =>
    refine (rtake_err p n c l w h).mono ?_
    rintro e w' ⟨rfl, rfl⟩
    exact ⟨_, rfl, ⟨by simp [rdTake], .inl ⟨rfl, rfl⟩⟩, h, Fq.refl _ _⟩
  | ok a =>
    by_cases hn : n ≤ l.length - a
    · have e : rdTake l n (.ok a) = ((l.drop a).take n, .ok (a + n)) := by simp [rdTake, hn]
      rw [e]; exact rtake_fit p a n l w h hn
    · have e : rdTake l n (.ok a) = ([], .error 22) := by simp [rdTake, hn]
      rw [e]
      refine (rtake_short p a n l w h (by omega)).mono ?_
      rintro e w' ⟨rfl, h1, h2⟩
      exact ⟨_, rfl, ⟨by simp, .inl ⟨rfl, rfl⟩⟩, h1, h2⟩
end Go.Proofs.YthphadbcebeoaaaGreatDoor
/- Contracts of bytes.IndexByte and of the reader's textValue. -/
namespace Go.Proofs.YthphadbcebeoaaaGreatDoor
open Go.RowKit Go.Lib

theorem bytesOf_map (l : List UInt8) : bytesOf (l.map fun c => (c.toNat : Int)) = l := by
  induction l with
  | nil => rfl
  | cons c r ih =>
    have e : bytesOf ((c.toNat : Int) :: r.map fun c => (c.toNat : Int)) = ((c.toNat : Int).toNat.toUInt8) :: bytesOf (r.map fun c => (c.toNat : Int)) := rfl
    rw [List.map_cons, e, ih]
    simp [Nat.toUInt8]

theorem indexByte_le : ∀ (l : List UInt8) (c : UInt8), indexByte l c ≤ l.length := by
  intro l c
  rcases Int.lt_or_le (indexByte l c) 0 with h | h
  · omega
  · obtain ⟨o, ho⟩ := Int.eq_ofNat_of_zero_le h
    have := (indexByte_some ho).1
    have h2 := (List.getElem?_eq_some_iff.1 this).1
    omega
theorem rb_first {w : World} {B k n : Nat} {ad : Option Addr} {l : List UInt8} (h : RBp w B (.slice ad l.length k) l) (hn : n ≤ l.length) : RBp w B (.slice ad n k) (l.take n) := by
  obtain ⟨hlen, ⟨hv, rfl⟩ | ⟨b, off, cap, hbB, hcap, hm, hv, hcell⟩⟩ := h
  · injection hv with h1 h2 h3
    have hn0 : n = 0 := by simpa using hn
    subst h1; subst h3; subst hn0
    exact ⟨by simp, .inl ⟨rfl, rfl⟩⟩
  · injection hv with h1 h2 h3
    subst h1; subst h3
    have e : (l.take n).length = n := by simp; omega
    refine ⟨by omega, .inr ⟨b, off, k, hbB, by omega, hm, by rw [e], fun i hi => ?_⟩⟩
    have hi' : i < n := by omega
    have e : (l.take n).getD i 0 = l.getD i 0 := by simp [List.getD_eq_getElem?_getD, hi']
    rw [e]; exact hcell i (by omega)

theorem rb_len' {w : World} {B : Nat} {v : Value} {l : List UInt8} (h : RBp w B v l) : ∃ a k, v = .slice a l.length k ∧ l.length ≤ k := by
  obtain ⟨hlen, ⟨rfl, rfl⟩ | ⟨b, off, cap, hbB, hcap, hm, rfl, hcell⟩⟩ := h
  · exact ⟨none, 0, rfl, by simp⟩
  · exact ⟨_, _, rfl, hcap⟩
theorem rest_any' (p a : Nat) (l : List UInt8) (w : World) (hl : a ≤ l.length) (v : Value) (h0 : w.cell? ⟨p, 0, none⟩ = some v) (hv : RBp w p v l) (h1 : w.cell? ⟨p, 1, none⟩ = some (.int .i64 (a : Int))) :
    Calls Tryz.prog 136 #[.pointer (some ⟨p, 0, none⟩)] w fun e w' => ∃ ad k n, e = .returned (.slice ad (l.length - a) k) ∧ w' = w.drewN n ∧ l.length - a ≤ k ∧ RBp (w.drewN n) p (.slice ad (l.length - a) k) (l.drop a) := by
  refine (rest_any p a l w hl v h0 hv h1).mono ?_
  rintro e w' ⟨v', n, rfl, rfl, hv'⟩
  obtain ⟨ad, k, rfl, hk⟩ := rb_len' hv'
  rw [List.length_drop] at hv' hk ⊢
  exact ⟨ad, k, n, rfl, rfl, hk, hv'.below (below_drewN (Below.refl p w) n) (Nat.le_refl _)⟩
theorem rb_first' {w : World} {B k n a : Nat} {ad : Option Addr} {l : List UInt8} (h : RBp w B (.slice ad (l.length - a) k) (l.drop a)) (hn : n ≤ l.length - a) : RBp w B (.slice ad n k) ((l.drop a).take n) :=
  rb_first (l := l.drop a) (by simpa using h) (by simpa using hn)

/-- Reading a text of a row. -/
def rdText (l : List UInt8) (s : Except Nat Nat) : List UInt8 × Except Nat Nat :=
  match (rdBetween l 0 40 s).2 with
  | .error c => ([], .error c)
  | .ok a => if 0 ≤ indexByte ((l.drop a).take (rdBetween l 0 40 s).1.toNat) 0 then ([], .error 20) else rdTake l (rdBetween l 0 40 s).1.toNat (.ok a)

theorem rdBetween_ok {l : List UInt8} {lo hi : Int} {s : Except Nat Nat} {a : Nat} (hlh : lo ≤ hi) (h : (rdBetween l lo hi s).2 = .ok a) : ∃ n : Nat, rdBetween l lo hi s = (lo + n, .ok a) ∧ (n : Int) ≤ hi - lo := by
  unfold rdBetween at h ⊢
  cases hr : (rdUp l (hi - lo).toNat s).2 with
  | error c => rw [hr] at h; cases h
  | ok b =>
    rw [hr] at h
    dsimp only at h ⊢
    have := rdUp_le hr
    injection h with h
    subst h
    exact ⟨_, rfl, by omega⟩
theorem rdBetween_err {l : List UInt8} {lo hi : Int} {s : Except Nat Nat} {c : Nat} (h : (rdBetween l lo hi s).2 = .error c) : rdBetween l lo hi s = (0, .error c) := by
  unfold rdBetween at h ⊢
  cases hr : (rdUp l (hi - lo).toNat s).2 with
  | error c' => rw [hr] at h; dsimp only at h ⊢; injection h with h; subst h; rfl
  | ok b => rw [hr] at h; cases h

end Go.Proofs.YthphadbcebeoaaaGreatDoor
/- Contract of the reader's value. -/
namespace Go.Proofs.YthphadbcebeoaaaGreatDoor
open Go.RowKit Go.Lib

def unzig (n : Nat) : Int := if n % 2 = 0 then ((n / 2 : Nat) : Int) else -((n / 2 : Nat) : Int) - 1

theorem xor_zero_i64 (x : Nat) (hx : x < 9223372036854775808) : bits BinOp.xor IntKind.i64 (x : Int) 0 = (x : Int) := by
  show IntKind.i64.wrap ((BitVec.ofInt 64 (x : Int) ^^^ BitVec.ofInt 64 0).toNat : Int) = _
  have h2 : (BitVec.ofInt 64 (x : Int)).toNat = x := by
    rw [BitVec.ofInt_natCast, BitVec.toNat_ofNat]; exact Nat.mod_eq_of_lt (by omega)
  have h1 : (BitVec.ofInt 64 0).toNat = 0 := by decide
  rw [BitVec.toNat_xor, h1, h2, Nat.xor_zero, IntKind.wrap_i64]
  omega
theorem unzig_walk (n : Nat) (hn : n < 18446744073709551616) :
    bits BinOp.xor IntKind.i64 ((n : Int) / 2) (wrap64 (-wrap64 (bits BinOp.and IntKind.u64 (n : Int) 1))) = unzig n := by
  rw [u64_and1 (n : Int) (by omega) (by omega)]
  have e : ((n : Int) / 2) = ((n / 2 : Nat) : Int) := by omega
  unfold unzig
  by_cases h : n % 2 = 0
  · have e2 : ((n : Int) % 2) = 0 := by omega
    rw [if_pos h, e2, e, show wrap64 (-wrap64 0) = 0 by decide +kernel, xor_zero_i64 _ (by omega)]
  · have e2 : ((n : Int) % 2) = 1 := by omega
    have hc : bits BinOp.xor IntKind.i64 ((n / 2 : Nat) : Int) (-1) = bits BinOp.xor IntKind.i64 (-1) ((n / 2 : Nat) : Int) := by simp only [bits, BitVec.xor_comm]
    rw [if_neg h, e2, e, show wrap64 (-wrap64 1) = -1 by decide +kernel, hc, i64_not _ (by omega)]
theorem new_box {w w1 : World} {p : Nat} {T : TypeId} {a b c : Value} (hp : p < w.heap.size) (hf : Fq p (w.alloc (.cells #[a, b, c] T)) w1) :
    w1.cell? ⟨w.heap.size, 0, none⟩ = some a ∧ w1.cell? ⟨w.heap.size, 1, none⟩ = some b ∧ w1.cell? ⟨w.heap.size, 2, none⟩ = some c ∧
    w1.frozen? ⟨w.heap.size, 0, none⟩ = false ∧ w1.frozen? ⟨w.heap.size, 1, none⟩ = false ∧ w1.frozen? ⟨w.heap.size, 2, none⟩ = false ∧ w.heap.size < w1.heap.size := by
  have hz := hf.1.size
  have hne : w.heap.size ≠ p := by omega
  refine ⟨?_, ?_, ?_, ?_, ?_, ?_, by simp at hz; omega⟩
  · rw [hf.cell (a := ⟨w.heap.size, 0, none⟩) (by simp) hne]; simp
  · rw [hf.cell (a := ⟨w.heap.size, 1, none⟩) (by simp) hne]; simp
  · rw [hf.cell (a := ⟨w.heap.size, 2, none⟩) (by simp) hne]; simp
  · rw [hf.frozen (a := ⟨w.heap.size, 0, none⟩) (by simp) hne]; simp
  · rw [hf.frozen (a := ⟨w.heap.size, 1, none⟩) (by simp) hne]; simp
  · rw [hf.frozen (a := ⟨w.heap.size, 2, none⟩) (by simp) hne]; simp

theorem Fq.setNew {p : Nat} {a w : World} (h : Fq p a w) {k : Nat} (hk : a.heap.size ≤ k) (hp : p ≤ k) (j : Nat) (u : Value) : Fq p a (w.setCell ⟨k, j, none⟩ u) :=
  ⟨h.1.setCell (p := ⟨k, j, none⟩) hp u, fun i hi hip => (Below.heap_setCell w ⟨k, j, none⟩ u i (show i ≠ k by omega)).trans (h.2 i hi hip)⟩
theorem RS.setOther {w : World} {p k : Nat} {l : List UInt8} {s : Except Nat Nat} {x : Int} (h : RS w p l s) (hk : p < k) (hx : w.cell? ⟨k, 1, none⟩ = some (.int .i64 x)) (j : Nat) (u : Value) : RS (w.setCell ⟨k, j, none⟩ u) p l s := by
  obtain ⟨hE, hG, f1, f2, ⟨v, h0, hv⟩, hs⟩ := h
  have hb := (Below.refl (p + 1) w).setCell (p := ⟨k, j, none⟩) hk u
  refine ⟨hE.below hb (by omega), hG, by simpa using f1, by simpa using f2, ⟨v, (hb.cell (p := ⟨p, 0, none⟩) (by simp)).trans h0, hv.below hb (by omega)⟩, ?_⟩
  cases s with
  | ok a => exact ⟨hs.1, (hb.cell (p := ⟨p, 1, none⟩) (by simp)).trans hs.2.1, (hb.cell (p := ⟨p, 2, none⟩) (by simp)).trans hs.2.2⟩
  | error c =>
    obtain ⟨a, b, pl, g1, g2, g3, g4, g5⟩ := hs
    have hbk : b ≠ k := by
      intro e
      subst e
      have := g5.2
      rw [hx] at this
      injection this with this
      cases this
    refine ⟨a, b, pl, g1, (hb.cell (p := ⟨p, 1, none⟩) (by simp)).trans g2, (hb.cell (p := ⟨p, 2, none⟩) (by simp)).trans g3, g4, ?_, ?_⟩
    · rw [World.cell?_setCell_other _ _ _ _ (by intro h; injection h; omega)]; exact g5.1
    · rw [World.cell?_setCell_other _ _ _ _ (by intro h; injection h; omega)]; exact g5.2
theorem RS.set3 {w : World} {p k : Nat} {l : List UInt8} {s : Except Nat Nat} {x y : Int} (h : RS w p l s) (hk : p < k) (hx : w.cell? ⟨k, 1, none⟩ = some (.int .i64 x)) (A C : Value) :
    RS (((w.setCell ⟨k, 0, none⟩ A).setCell ⟨k, 1, none⟩ (.int .i64 y)).setCell ⟨k, 2, none⟩ C) p l s := by
  have c1 : (w.setCell ⟨k, 0, none⟩ A).cell? ⟨k, 1, none⟩ = some (.int .i64 x) := (World.cell?_setCell_other _ _ _ _ (ne01 k)).trans hx
  have c2 : ((w.setCell ⟨k, 0, none⟩ A).setCell ⟨k, 1, none⟩ (.int .i64 y)).cell? ⟨k, 1, none⟩ = some (.int .i64 y) := World.cell?_setCell_same _ _ _ c1
  exact ((h.setOther hk hx 0 A).setOther hk c1 1 _).setOther hk c2 2 C
theorem Fq.set3 {p : Nat} {a w : World} (h : Fq p a w) {k : Nat} (hk : a.heap.size ≤ k) (hp : p ≤ k) (A B C : Value) : Fq p a (((w.setCell ⟨k, 0, none⟩ A).setCell ⟨k, 1, none⟩ B).setCell ⟨k, 2, none⟩ C) :=
  ((h.setNew hk hp 0 A).setNew hk hp 1 B).setNew hk hp 2 C

/-- Reading a value. -/
def rdVal (l : List UInt8) (s : Except Nat Nat) : GV × Except Nat Nat :=
  if (rdBetween l 0 3 s).1 = 1 then (⟨1, (rdBetween l 0 1 (rdBetween l 0 3 s).2).1, ⟨#[]⟩⟩, (rdBetween l 0 1 (rdBetween l 0 3 s).2).2)
  else if (rdBetween l 0 3 s).1 = 2 then (⟨2, unzig (rdUp l 18446744073709551615 (rdBetween l 0 3 s).2).1, ⟨#[]⟩⟩, (rdUp l 18446744073709551615 (rdBetween l 0 3 s).2).2)
  else if (rdBetween l 0 3 s).1 = 3 then (⟨3, 0, ⟨(rdText l (rdBetween l 0 3 s).2).1.toArray⟩⟩, (rdText l (rdBetween l 0 3 s).2).2)
  else (⟨(rdBetween l 0 3 s).1, 0, ⟨#[]⟩⟩, (rdBetween l 0 3 s).2)

theorem old_box {w1 w2 : World} {p r : Nat} {a b c : Value} (hr : r < w1.heap.size) (hrp : r ≠ p) {o : Obj} (hf : Fq p (w1.alloc o) w2)
    (h1 : w1.cell? ⟨r, 0, none⟩ = some a) (h2 : w1.cell? ⟨r, 1, none⟩ = some b) (h3 : w1.cell? ⟨r, 2, none⟩ = some c) (g1 : w1.frozen? ⟨r, 0, none⟩ = false) (g2 : w1.frozen? ⟨r, 1, none⟩ = false) (g3 : w1.frozen? ⟨r, 2, none⟩ = false) :
    w2.cell? ⟨r, 0, none⟩ = some a ∧ w2.cell? ⟨r, 1, none⟩ = some b ∧ w2.cell? ⟨r, 2, none⟩ = some c ∧ w2.frozen? ⟨r, 0, none⟩ = false ∧ w2.frozen? ⟨r, 1, none⟩ = false ∧ w2.frozen? ⟨r, 2, none⟩ = false := by
  have hs : r < (w1.alloc o).heap.size := by simp; omega
  refine ⟨?_, ?_, ?_, ?_, ?_, ?_⟩
  · rw [hf.cell (a := ⟨r, 0, none⟩) hs hrp, World.cell?_alloc_lt _ _ ⟨r, 0, none⟩ hr]; exact h1
  · rw [hf.cell (a := ⟨r, 1, none⟩) hs hrp, World.cell?_alloc_lt _ _ ⟨r, 1, none⟩ hr]; exact h2
  · rw [hf.cell (a := ⟨r, 2, none⟩) hs hrp, World.cell?_alloc_lt _ _ ⟨r, 2, none⟩ hr]; exact h3
  · rw [hf.frozen (a := ⟨r, 0, none⟩) hs hrp, World.frozen?_alloc_old _ _ ⟨r, 0, none⟩ (Nat.ne_of_lt hr)]; exact g1
  · rw [hf.frozen (a := ⟨r, 1, none⟩) hs hrp, World.frozen?_alloc_old _ _ ⟨r, 1, none⟩ (Nat.ne_of_lt hr)]; exact g2
  · rw [hf.frozen (a := ⟨r, 2, none⟩) hs hrp, World.frozen?_alloc_old _ _ ⟨r, 2, none⟩ (Nat.ne_of_lt hr)]; exact g3

theorem rdUp_lt {l : List UInt8} {s : Except Nat Nat} {most : Nat} (hm : most < 18446744073709551616) : (rdUp l most s).1 < 18446744073709551616 := by
  cases hr : (rdUp l most s).2 with
  | ok a => have := rdUp_le hr; omega
  | error c =>
    cases s with
    | error c' => simp [rdUp]
    | ok b =>
      unfold rdUp at hr ⊢
      dsimp only at hr ⊢
      by_cases h1 : (decU (l.drop b)).2.2.1 = 0
      · by_cases h2 : (decU (l.drop b)).1 ≤ most
        · simp [h1, h2] at hr
        · simp [h1, h2]
      · rw [if_neg h1]; split <;> simp

end Go.Proofs.YthphadbcebeoaaaGreatDoor
