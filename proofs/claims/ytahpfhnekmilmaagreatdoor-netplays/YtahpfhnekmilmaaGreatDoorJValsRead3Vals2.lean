/- Contracts of package wire's writer of values. -/
import Derived.Test.YtahpfhnekmilmaaGreatDoorWriter
import Derived.Lib.Bytealg
import Derived.Test.YtahpfhnekmilmaaGreatDoorUpto2
import Derived.Lib.BytesEntry
namespace Go.Proofs.YtahpfhnekmilmaaGreatDoor
open Go.RowKit Go.Lib

/-- An api.Value. -/
structure GV where
  kind : Int
  int : Int
  text : ByteArray
def GV.agg (g : GV) : Value := .agg #[.int .i64 g.kind, .int .i64 g.int, .string g.text]
def GV.ok (g : GV) : Prop := -9223372036854775808 ≤ g.int ∧ g.int < 9223372036854775808 ∧ g.text.size ≤ maxLen
/-- It may be (P1.2). -/
def GV.may (g : GV) : Bool :=
  (g.kind == 0 && g.int == 0 && g.text.toList.isEmpty) || (g.kind == 1 && (g.int == 0 || g.int == 1) && g.text.toList.isEmpty) || (g.kind == 2 && g.text.toList.isEmpty) ||
  (g.kind == 3 && g.int == 0 && g.text.size ≤ 40 && indexByte g.text.data.toList 0 < 0)
/-- Its bytes. -/
def GV.bytes (g : GV) : List UInt8 :=
  uvarint g.kind.toNat ++ (if g.kind = 1 then uvarint g.int.toNat else if g.kind = 2 then uvarint (zigzag g.int) else if g.kind = 3 then uvarint g.text.size ++ g.text.data.toList else [])

theorem ret_bool {a b : Bool} (h : a = b) : Ending.returned (.bool a) = .returned (.bool b) := by rw [h]
theorem indexByte_any (s : ByteArray) (w : World) :
    Calls Tryz.prog 84 #[.string s, .int .u8 0] w fun e w' => e = .returned (.int .i64 (indexByte s.data.toList 0)) ∧ w' = w := by
  have h := @run_callFunc_extern Tryz.prog 96 _ Extern.BytealgIndexByte.indexByte Tryz.func96 (by kernel_rfl) (by kernel_rfl) (by kernel_rfl) (by kernel_rfl)
  have h2 := run_indexByteString (P := Tryz.prog) s 0
  go_enter Tryz.func84, Tryz.ntmps84
  go_wp2
  go_ret
  exact ⟨rfl, rfl⟩

set_option maxHeartbeats 1600000 in
theorem mayBe_any (g : GV) (w : World) (hg : g.ok) :
    Calls Tryz.prog 73 #[g.agg] w fun e w' => e = .returned (.bool g.may) ∧ w' = w.alloc (.cells #[.int .i64 g.kind, .int .i64 g.int, .string g.text] 143) := by
  obtain ⟨k, n, t⟩ := g
  obtain ⟨h1, h2, h3⟩ := hg
  unfold GV.agg
  obtain ⟨m, hm⟩ : ∃ m, m = GV.may ⟨k, n, t⟩ := ⟨_, rfl⟩
  rw [← hm]
  have HM := hide hm
  clear hm
  dsimp only at *
  unfold maxLen at h3
  by_cases hk0 : k = 0
  · subst hk0
    by_cases hn : n = 0
    · subst hn
      go_enter Tryz.func73, Tryz.ntmps73
      go_wp2
      go_ret
      exact ⟨ret_bool (by rw [unhide HM]; simp [GV.may]), rfl⟩
    · have hnb : (n != 0) = true := by simp [hn]
      have hnc : (n == 0) = false := by simp [hn]
      go_enter Tryz.func73, Tryz.ntmps73
      go_wp2
      go_ret
      exact ⟨ret_bool (by rw [unhide HM]; simp [GV.may, hnc]), rfl⟩
  · by_cases hk1 : k = 1
    · subst hk1
      by_cases hn : n = 0
      · subst hn
        go_enter Tryz.func73, Tryz.ntmps73
        go_wp2
        go_ret
        exact ⟨ret_bool (by rw [unhide HM]; simp [GV.may]), rfl⟩
      · by_cases hn1 : n = 1
        · subst hn1
          go_enter Tryz.func73, Tryz.ntmps73
          go_wp2
          go_ret
          exact ⟨ret_bool (by rw [unhide HM]; simp [GV.may]), rfl⟩
        · have hnb : (n != 0) = true := by simp [hn]
          have hnc : (n != 1) = true := by simp [hn1]
          have hnd : (n == 0) = false := by simp [hn]
          have hne : (n == 1) = false := by simp [hn1]
          go_enter Tryz.func73, Tryz.ntmps73
          go_wp2
          go_ret
          exact ⟨ret_bool (by rw [unhide HM]; simp [GV.may, hnd, hne]), rfl⟩
    · by_cases hk2 : k = 2
      · subst hk2
        go_enter Tryz.func73, Tryz.ntmps73
        go_wp2
        go_ret
        exact ⟨ret_bool (by rw [unhide HM]; simp [GV.may]), rfl⟩
      · by_cases hk3 : k = 3
        · subst hk3
          by_cases hn : n = 0
          · subst hn
            by_cases h40 : t.size ≤ 40
            · go_enter Tryz.func73, Tryz.ntmps73
              go_wp2_with (go_at_call 84; refine (indexByte_any t _).mono ?_; rintro e w1 ⟨rfl, rfl⟩)
              go_ret
              exact ⟨ret_bool (by rw [unhide HM]; simp [GV.may, h40]), rfl⟩
            · go_enter Tryz.func73, Tryz.ntmps73
              go_wp2
              go_ret
              exact ⟨ret_bool (by rw [unhide HM]; simp [GV.may, h40]), rfl⟩
          · have hnb : (n == 0) = false := by simp [hn]
            go_enter Tryz.func73, Tryz.ntmps73
            go_wp2
            go_ret
            exact ⟨ret_bool (by rw [unhide HM]; simp [GV.may, hnb]), rfl⟩
        · have b0 : (k == 0) = false := by simp [hk0]
          have b1 : (k == 1) = false := by simp [hk1]
          have b2 : (k == 2) = false := by simp [hk2]
          have b3 : (k == 3) = false := by simp [hk3]
          go_enter Tryz.func73, Tryz.ntmps73
          go_wp2
          go_ret
          exact ⟨ret_bool (by rw [unhide HM]; simp [GV.may, b0, b1, b2, b3]), rfl⟩
end Go.Proofs.YtahpfhnekmilmaaGreatDoor
/- Contracts of the reader's between, number, take, text and value. -/
namespace Go.Proofs.YtahpfhnekmilmaaGreatDoor
open Go.RowKit Go.Lib

theorem rdUp_le {l : List UInt8} {most a : Nat} {s : Except Nat Nat} (h : (rdUp l most s).2 = .ok a) : (rdUp l most s).1 ≤ most := by
  cases s with
  | error c => simp [rdUp] at h
  | ok b =>
    unfold rdUp at h ⊢
    dsimp only at h ⊢
    by_cases h1 : (decU (l.drop b)).2.2.1 = 0
    · by_cases h2 : (decU (l.drop b)).1 ≤ most
      · simp [h1, h2]
      · simp [h1, h2] at h
    · rw [if_neg h1] at h; split at h <;> cases h

def rdBetween (l : List UInt8) (lo hi : Int) (s : Except Nat Nat) : Int × Except Nat Nat :=
  match (rdUp l (hi - lo).toNat s).2 with
  | .ok a => (lo + (rdUp l (hi - lo).toNat s).1, .ok a)
  | .error c => (0, .error c)

theorem RS.cells_ok {w : World} {p a : Nat} {l : List UInt8} (h : RS w p l (.ok a)) : w.cell? ⟨p, 1, none⟩ = some (.int .i64 (a : Int)) ∧ w.cell? ⟨p, 2, none⟩ = some .nilIface ∧ a ≤ l.length := by
  obtain ⟨_, _, _, _, _, h0, h1, h2⟩ := h; exact ⟨h1, h2, h0⟩
theorem RS.cells_err {w : World} {p c : Nat} {l : List UInt8} (h : RS w p l (.error c)) : ∃ b, w.cell? ⟨p, 2, none⟩ = some (ev b) := by
  obtain ⟨_, _, _, _, _, a, b, pl, _, _, h2, _⟩ := h; exact ⟨b, h2⟩

set_option maxHeartbeats 1600000 in
theorem rbetween_any (p : Nat) (lo hi : Int) (l : List UInt8) (s : Except Nat Nat) (w : World) (h : RS w p l s) (hlo : -1000 ≤ lo) (hlh : lo ≤ hi) (hhi : hi ≤ 1000000000) :
    Calls Tryz.prog 54 #[.pointer (some ⟨p, 0, none⟩), .int .i64 lo, .int .i64 hi] w fun e w' =>
      e = .returned (.int .i64 (rdBetween l lo hi s).1) ∧ RS w' p l (rdBetween l lo hi s).2 ∧ Fq p w w' := by
  obtain ⟨d, hd⟩ := Int.eq_ofNat_of_zero_le (show 0 ≤ hi - lo by omega)
  have hd2 : (d : Int) ≤ 1000001000 := by omega
  have HD := hide hd
  have HU := hide (upTo_any p d l s w h)
  unfold rdBetween
  rw [hd, Int.toNat_natCast]
  clear hd h
  cases hr : (rdUp l d s).2 with
  | ok a =>
    have hle := rdUp_le hr
    rw [hr] at HU
    generalize (rdUp l d s).1 = n at *
    have hn : (n : Int) ≤ 1000001000 := by omega
    clear hr hle
    go_enter Tryz.func54, Tryz.ntmps54
    go_wp2_with (go_at_call 67; rw [unhide HD]; refine (unhide HU).mono ?_; rintro e w1 ⟨rfl, hr1, hf1⟩; obtain ⟨k1, k2, k3⟩ := hr1.cells_ok)
    go_ret
    exact ⟨rfl, hr1, hf1⟩
  | error c =>
    rw [hr] at HU
    generalize (rdUp l d s).1 = n at *
    clear hr
    go_enter Tryz.func54, Tryz.ntmps54
    go_wp2_with (go_at_call 67; rw [unhide HD]; refine (unhide HU).mono ?_; rintro e w1 ⟨rfl, hr1, hf1⟩; obtain ⟨b1, k2⟩ := hr1.cells_err)
    go_ret
    exact ⟨rfl, hr1, hf1⟩

theorem rnumber_any (p : Nat) (l : List UInt8) (s : Except Nat Nat) (w : World) (h : RS w p l s) :
    Calls Tryz.prog 55 #[.pointer (some ⟨p, 0, none⟩)] w fun e w' =>
      e = .returned (.int .u64 ((rdUp l 18446744073709551615 s).1 : Int)) ∧ RS w' p l (rdUp l 18446744073709551615 s).2 ∧ Fq p w w' := by
  have HU := hide (upTo_any p 18446744073709551615 l s w h)
  generalize rdUp l 18446744073709551615 s = r at *
  clear h
  go_enter Tryz.func55, Tryz.ntmps55
  go_wp2_with (go_at_call 67; refine (unhide HU).mono ?_; rintro e w1 ⟨rfl, hr1, hf1⟩)
  go_ret
  exact ⟨rfl, hr1, hf1⟩

/-- Taking n bytes. -/
def rdTake (l : List UInt8) (n : Nat) : Except Nat Nat → List UInt8 × Except Nat Nat
  | .error c => ([], .error c)
  | .ok a => if n ≤ l.length - a then ((l.drop a).take n, .ok (a + n)) else ([], .error 22)
end Go.Proofs.YtahpfhnekmilmaaGreatDoor
/- Contracts of package wire's writer: texts, values. -/
namespace Go.Proofs.YtahpfhnekmilmaaGreatDoor
open Go.RowKit Go.Lib

theorem strCells_eq (t : ByteArray) : strCells t = byteCells t.data.toList := rfl
theorem bytes_length (t : ByteArray) : t.data.toList.length = t.size := by simp

/-- What a writer has behind a text. -/
def putText (t : ByteArray) (most : Int) (s : Option (List UInt8)) : Option (List UInt8) :=
  if (t.size : Int) ≤ most then s.map (· ++ (uvarint t.size ++ t.data.toList)) else none

set_option maxHeartbeats 1600000 in
theorem wtext_none (p : Nat) (t : ByteArray) (most : Int) (s : Option (List UInt8)) (w : World) (h0 : 0 ≤ most) (hm : most ≤ 1000000000) (ht : t.size ≤ 9223372036854775807) (hw : WS w p s) (hl : ∀ l, s = some l → l.length ≤ 1000000000)
    (hn : (t.size : Int) ≤ most → s = none) :
    Calls Tryz.prog 29 #[.pointer (some ⟨p, 0, none⟩), .string t, .int .i64 most] w fun e w' => e = .returned (.tuple #[]) ∧ WS w' p none ∧ Fr 5 p w w' := by
  have ht' : (t.size : Int) ≤ 9223372036854775807 := by omega
  have HB := hide (wbetween_any p (t.size : Int) 0 most s w (by omega) h0 hm hw hl)
  have e : (if 0 ≤ (t.size : Int) ∧ (t.size : Int) ≤ most then s.map (· ++ uvarint ((t.size : Int) - 0).toNat) else none) = none := by
    split
    · rw [hn (by omega)]; rfl
    · rfl
  rw [e] at HB
  clear hw hl hn e
  go_enter Tryz.func29, Tryz.ntmps29
  go_wp2_with (go_at_call 23; refine (unhide HB).mono ?_; rintro e w1 ⟨rfl, ⟨f0, f1, b, pl, c0, c1, hb, he⟩, hb1⟩)
  first | go_end0 | refine bodyPost_ret (results_none rfl _ _ _) rfl ?_
  exact ⟨rfl, ⟨f0, f1, b, pl, c0, c1, hb, he⟩, hb1⟩

set_option maxHeartbeats 1600000 in
theorem wtext_some (p : Nat) (t : ByteArray) (most : Int) (l : List UInt8) (w : World) (h0 : 0 ≤ most) (hm : most ≤ 1000000000) (hw : WS w p (some l)) (hl : l.length ≤ 900000000) (ht : (t.size : Int) ≤ most) :
    Calls Tryz.prog 29 #[.pointer (some ⟨p, 0, none⟩), .string t, .int .i64 most] w fun e w' => e = .returned (.tuple #[]) ∧ WS w' p (some (l ++ (uvarint t.size ++ t.data.toList))) ∧ Fr 5 p w w' := by
  obtain ⟨i0, hi, hz0, hz1, hz2⟩ := info_parts Tryz.infoB
  have hp := hw.lt
  have HB := hide (wbetween_any p (t.size : Int) 0 most (some l) w (by omega) h0 hm hw (by intro l' h; injection h with h; subst h; omega))
  rw [if_pos (by omega), show ((t.size : Int) - 0).toNat = t.size by omega, Option.map_some] at HB
  have hu := uvarint_length64 (x := t.size) (by omega)
  have HL : Hid ((l ++ uvarint t.size).length = l.length + (uvarint t.size).length) := List.length_append
  clear hw
  go_enter Tryz.func29, Tryz.ntmps29
  go_wp2_with (first | (go_at_call 23; refine (unhide HB).mono ?_; rintro e w1 ⟨rfl, ⟨f0, f1, v, c0, c1, ho⟩, hb1⟩; have hs1 := hb1.1.size) | (at_builtin; refine wpList_append_own_string _ rfl (.tmp 20) (.tmp 21) 34 9 rfl (p + 1) 5 i0 Tryz.underlying34 Tryz.underlying9 hi hz0 hz1 hz2 _ _ _ rfl ho t rfl (by have := unhide HL; unfold maxLen; omega) (by have := unhide HL; omega) (by omega) ?_))
  intro v' w2 ho2 hg2 _
  obtain ⟨a2, k2, hv2⟩ := own_slice ho2
  subst hv2
  have hb2 : Below (p + 1) w1 w2 := (Below.refl _ _).grown hg2 (by omega) (own_block_ge ho)
  have d0 : w2.cell? ⟨p, 0, none⟩ = some v := (hb2.cell (p := ⟨p, 0, none⟩) (Nat.lt_succ_self p)).trans c0
  have g0 : w2.frozen? ⟨p, 0, none⟩ = false := (hb2.frozen (p := ⟨p, 0, none⟩) (Nat.lt_succ_self p)).trans f0
  have R := hide (WS.more (l' := l ++ (uvarint t.size ++ t.data.toList)) c0 c1 f0 f1 hb2 (KeepT.of_grown ho hg2) (by
    have e1 : (l ++ (uvarint t.size ++ t.data.toList)).length = l.length + (uvarint t.size).length + t.size := by rw [List.length_append, List.length_append, bytes_length]; omega
    rw [e1, ← List.append_assoc, byteCells_append]; exact ho2))
  clear ho2 hg2 hb2
  go_wp2
  first | go_end0 | refine bodyPost_ret (results_none rfl _ _ _) rfl ?_
  exact ⟨rfl, (unhide R).1, hb1.trans (unhide R).2⟩

theorem wtext_any (p : Nat) (t : ByteArray) (most : Int) (s : Option (List UInt8)) (w : World) (h0 : 0 ≤ most) (hm : most ≤ 1000000000) (ht : t.size ≤ maxLen) (hw : WS w p s) (hl : ∀ l, s = some l → l.length ≤ 900000000) :
    Calls Tryz.prog 29 #[.pointer (some ⟨p, 0, none⟩), .string t, .int .i64 most] w fun e w' => e = .returned (.tuple #[]) ∧ WS w' p (putText t most s) ∧ Fr 5 p w w' := by
  unfold putText
  by_cases h : (t.size : Int) ≤ most
  · rw [if_pos h]
    cases s with
    | none => exact wtext_none p t most none w h0 hm (by unfold maxLen at ht; omega) hw (by simp) (fun _ => rfl)
    | some l => exact wtext_some p t most l w h0 hm hw (hl l rfl) h
  · rw [if_neg h]
    exact wtext_none p t most s w h0 hm (by unfold maxLen at ht; omega) hw (fun l e => by have := hl l e; omega) (fun h' => absurd h' h)
end Go.Proofs.YtahpfhnekmilmaaGreatDoor
