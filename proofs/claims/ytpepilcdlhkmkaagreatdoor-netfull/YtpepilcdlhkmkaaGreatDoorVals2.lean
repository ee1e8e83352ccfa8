/- Contracts of package wire's writer: texts, values. -/
import Derived.Test.YtpepilcdlhkmkaaGreatDoorJValsRead3
namespace Go.Proofs.YtpepilcdlhkmkaaGreatDoor
open Go.RowKit Go.Lib

theorem strCells_eq (t : ByteArray) : strCells t = byteCells t.data.toList := rfl
theorem bytes_length (t : ByteArray) : t.data.toList.length = t.size := by simp

/-- What a writer has behind a text. -/
def putText (t : ByteArray) (most : Int) (s : Option (List UInt8)) : Option (List UInt8) :=
  if (t.size : Int) ≤ most then s.map (· ++ (uvarint t.size ++ t.data.toList)) else none

set_option maxHeartbeats 1600000 in
theorem wtext_none (p : Nat) (t : ByteArray) (most : Int) (s : Option (List UInt8)) (w : World) (h0 : 0 ≤ most) (hm : most ≤ 1000000000) (ht : t.size ≤ 9223372036854775807) (hw : WS w p s) (hl : ∀ l, s = some l → l.length ≤ 1000000000)
    (hn : (t.size : Int) ≤ most → s = none) :
    Calls Tryz.prog 31 #[.pointer (some ⟨p, 0, none⟩), .string t, .int .i64 most] w fun e w' => e = .returned (.tuple #[]) ∧ WS w' p none ∧ Fr 5 p w w' := by
  have ht' : (t.size : Int) ≤ 9223372036854775807 := by omega
  have HB := hide (wbetween_any p (t.size : Int) 0 most s w (by omega) h0 hm hw hl)
  have e : (if 0 ≤ (t.size : Int) ∧ (t.size : Int) ≤ most then s.map (· ++ uvarint ((t.size : Int) - 0).toNat) else none) = none := by
    split
    · rw [hn (by omega)]; rfl
    · rfl
  rw [e] at HB
  clear hw hl hn e
  go_enter Tryz.func31, Tryz.ntmps31
  go_wp2_with (go_at_call 25; refine (unhide HB).mono ?_; rintro e w1 ⟨rfl, ⟨f0, f1, b, pl, c0, c1, hb, he⟩, hb1⟩)
  first | go_end0 | refine bodyPost_ret (results_none rfl _ _ _) rfl ?_
  exact ⟨rfl, ⟨f0, f1, b, pl, c0, c1, hb, he⟩, hb1⟩

set_option maxHeartbeats 1600000 in
theorem wtext_some (p : Nat) (t : ByteArray) (most : Int) (l : List UInt8) (w : World) (h0 : 0 ≤ most) (hm : most ≤ 1000000000) (hw : WS w p (some l)) (hl : l.length ≤ 900000000) (ht : (t.size : Int) ≤ most) :
    Calls Tryz.prog 31 #[.pointer (some ⟨p, 0, none⟩), .string t, .int .i64 most] w fun e w' => e = .returned (.tuple #[]) ∧ WS w' p (some (l ++ (uvarint t.size ++ t.data.toList))) ∧ Fr 5 p w w' := by
  obtain ⟨i0, hi, hz0, hz1, hz2⟩ := info_parts Tryz.infoB
  have hp := hw.lt
  have HB := hide (wbetween_any p (t.size : Int) 0 most (some l) w (by omega) h0 hm hw (by intro l' h; injection h with h; subst h; omega))
  rw [if_pos (by omega), show ((t.size : Int) - 0).toNat = t.size by omega, Option.map_some] at HB
  have hu := uvarint_length64 (x := t.size) (by omega)
  have HL : Hid ((l ++ uvarint t.size).length = l.length + (uvarint t.size).length) := List.length_append
  clear hw
  go_enter Tryz.func31, Tryz.ntmps31
  go_wp2_with (first | (go_at_call 25; refine (unhide HB).mono ?_; rintro e w1 ⟨rfl, ⟨f0, f1, v, c0, c1, ho⟩, hb1⟩; have hs1 := hb1.1.size) | (at_builtin; refine wpList_append_own_string _ rfl (.tmp 20) (.tmp 21) 34 9 rfl (p + 1) 5 i0 Tryz.underlying34 Tryz.underlying9 hi hz0 hz1 hz2 _ _ _ rfl ho t rfl (by have := unhide HL; unfold maxLen; omega) (by have := unhide HL; omega) (by omega) ?_))
  intro v' w2 ho2 hg2 _
  obtain ⟨a2, k2, hv2⟩ := own_slice ho2
  subst hv2
  have hb2 : Below (p + 1) w1 w2 := (Below.refl _ _).grown hg2 (by omega) (own_block_ge ho)
  have d0 : w2.cell? ⟨p, 0, none⟩ = some v := (hb2.cell (p := ⟨p, 0, none⟩) (Nat.lt_succ_self p)).trans c0
  have g0 : w2.frozen? ⟨p, 0, none⟩ = false := (hb2.frozen (p := ⟨p, 0, none⟩) (Nat.lt_succ_self p)).trans f0
  have R := hide (WS.more (l' := l ++ (uvarint t.size ++ t.data.toList)) c0 c1 f0 f1 hb2 (KeepT.of_grown ho hg2) (by
    have e1 : (l ++ (uvarint t.size ++ t.data.toList)).length = l.length + (uvarint t.size).length + t.size := by rw [List.length_append, List.length_append, bytes_length]; omega
    rw [e1, ← List.append_assoc, byteCells_append]; exact ho2))
  clear ho2 hg2 hb2
  go_wp2
  first | go_end0 | refine bodyPost_ret (results_none rfl _ _ _) rfl ?_
  exact ⟨rfl, (unhide R).1, hb1.trans (unhide R).2⟩

theorem wtext_any (p : Nat) (t : ByteArray) (most : Int) (s : Option (List UInt8)) (w : World) (h0 : 0 ≤ most) (hm : most ≤ 1000000000) (ht : t.size ≤ maxLen) (hw : WS w p s) (hl : ∀ l, s = some l → l.length ≤ 900000000) :
    Calls Tryz.prog 31 #[.pointer (some ⟨p, 0, none⟩), .string t, .int .i64 most] w fun e w' => e = .returned (.tuple #[]) ∧ WS w' p (putText t most s) ∧ Fr 5 p w w' := by
  unfold putText
  by_cases h : (t.size : Int) ≤ most
  · rw [if_pos h]
    cases s with
    | none => exact wtext_none p t most none w h0 hm (by unfold maxLen at ht; omega) hw (by simp) (fun _ => rfl)
    | some l => exact wtext_some p t most l w h0 hm hw (hl l rfl) h
  · rw [if_neg h]
    exact wtext_none p t most s w h0 hm (by unfold maxLen at ht; omega) hw (fun l e => by have := hl l e; omega) (fun h' => absurd h' h)
end Go.Proofs.YtpepilcdlhkmkaaGreatDoor
