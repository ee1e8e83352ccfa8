/- The document's lexer: a text in its quotes. -/
import Derived.Test.YtehgoioinogmkabGreatDoorJXLex4XApp
namespace Go.Proofs.YtehgoioinogmkabGreatDoor
open Go.RowKit Go.Lib

def fzX (z : Option Nat) (c : UInt8) (i : Nat) : Option Nat := match z with | some j => some j | none => if c = 0 then some i else none
def zIX (z : Option Nat) : Int := match z with | some j => (j : Int) | none => -1
/-- What is told behind a quote: the text, where it ends, the place of its first byte 0. -/
def qR (r : List UInt8) (i : Nat) (acc : List UInt8) (z : Option Nat) : Option (List UInt8 × Nat × Option Nat) :=
  match qEnd r with
  | none => none
  | some n => some (acc ++ unq (r.take (n - 1)), i + n, match z with | some j => some j | none => (idx 0 (r.take n)).map (· + i))
theorem qR_nil (i : Nat) (acc : List UInt8) (z : Option Nat) : qR [] i acc z = none := rfl
theorem qR_end {r : List UInt8} (h : r.head? ≠ some 39) (i : Nat) (acc : List UInt8) (z : Option Nat) : qR (39 :: r) i acc z = some (acc, i + 1, z) := by
  have e : qEnd (39 :: r) = some 1 := by
    cases r with
    | nil => rfl
    | cons d r =>
      have hd : d ≠ 39 := fun e => h (by rw [e]; rfl)
      rw [qEnd, if_pos rfl, if_neg hd]
  unfold qR
  rw [e]
  cases z <;> simp [unq, idx]
theorem qR_two (r : List UInt8) (i : Nat) (acc : List UInt8) (z : Option Nat) : qR (39 :: 39 :: r) i acc z = qR r (i + 2) (acc ++ [39]) z := by
  unfold qR
  rw [qEnd, if_pos rfl, if_pos rfl]
  cases hq : qEnd r with
  | none => rfl
  | some n =>
    have := (qEnd_bounds r n hq).1
    obtain ⟨m, rfl⟩ : ∃ m, n = m + 1 := ⟨n - 1, by omega⟩
    simp only [Option.map_some, Nat.add_sub_cancel]
    rw [show m + 1 + 2 - 1 = m + 2 by omega, List.take_succ_cons, List.take_succ_cons, unq, if_pos ⟨rfl, rfl⟩, List.take_succ_cons, List.take_succ_cons, idx, if_neg (by decide), idx, if_neg (by decide)]
    congr 1
    refine Prod.ext (by simp) (Prod.ext (by simp; omega) ?_)
    cases z with
    | some j => rfl
    | none => cases idx 0 (r.take (m + 1)) with
      | none => rfl
      | some j => simp; omega
theorem unq_cons {c : UInt8} (h : c ≠ 39) (r : List UInt8) : unq (c :: r) = c :: unq r := by
  cases r with
  | nil => rfl
  | cons d r => rw [unq, if_neg (fun e => h e.1)]
theorem qR_other {c : UInt8} (h : c ≠ 39) (r : List UInt8) (i : Nat) (acc : List UInt8) (z : Option Nat) : qR (c :: r) i acc z = qR r (i + 1) (acc ++ [c]) (fzX z c i) := by
  unfold qR
  rw [qEnd_none h]
  cases hq : qEnd r with
  | none => rfl
  | some n =>
    have := (qEnd_bounds r n hq).1
    obtain ⟨m, rfl⟩ : ∃ m, n = m + 1 := ⟨n - 1, by omega⟩
    simp only [Option.map_some, Nat.add_sub_cancel]
    rw [List.take_succ_cons, unq_cons h, List.take_succ_cons, idx]
    congr 1
    refine Prod.ext (by simp) (Prod.ext (by simp; omega) ?_)
    cases z with
    | some j => rfl
    | none =>
      by_cases h0 : c = 0
      · simp [fzX, h0]
      · rw [if_neg h0]
        simp only [fzX, if_neg h0]
        cases idx 0 (r.take (m + 1)) with
        | none => rfl
        | some j => simp; omega
theorem conv_own {w : World} {B m : Nat} {v : Value} (l : List UInt8) (h : w.ownsRow B 5 1 v m (byteCells l)) (hm : m = l.length) (hl : l.length ≤ 1000000) : (convert 22 9 v).run Tryz.prog w = .ok (.string ⟨l.toArray⟩) w := by
  subst hm
  exact conv_any v _ l w (rb_own h (by omega))
/-- What text tells. -/
def TextP (l : List UInt8) (at' : Nat) (e : Ending) : Prop := match qR (l.drop (at' + 1)) (at' + 1) [] none with
  | none => e = .returned (.tuple #[sv [], .int .i64 0, .int .i64 (at' : Int)])
  | some (t, n, z) => e = .returned (.tuple #[sv t, .int .i64 (n : Int), .int .i64 (zIX z)])
set_option maxHeartbeats 3200000 in
set_option maxRecDepth 10000 in
theorem text_any (l : List UInt8) (at' : Nat) (w : World) (hl : l.length ≤ 1000000) (ha : at' < l.length) : Calls Tryz.prog 104 #[sv l, .int .i64 (at' : Int)] w fun e w' => TextP l at' e ∧ Below w.heap.size w w' := by
  have hl' : (l.length : Int) ≤ 1000000 := by omega
  have ha0 : (0 : Int) ≤ (at' : Int) := by omega
  have hal : (at' : Int) < (l.length : Int) := by omega
  obtain ⟨R, hR⟩ : ∃ R, R = qR (l.drop (at' + 1)) (at' + 1) [] none := ⟨_, rfl⟩
  have HR := hide hR
  have HP : Hid (∀ e, (match R with
    | none => e = .returned (.tuple #[sv [], .int .i64 0, .int .i64 (at' : Int)])
    | some (t, n, z) => e = .returned (.tuple #[sv t, .int .i64 (n : Int), .int .i64 (zIX z)])) → TextP l at' e) := fun e h => by unfold TextP; rw [← unhide HR]; exact h
  obtain ⟨P, hP⟩ : ∃ P, P = TextP l at' := ⟨_, rfl⟩
  rw [← hP] at HP ⊢
  clear hR hP
  unfold sv
  go_enter Tryz.func104, Tryz.ntmps104
  go_wp2_with fail
  go_loopw [7, 8, 9] (fun b z i wr => ∃ (k m : Nat) (a : Option Addr) (c : Nat) (zo : Option Nat), k ≤ l.length ∧ i = .int .i64 (k : Int) ∧ b = .slice a m c ∧ z = .int .i64 (zIX zo) ∧ m ≤ k ∧ Hid (∃ acc : List UInt8, m = acc.length ∧ wr.ownsRow w.heap.size 5 1 (.slice a m c) m (byteCells acc) ∧ Below w.heap.size w wr ∧ R = qR (l.drop k) k acc zo)) (fun _ _ i _ => l.length - (intOf i).toNat)
  case atStart => exact ⟨at' + 1, 0, none, 0, none, by omega, by simp, rfl, rfl, by omega, [], rfl, ⟨rfl, .inl ⟨rfl, rfl⟩⟩, Below.refl _ _, unhide HR⟩
  case round =>
    obtain ⟨k, m, a, cp, zo, hk, rfl, rfl, rfl, hmk, HO⟩ := hrel
    clear HR
    obtain ⟨acc, hm, ho, hb, hq⟩ := unhide HO
    have HO1 := hide ho
    have HB1 := hide hb
    have HM := hide hm
    have zs := hb.size
    clear HO ho hb hm
    by_cases hlt : k < l.length
    · have hlt' : (k : Int) < (l.length : Int) := by omega
      have hk0 : (0 : Int) ≤ (k : Int) := by omega
      obtain ⟨c, hc⟩ : ∃ c, l[k]? = some c := ⟨l[k], List.getElem?_eq_getElem hlt⟩
      have hdr : l.drop k = c :: l.drop (k + 1) := by
        rw [List.drop_eq_getElem_cons hlt]
        rw [List.getElem?_eq_getElem hlt] at hc
        injection hc with hc; rw [hc]
      rw [hdr] at hq
      have hi := idx_run l k _ c wr rfl hc
      clear hc hdr
      by_cases h39 : c = 39
      · subst h39
        by_cases hend : k + 1 = l.length
        · rw [List.drop_eq_nil_of_le (show l.length ≤ k + 1 by omega), qR_end (by simp)] at hq
          have hend' : (k : Int) + 1 = (l.length : Int) := by omega
          have HQ := hide hq
          have hcv := conv_own acc (unhide HO1) (unhide HM) (by rw [← unhide HM]; omega)
          clear hq
          go_wp2_with fail
          go_ret3
          refine ⟨unhide HP _ ?_, unhide HB1⟩
          rw [unhide HQ]
          show Ending.returned _ = Ending.returned _
          rw [show ((k + 1 : Nat) : Int) = (l.length : Int) by omega]; rfl
        · have hend' : ¬ (k : Int) + 1 = (l.length : Int) := by omega
          have hk1 : k + 1 < l.length := by omega
          have hk1' : (k : Int) + 1 < (l.length : Int) := by omega
          obtain ⟨d, hd⟩ : ∃ d, l[k + 1]? = some d := ⟨l[k + 1], List.getElem?_eq_getElem hk1⟩
          have hdr : l.drop (k + 1) = d :: l.drop (k + 2) := by
            rw [List.drop_eq_getElem_cons hk1]
            rw [List.getElem?_eq_getElem hk1] at hd
            injection hd with hd; rw [hd]
          rw [hdr] at hq
          have hi2 := idx_run l (k + 1) ((k : Int) + 1) d wr (by omega) hd
          clear hd hdr
          by_cases h39 : d = 39
          · subst h39
            rw [qR_two] at hq
            have HQ := hide hq
            clear hq
            go_wp2_with (at_builtin; refine append1 rfl (.tmp 50) (.tmp 54) 22 rfl w.heap.size 5 (.int .u8 0) 1 1 Tryz.underlying22 Tryz.infoU8 rfl (by decide) (by decide) _ _ _ rfl (own_keepX (unhide HO1) ((Below.refl _ _).alloc (Nat.le_refl _) _)) wr.heap.size [_] rfl (heap_alloc_new _ _) rfl one_cell (by omega) (by simp; omega) ?_; intro ad2 k2 w2 ho2 hb2; have HO2 := hide ho2; have HB2 := hide ((unhide HB1).trans ((((Below.refl wr.heap.size wr).alloc (Nat.le_refl _) _).mono (unhide HB1).size).trans hb2)); clear ho2 hb2 HO1)
            go_roundw
            case rel => exact ⟨k + 2, m + 1, _, _, zo, by omega, by go_num, rfl, rfl, by omega, acc ++ [39], by rw [List.length_append, ← unhide HM]; rfl, by have h := unhide HO2; simpa [byteCells] using h, unhide HB2, unhide HQ⟩
            case measure => simp [intOf]; omega
          · have hd39 : ((d.toNat : Int) != 39) = true := by
              simp only [bne_iff_ne, ne_eq]
              intro e
              exact h39 (UInt8.toNat_inj.1 (by show d.toNat = 39; omega))
            rw [qR_end (by simpa using h39)] at hq
            have HQ := hide hq
            have hcv := conv_own acc (unhide HO1) (unhide HM) (by rw [← unhide HM]; omega)
            clear hq h39
            go_wp2_with fail
            go_ret3
            refine ⟨unhide HP _ ?_, unhide HB1⟩
            rw [unhide HQ]
            show Ending.returned _ = Ending.returned _
            rw [show ((k + 1 : Nat) : Int) = (k : Int) + 1 by omega]; rfl
      · rw [qR_other h39] at hq
        have hc39 : ((c.toNat : Int) == 39) = false := by
          simp only [beq_eq_false_iff_ne, ne_eq]
          intro e
          exact h39 (UInt8.toNat_inj.1 (by show c.toNat = 39; omega))
        clear h39
        by_cases h0 : c = 0
        · subst h0
          cases zo with
          | none =>
            have HQ : Hid (R = qR (l.drop (k + 1)) (k + 1) (acc ++ [0]) (some k)) := hq
            clear hq
            simp only [zIX]
            go_wp2_with (at_builtin; refine append1 rfl (.tmp 50) (.tmp 54) 22 rfl w.heap.size 5 (.int .u8 0) 1 1 Tryz.underlying22 Tryz.infoU8 rfl (by decide) (by decide) _ _ _ rfl (own_keepX (unhide HO1) ((Below.refl _ _).alloc (Nat.le_refl _) _)) wr.heap.size [_] rfl (heap_alloc_new _ _) rfl one_cell (by omega) (by simp; omega) ?_; intro ad2 k2 w2 ho2 hb2; have HO2 := hide ho2; have HB2 := hide ((unhide HB1).trans ((((Below.refl wr.heap.size wr).alloc (Nat.le_refl _) _).mono (unhide HB1).size).trans hb2)); clear ho2 hb2 HO1)
            go_roundw
            case rel => exact ⟨k + 1, m + 1, _, _, some k, by omega, by go_num, rfl, rfl, by omega, acc ++ [0], by rw [List.length_append, ← unhide HM]; rfl, by have h := unhide HO2; simpa [byteCells] using h, unhide HB2, unhide HQ⟩
            case measure => simp [intOf]; omega
          | some z0 =>
            have HQ : Hid (R = qR (l.drop (k + 1)) (k + 1) (acc ++ [0]) (some z0)) := hq
            clear hq
            simp only [zIX]
            go_wp2_with (at_builtin; refine append1 rfl (.tmp 50) (.tmp 54) 22 rfl w.heap.size 5 (.int .u8 0) 1 1 Tryz.underlying22 Tryz.infoU8 rfl (by decide) (by decide) _ _ _ rfl (own_keepX (unhide HO1) ((Below.refl _ _).alloc (Nat.le_refl _) _)) wr.heap.size [_] rfl (heap_alloc_new _ _) rfl one_cell (by omega) (by simp; omega) ?_; intro ad2 k2 w2 ho2 hb2; have HO2 := hide ho2; have HB2 := hide ((unhide HB1).trans ((((Below.refl wr.heap.size wr).alloc (Nat.le_refl _) _).mono (unhide HB1).size).trans hb2)); clear ho2 hb2 HO1)
            go_roundw
            case rel => exact ⟨k + 1, m + 1, _, _, some z0, by omega, by go_num, rfl, rfl, by omega, acc ++ [0], by rw [List.length_append, ← unhide HM]; rfl, by have h := unhide HO2; simpa [byteCells] using h, unhide HB2, unhide HQ⟩
            case measure => simp [intOf]; omega
        · have hc0 : ((c.toNat : Int) == 0) = false := by
            simp only [beq_eq_false_iff_ne, ne_eq]
            intro e
            exact h0 (UInt8.toNat_inj.1 (by show c.toNat = 0; omega))
          have e0 : fzX zo c k = zo := by cases zo <;> simp [fzX, h0]
          rw [e0] at hq
          have HQ := hide hq
          clear hq h0 e0
          go_wp2_with (at_builtin; refine append1 rfl (.tmp 50) (.tmp 54) 22 rfl w.heap.size 5 (.int .u8 0) 1 1 Tryz.underlying22 Tryz.infoU8 rfl (by decide) (by decide) _ _ _ rfl (own_keepX (unhide HO1) ((Below.refl _ _).alloc (Nat.le_refl _) _)) wr.heap.size [_] rfl (heap_alloc_new _ _) rfl one_cell (by omega) (by simp; omega) ?_; intro ad2 k2 w2 ho2 hb2; have HO2 := hide ho2; have HB2 := hide ((unhide HB1).trans ((((Below.refl wr.heap.size wr).alloc (Nat.le_refl _) _).mono (unhide HB1).size).trans hb2)); clear ho2 hb2 HO1)
          go_roundw
          case rel => exact ⟨k + 1, m + 1, _, _, zo, by omega, by go_num, rfl, rfl, by omega, acc ++ [c], by rw [List.length_append, ← unhide HM]; rfl, by have h := unhide HO2; simpa [byteCells] using h, unhide HB2, unhide HQ⟩
          case measure => simp [intOf]; omega
    · have hlt' : ¬ ((k : Int) < (l.length : Int)) := by omega
      rw [List.drop_eq_nil_of_le (by omega), qR_nil] at hq
      have HQ := hide hq
      clear hq
      go_wp2_with fail
      go_ret3
      refine ⟨unhide HP _ ?_, unhide HB1⟩
      rw [unhide HQ]
      rfl
end Go.Proofs.YtehgoioinogmkabGreatDoor
