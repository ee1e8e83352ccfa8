/- Contracts of wire.Uint at any slice, leastOf, and the reader's fail and upTo. -/
import Derived.Test.YtklclbegmpafpaaGreatDoorJReaderSum
namespace Go.Proofs.YtklclbegmpafpaaGreatDoor
open Go.RowKit Go.Lib

set_option maxHeartbeats 1600000 in
theorem uint_nil (w : World) : Calls Tryz.prog 84 #[.slice none 0 0] w fun e w' => UPost 122 25 124 (decU []) w e w' := by
  have HD : Hid (decU [] = (0, 0, 22, 0)) := rfl
  generalize decU [] = r at *
  go_enter Tryz.func84, Tryz.ntmps84
  go_wp2
  refine wp_loop_rounds 1 ?_
  rw [rounds_succ]
  go_wp2_with (go_at_call 34; refine (fault_any 22 _ _).mono ?_; rintro e w' ⟨rfl, rfl⟩)
  go_ret3
  exact upost_form (c := 22) (k := 0) (by decide) HD.out

theorem uint_any (v : Value) (B : Nat) (l : List UInt8) (w : World) (hv : RBp w B v l) :
    Calls Tryz.prog 84 #[v] w fun e w' => UPost 122 25 124 (decU l) w e w' := by
  obtain ⟨hlen, ⟨rfl, rfl⟩ | ⟨b, off, cap, hbB, hcap, hm, rfl, hcell⟩⟩ := hv
  · exact uint_nil w
  · exact uint_row b off cap l w (Nat.le_trans hlen (by decide)) hcell

def accN : Nat → Nat → List UInt8 → Nat
  | _, acc, [] => acc
  | i, acc, c :: r => accN (i + 1) (acc + c.toNat % 128 * 2 ^ (7 * i)) r
/-- The least number that begins so. -/
def leastN (l : List UInt8) : Nat := if l = [] then 0 else 2 ^ (7 * l.length) + accN 0 0 l
theorem accN_lt : ∀ (l : List UInt8) (i acc : Nat), acc < 2 ^ (7 * i) → accN i acc l < 2 ^ (7 * (i + l.length))
  | [], i, acc, h => by simpa [accN] using h
  | c :: r, i, acc, h => by
    have := accN_lt r (i + 1) _ (acc_lt (d := c.toNat % 128) (by omega) h)
    rw [show i + (c :: r).length = i + 1 + r.length by simp; omega]; exact this
theorem leastN_lt {l : List UInt8} (h : l.length ≤ 9) : leastN l < 18446744073709551616 := by
  unfold leastN
  split
  · decide
  · have h1 := accN_lt l 0 0 (by simp)
    have h2 := pow64 h
    simp at h1; omega
theorem or_least {L k d acc : Nat} (hL : L ≤ 9) (hk : k < L) (hd : d < 128) (ha : acc < 2 ^ (7 * k)) :
    bits BinOp.or IntKind.u64 ((2 ^ (7 * L) + acc : Nat) : Int) ((d * 2 ^ (7 * k) : Nat) : Int) = ((2 ^ (7 * L) + (acc + d * 2 ^ (7 * k)) : Nat) : Int) := by
  have hp := pow64 hL
  have h1 := acc_lt hd ha
  have h2 : 2 ^ (7 * (k + 1)) ≤ 2 ^ (7 * L) := Nat.pow_le_pow_right (by decide) (by omega)
  have h3 : 2 ^ (7 * k) ≤ 2 ^ (7 * L) := Nat.pow_le_pow_right (by decide) (by omega)
  rw [bits_or_u64_nat _ _ (by omega) (by omega)]
  congr 1
  have e1 : 2 ^ (7 * L) + acc = 2 ^ (7 * L) ||| acc := by
    have := Nat.two_pow_add_eq_or_of_lt (i := 7 * L) (b := acc) (by omega) 1; simpa using this
  have e2 : acc ||| d * 2 ^ (7 * k) = acc + d * 2 ^ (7 * k) := by
    rw [Nat.or_comm, Nat.mul_comm d, ← Nat.two_pow_add_eq_or_of_lt ha, Nat.add_comm]
  have e3 : 2 ^ (7 * L) + (acc + d * 2 ^ (7 * k)) = 2 ^ (7 * L) ||| (acc + d * 2 ^ (7 * k)) := by
    have := Nat.two_pow_add_eq_or_of_lt (i := 7 * L) (b := acc + d * 2 ^ (7 * k)) (by omega) 1; simpa using this
  rw [e1, Nat.or_assoc, e2, e3]

theorem wrap_pow {L : Nat} (h : L ≤ 9) : IntKind.u64.wrap ((2 : Int) ^ (7 * L)) = ((2 ^ (7 * L) + 0 : Nat) : Int) := by
  have hp := pow64 h
  have e : ((2 : Int) ^ (7 * L)) = ((2 ^ (7 * L) : Nat) : Int) := by push_cast; rfl
  rw [e, IntKind.wrap_u64]
  generalize 2 ^ (7 * L) = q at *
  omega
theorem or_leastw {L k acc : Nat} {c : UInt8} (hL : L ≤ 9) (hk : k < L) (ha : acc < 2 ^ (7 * k)) :
    bits BinOp.or IntKind.u64 ((2 ^ (7 * L) + acc : Nat) : Int) (IntKind.u64.wrap (((c.toNat : Nat) : Int) % 128 * 2 ^ (7 * k))) = ((2 ^ (7 * L) + (acc + c.toNat % 128 * 2 ^ (7 * k)) : Nat) : Int) := by
  have hd : c.toNat % 128 < 128 := by omega
  have ht := term_lt (k := k) (by omega) hd (by omega)
  have e : (((c.toNat : Nat) : Int) % 128 * 2 ^ (7 * k)) = ((c.toNat % 128 * 2 ^ (7 * k) : Nat) : Int) := by
    push_cast; rfl
  rw [e, IntKind.wrap_u64, show ((c.toNat % 128 * 2 ^ (7 * k) : Nat) : Int) % 18446744073709551616 = ((c.toNat % 128 * 2 ^ (7 * k) : Nat) : Int) by omega]
  exact or_least hL hk hd ha

set_option maxHeartbeats 1600000 in
set_option maxRecDepth 100000 in
theorem least_row (b off cap : Nat) (l : List UInt8) (w : World) (hl : l.length ≤ 9) (hc : ∀ i, i < l.length → w.cell? ⟨b, off + i, none⟩ = some (.int .u8 ((l.getD i 0).toNat : Int))) (hne : 0 < l.length) :
    Calls Tryz.prog 85 #[.slice (some ⟨b, off, none⟩) l.length cap] w fun e w' => e = .returned (.int .u64 ((leastN l : Nat) : Int)) ∧ w' = w := by
  have HL : Hid (leastN l = 2 ^ (7 * l.length) + accN 0 0 l) := by unfold leastN; exact if_neg (by intro h; simp [h] at hne)
  have hb0 : ((l.length : Int) == 0) = false := beq_eq_false_iff_ne.2 (by omega)
  go_enter Tryz.func85, Tryz.ntmps85
  go_wp2
  go_loop [3, 15] (fun n i => ∃ (k acc : Nat), k ≤ l.length ∧ acc < 2 ^ (7 * k) ∧ i = .int .i64 k ∧ n = .int .u64 ((2 ^ (7 * l.length) + acc : Nat) : Int) ∧ accN 0 0 l = accN k acc (l.drop k)) (fun _ i => l.length - (intOf i).toNat)
  case atStart => exact ⟨0, 0, by omega, by simp, rfl, congrArg (Value.int .u64) (wrap_pow hl), rfl⟩
  case round =>
    obtain ⟨k, acc, hk, hacc, rfl, rfl, hdec⟩ := hrel
    by_cases hlt : k < l.length
    · have hcx := hc k hlt
      rw [drop_at l k hlt] at hdec
      generalize l.getD k 0 = c at *
      have hc256 : (c.toNat : Int) < 256 := by have := c.toNat_lt; omega
      have han := andNot128' c
      have HD : Hid (accN 0 0 l = accN (k + 1) (acc + c.toNat % 128 * 2 ^ (7 * k)) (l.drop (k + 1))) := hdec
      have HO := hide (or_leastw (c := c) hl hlt hacc)
      have HA := hide (acc_lt (d := c.toNat % 128) (by omega) hacc)
      clear hdec hc hacc
      generalize hpw : 2 ^ (7 * l.length) + acc = q at *
      clear hpw
      go_wp2
      go_round
      case rel => exact ⟨k + 1, _, by omega, unhide HA, by go_num, congrArg (Value.int .u64) (unhide HO), HD.out⟩
      case measure => simp [intOf]; omega
    · have hd : leastN l = 2 ^ (7 * l.length) + acc := by
        rw [HL.out, hdec, List.drop_eq_nil_of_le (by omega)]; rfl
      have HD := hide hd
      clear hd hdec HL
      go_wp2
      go_ret
      exact ⟨ret_int (by rw [unhide HD]; push_cast; rfl), rfl⟩

theorem least_any (v : Value) (B : Nat) (l : List UInt8) (w : World) (hl : l.length ≤ 9) (hv : RBp w B v l) :
    Calls Tryz.prog 85 #[v] w fun e w' => e = .returned (.int .u64 ((leastN l : Nat) : Int)) ∧ w' = w := by
  obtain ⟨hlen, ⟨rfl, rfl⟩ | ⟨b, off, cap, hbB, hcap, hm, rfl, hcell⟩⟩ := hv
  · go_enter Tryz.func85, Tryz.ntmps85
    go_wp2
    go_ret
    exact ⟨rfl, rfl⟩
  · by_cases hne : 0 < l.length
    · exact least_row b off cap l w hl hcell hne
    · have e : l = [] := List.eq_nil_of_length_eq_zero (by omega)
      subst e
      go_enter Tryz.func85, Tryz.ntmps85
      go_wp2
      go_ret
      exact ⟨rfl, rfl⟩
end Go.Proofs.YtklclbegmpafpaaGreatDoor
