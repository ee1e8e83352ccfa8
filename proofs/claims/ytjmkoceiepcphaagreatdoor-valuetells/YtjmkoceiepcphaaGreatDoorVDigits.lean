/- Contract of the document's Digits. -/
import Derived.Test.YtjmkoceiepcphaaGreatDoorKRef
import Derived.Lib.ItoaLen
import Derived.Lib.SlBytesConst
namespace Go.Proofs.YtjmkoceiepcphaaGreatDoor
open Go.RowKit Go.Lib

theorem dig_len {m N : Nat} {t : ByteArray} (hN : N < 18446744073709551616) (h : decDigits m ++ t.data.toList = decDigits N) : t.size ≤ 20 := by
  have h1 := congrArg List.length h
  rw [List.length_append, decDigits_length, decDigits_length] at h1
  have h2 := nDigits_le20 N hN
  have h3 : t.data.toList.length = t.size := by simp
  omega
theorem dig_last {m N : Nat} {t : ByteArray} (h : decDigits m ++ t.data.toList = decDigits N) (h0 : m / 10 = 0) : UInt8.ofNat (48 + m % 10) :: t.data.toList = decDigits N := by
  rw [decDigits_one (show m < 10 by omega)] at h
  have e : m % 10 = m := by omega
  rw [e]; exact h
theorem dig_more {m N : Nat} {t : ByteArray} (h : decDigits m ++ t.data.toList = decDigits N) (h0 : m / 10 ≠ 0) : decDigits (m / 10) ++ UInt8.ofNat (48 + m % 10) :: t.data.toList = decDigits N := by
  rw [decDigits, dif_neg (by omega)] at h
  simpa using h
theorem a_div {a : Int} (h0 : 0 ≤ a) (h1 : a ≤ 18446744073709551615) : IntKind.u64.wrap (a.tdiv 10) = ((a.toNat / 10 : Nat) : Int) ∧ (IntKind.u64.wrap (48 + a.tmod 10) % 256).toNat = 48 + a.toNat % 10 := by
  obtain ⟨m, rfl⟩ := Int.eq_ofNat_of_zero_le h0
  have e1 : (m : Int).tdiv 10 = ((m / 10 : Nat) : Int) := Int.ofNat_tdiv m 10
  have e2 : (m : Int).tmod 10 = ((m % 10 : Nat) : Int) := Int.ofNat_tmod m 10
  rw [e1, e2, IntKind.wrap_u64, IntKind.wrap_u64]
  simp only [Int.toNat_natCast]
  omega
theorem cat_one (x : UInt8) (t : ByteArray) : ((⟨#[x]⟩ : ByteArray) ++ t).data.toList = x :: t.data.toList := by simp [ByteArray.data_append]
theorem cat_eq {t : ByteArray} {l : List UInt8} (h : t.data.toList = l) : t = ⟨l.toArray⟩ := text_ext (by simpa using h)
theorem dig_end {a : Int} {N : Nat} {t : ByteArray} (h : 0 ≤ a ∧ a ≤ 18446744073709551615 ∧ decDigits a.toNat ++ t.data.toList = decDigits N) (h0 : (IntKind.u64.wrap (a.tdiv 10) == 0) = true) :
    ((⟨#[UInt8.ofNat (IntKind.u64.wrap (48 + a.tmod 10) % 256).toNat]⟩ : ByteArray) ++ t).data.toList = decDigits N := by
  obtain ⟨e1, e2⟩ := a_div h.1 h.2.1
  rw [cat_one, e2]
  refine dig_last h.2.2 ?_
  rw [e1] at h0
  have := beq_iff_eq.1 h0
  omega
theorem dig_round {a : Int} {N : Nat} {t : ByteArray} (hN : N < 18446744073709551616) (h : 0 ≤ a ∧ a ≤ 18446744073709551615 ∧ decDigits a.toNat ++ t.data.toList = decDigits N) (h0 : (IntKind.u64.wrap (a.tdiv 10) == 0) = false) :
    ((⟨#[UInt8.ofNat (IntKind.u64.wrap (48 + a.tmod 10) % 256).toNat]⟩ : ByteArray) ++ t).size ≤ 20 ∧ (0 ≤ IntKind.u64.wrap (a.tdiv 10) ∧ IntKind.u64.wrap (a.tdiv 10) ≤ 18446744073709551615 ∧ decDigits (IntKind.u64.wrap (a.tdiv 10)).toNat ++ ((⟨#[UInt8.ofNat (IntKind.u64.wrap (48 + a.tmod 10) % 256).toNat]⟩ : ByteArray) ++ t).data.toList = decDigits N) ∧ (IntKind.u64.wrap (a.tdiv 10)).toNat < a.toNat := by
  obtain ⟨e1, e2⟩ := a_div h.1 h.2.1
  have n0 : a.toNat / 10 ≠ 0 := by
    rw [e1] at h0
    have := beq_eq_false_iff_ne.1 h0
    omega
  have hd := dig_more h.2.2 n0
  rw [← e2, ← cat_one] at hd
  have e3 : (IntKind.u64.wrap (a.tdiv 10)).toNat = a.toNat / 10 := by rw [e1]; omega
  rw [← e3] at hd
  exact ⟨dig_len hN hd, ⟨by omega, by omega, hd⟩, by omega⟩
theorem conv_one (x : Int) (w : World) : (convert 43 9 (.slice (some ⟨w.heap.size, 0, none⟩) 1 1)).run Tryz.prog (w.alloc (.cells #[.int .u8 x] 5)) = .ok (.string ⟨#[UInt8.ofNat x.toNat]⟩) (w.alloc (.cells #[.int .u8 x] 5)) := by
  have h := run_convert_bytes_arg (P := Tryz.prog) (w.alloc (.cells #[.int .u8 x] 5)) 43 5 Tryz.underlying43 Tryz.underlying5 w.heap.size 0 1 1 [x] rfl (fun i hi => by
    obtain rfl : i = 0 := by omega
    rw [World.cell?_alloc_at _ _ _ _ rfl]; rfl) 9 Tryz.underlying9
  rw [h]; rfl

set_option maxHeartbeats 1600000 in
theorem digits_any (n : Int) (w : World) (h1 : -9223372036854775808 ≤ n) (h2 : n < 9223372036854775808) :
    Calls Tryz.prog 26 #[.int .i64 n] w fun e w' => e = .returned (.string ⟨(itoa n).toArray⟩) ∧ Below w.heap.size w w' := by
  obtain ⟨N, hN⟩ : ∃ N : Nat, N = n.natAbs := ⟨_, rfl⟩
  have hN2 : N < 18446744073709551616 := by omega
  by_cases hn : n < 0
  · have hu : IntKind.u64.wrap (-(IntKind.u64.wrap n)) = (N : Int) := by rw [IntKind.wrap_u64, IntKind.wrap_u64]; omega
    have HI : Hid (itoa n = 45 :: decDigits N) := hide (by unfold itoa; rw [if_pos hn, hN])
    clear hN h1 h2
    go_enter Tryz.func26, Tryz.ntmps26
    go_wp2
    go_loopw [3, 4] (fun u s wr => ∃ (a : Int) (t : ByteArray), u = .int .u64 a ∧ s = .string t ∧ t.size ≤ 20 ∧ Hid (0 ≤ a ∧ a ≤ 18446744073709551615 ∧ decDigits a.toNat ++ t.data.toList = decDigits N) ∧ Below w.heap.size w wr) (fun u _ _ => (intOf u).toNat)
    case atStart => exact ⟨N, ⟨#[]⟩, rfl, rfl, by decide, hide ⟨by omega, by omega, by simp⟩, Below.refl _ _⟩
    case round =>
      obtain ⟨a, t, rfl, rfl, ht, HD, hbel⟩ := hrel
      have kx := fun x => conv_one x wr
      have HN := hide hN2
      have HB := hide hbel
      clear hN2 hbel hu
      go_wp2
      · have h0 : (IntKind.u64.wrap (a.tdiv 10) == 0) = true := by assumption
        go_ret
        exact ⟨by rw [unhide HI]; exact congrArg (fun x => Ending.returned (.string x)) (cat_eq (by rw [cat_one, dig_end (unhide HD) h0])), one_new' (unhide HB) _⟩
      · rename_i h0
        obtain ⟨q1, q2, q3⟩ := dig_round (unhide HN) (unhide HD) h0
        exact ⟨⟨_, _, rfl, rfl, q1, hide q2, one_new' (unhide HB) _⟩, q3⟩
  · have hu : IntKind.u64.wrap n = (N : Int) := by rw [IntKind.wrap_u64]; omega
    have HI : Hid (itoa n = decDigits N) := hide (by unfold itoa; rw [if_neg hn]; congr 1; omega)
    clear hN h1 h2
    go_enter Tryz.func26, Tryz.ntmps26
    go_wp2
    go_loopw [3, 4] (fun u s wr => ∃ (a : Int) (t : ByteArray), u = .int .u64 a ∧ s = .string t ∧ t.size ≤ 20 ∧ Hid (0 ≤ a ∧ a ≤ 18446744073709551615 ∧ decDigits a.toNat ++ t.data.toList = decDigits N) ∧ Below w.heap.size w wr) (fun u _ _ => (intOf u).toNat)
    case atStart => exact ⟨N, ⟨#[]⟩, rfl, rfl, by decide, hide ⟨by omega, by omega, by simp⟩, Below.refl _ _⟩
    case round =>
      obtain ⟨a, t, rfl, rfl, ht, HD, hbel⟩ := hrel
      have kx := fun x => conv_one x wr
      have HN := hide hN2
      have HB := hide hbel
      clear hN2 hbel hu
      go_wp2
      · have h0 : (IntKind.u64.wrap (a.tdiv 10) == 0) = true := by assumption
        go_ret
        exact ⟨by rw [unhide HI]; exact congrArg (fun x => Ending.returned (.string x)) (cat_eq (dig_end (unhide HD) h0)), one_new' (unhide HB) _⟩
      · rename_i h0
        obtain ⟨q1, q2, q3⟩ := dig_round (unhide HN) (unhide HD) h0
        exact ⟨⟨_, _, rfl, rfl, q1, hide q2, one_new' (unhide HB) _⟩, q3⟩
end Go.Proofs.YtjmkoceiepcphaaGreatDoor
