/- Contracts of the statements' helps: Num, known, Few. -/
import Derived.Test.YtehgoioinogmkaaGreatDoorVSum3
import Derived.Test.YtehgoioinogmkaaGreatDoorVTest2
import Derived.Test.YtehgoioinogmkaaGreatDoorJVOrdVIsVTest
import Derived.Test.YtehgoioinogmkaaGreatDoorJRows2PutRowVCmpVBl
import Derived.Lib.IndexLaws
import Derived.Lib.ItoaLen
import Derived.Lib.SlBytesConst
import Derived.Test.YtehgoioinogmkaaGreatDoorRows
import Derived.ProofKit
import Derived.LaidMore
import Derived.LaidHandle
import Derived.LaidLaws
import Derived.OpenShut
import Derived.Stop.Joined
import Derived.Carry
namespace Go.Proofs.YtehgoioinogmkaaGreatDoor
open Go.RowKit Go.Lib

set_option maxHeartbeats 1600000 in
theorem num_any (n : Int) (w : World) : Calls Tryz.prog 22 #[.int .i64 n] w fun e w' => e = .returned (.agg #[.int .i64 2, .int .i64 n, .string ⟨#[]⟩]) ∧ w' = w.alloc (.cells #[.int .i64 2, .int .i64 n, .string ⟨#[]⟩] 26) := by
  go_enter Tryz.func22, Tryz.ntmps22
  go_wp2
  refine bodyPost_ret (v := .agg #[.int .i64 2, .int .i64 n, .string ⟨#[]⟩]) ?_ rfl ⟨rfl, rfl⟩
  rw [results_cell1 rfl]
  go_simp

theorem one_new' {w a : World} (h : Below w.heap.size w a) (o : Obj) : Below w.heap.size w (a.alloc o) := h.alloc h.size o
end Go.Proofs.YtehgoioinogmkaaGreatDoor
/- Contracts of the document's own look at a value, order and Compare. -/
namespace Go.Proofs.YtehgoioinogmkaaGreatDoor
open Go.RowKit Go.Lib

theorem indexByte_zero_iff (l : List UInt8) : indexByte l 0 < 0 ↔ ∀ i, i < l.length → l.getD i 0 ≠ 0 := by
  constructor
  · intro h i hi e
    have h1 : indexByte l 0 = -1 := by have := indexByte_ge l 0; omega
    exact indexByte_none h1 i (by rw [List.getElem?_eq_getElem hi]; simp [List.getD_eq_getElem?_getD, hi] at e; rw [e])
  · intro h
    rcases Int.lt_or_le (indexByte l 0) 0 with h1 | h1
    · exact h1
    · obtain ⟨o, ho⟩ := Int.eq_ofNat_of_zero_le h1
      have h2 := (indexByte_some ho).1
      have h3 := (List.getElem?_eq_some_iff.1 h2)
      obtain ⟨h4, h5⟩ := h3
      exact absurd (by simp [List.getD_eq_getElem?_getD, h4, h5]) (h o h4)

theorem ba_getD (t : ByteArray) (k : Nat) (h : k < t.size) : t.data.toList.getD k 0 = t[k] := by
  have h2 : k < t.data.size := h
  show _ = t.data[k]
  simp only [List.getD_eq_getElem?_getD, Array.getElem?_toList, Array.getElem?_eq_getElem h2, Option.getD_some]

set_option maxHeartbeats 1600000 in
theorem plain_any (t : ByteArray) (w : World) (ht : t.size ≤ maxLen) :
    Calls Tryz.prog 76 #[.string t] w fun e w' => e = .returned (.bool (decide (indexByte t.data.toList 0 < 0))) ∧ w' = w := by
  have ht' : (t.size : Int) ≤ 9223372036854775807 := by unfold maxLen at ht; omega
  obtain ⟨m, hm⟩ : ∃ m, m = decide (indexByte t.data.toList 0 < 0) := ⟨_, rfl⟩
  rw [← hm]
  have HM := hide hm
  clear hm ht
  go_enter Tryz.func76, Tryz.ntmps76
  go_wp2
  go_loop [3] (fun i => ∃ k : Nat, k ≤ t.size ∧ i = .int .i64 k ∧ ∀ j, j < k → t.data.toList.getD j 0 ≠ 0) (fun i => t.size - (intOf i).toNat)
  case atStart => exact ⟨0, by omega, rfl, fun j h => by omega⟩
  case round =>
    obtain ⟨k, hk, rfl, hz⟩ := hrel
    have HZ := hide hz
    clear hz
    by_cases hlt : k < t.size
    · have HE := hide (ba_getD t k hlt)
      by_cases h0 : t[k].toNat = 0
      · have h0b : ((t[k].toNat : Int) == 0) = true := by simp [h0]
        have HN : Hid (m = false) := by
          have e := unhide HM
          refine hide (e.trans (decide_eq_false ?_))
          intro h
          refine (indexByte_zero_iff _).1 h k (by simpa using hlt) ?_
          rw [unhide HE]; exact UInt8.toNat_inj.1 h0
        clear h0
        go_wp2
        go_ret
        exact ⟨ret_bool (unhide HN).symm, rfl⟩
      · have h0b : ((t[k].toNat : Int) == 0) = false := beq_eq_false_iff_ne.2 (by omega)
        have HN : Hid (∀ j, j < k + 1 → t.data.toList.getD j 0 ≠ 0) := by
          refine hide (fun j hj => ?_)
          rcases Nat.lt_or_ge j k with h | h
          · exact unhide HZ j h
          · have : j = k := by omega
            subst this
            rw [unhide HE]
            intro hc; rw [hc] at h0; exact h0 rfl
        clear h0 HZ
        go_wp2
        go_round
        case rel => exact ⟨k + 1, by omega, by go_num, unhide HN⟩
        case measure => simp [intOf]; omega
    · have HN : Hid (m = true) := by
        refine hide ((unhide HM).trans (decide_eq_true ?_))
        refine (indexByte_zero_iff _).2 (fun i hi => unhide HZ i ?_)
        have : i < t.size := by simpa using hi
        omega
      go_wp2
      go_ret
      exact ⟨ret_bool (unhide HN).symm, rfl⟩

set_option maxHeartbeats 1600000 in
theorem refIs_any (g : GV) (w : World) (hg : g.ok) :
    Calls Tryz.prog 39 #[g.agg] w fun e w' => e = .returned (.bool g.may) ∧ w' = w.alloc (.cells #[.int .i64 g.kind, .int .i64 g.int, .string g.text] 26) := by
  obtain ⟨k, n, t⟩ := g
  obtain ⟨h1, h2, h3⟩ := hg
  unfold GV.agg
  obtain ⟨m, hm⟩ : ∃ m, m = GV.may ⟨k, n, t⟩ := ⟨_, rfl⟩
  rw [← hm]
  have HM := hide hm
  clear hm
  dsimp only at *
  have HP := hide (fun w => plain_any t w h3)
  have h3' : (t.size : Int) ≤ 9223372036854775807 := by unfold maxLen at h3; omega
  clear h3
  by_cases hk0 : k = 0
  · subst hk0
    by_cases hn : n = 0
    · subst hn
      go_enter Tryz.func39, Tryz.ntmps39
      go_wp2
      go_ret
      exact ⟨ret_bool (by rw [unhide HM]; simp [GV.may]), rfl⟩
    · have hnc : (n == 0) = false := by simp [hn]
      go_enter Tryz.func39, Tryz.ntmps39
      go_wp2
      go_ret
      exact ⟨ret_bool (by rw [unhide HM]; simp [GV.may, hnc]), rfl⟩
  · by_cases hk1 : k = 1
    · subst hk1
      by_cases hn : n = 0
      · subst hn
        go_enter Tryz.func39, Tryz.ntmps39
        go_wp2
        go_ret
        exact ⟨ret_bool (by rw [unhide HM]; simp [GV.may]), rfl⟩
      · have hnc : (n == 0) = false := by simp [hn]
        by_cases hn1 : n = 1
        · subst hn1
          go_enter Tryz.func39, Tryz.ntmps39
          go_wp2
          go_ret
          exact ⟨ret_bool (by rw [unhide HM]; simp [GV.may]), rfl⟩
        · have hne : (n == 1) = false := by simp [hn1]
          go_enter Tryz.func39, Tryz.ntmps39
          go_wp2
          go_ret
          exact ⟨ret_bool (by rw [unhide HM]; simp [GV.may, hnc, hne]), rfl⟩
    · by_cases hk2 : k = 2
      · subst hk2
        go_enter Tryz.func39, Tryz.ntmps39
        go_wp2
        go_ret
        exact ⟨ret_bool (by rw [unhide HM]; simp [GV.may]), rfl⟩
      · by_cases hk3 : k = 3
        · subst hk3
          by_cases hn : n = 0
          · subst hn
            by_cases h40 : t.size ≤ 40
            · go_enter Tryz.func39, Tryz.ntmps39
              go_wp2_with (go_at_call 76; refine (unhide HP _).mono ?_; rintro e w1 ⟨rfl, rfl⟩)
              go_ret
              exact ⟨ret_bool (by rw [unhide HM]; simp [GV.may, h40]), rfl⟩
            · go_enter Tryz.func39, Tryz.ntmps39
              go_wp2
              go_ret
              exact ⟨ret_bool (by rw [unhide HM]; simp [GV.may, h40]), rfl⟩
          · have hnb : (n == 0) = false := by simp [hn]
            go_enter Tryz.func39, Tryz.ntmps39
            go_wp2
            go_ret
            exact ⟨ret_bool (by rw [unhide HM]; simp [GV.may, hnb]), rfl⟩
        · have b0 : (k == 0) = false := by simp [hk0]
          have b1 : (k == 1) = false := by simp [hk1]
          have b2 : (k == 2) = false := by simp [hk2]
          have b3 : (k == 3) = false := by simp [hk3]
          go_enter Tryz.func39, Tryz.ntmps39
          go_wp2
          go_ret
          exact ⟨ret_bool (by rw [unhide HM]; simp [GV.may, b0, b1, b2, b3]), rfl⟩


theorem str_gtr (a b : ByteArray) (W : World) : Sem.run Tryz.prog (binOp BinOp.gtr 9 (.string a) (.string b)) W = .ok (.bool (!Op.bytesLess a.toList b.toList && !(a.toList == b.toList))) W := by
  simp [binOp, go_sem, Op.stringOp]
end Go.Proofs.YtehgoioinogmkaaGreatDoor
/- Contract of the document's Digits. -/
namespace Go.Proofs.YtehgoioinogmkaaGreatDoor
open Go.RowKit Go.Lib

theorem dig_len {m N : Nat} {t : ByteArray} (hN : N < 18446744073709551616) (h : decDigits m ++ t.data.toList = decDigits N) : t.size ≤ 20 := by
  have h1 := congrArg List.length h
  rw [List.length_append, decDigits_length, decDigits_length] at h1
  have h2 := nDigits_le20 N hN
  have h3 : t.data.toList.length = t.size := by simp
  omega
theorem dig_last {m N : Nat} {t : ByteArray} (h : decDigits m ++ t.data.toList = decDigits N) (h0 : m / 10 = 0) : UInt8.ofNat (48 + m % 10) :: t.data.toList = decDigits N := by
  rw [decDigits_one (show m < 10 by omega)] at h
  have e : m % 10 = m := by omega
  rw [e]; exact h
theorem dig_more {m N : Nat} {t : ByteArray} (h : decDigits m ++ t.data.toList = decDigits N) (h0 : m / 10 ≠ 0) : decDigits (m / 10) ++ UInt8.ofNat (48 + m % 10) :: t.data.toList = decDigits N := by
  rw [decDigits, dif_neg (by omega)] at h
  simpa using h
theorem a_div {a : Int} (h0 : 0 ≤ a) (h1 : a ≤ 18446744073709551615) : IntKind.u64.wrap (a.tdiv 10) = ((a.toNat / 10 : Nat) : Int) ∧ (IntKind.u64.wrap (48 + a.tmod 10) % 256).toNat = 48 + a.toNat % 10 := by
  obtain ⟨m, rfl⟩ := Int.eq_ofNat_of_zero_le h0
  have e1 : (m : Int).tdiv 10 = ((m / 10 : Nat) : Int) := Int.ofNat_tdiv m 10
  have e2 : (m : Int).tmod 10 = ((m % 10 : Nat) : Int) := Int.ofNat_tmod m 10
  rw [e1, e2, IntKind.wrap_u64, IntKind.wrap_u64]
  simp only [Int.toNat_natCast]
  omega
theorem cat_one (x : UInt8) (t : ByteArray) : ((⟨#[x]⟩ : ByteArray) ++ t).data.toList = x :: t.data.toList := by simp [ByteArray.data_append]
theorem cat_eq {t : ByteArray} {l : List UInt8} (h : t.data.toList = l) : t = ⟨l.toArray⟩ := text_ext (by simpa using h)
theorem dig_end {a : Int} {N : Nat} {t : ByteArray} (h : 0 ≤ a ∧ a ≤ 18446744073709551615 ∧ decDigits a.toNat ++ t.data.toList = decDigits N) (h0 : (IntKind.u64.wrap (a.tdiv 10) == 0) = true) :
    ((⟨#[UInt8.ofNat (IntKind.u64.wrap (48 + a.tmod 10) % 256).toNat]⟩ : ByteArray) ++ t).data.toList = decDigits N := by
  obtain ⟨e1, e2⟩ := a_div h.1 h.2.1
  rw [cat_one, e2]
  refine dig_last h.2.2 ?_
  rw [e1] at h0
  have := beq_iff_eq.1 h0
  omega
theorem dig_round {a : Int} {N : Nat} {t : ByteArray} (hN : N < 18446744073709551616) (h : 0 ≤ a ∧ a ≤ 18446744073709551615 ∧ decDigits a.toNat ++ t.data.toList = decDigits N) (h0 : (IntKind.u64.wrap (a.tdiv 10) == 0) = false) :
    ((⟨#[UInt8.ofNat (IntKind.u64.wrap (48 + a.tmod 10) % 256).toNat]⟩ : ByteArray) ++ t).size ≤ 20 ∧ (0 ≤ IntKind.u64.wrap (a.tdiv 10) ∧ IntKind.u64.wrap (a.tdiv 10) ≤ 18446744073709551615 ∧ decDigits (IntKind.u64.wrap (a.tdiv 10)).toNat ++ ((⟨#[UInt8.ofNat (IntKind.u64.wrap (48 + a.tmod 10) % 256).toNat]⟩ : ByteArray) ++ t).data.toList = decDigits N) ∧ (IntKind.u64.wrap (a.tdiv 10)).toNat < a.toNat := by
  obtain ⟨e1, e2⟩ := a_div h.1 h.2.1
  have n0 : a.toNat / 10 ≠ 0 := by
    rw [e1] at h0
    have := beq_eq_false_iff_ne.1 h0
    omega
  have hd := dig_more h.2.2 n0
  rw [← e2, ← cat_one] at hd
  have e3 : (IntKind.u64.wrap (a.tdiv 10)).toNat = a.toNat / 10 := by rw [e1]; omega
  rw [← e3] at hd
  exact ⟨dig_len hN hd, ⟨by omega, by omega, hd⟩, by omega⟩
theorem conv_one (x : Int) (w : World) : (convert 57 9 (.slice (some ⟨w.heap.size, 0, none⟩) 1 1)).run Tryz.prog (w.alloc (.cells #[.int .u8 x] 5)) = .ok (.string ⟨#[UInt8.ofNat x.toNat]⟩) (w.alloc (.cells #[.int .u8 x] 5)) := by
  have h := run_convert_bytes_arg (P := Tryz.prog) (w.alloc (.cells #[.int .u8 x] 5)) 57 5 Tryz.underlying57 Tryz.underlying5 w.heap.size 0 1 1 [x] rfl (fun i hi => by
    obtain rfl : i = 0 := by omega
    rw [World.cell?_alloc_at _ _ _ _ rfl]; rfl) 9 Tryz.underlying9
  rw [h]; rfl

set_option maxHeartbeats 1600000 in
theorem digits_any (n : Int) (w : World) (h1 : -9223372036854775808 ≤ n) (h2 : n < 9223372036854775808) :
    Calls Tryz.prog 25 #[.int .i64 n] w fun e w' => e = .returned (.string ⟨(itoa n).toArray⟩) ∧ Below w.heap.size w w' := by
  obtain ⟨N, hN⟩ : ∃ N : Nat, N = n.natAbs := ⟨_, rfl⟩
  have hN2 : N < 18446744073709551616 := by omega
  by_cases hn : n < 0
  · have hu : IntKind.u64.wrap (-(IntKind.u64.wrap n)) = (N : Int) := by rw [IntKind.wrap_u64, IntKind.wrap_u64]; omega
    have HI : Hid (itoa n = 45 :: decDigits N) := hide (by unfold itoa; rw [if_pos hn, hN])
    clear hN h1 h2
    go_enter Tryz.func25, Tryz.ntmps25
    go_wp2
    go_loopw [3, 4] (fun u s wr => ∃ (a : Int) (t : ByteArray), u = .int .u64 a ∧ s = .string t ∧ t.size ≤ 20 ∧ Hid (0 ≤ a ∧ a ≤ 18446744073709551615 ∧ decDigits a.toNat ++ t.data.toList = decDigits N) ∧ Below w.heap.size w wr) (fun u _ _ => (intOf u).toNat)
    case atStart => exact ⟨N, ⟨#[]⟩, rfl, rfl, by decide, hide ⟨by omega, by omega, by simp⟩, Below.refl _ _⟩
    case round =>
      obtain ⟨a, t, rfl, rfl, ht, HD, hbel⟩ := hrel
      have kx := fun x => conv_one x wr
      have HN := hide hN2
      have HB := hide hbel
      clear hN2 hbel hu
      go_wp2
      · have h0 : (IntKind.u64.wrap (a.tdiv 10) == 0) = true := by assumption
        go_ret
        exact ⟨by rw [unhide HI]; exact congrArg (fun x => Ending.returned (.string x)) (cat_eq (by rw [cat_one, dig_end (unhide HD) h0])), one_new' (unhide HB) _⟩
      · rename_i h0
        obtain ⟨q1, q2, q3⟩ := dig_round (unhide HN) (unhide HD) h0
        exact ⟨⟨_, _, rfl, rfl, q1, hide q2, one_new' (unhide HB) _⟩, q3⟩
  · have hu : IntKind.u64.wrap n = (N : Int) := by rw [IntKind.wrap_u64]; omega
    have HI : Hid (itoa n = decDigits N) := hide (by unfold itoa; rw [if_neg hn]; congr 1; omega)
    clear hN h1 h2
    go_enter Tryz.func25, Tryz.ntmps25
    go_wp2
    go_loopw [3, 4] (fun u s wr => ∃ (a : Int) (t : ByteArray), u = .int .u64 a ∧ s = .string t ∧ t.size ≤ 20 ∧ Hid (0 ≤ a ∧ a ≤ 18446744073709551615 ∧ decDigits a.toNat ++ t.data.toList = decDigits N) ∧ Below w.heap.size w wr) (fun u _ _ => (intOf u).toNat)
    case atStart => exact ⟨N, ⟨#[]⟩, rfl, rfl, by decide, hide ⟨by omega, by omega, by simp⟩, Below.refl _ _⟩
    case round =>
      obtain ⟨a, t, rfl, rfl, ht, HD, hbel⟩ := hrel
      have kx := fun x => conv_one x wr
      have HN := hide hN2
      have HB := hide hbel
      clear hN2 hbel hu
      go_wp2
      · have h0 : (IntKind.u64.wrap (a.tdiv 10) == 0) = true := by assumption
        go_ret
        exact ⟨by rw [unhide HI]; exact congrArg (fun x => Ending.returned (.string x)) (cat_eq (dig_end (unhide HD) h0)), one_new' (unhide HB) _⟩
      · rename_i h0
        obtain ⟨q1, q2, q3⟩ := dig_round (unhide HN) (unhide HD) h0
        exact ⟨⟨_, _, rfl, rfl, q1, hide q2, one_new' (unhide HB) _⟩, q3⟩
end Go.Proofs.YtehgoioinogmkaaGreatDoor
/- From the row's condition on the listed variable to the fact that the walks ask. -/
namespace Go.Proofs.YtehgoioinogmkaaGreatDoor
open Go.ChangeShapes Go.WideShapes Go.RowKit Go.Lib

abbrev laid1 : List (String × DataW Unit) := [("errors.errorType", Rows.laid_errors_errorType)]
theorem Tryz.own : ownKnob Tryz.prog.godebug = none := by kernel_rfl
theorem Tryz.et : Tryz.prog.globalNamed "errors.errorType" = some 0 := by kernel_rfl
theorem Tryz.rt : (Tryz.prog.cutTypes.find? (·.1 == "internal/reflectlite.rtype")).map (·.2) = some 218 := by kernel_rfl
theorem Tryz.oneRow : ((List.range 350).filter fun t => Tryz.prog.rowNamed t [101, 114, 114, 111, 114]) = [33] := by kernel_rfl
theorem Tryz.size : Tryz.prog.types.size = 350 := by kernel_rfl

theorem handle_of_laid {W : World} (h : laidMetH Tryz.prog laid1 W) : ET W := by
  have h' : laidMet Tryz.prog [] W ∧ handlesMet Tryz.prog [("errors.errorType", Rows.laid_errors_errorType)] W := h
  obtain ⟨name, u, ty, e1, e2, e3, e4, e5⟩ := h'.2 _ (List.mem_singleton.2 rfl)
  have en : name = [101, 114, 114, 111, 114] := (Option.some.inj e1).symm
  subst en
  obtain rfl := Option.some.inj (Tryz.rt.symm.trans e2)
  have hm : ty ∈ (List.range 350).filter fun t => Tryz.prog.rowNamed t [101, 114, 114, 111, 114] := List.mem_filter.2 ⟨List.mem_range.2 (by rw [← Tryz.size]; exact e3), e4⟩
  rw [Tryz.oneRow] at hm
  obtain rfl := List.mem_singleton.1 hm
  have hh : typeHandle Tryz.prog 33 = .pointer (some ⟨2, 33, none⟩) := by kernel_rfl
  rw [hh] at e5
  unfold ET
  simpa using World.var?_cell Tryz.et e5 0
/-- The door's own heap meets the condition. -/
theorem door_met (os : Os) (args : Array Value) : laidMetH Tryz.prog laid1 ((World.doorLaid Tryz.prog 400 os).forCall (fun _ _ => 0) ⟨#[], args, []⟩).memory :=
  laidMetH_of_parts3 (fuel := 8) (laidMet_of_run' 8 (by kernel_rfl) (by kernel_rfl)) (by kernel_rfl) (by kernel_rfl)
end Go.Proofs.YtehgoioinogmkaaGreatDoor
/- Bytes that come in as an argument. -/
namespace Go.Proofs.YtehgoioinogmkaaGreatDoor
open Go.ChangeShapes Go.WideShapes Go.ChangeAt Go.RowKit Go.Lib

theorem Tryz.laidOut : laidOutB Tryz.prog = true := by kernel_rfl
set_option maxRecDepth 100000 in
theorem xb_addr {W : World} {base : Nat} {a : Addr} {len cap : Nat} (h : Value.okWide Tryz.prog W .any base 57 (.slice (some a) len cap)) : a.spot = none ∧ a.block < W.heap.size := by
  simp only [Value.okWide, Tryz.underlying57, Cell.okWide, Cell.ok] at h
  obtain ⟨_, _, _, h2, row, cells, h3, _⟩ := h
  refine ⟨h2, ?_⟩
  rcases Nat.lt_or_ge a.block W.heap.size with h' | h'
  · exact h'
  · simp [World.shape?, Array.getElem?_eq_none h'] at h3
set_option maxRecDepth 100000 in
theorem xb_in {H : Type} {enc : TypeId × Value → H} {W : World} {base b0 : Nat} {hd : Bool} {a : Option Addr} {len cap : Nat} {d : DataW H} {ps : List MemPlace}
    (hv : Value.okWide Tryz.prog W .any base 57 (.slice a len cap)) (hT : DataW.Trod enc Tryz.prog W b0 (fun _ => true) hd 57 (.slice a len cap) d ps) :
    ∃ l : List UInt8, l.length = len ∧ len ≤ cap ∧ cap ≤ maxLen ∧ (len ≠ 0 → ∃ b off, a = some ⟨b, off, none⟩ ∧ b < W.heap.size ∧ ∀ i, i < len → W.cell? ⟨b, off + i, none⟩ = some (.int .u8 ((l.getD i 0).toNat : Int))) := by
  obtain ⟨fuel, hf⟩ := hT
  rcases open_ints Tryz.underlying57 Tryz.underlying5 (by kernel_rfl) hf with ⟨hcs, _⟩ | ⟨x, l, c, zs, hcs, _, hl, hm, hz, _, hcell, hwz⟩
  · simp [Value.cells] at hcs
    obtain ⟨rfl, rfl, rfl⟩ := hcs
    exact ⟨[], rfl, Nat.le_refl _, Nat.zero_le _, fun h => absurd rfl h⟩
  · simp [Value.cells] at hcs
    obtain ⟨rfl, rfl, rfl⟩ := hcs
    obtain ⟨hs, hb⟩ := xb_addr hv
    obtain ⟨b, off, spot⟩ := x
    simp only at hs hb
    subst hs
    have hzl : zs.length = cap := by simpa using hz
    have hlen : ((zs.take len).map fun z => z.toNat.toUInt8).length = len := by simp; omega
    refine ⟨(zs.take len).map fun z => z.toNat.toUInt8, hlen, by omega, hm, fun _ => ⟨b, off, rfl, hb, fun i hi => ?_⟩⟩
    have hi' : i < zs.length := by omega
    have h1 := hcell i hi'
    rw [Go.WideShapes.add_plain] at h1
    rw [h1]
    have hw := hwz zs[i] (List.getElem_mem hi')
    have hbd := bounds_u8 hw
    have e : ((zs.take len).map fun z => z.toNat.toUInt8).getD i 0 = zs[i].toNat.toUInt8 := by
      simp [List.getD_eq_getElem?_getD, hi, hi']
    have e2 : zs.getD i 0 = zs[i] := by simp [hi']
    have e3 : zs[i].toNat.toUInt8.toNat = zs[i].toNat := by
      show zs[i].toNat % 256 = _
      omega
    rw [e, e2, e3]
    congr 2
    omega
end Go.Proofs.YtehgoioinogmkaaGreatDoor
