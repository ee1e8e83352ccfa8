/- The document's own readers of a number, a text, a value. -/
import Derived.Test.YtahcfanmfocljaaDoorJoint
import Derived.Test.YtahcfanmfocljaaDoorRdMath2
import Derived.Laws.ResultCell
namespace Go.Proofs.YtahcfanmfocljaaDoor
open Go.RowKit Go.Lib

/-- What it tells. -/
def UR (r : Nat × Nat × Nat × Nat) : Ending := .returned (.tuple #[.int .u64 r.1, .int .i64 r.2.1, .int .i64 r.2.2.1])
theorem ur_form {r : Nat × Nat × Nat × Nat} {c k : Nat} (h : r = (0, 0, c, k)) : (.returned (.tuple #[.int .u64 0, .int .i64 0, .int .i64 (c : Int)]) : Ending) = UR r := by
  subst h; rfl
theorem ur_done {r : Nat × Nat × Nat × Nat} {n : Int} {k a p : Nat} (h : r = (a, k + 1, 0, p)) (hn : n = (a : Int)) : (.returned (.tuple #[.int .u64 n, .int .i64 ((k : Int) + 1), .int .i64 0]) : Ending) = UR r := by
  subst h; subst hn; rfl

set_option maxHeartbeats 1600000 in
set_option maxRecDepth 100000 in
theorem refUint_row (b off cap : Nat) (l : List UInt8) (w : World) (hl : l.length ≤ maxLen) (hc : ∀ i, i < l.length → w.cell? ⟨b, off + i, none⟩ = some (.int .u8 ((l.getD i 0).toNat : Int))) :
    Calls Tryd.prog 21 #[.slice (some ⟨b, off, none⟩) l.length cap] w fun e w' => e = UR (decU l) ∧ w' = w := by
  unfold maxLen at hl
  go_enter Tryd.func21, Tryd.ntmps21
  go_wp2
  go_loop [5, 6] (fun n i => ∃ (k acc : Nat), k ≤ l.length ∧ k ≤ 9 ∧ acc < 2 ^ (7 * k) ∧ i = .int .i64 k ∧ n = .int .u64 acc ∧ decU l = decFrom k acc (l.drop k)) (fun _ i => l.length - (intOf i).toNat)
  case atStart => exact ⟨0, 0, by omega, by omega, by simp, rfl, rfl, rfl⟩
  case round =>
    obtain ⟨k, acc, hk, hk9, hacc, rfl, rfl, hdec⟩ := hrel
    by_cases hlt : k < l.length
    · have hcx := hc k hlt
      rw [drop_at l k hlt] at hdec
      generalize l.getD k 0 = c at *
      have hc256 : (c.toNat : Int) < 256 := by have := c.toNat_lt; omega
      have HD : Hid (decU l = decFrom k acc (c :: l.drop (k + 1))) := hdec
      clear hdec hc
      by_cases k9 : k = 9
      · subst k9
        by_cases h1 : 1 < c.toNat
        · by_cases hd : (1 : Int) < (c.toNat : Int) % 128
          · go_wp2
            go_ret3
            exact ⟨ur_form (c := 20) (k := 9) (HD.out.trans (dec_form (by omega))), rfl⟩
          · have hg : (128 : Int) ≤ (c.toNat : Int) := by omega
            go_wp2
            go_ret3
            exact ⟨ur_form (c := 20) (k := 9) (HD.out.trans (dec_form (by omega))), rfl⟩
        · have hd : ¬ ((1 : Int) < (c.toNat : Int) % 128) := by omega
          have hg : ¬ ((128 : Int) ≤ (c.toNat : Int)) := by omega
          by_cases hz : c.toNat = 0
          · have hz' : (((c.toNat : Nat) : Int) == 0) = true := by rw [hz]; rfl
            go_wp2
            go_ret3
            exact ⟨ur_form (c := 20) (k := 9) (HD.out.trans (dec_form (by omega))), rfl⟩
          · have hz' : (((c.toNat : Nat) : Int) == 0) = false := by simp; omega
            go_wp2
            go_ret3
            exact ⟨ur_done (k := 9) (HD.out.trans (dec_done (by omega) (by omega))) (or_walk9 (by omega) hacc), rfl⟩
      · have hk' : ¬ ((k : Int) = 9) := by omega
        go_wp2
        · have hz := zero_of (c := c) (by assumption)
          go_ret3
          exact ⟨ur_form (c := 20) (HD.out.trans (dec_form (by omega))), rfl⟩
        · have hz := nonzero_of (c := c) (by assumption)
          go_ret3
          exact ⟨ur_done (HD.out.trans (dec_done (by omega) (by omega))) (or_walk hk9 (by omega) hacc), rfl⟩
        · have hz := nonzero_of (c := c) (by assumption)
          have hor := or_walk hk9 (c := c) (by omega) hacc
          have hal := acc_lt (d := c.toNat % 128) (by omega) hacc
          go_round
          case rel => exact ⟨k + 1, _, by omega, by omega, hal, by go_num, congrArg (Value.int .u64) hor, HD.out.trans (dec_more (by omega) (by omega))⟩
          case measure => simp [intOf]; omega
        · go_ret3
          exact ⟨ur_done (HD.out.trans (dec_done (by omega) (by omega))) (or_walk hk9 (by omega) hacc), rfl⟩
        · have hor := or_walk hk9 (c := c) (by omega) hacc
          have hal := acc_lt (d := c.toNat % 128) (by omega) hacc
          go_round
          case rel => exact ⟨k + 1, _, by omega, by omega, hal, by go_num, congrArg (Value.int .u64) hor, HD.out.trans (dec_more (by omega) (by omega))⟩
          case measure => simp [intOf]; omega
    · have hd : decU l = (0, 0, 22, l.length) := by
        rw [hdec, List.drop_eq_nil_of_le (by omega)]; simp [decFrom]; omega
      have HD : Hid (decU l = (0, 0, 22, l.length)) := hd; clear hd hdec
      go_wp2
      go_ret3
      exact ⟨ur_form HD.out, rfl⟩

theorem refUint_any (v : Value) (B : Nat) (l : List UInt8) (w : World) (hv : RBp w B v l) :
    Calls Tryd.prog 21 #[v] w fun e w' => e = UR (decU l) ∧ w' = w := by
  obtain ⟨hlen, ⟨rfl, rfl⟩ | ⟨b, off, cap, hbB, hcap, hm, rfl, hcell⟩⟩ := hv
  · go_enter Tryd.func21, Tryd.ntmps21
    go_wp2
    refine wp_loop_rounds 1 ?_
    rw [rounds_succ]
    go_wp2
    go_ret3
    exact ⟨rfl, rfl⟩
  · exact refUint_row b off cap l w (Nat.le_trans hlen (by decide)) hcell

/-- The three parts by name. -/
theorem refUint_is {v : Value} {B n k c q : Nat} {l : List UInt8} {w : World} (hv : RBp w B v l) (hd : decU l = (n, k, c, q)) :
    Calls Tryd.prog 21 #[v] w fun e w' => e = .returned (.tuple #[.int .u64 n, .int .i64 k, .int .i64 c]) ∧ w' = w := by
  refine (refUint_any v B l w hv).mono ?_
  rintro e w' ⟨rfl, rfl⟩
  rw [hd]
  exact ⟨rfl, rfl⟩

theorem unzig_two (n : Nat) (h : n % 2 = 1) : -((n / 2 : Nat) : Int) - 1 = unzig n := by
  unfold unzig; rw [if_neg (by omega)]
theorem unzig_even (n : Nat) (h : n % 2 = 0) : ((n / 2 : Nat) : Int) = unzig n := by
  unfold unzig; rw [if_pos h]

set_option maxHeartbeats 1600000 in
theorem refInt_any (v : Value) (B n k c q : Nat) (l : List UInt8) (w : World) (hv : RBp w B v l) (hd : decU l = (n, k, c, q)) (h0 : c ≠ 0 → n = 0 ∧ k = 0) (hn : n < 18446744073709551616) :
    Calls Tryd.prog 22 #[v] w fun e w' => e = .returned (.tuple #[.int .i64 (unzig n), .int .i64 k, .int .i64 c]) ∧ w' = w := by
  have HU := hide (refUint_is hv hd)
  clear hv hd
  by_cases hc : c = 0
  · subst hc
    clear h0
    by_cases h2 : n % 2 = 1
    · have h2' : ((n : Int) % 2 == 1) = true := by simp; omega
      have h3 : (n : Int) / 2 < 9223372036854775808 := by omega
      have h4 : (0 : Int) ≤ (n : Int) / 2 := by omega
      have hu := unzig_two n h2
      go_enter Tryd.func22, Tryd.ntmps22
      go_wp2_with (first | (go_at_call 21; refine (unhide HU).mono ?_; rintro e w1 ⟨rfl, rfl⟩))
      go_ret3
      exact ⟨by rw [← hu]; rfl, rfl⟩
    · have h2' : ((n : Int) % 2 == 1) = false := by simp; omega
      have h3 : (n : Int) / 2 < 9223372036854775808 := by omega
      have hu := unzig_even n (by omega)
      go_enter Tryd.func22, Tryd.ntmps22
      go_wp2_with (first | (go_at_call 21; refine (unhide HU).mono ?_; rintro e w1 ⟨rfl, rfl⟩))
      go_ret3
      exact ⟨by rw [← hu]; rfl, rfl⟩
  · obtain ⟨rfl, rfl⟩ := h0 hc
    have hc' : ((c : Int) == 0) = false := by simp; omega
    go_enter Tryd.func22, Tryd.ntmps22
    go_wp2_with (first | (go_at_call 21; refine (unhide HU).mono ?_; rintro e w1 ⟨rfl, rfl⟩))
    go_ret3
    exact ⟨rfl, rfl⟩
end Go.Proofs.YtahcfanmfocljaaDoor
namespace Go.Proofs.YtahcfanmfocljaaDoor
open Go.RowKit Go.Lib

set_option maxHeartbeats 1600000 in
theorem refText_bad (v : Value) (B c q most : Nat) (l : List UInt8) (w : World) (hv : RBp w B v l) (hc : c ≠ 0) (hd : decU l = (0, 0, c, q)) :
    Calls Tryd.prog 47 #[v, .int .u64 most] w fun e w' => e = .returned (.tuple #[.string ⟨#[]⟩, .int .i64 0, .int .i64 c]) ∧ w' = w := by
  have HU := hide (refUint_is hv hd)
  have hc' : ((c : Int) == 0) = false := by simp; omega
  clear hv hd
  go_enter Tryd.func47, Tryd.ntmps47
  go_wp2_with (first | (go_at_call 21; refine (unhide HU).mono ?_; rintro e w1 ⟨rfl, rfl⟩))
  go_ret3
  exact ⟨rfl, rfl⟩
set_option maxHeartbeats 1600000 in
theorem refText_great (v : Value) (B n k q most : Nat) (l : List UInt8) (w : World) (hv : RBp w B v l) (hd : decU l = (n, k, 0, q)) (hn : most < n) :
    Calls Tryd.prog 47 #[v, .int .u64 most] w fun e w' => e = .returned (.tuple #[.string ⟨#[]⟩, .int .i64 0, .int .i64 20]) ∧ w' = w := by
  have HU := hide (refUint_is hv hd)
  have hn' : (most : Int) < (n : Int) := by omega
  clear hv hd
  go_enter Tryd.func47, Tryd.ntmps47
  go_wp2_with (first | (go_at_call 21; refine (unhide HU).mono ?_; rintro e w1 ⟨rfl, rfl⟩))
  go_ret3
  exact ⟨rfl, rfl⟩
set_option maxHeartbeats 1600000 in
theorem refText_short (v : Value) (B n k q most : Nat) (l : List UInt8) (w : World) (hv : RBp w B v l) (hd : decU l = (n, k, 0, q)) (hn : n ≤ most) (hk : k ≤ l.length) (hs : l.length - k < n) :
    Calls Tryd.prog 47 #[v, .int .u64 most] w fun e w' => e = .returned (.tuple #[.string ⟨#[]⟩, .int .i64 0, .int .i64 22]) ∧ w' = w := by
  have hle := hv.1
  have HU := hide (refUint_is hv hd)
  obtain ⟨ad, kk, rfl⟩ := rb_len hv
  clear hv hd
  have hn' : ¬ ((most : Int) < (n : Int)) := by omega
  have hs' : (l.length : Int) - (k : Int) < (n : Int) := by omega
  go_enter Tryd.func47, Tryd.ntmps47
  go_wp2_with (first | (go_at_call 21; refine (unhide HU).mono ?_; rintro e w1 ⟨rfl, rfl⟩))
  go_ret3
  exact ⟨rfl, rfl⟩
set_option maxHeartbeats 400000 in
set_option maxRecDepth 100000 in
theorem refText_ok (v : Value) (B n k q most : Nat) (l : List UInt8) (w : World) (hv : RBp w B v l) (hd : decU l = (n, k, 0, q)) (hn : n ≤ most) (hs : k + n ≤ l.length) (hk0 : 0 < k) :
    Calls Tryd.prog 47 #[v, .int .u64 most] w fun e w' => e = .returned (.tuple #[.string ⟨((l.drop k).take n).toArray⟩, .int .i64 ((k + n : Nat) : Int), .int .i64 0]) ∧ w' = w := by
  have hle := hv.1
  have HU := hide (refUint_is hv hd)
  have hn' : ¬ ((most : Int) < (n : Int)) := by omega
  have hs' : ¬ ((l.length : Int) - (k : Int) < (n : Int)) := by omega
  have hn9 : (n : Int) ≤ 1000000000000 := by omega
  obtain ⟨hlen, ⟨rfl, rfl⟩ | ⟨b, off, cap, hbB, hcap, hm, rfl, hcell⟩⟩ := hv
  · simp at hs; omega
  · have hm' := hm
    unfold maxLen at hm
    by_cases hce : cap = k
    · subst hce
      have hnk : n ≤ l.length - cap := by omega
      have hr0 : RBp w B (.slice (some ⟨b, off, none⟩) (cap + n - cap) 0) ((l.drop cap).take n) := rb_take0 hbB hnk hcap rfl 0 (Nat.zero_le _)
      rw [Nat.add_sub_cancel_left] at hr0
      have hcv := conv_any _ _ _ _ hr0
      clear hr0
      generalize hlt : (l.drop cap).take n = lt at hcv ⊢
      clear hlt hcell hd hlen
      go_enter Tryd.func47, Tryd.ntmps47
      go_wp2_with (first | (go_at_call 21; refine (unhide HU).mono ?_; rintro e w1 ⟨rfl, rfl⟩))
      go_ret3
      exact ⟨rfl, rfl⟩
    · have hr0 : RBp w B (.slice (some ⟨b, off + k, none⟩) (k + n - k) (cap - k)) ((l.drop k).take n) := rb_mid hbB hs hcap hm' hlen hcell
      rw [Nat.add_sub_cancel_left] at hr0
      have hcv := conv_any _ _ _ _ hr0
      clear hr0
      generalize hlt : (l.drop k).take n = lt at hcv ⊢
      clear hlt hcell hd hlen
      go_enter Tryd.func47, Tryd.ntmps47
      go_wp2_with (first | (go_at_call 21; refine (unhide HU).mono ?_; rintro e w1 ⟨rfl, rfl⟩))
      go_ret3
      exact ⟨rfl, rfl⟩
theorem refText_any (v : Value) (B most : Nat) (l : List UInt8) (w : World) (hv : RBp w B v l) :
    Calls Tryd.prog 47 #[v, .int .u64 most] w fun e w' => e = .returned (.tuple #[.string ⟨(refTxt l most).1.toArray⟩, .int .i64 ((refTxt l most).2.1 : Int), .int .i64 ((refTxt l most).2.2 : Int)]) ∧ w' = w := by
  have bad : ∀ c q, c ≠ 0 → decU l = (0, 0, c, q) → refTxt l most = ([], 0, c) := by
    intro c q hc hd; simp [refTxt, hd, hc]
  rcases decU_cases l with ⟨n, k, hd, hn, hk, hk0⟩ | ⟨q, hd⟩ | ⟨q, hd, _⟩
  · by_cases h1 : most < n
    · have e : refTxt l most = ([], 0, 20) := by simp [refTxt, hd, h1]
      rw [e]; exact refText_great v B n k 0 most l w hv hd h1
    · by_cases h2 : l.length - k < n
      · have e : refTxt l most = ([], 0, 22) := by simp [refTxt, hd, h1, h2]
        rw [e]; exact refText_short v B n k 0 most l w hv hd (by omega) hk h2
      · have e : refTxt l most = ((l.drop k).take n, k + n, 0) := by simp [refTxt, hd, h1, h2]
        rw [e]; exact refText_ok v B n k 0 most l w hv hd (by omega) (by omega) hk0
  · rw [bad 20 q (by decide) hd]; exact refText_bad v B 20 q most l w hv (by decide) hd
  · rw [bad 22 q (by decide) hd]; exact refText_bad v B 22 q most l w hv (by decide) hd
set_option maxHeartbeats 1600000 in
theorem refText2_any (v : Value) (B : Nat) (l : List UInt8) (w : World) (hv : RBp w B v l) :
    Calls Tryd.prog 23 #[v] w fun e w' => e = .returned (.tuple #[.string ⟨(refTxt l 2000).1.toArray⟩, .int .i64 ((refTxt l 2000).2.1 : Int), .int .i64 ((refTxt l 2000).2.2 : Int)]) ∧ w' = w := by
  have HU := hide (refText_any v B 2000 l w hv)
  clear hv
  generalize refTxt l 2000 = r at *
  go_enter Tryd.func23, Tryd.ntmps23
  go_wp2_with (first | (go_at_call 47; refine (unhide HU).mono ?_; rintro e w1 ⟨rfl, rfl⟩))
  go_ret3
  exact ⟨rfl, rfl⟩
end Go.Proofs.YtahcfanmfocljaaDoor
namespace Go.Proofs.YtahcfanmfocljaaDoor
open Go.RowKit Go.Lib

theorem results_cell3 {fn : Func} {p u x : Tmp} {ty : TypeId} (h : fn.results = #[.cell p ty, .tmp u, .tmp x]) (tmps : Array Value) (P : Program) (w : World) :
    (results fn tmps).run P w =
      ((asAddr (tmps.getD p undef)).run P w).andThen fun a w₁ => ((loadVar ty a).run P w₁).andThen fun v w₂ => .ok (.tuple #[v, tmps.getD u undef, tmps.getD x undef]) w₂ := by
  simp only [results, h]
  simp [Sem.run_bind, Result.andThen]

/-- What it tells. -/
def VR (r : GV × Nat × Nat) : Ending := .returned (.tuple #[r.1.agg, .int .i64 (r.2.1 : Int), .int .i64 (r.2.2 : Int)])
/-- The world in which it has laid its two variables. -/
abbrev twoV (w : World) (k : Int) : World := (w.alloc (.cells #[.int .i64 0, .int .i64 0, .string ⟨#[]⟩] 81)).alloc (.cells #[.int .i64 k, .int .i64 0, .string ⟨#[]⟩] 81)
theorem twoV_below (w : World) (k : Int) : Below w.heap.size w (twoV w k) := by
  repeat' (first | exact Below.refl _ _ | refine Below.alloc ?_ (by simp) _)

set_option maxHeartbeats 1600000 in
theorem refValue_nil (w : World) : Calls Tryd.prog 49 #[.slice none 0 0] w fun e w' => e = VR (zV, 0, 22) ∧ Below w.heap.size w w' := by
  go_enter Tryd.func49, Tryd.ntmps49
  go_wp2
  (try simp only [Exit.inBlock, Exit.then])
  refine bodyPost_ret (v := .tuple #[zV.agg, .int .i64 0, .int .i64 22]) ?_ rfl ⟨rfl, ?_⟩
  · rw [results_cell3 rfl]
    go_simp
    rfl
  · (repeat' (first | exact Below.refl _ _ | refine Below.drew ?_ | refine Below.setCell ?_ (by simp) _ | refine Below.alloc ?_ (by simp) _))

set_option maxHeartbeats 1600000 in
theorem refValue_empty (a : Addr) (cap : Nat) (w : World) : Calls Tryd.prog 49 #[.slice (some a) 0 cap] w fun e w' => e = VR (zV, 0, 22) ∧ Below w.heap.size w w' := by
  go_enter Tryd.func49, Tryd.ntmps49
  go_wp2
  (try simp only [Exit.inBlock, Exit.then])
  refine bodyPost_ret (v := .tuple #[zV.agg, .int .i64 0, .int .i64 22]) ?_ rfl ⟨rfl, ?_⟩
  · rw [results_cell3 rfl]
    go_simp
    rfl
  · (repeat' (first | exact Below.refl _ _ | refine Below.drew ?_ | refine Below.setCell ?_ (by simp) _ | refine Below.alloc ?_ (by simp) _))

set_option maxHeartbeats 1600000 in
set_option maxRecDepth 100000 in
theorem refValue_null (b off cap len : Nat) (w : World) (hb : b < w.heap.size) (hl : len ≤ 1000000000000) (hl0 : 0 < len) (h0 : w.cell? ⟨b, off, none⟩ = some (.int .u8 0)) :
    Calls Tryd.prog 49 #[.slice (some ⟨b, off, none⟩) len cap] w fun e w' => e = VR (zV, 1, 0) ∧ Below w.heap.size w w' := by
  go_enter Tryd.func49, Tryd.ntmps49
  go_wp2
  (try simp only [Exit.inBlock, Exit.then])
  refine bodyPost_ret (v := .tuple #[zV.agg, .int .i64 1, .int .i64 0]) ?_ rfl ⟨rfl, ?_⟩
  · rw [results_cell3 rfl]
    go_simp
    rfl
  · (repeat' (first | exact Below.refl _ _ | refine Below.drew ?_ | refine Below.setCell ?_ (by simp) _ | refine Below.alloc ?_ (by simp) _))

set_option maxHeartbeats 1600000 in
theorem refValue_bool1 (b off cap : Nat) (w : World) (hb : b < w.heap.size) (h0 : w.cell? ⟨b, off, none⟩ = some (.int .u8 1)) : Calls Tryd.prog 49 #[.slice (some ⟨b, off, none⟩) 1 cap] w fun e w' => e = VR (zV, 0, 22) ∧ Below w.heap.size w w' := by
  go_enter Tryd.func49, Tryd.ntmps49
  go_wp2
  (try simp only [Exit.inBlock, Exit.then])
  refine bodyPost_ret (v := .tuple #[zV.agg, .int .i64 0, .int .i64 22]) ?_ rfl ⟨rfl, ?_⟩
  · rw [results_cell3 rfl]
    go_simp
    rfl
  · (repeat' (first | exact Below.refl _ _ | refine Below.drew ?_ | refine Below.setCell ?_ (by simp) _ | refine Below.alloc ?_ (by simp) _))

set_option maxHeartbeats 1600000 in
set_option maxRecDepth 100000 in
theorem refValue_bool2 (b off cap len : Nat) (w : World) (hb : b < w.heap.size) (hl : len ≤ 1000000000000) (t : UInt8) (hl0 : 1 < len) (h0 : w.cell? ⟨b, off, none⟩ = some (.int .u8 1)) (h1 : w.cell? ⟨b, off + 1, none⟩ = some (.int .u8 (t.toNat : Int))) (ht : 1 < t.toNat) :
    Calls Tryd.prog 49 #[.slice (some ⟨b, off, none⟩) len cap] w fun e w' => e = VR (zV, 0, 20) ∧ Below w.heap.size w w' := by
  have ht' : (1 : Int) < (t.toNat : Int) := by omega
  go_enter Tryd.func49, Tryd.ntmps49
  go_wp2
  (try simp only [Exit.inBlock, Exit.then])
  refine bodyPost_ret (v := .tuple #[zV.agg, .int .i64 0, .int .i64 20]) ?_ rfl ⟨rfl, ?_⟩
  · rw [results_cell3 rfl]
    go_simp
    rfl
  · (repeat' (first | exact Below.refl _ _ | refine Below.drew ?_ | refine Below.setCell ?_ (by simp) _ | refine Below.alloc ?_ (by simp) _))

set_option maxHeartbeats 1600000 in
set_option maxRecDepth 100000 in
theorem refValue_bool3 (b off cap len : Nat) (w : World) (hb : b < w.heap.size) (hl : len ≤ 1000000000000) (t : UInt8) (hl0 : 1 < len) (h0 : w.cell? ⟨b, off, none⟩ = some (.int .u8 1)) (h1 : w.cell? ⟨b, off + 1, none⟩ = some (.int .u8 (t.toNat : Int))) (ht : ¬ 1 < t.toNat) :
    Calls Tryd.prog 49 #[.slice (some ⟨b, off, none⟩) len cap] w fun e w' => e = VR (⟨1, (t.toNat : Int), ⟨#[]⟩⟩, 2, 0) ∧ Below w.heap.size w w' := by
  have ht' : ¬ ((1 : Int) < (t.toNat : Int)) := by omega
  go_enter Tryd.func49, Tryd.ntmps49
  go_wp2
  (try simp only [Exit.inBlock, Exit.then])
  refine bodyPost_ret (v := .tuple #[(GV.agg ⟨1, (t.toNat : Int), ⟨#[]⟩⟩), .int .i64 2, .int .i64 0]) ?_ rfl ⟨rfl, ?_⟩
  · rw [results_cell3 rfl]
    go_simp
    rfl
  · (repeat' (first | exact Below.refl _ _ | refine Below.drew ?_ | refine Below.setCell ?_ (by simp) _ | refine Below.alloc ?_ (by simp) _))

set_option maxHeartbeats 1600000 in
set_option maxRecDepth 100000 in
theorem refValue_other (b off cap len : Nat) (w : World) (hb : b < w.heap.size) (hl : len ≤ 1000000000000) (c : Nat) (hl0 : 0 < len) (h0 : w.cell? ⟨b, off, none⟩ = some (.int .u8 (c : Int))) (hc : 3 < c) (hc2 : c < 256) :
    Calls Tryd.prog 49 #[.slice (some ⟨b, off, none⟩) len cap] w fun e w' => e = VR (zV, 0, 20) ∧ Below w.heap.size w w' := by
  have e0 : ((c : Int) == 0) = false := by simp; omega
  have e1 : ((c : Int) == 1) = false := by simp; omega
  have e2 : ((c : Int) == 2) = false := by simp; omega
  have e3 : ((c : Int) == 3) = false := by simp; omega
  have e4 : (c : Int) < 256 := by omega
  go_enter Tryd.func49, Tryd.ntmps49
  go_wp2
  (try simp only [Exit.inBlock, Exit.then])
  refine bodyPost_ret (v := .tuple #[zV.agg, .int .i64 0, .int .i64 20]) ?_ rfl ⟨rfl, ?_⟩
  · rw [results_cell3 rfl]
    go_simp
    rfl
  · (repeat' (first | exact Below.refl _ _ | refine Below.drew ?_ | refine Below.setCell ?_ (by simp) _ | refine Below.alloc ?_ (by simp) _))

set_option maxHeartbeats 1600000 in
set_option maxRecDepth 100000 in
theorem refValue_int (b off cap len : Nat) (w : World) (hb : b < w.heap.size) (hl : len ≤ 1000000000000) (z : Int) (k c : Nat) (hl0 : 0 < len) (hce : cap ≠ 1) (h0 : w.cell? ⟨b, off, none⟩ = some (.int .u8 2)) (HU : Hid (Calls Tryd.prog 22 #[.slice (some ⟨b, off + 1, none⟩) (len - 1) (cap - 1)] (twoV w 2) fun e w' => e = .returned (.tuple #[.int .i64 z, .int .i64 (k : Int), .int .i64 (c : Int)]) ∧ w' = twoV w 2)) (hc : c = 0) (hk : k ≤ 10) :
    Calls Tryd.prog 49 #[.slice (some ⟨b, off, none⟩) len cap] w fun e w' => e = VR (⟨2, z, ⟨#[]⟩⟩, 1 + k, 0) ∧ Below w.heap.size w w' := by
  subst hc
  go_enter Tryd.func49, Tryd.ntmps49
  go_wp2_with (first | (go_at_call 22; refine (unhide HU).mono ?_; rintro e w1 ⟨rfl, rfl⟩))
  (try simp only [Exit.inBlock, Exit.then])
  refine bodyPost_ret (v := .tuple #[(GV.agg ⟨2, z, ⟨#[]⟩⟩), .int .i64 ((1 + k : Nat) : Int), .int .i64 0]) ?_ rfl ⟨rfl, ?_⟩
  · rw [results_cell3 rfl]
    go_simp
    rfl
  · (repeat' (first | exact Below.refl _ _ | refine Below.drew ?_ | refine Below.setCell ?_ (by simp) _ | refine Below.alloc ?_ (by simp) _))

set_option maxHeartbeats 1600000 in
set_option maxRecDepth 100000 in
theorem refValue_intbad (b off cap len : Nat) (w : World) (hb : b < w.heap.size) (hl : len ≤ 1000000000000) (z : Int) (k c : Nat) (hl0 : 0 < len) (hce : cap ≠ 1) (h0 : w.cell? ⟨b, off, none⟩ = some (.int .u8 2)) (HU : Hid (Calls Tryd.prog 22 #[.slice (some ⟨b, off + 1, none⟩) (len - 1) (cap - 1)] (twoV w 2) fun e w' => e = .returned (.tuple #[.int .i64 z, .int .i64 (k : Int), .int .i64 (c : Int)]) ∧ w' = twoV w 2)) (hc : c ≠ 0) :
    Calls Tryd.prog 49 #[.slice (some ⟨b, off, none⟩) len cap] w fun e w' => e = VR (zV, 0, c) ∧ Below w.heap.size w w' := by
  have hc' : ((c : Int) == 0) = false := by simp; omega
  go_enter Tryd.func49, Tryd.ntmps49
  go_wp2_with (first | (go_at_call 22; refine (unhide HU).mono ?_; rintro e w1 ⟨rfl, rfl⟩))
  (try simp only [Exit.inBlock, Exit.then])
  refine bodyPost_ret (v := .tuple #[zV.agg, .int .i64 0, .int .i64 (c : Int)]) ?_ rfl ⟨rfl, ?_⟩
  · rw [results_cell3 rfl]
    go_simp
    rfl
  · (repeat' (first | exact Below.refl _ _ | refine Below.drew ?_ | refine Below.setCell ?_ (by simp) _ | refine Below.alloc ?_ (by simp) _))

set_option maxHeartbeats 1600000 in
theorem refValue_int1 (b off c : Nat) (z : Int) (k : Nat) (w : World) (hb : b < w.heap.size) (h0 : w.cell? ⟨b, off, none⟩ = some (.int .u8 2)) (HU : Hid (Calls Tryd.prog 22 #[.slice (some ⟨b, off, none⟩) 0 0] (twoV w 2) fun e w' => e = .returned (.tuple #[.int .i64 z, .int .i64 (k : Int), .int .i64 (c : Int)]) ∧ w' = twoV w 2)) (hc : c ≠ 0) :
    Calls Tryd.prog 49 #[.slice (some ⟨b, off, none⟩) 1 1] w fun e w' => e = VR (zV, 0, c) ∧ Below w.heap.size w w' := by
  have hc' : ((c : Int) == 0) = false := by simp; omega
  go_enter Tryd.func49, Tryd.ntmps49
  go_wp2_with (first | (go_at_call 22; refine (unhide HU).mono ?_; rintro e w1 ⟨rfl, rfl⟩))
  (try simp only [Exit.inBlock, Exit.then])
  refine bodyPost_ret (v := .tuple #[zV.agg, .int .i64 0, .int .i64 (c : Int)]) ?_ rfl ⟨rfl, ?_⟩
  · rw [results_cell3 rfl]
    go_simp
    rfl
  · (repeat' (first | exact Below.refl _ _ | refine Below.drew ?_ | refine Below.setCell ?_ (by simp) _ | refine Below.alloc ?_ (by simp) _))
end Go.Proofs.YtahcfanmfocljaaDoor
namespace Go.Proofs.YtahcfanmfocljaaDoor
open Go.RowKit Go.Lib

set_option maxHeartbeats 1600000 in
set_option maxRecDepth 100000 in
theorem refValue_t1 (b off cap : Nat) (w : World) (hb : b < w.heap.size) (hce : cap ≠ 1) (h0 : w.cell? ⟨b, off, none⟩ = some (.int .u8 3)) (S : ByteArray) (k c : Nat) (HT : Hid (Calls Tryd.prog 47 #[.slice (some ⟨b, off + 1, none⟩) 0 (cap - 1), .int .u64 40] (twoV w 3) fun e w' => e = .returned (.tuple #[.string S, .int .i64 (k : Int), .int .i64 (c : Int)]) ∧ w' = twoV w 3)) (hc : c ≠ 0) :
    Calls Tryd.prog 49 #[.slice (some ⟨b, off, none⟩) 1 cap] w fun e w' => e = VR (zV, 0, c) ∧ Below w.heap.size w w' := by
  have hc' : ((c : Int) == 0) = false := by simp; omega
  go_enter Tryd.func49, Tryd.ntmps49
  go_wp2_with (first | (go_at_call 47; refine (unhide HT).mono ?_; rintro e w1 ⟨rfl, rfl⟩))
  (try simp only [Exit.inBlock, Exit.then])
  refine bodyPost_ret (v := .tuple #[zV.agg, .int .i64 0, .int .i64 (c : Int)]) ?_ rfl ⟨rfl, ?_⟩
  · rw [results_cell3 rfl]
    go_simp
    rfl
  · (repeat' (first | exact Below.refl _ _ | refine Below.drew ?_ | refine Below.setCell ?_ (by simp) _ | refine Below.alloc ?_ (by simp) _))

set_option maxHeartbeats 1600000 in
set_option maxRecDepth 100000 in
theorem refValue_t11 (b off : Nat) (w : World) (hb : b < w.heap.size) (h0 : w.cell? ⟨b, off, none⟩ = some (.int .u8 3)) (S : ByteArray) (k c : Nat) (HT : Hid (Calls Tryd.prog 47 #[.slice (some ⟨b, off, none⟩) 0 0, .int .u64 40] (twoV w 3) fun e w' => e = .returned (.tuple #[.string S, .int .i64 (k : Int), .int .i64 (c : Int)]) ∧ w' = twoV w 3)) (hc : c ≠ 0) :
    Calls Tryd.prog 49 #[.slice (some ⟨b, off, none⟩) 1 1] w fun e w' => e = VR (zV, 0, c) ∧ Below w.heap.size w w' := by
  have hc' : ((c : Int) == 0) = false := by simp; omega
  go_enter Tryd.func49, Tryd.ntmps49
  go_wp2_with (first | (go_at_call 47; refine (unhide HT).mono ?_; rintro e w1 ⟨rfl, rfl⟩))
  (try simp only [Exit.inBlock, Exit.then])
  refine bodyPost_ret (v := .tuple #[zV.agg, .int .i64 0, .int .i64 (c : Int)]) ?_ rfl ⟨rfl, ?_⟩
  · rw [results_cell3 rfl]
    go_simp
    rfl
  · (repeat' (first | exact Below.refl _ _ | refine Below.drew ?_ | refine Below.setCell ?_ (by simp) _ | refine Below.alloc ?_ (by simp) _))

set_option maxHeartbeats 1600000 in
set_option maxRecDepth 100000 in
theorem refValue_t40 (b off cap len : Nat) (w : World) (hb : b < w.heap.size) (hl : len ≤ 1000000000000) (t : Nat) (hl0 : 1 < len) (h0 : w.cell? ⟨b, off, none⟩ = some (.int .u8 3)) (h1 : w.cell? ⟨b, off + 1, none⟩ = some (.int .u8 (t : Int))) (ht : 40 < t) :
    Calls Tryd.prog 49 #[.slice (some ⟨b, off, none⟩) len cap] w fun e w' => e = VR (zV, 0, 20) ∧ Below w.heap.size w w' := by
  have ht' : (40 : Int) < (t : Int) := by omega
  go_enter Tryd.func49, Tryd.ntmps49
  go_wp2
  (try simp only [Exit.inBlock, Exit.then])
  refine bodyPost_ret (v := .tuple #[zV.agg, .int .i64 0, .int .i64 20]) ?_ rfl ⟨rfl, ?_⟩
  · rw [results_cell3 rfl]
    go_simp
    rfl
  · (repeat' (first | exact Below.refl _ _ | refine Below.drew ?_ | refine Below.setCell ?_ (by simp) _ | refine Below.alloc ?_ (by simp) _))

set_option maxHeartbeats 1600000 in
set_option maxRecDepth 100000 in
theorem refValue_t0A (b off cap len : Nat) (w : World) (hb : b < w.heap.size) (hl : len ≤ 1000000000000) (t : Nat) (hl0 : 1 < len) (hcap : len ≤ cap) (hce : cap ≠ 2) (h0 : w.cell? ⟨b, off, none⟩ = some (.int .u8 3)) (h1 : w.cell? ⟨b, off + 1, none⟩ = some (.int .u8 (t : Int))) (ht : t ≤ 40) (hs : 2 + t < len) (X : ByteArray) (HP : Hid (Calls Tryd.prog 67 #[.string X] (twoV w 3) fun e w' => e = .returned (.bool false) ∧ w' = twoV w 3)) (hcv : (convert 23 9 (.slice (some ⟨b, off + 2, none⟩) t (cap - 2))).run Tryd.prog (twoV w 3) = .ok (.string X) (twoV w 3)) :
    Calls Tryd.prog 49 #[.slice (some ⟨b, off, none⟩) len cap] w fun e w' => e = VR (zV, 0, 20) ∧ Below w.heap.size w w' := by
  have ht' : ¬ ((40 : Int) < (t : Int)) := by omega
  have hs' : (2 : Int) + (t : Int) < (len : Int) := by omega
  go_enter Tryd.func49, Tryd.ntmps49
  go_wp2_with (first | (go_at_call 67; refine (unhide HP).mono ?_; rintro e w1 ⟨rfl, rfl⟩))
  (try simp only [Exit.inBlock, Exit.then])
  refine bodyPost_ret (v := .tuple #[zV.agg, .int .i64 0, .int .i64 20]) ?_ rfl ⟨rfl, ?_⟩
  · rw [results_cell3 rfl]
    go_simp
    rfl
  · (repeat' (first | exact Below.refl _ _ | refine Below.drew ?_ | refine Below.setCell ?_ (by simp) _ | refine Below.alloc ?_ (by simp) _))

set_option maxHeartbeats 1600000 in
set_option maxRecDepth 100000 in
theorem refValue_tcA (b off cap len : Nat) (w : World) (hb : b < w.heap.size) (hl : len ≤ 1000000000000) (t : Nat) (hl0 : 1 < len) (hcap : len ≤ cap) (hce : cap ≠ 2) (h0 : w.cell? ⟨b, off, none⟩ = some (.int .u8 3)) (h1 : w.cell? ⟨b, off + 1, none⟩ = some (.int .u8 (t : Int))) (ht : t ≤ 40) (hs : 2 + t < len) (X : ByteArray) (HP : Hid (Calls Tryd.prog 67 #[.string X] (twoV w 3) fun e w' => e = .returned (.bool true) ∧ w' = twoV w 3)) (hcv : (convert 23 9 (.slice (some ⟨b, off + 2, none⟩) t (cap - 2))).run Tryd.prog (twoV w 3) = .ok (.string X) (twoV w 3)) (S : ByteArray) (k c : Nat) (HT : Hid (Calls Tryd.prog 47 #[.slice (some ⟨b, off + 1, none⟩) (len - 1) (cap - 1), .int .u64 40] (twoV w 3) fun e w' => e = .returned (.tuple #[.string S, .int .i64 (k : Int), .int .i64 (c : Int)]) ∧ w' = twoV w 3)) (hc : c ≠ 0) :
    Calls Tryd.prog 49 #[.slice (some ⟨b, off, none⟩) len cap] w fun e w' => e = VR (zV, 0, c) ∧ Below w.heap.size w w' := by
  have ht' : ¬ ((40 : Int) < (t : Int)) := by omega
  have hs' : (2 : Int) + (t : Int) < (len : Int) := by omega
  have hc' : ((c : Int) == 0) = false := by simp; omega
  go_enter Tryd.func49, Tryd.ntmps49
  go_wp2_with (first | (go_at_call 67; refine (unhide HP).mono ?_; rintro e w1 ⟨rfl, rfl⟩) | (go_at_call 47; refine (unhide HT).mono ?_; rintro e w1 ⟨rfl, rfl⟩))
  (try simp only [Exit.inBlock, Exit.then])
  refine bodyPost_ret (v := .tuple #[zV.agg, .int .i64 0, .int .i64 (c : Int)]) ?_ rfl ⟨rfl, ?_⟩
  · rw [results_cell3 rfl]
    go_simp
    rfl
  · (repeat' (first | exact Below.refl _ _ | refine Below.drew ?_ | refine Below.setCell ?_ (by simp) _ | refine Below.alloc ?_ (by simp) _))

set_option maxHeartbeats 1600000 in
set_option maxRecDepth 100000 in
theorem refValue_tkA (b off cap len : Nat) (w : World) (hb : b < w.heap.size) (hl : len ≤ 1000000000000) (t : Nat) (hl0 : 1 < len) (hcap : len ≤ cap) (hce : cap ≠ 2) (h0 : w.cell? ⟨b, off, none⟩ = some (.int .u8 3)) (h1 : w.cell? ⟨b, off + 1, none⟩ = some (.int .u8 (t : Int))) (ht : t ≤ 40) (hs : 2 + t < len) (X : ByteArray) (HP : Hid (Calls Tryd.prog 67 #[.string X] (twoV w 3) fun e w' => e = .returned (.bool true) ∧ w' = twoV w 3)) (hcv : (convert 23 9 (.slice (some ⟨b, off + 2, none⟩) t (cap - 2))).run Tryd.prog (twoV w 3) = .ok (.string X) (twoV w 3)) (S : ByteArray) (k c : Nat) (HT : Hid (Calls Tryd.prog 47 #[.slice (some ⟨b, off + 1, none⟩) (len - 1) (cap - 1), .int .u64 40] (twoV w 3) fun e w' => e = .returned (.tuple #[.string S, .int .i64 (k : Int), .int .i64 (c : Int)]) ∧ w' = twoV w 3)) (hc : c = 0) (hk : k ≤ 1000000000000) :
    Calls Tryd.prog 49 #[.slice (some ⟨b, off, none⟩) len cap] w fun e w' => e = VR (⟨3, 0, S⟩, 1 + k, 0) ∧ Below w.heap.size w w' := by
  have ht' : ¬ ((40 : Int) < (t : Int)) := by omega
  have hs' : (2 : Int) + (t : Int) < (len : Int) := by omega
  subst hc
  go_enter Tryd.func49, Tryd.ntmps49
  go_wp2_with (first | (go_at_call 67; refine (unhide HP).mono ?_; rintro e w1 ⟨rfl, rfl⟩) | (go_at_call 47; refine (unhide HT).mono ?_; rintro e w1 ⟨rfl, rfl⟩))
  (try simp only [Exit.inBlock, Exit.then])
  refine bodyPost_ret (v := .tuple #[(GV.agg ⟨3, 0, S⟩), .int .i64 ((1 + k : Nat) : Int), .int .i64 0]) ?_ rfl ⟨rfl, ?_⟩
  · rw [results_cell3 rfl]
    go_simp
    rfl
  · (repeat' (first | exact Below.refl _ _ | refine Below.drew ?_ | refine Below.setCell ?_ (by simp) _ | refine Below.alloc ?_ (by simp) _))

set_option maxHeartbeats 1600000 in
set_option maxRecDepth 100000 in
theorem refValue_t0B (b off cap len : Nat) (w : World) (hb : b < w.heap.size) (hl : len ≤ 1000000000000) (t : Nat) (hl0 : 1 < len) (hcap : len ≤ cap) (hce : cap ≠ 2) (h0 : w.cell? ⟨b, off, none⟩ = some (.int .u8 3)) (h1 : w.cell? ⟨b, off + 1, none⟩ = some (.int .u8 (t : Int))) (ht : t ≤ 40) (hs : len ≤ 2 + t) (X : ByteArray) (HP : Hid (Calls Tryd.prog 67 #[.string X] (twoV w 3) fun e w' => e = .returned (.bool false) ∧ w' = twoV w 3)) (hcv : (convert 23 9 (.slice (some ⟨b, off + 2, none⟩) (len - 2) (cap - 2))).run Tryd.prog (twoV w 3) = .ok (.string X) (twoV w 3)) :
    Calls Tryd.prog 49 #[.slice (some ⟨b, off, none⟩) len cap] w fun e w' => e = VR (zV, 0, 20) ∧ Below w.heap.size w w' := by
  have ht' : ¬ ((40 : Int) < (t : Int)) := by omega
  have hs' : (len : Int) ≤ 2 + t := by omega
  go_enter Tryd.func49, Tryd.ntmps49
  go_wp2_with (first | (go_at_call 67; refine (unhide HP).mono ?_; rintro e w1 ⟨rfl, rfl⟩))
  (try simp only [Exit.inBlock, Exit.then])
  refine bodyPost_ret (v := .tuple #[zV.agg, .int .i64 0, .int .i64 20]) ?_ rfl ⟨rfl, ?_⟩
  · rw [results_cell3 rfl]
    go_simp
    rfl
  · (repeat' (first | exact Below.refl _ _ | refine Below.drew ?_ | refine Below.setCell ?_ (by simp) _ | refine Below.alloc ?_ (by simp) _))

set_option maxHeartbeats 1600000 in
set_option maxRecDepth 100000 in
theorem refValue_tcB (b off cap len : Nat) (w : World) (hb : b < w.heap.size) (hl : len ≤ 1000000000000) (t : Nat) (hl0 : 1 < len) (hcap : len ≤ cap) (hce : cap ≠ 2) (h0 : w.cell? ⟨b, off, none⟩ = some (.int .u8 3)) (h1 : w.cell? ⟨b, off + 1, none⟩ = some (.int .u8 (t : Int))) (ht : t ≤ 40) (hs : len ≤ 2 + t) (X : ByteArray) (HP : Hid (Calls Tryd.prog 67 #[.string X] (twoV w 3) fun e w' => e = .returned (.bool true) ∧ w' = twoV w 3)) (hcv : (convert 23 9 (.slice (some ⟨b, off + 2, none⟩) (len - 2) (cap - 2))).run Tryd.prog (twoV w 3) = .ok (.string X) (twoV w 3)) (S : ByteArray) (k c : Nat) (HT : Hid (Calls Tryd.prog 47 #[.slice (some ⟨b, off + 1, none⟩) (len - 1) (cap - 1), .int .u64 40] (twoV w 3) fun e w' => e = .returned (.tuple #[.string S, .int .i64 (k : Int), .int .i64 (c : Int)]) ∧ w' = twoV w 3)) (hc : c ≠ 0) :
    Calls Tryd.prog 49 #[.slice (some ⟨b, off, none⟩) len cap] w fun e w' => e = VR (zV, 0, c) ∧ Below w.heap.size w w' := by
  have ht' : ¬ ((40 : Int) < (t : Int)) := by omega
  have hs' : (len : Int) ≤ 2 + t := by omega
  have hc' : ((c : Int) == 0) = false := by simp; omega
  go_enter Tryd.func49, Tryd.ntmps49
  go_wp2_with (first | (go_at_call 67; refine (unhide HP).mono ?_; rintro e w1 ⟨rfl, rfl⟩) | (go_at_call 47; refine (unhide HT).mono ?_; rintro e w1 ⟨rfl, rfl⟩))
  (try simp only [Exit.inBlock, Exit.then])
  refine bodyPost_ret (v := .tuple #[zV.agg, .int .i64 0, .int .i64 (c : Int)]) ?_ rfl ⟨rfl, ?_⟩
  · rw [results_cell3 rfl]
    go_simp
    rfl
  · (repeat' (first | exact Below.refl _ _ | refine Below.drew ?_ | refine Below.setCell ?_ (by simp) _ | refine Below.alloc ?_ (by simp) _))

set_option maxHeartbeats 1600000 in
set_option maxRecDepth 100000 in
theorem refValue_tkB (b off cap len : Nat) (w : World) (hb : b < w.heap.size) (hl : len ≤ 1000000000000) (t : Nat) (hl0 : 1 < len) (hcap : len ≤ cap) (hce : cap ≠ 2) (h0 : w.cell? ⟨b, off, none⟩ = some (.int .u8 3)) (h1 : w.cell? ⟨b, off + 1, none⟩ = some (.int .u8 (t : Int))) (ht : t ≤ 40) (hs : len ≤ 2 + t) (X : ByteArray) (HP : Hid (Calls Tryd.prog 67 #[.string X] (twoV w 3) fun e w' => e = .returned (.bool true) ∧ w' = twoV w 3)) (hcv : (convert 23 9 (.slice (some ⟨b, off + 2, none⟩) (len - 2) (cap - 2))).run Tryd.prog (twoV w 3) = .ok (.string X) (twoV w 3)) (S : ByteArray) (k c : Nat) (HT : Hid (Calls Tryd.prog 47 #[.slice (some ⟨b, off + 1, none⟩) (len - 1) (cap - 1), .int .u64 40] (twoV w 3) fun e w' => e = .returned (.tuple #[.string S, .int .i64 (k : Int), .int .i64 (c : Int)]) ∧ w' = twoV w 3)) (hc : c = 0) (hk : k ≤ 1000000000000) :
    Calls Tryd.prog 49 #[.slice (some ⟨b, off, none⟩) len cap] w fun e w' => e = VR (⟨3, 0, S⟩, 1 + k, 0) ∧ Below w.heap.size w w' := by
  have ht' : ¬ ((40 : Int) < (t : Int)) := by omega
  have hs' : (len : Int) ≤ 2 + t := by omega
  subst hc
  go_enter Tryd.func49, Tryd.ntmps49
  go_wp2_with (first | (go_at_call 67; refine (unhide HP).mono ?_; rintro e w1 ⟨rfl, rfl⟩) | (go_at_call 47; refine (unhide HT).mono ?_; rintro e w1 ⟨rfl, rfl⟩))
  (try simp only [Exit.inBlock, Exit.then])
  refine bodyPost_ret (v := .tuple #[(GV.agg ⟨3, 0, S⟩), .int .i64 ((1 + k : Nat) : Int), .int .i64 0]) ?_ rfl ⟨rfl, ?_⟩
  · rw [results_cell3 rfl]
    go_simp
    rfl
  · (repeat' (first | exact Below.refl _ _ | refine Below.drew ?_ | refine Below.setCell ?_ (by simp) _ | refine Below.alloc ?_ (by simp) _))

set_option maxHeartbeats 1600000 in
set_option maxRecDepth 100000 in
theorem refValue_tcC (b off : Nat) (w : World) (hb : b < w.heap.size) (t : Nat) (h0 : w.cell? ⟨b, off, none⟩ = some (.int .u8 3)) (h1 : w.cell? ⟨b, off + 1, none⟩ = some (.int .u8 (t : Int))) (ht : t ≤ 40) (X : ByteArray) (HP : Hid (Calls Tryd.prog 67 #[.string X] (twoV w 3) fun e w' => e = .returned (.bool true) ∧ w' = twoV w 3)) (hcv : (convert 23 9 (.slice (some ⟨b, off, none⟩) 0 0)).run Tryd.prog (twoV w 3) = .ok (.string X) (twoV w 3)) (S : ByteArray) (k c : Nat) (HT : Hid (Calls Tryd.prog 47 #[.slice (some ⟨b, off + 1, none⟩) 1 1, .int .u64 40] (twoV w 3) fun e w' => e = .returned (.tuple #[.string S, .int .i64 (k : Int), .int .i64 (c : Int)]) ∧ w' = twoV w 3)) (hc : c ≠ 0) :
    Calls Tryd.prog 49 #[.slice (some ⟨b, off, none⟩) 2 2] w fun e w' => e = VR (zV, 0, c) ∧ Below w.heap.size w w' := by
  have ht' : ¬ ((40 : Int) < (t : Int)) := by omega
  have hs' : (2 : Int) ≤ 2 + t := by omega
  have hc' : ((c : Int) == 0) = false := by simp; omega
  go_enter Tryd.func49, Tryd.ntmps49
  go_wp2_with (first | (go_at_call 67; refine (unhide HP).mono ?_; rintro e w1 ⟨rfl, rfl⟩) | (go_at_call 47; refine (unhide HT).mono ?_; rintro e w1 ⟨rfl, rfl⟩))
  (try simp only [Exit.inBlock, Exit.then])
  refine bodyPost_ret (v := .tuple #[zV.agg, .int .i64 0, .int .i64 (c : Int)]) ?_ rfl ⟨rfl, ?_⟩
  · rw [results_cell3 rfl]
    go_simp
    rfl
  · (repeat' (first | exact Below.refl _ _ | refine Below.drew ?_ | refine Below.setCell ?_ (by simp) _ | refine Below.alloc ?_ (by simp) _))

set_option maxHeartbeats 1600000 in
set_option maxRecDepth 100000 in
theorem refValue_tkC (b off : Nat) (w : World) (hb : b < w.heap.size) (t : Nat) (h0 : w.cell? ⟨b, off, none⟩ = some (.int .u8 3)) (h1 : w.cell? ⟨b, off + 1, none⟩ = some (.int .u8 (t : Int))) (ht : t ≤ 40) (X : ByteArray) (HP : Hid (Calls Tryd.prog 67 #[.string X] (twoV w 3) fun e w' => e = .returned (.bool true) ∧ w' = twoV w 3)) (hcv : (convert 23 9 (.slice (some ⟨b, off, none⟩) 0 0)).run Tryd.prog (twoV w 3) = .ok (.string X) (twoV w 3)) (S : ByteArray) (k c : Nat) (HT : Hid (Calls Tryd.prog 47 #[.slice (some ⟨b, off + 1, none⟩) 1 1, .int .u64 40] (twoV w 3) fun e w' => e = .returned (.tuple #[.string S, .int .i64 (k : Int), .int .i64 (c : Int)]) ∧ w' = twoV w 3)) (hc : c = 0) (hk : k ≤ 1000000000000) :
    Calls Tryd.prog 49 #[.slice (some ⟨b, off, none⟩) 2 2] w fun e w' => e = VR (⟨3, 0, S⟩, 1 + k, 0) ∧ Below w.heap.size w w' := by
  have ht' : ¬ ((40 : Int) < (t : Int)) := by omega
  have hs' : (2 : Int) ≤ 2 + t := by omega
  subst hc
  go_enter Tryd.func49, Tryd.ntmps49
  go_wp2_with (first | (go_at_call 67; refine (unhide HP).mono ?_; rintro e w1 ⟨rfl, rfl⟩) | (go_at_call 47; refine (unhide HT).mono ?_; rintro e w1 ⟨rfl, rfl⟩))
  (try simp only [Exit.inBlock, Exit.then])
  refine bodyPost_ret (v := .tuple #[(GV.agg ⟨3, 0, S⟩), .int .i64 ((1 + k : Nat) : Int), .int .i64 0]) ?_ rfl ⟨rfl, ?_⟩
  · rw [results_cell3 rfl]
    go_simp
    rfl
  · (repeat' (first | exact Below.refl _ _ | refine Below.drew ?_ | refine Below.setCell ?_ (by simp) _ | refine Below.alloc ?_ (by simp) _))
end Go.Proofs.YtahcfanmfocljaaDoor
namespace Go.Proofs.YtahcfanmfocljaaDoor
open Go.RowKit Go.Lib

theorem cell_zero {w : World} {b off : Nat} {c : UInt8} {r : List UInt8} (h : ∀ i, i < (c :: r).length → w.cell? ⟨b, off + i, none⟩ = some (.int .u8 (((c :: r).getD i 0).toNat : Int))) : w.cell? ⟨b, off, none⟩ = some (.int .u8 (c.toNat : Int)) := by
  simpa using h 0 (by simp)
theorem cell_one {w : World} {b off : Nat} {c t : UInt8} {r : List UInt8} (h : ∀ i, i < (c :: t :: r).length → w.cell? ⟨b, off + i, none⟩ = some (.int .u8 (((c :: t :: r).getD i 0).toNat : Int))) : w.cell? ⟨b, off + 1, none⟩ = some (.int .u8 (t.toNat : Int)) := by
  simpa using h 1 (by simp)

theorem refInt_at {w : World} {v : Value} {r : List UInt8} (hv : RBp w w.heap.size v r) (W : World) (hb : Below w.heap.size w W) :
    ∃ (z : Int) (k c : Nat), Hid (Calls Tryd.prog 22 #[v] W fun e w' => e = .returned (.tuple #[.int .i64 z, .int .i64 (k : Int), .int .i64 (c : Int)]) ∧ w' = W) ∧ z = unzig (decU r).1 ∧ k = (decU r).2.1 ∧ c = (decU r).2.2.1 ∧ k ≤ 10 := by
  have hk10 : (decU r).2.1 ≤ 10 := dec_size r
  refine ⟨unzig (decU r).1, (decU r).2.1, (decU r).2.2.1, ?_, rfl, rfl, rfl, hk10⟩
  rcases decU_cases r with ⟨n, k, hd, hn, _⟩ | ⟨q, hd⟩ | ⟨q, hd, _⟩
  · rw [hd]; exact hide (refInt_any v _ n k 0 0 r W (hv.below hb (Nat.le_refl _)) hd (fun h => absurd rfl h) hn)
  · rw [hd]; exact hide (refInt_any v _ 0 0 20 q r W (hv.below hb (Nat.le_refl _)) hd (fun _ => ⟨rfl, rfl⟩) (by decide))
  · rw [hd]; exact hide (refInt_any v _ 0 0 22 q r W (hv.below hb (Nat.le_refl _)) hd (fun _ => ⟨rfl, rfl⟩) (by decide))

theorem refValue_2 (b off cap : Nat) (c : UInt8) (r : List UInt8) (w : World) (hb : b < w.heap.size) (hl : (c :: r).length ≤ 1000000000000) (hcap : (c :: r).length ≤ cap) (hm : cap ≤ maxLen) (hc : c.toNat = 2)
    (hcell : ∀ i, i < (c :: r).length → w.cell? ⟨b, off + i, none⟩ = some (.int .u8 (((c :: r).getD i 0).toNat : Int))) :
    Calls Tryd.prog 49 #[.slice (some ⟨b, off, none⟩) (c :: r).length cap] w fun e w' => e = VR (refVal (c :: r)) ∧ Below w.heap.size w w' := by
  have h0 := cell_zero hcell
  rw [hc] at h0
  have hv : refVal (c :: r) = if (decU r).2.2.1 = 0 then (⟨2, unzig (decU r).1, ⟨#[]⟩⟩, 1 + (decU r).2.1, 0) else (zV, 0, (decU r).2.2.1) := by simp [refVal, hc]
  by_cases hce : cap = 1
  · subst hce
    have hr : r = [] := by
      cases r with
      | nil => rfl
      | cons _ _ => simp at hcap
    subst hr
    have hrb : RBp w w.heap.size (.slice (some ⟨b, off, none⟩) 0 0) [] := rb_end (l := [c]) (at' := 1) hb (by simp) hcap rfl off
    obtain ⟨z, k, e, HU, rfl, rfl, rfl, _⟩ := refInt_at hrb (twoV w 2) (twoV_below w 2)
    rw [hv, if_neg (by decide)]
    exact refValue_int1 b off _ _ _ w hb h0 HU (by decide)
  · have hrb : RBp w w.heap.size (.slice (some ⟨b, off + 1, none⟩) ((c :: r).length - 1) (cap - 1)) r := rb_drop (l := c :: r) (at' := 1) hb (by simp) hcap hm hl hcell
    obtain ⟨z, k, e, HU, rfl, rfl, rfl, hk10⟩ := refInt_at hrb (twoV w 2) (twoV_below w 2)
    rw [hv]
    by_cases he : (decU r).2.2.1 = 0
    · rw [if_pos he]
      exact refValue_int b off cap _ w hb hl _ _ _ (by simp) hce h0 HU he hk10
    · rw [if_neg he]
      exact refValue_intbad b off cap _ w hb hl _ _ _ (by simp) hce h0 HU he

theorem ind_toList (l : List UInt8) : (⟨l.toArray⟩ : ByteArray).data.toList = l := by simp
theorem ba_size (l : List UInt8) : (⟨l.toArray⟩ : ByteArray).size = l.length := by simp [ByteArray.size]
theorem refPlain_at (l : List UInt8) (W : World) (h : l.length ≤ 1000) (p : Bool) (hp : decide (indexByte l 0 < 0) = p) : Hid (Calls Tryd.prog 67 #[.string ⟨l.toArray⟩] W fun e w' => e = .returned (.bool p) ∧ w' = W) := by
  have := plain_any ⟨l.toArray⟩ W (by rw [ba_size]; unfold maxLen; omega)
  rw [ind_toList, hp] at this
  exact hide this

theorem refValue_3 (b off cap : Nat) (c : UInt8) (r : List UInt8) (w : World) (hb : b < w.heap.size) (hl : (c :: r).length ≤ 1000000000000) (hcap : (c :: r).length ≤ cap) (hm : cap ≤ maxLen) (hc : c.toNat = 3)
    (hcell : ∀ i, i < (c :: r).length → w.cell? ⟨b, off + i, none⟩ = some (.int .u8 (((c :: r).getD i 0).toNat : Int))) :
    Calls Tryd.prog 49 #[.slice (some ⟨b, off, none⟩) (c :: r).length cap] w fun e w' => e = VR (refVal (c :: r)) ∧ Below w.heap.size w w' := by
  have h0 := cell_zero hcell
  rw [hc] at h0
  have hB := twoV_below w 3
  cases r with
  | nil =>
    have hv : refVal [c] = (zV, 0, 22) := by simp [refVal, hc]
    rw [hv]
    have e0 : refTxt [] 40 = ([], 0, 22) := rfl
    by_cases hce : cap = 1
    · subst hce
      have hrb : RBp w w.heap.size (.slice (some ⟨b, off, none⟩) 0 0) [] := rb_end (l := [c]) (at' := 1) hb (by simp) hcap rfl off
      have ht := refText_any _ _ 40 [] (twoV w 3) (hrb.below hB (Nat.le_refl _))
      rw [e0] at ht
      exact refValue_t11 b off w hb h0 _ 0 22 (hide ht) (by decide)
    · have hrb : RBp w w.heap.size (.slice (some ⟨b, off + 1, none⟩) 0 (cap - 1)) [] := rb_drop (l := [c]) (at' := 1) hb (by simp) hcap hm hl hcell
      have ht := refText_any _ _ 40 [] (twoV w 3) (hrb.below hB (Nat.le_refl _))
      rw [e0] at ht
      exact refValue_t1 b off cap w hb hce h0 _ 0 22 (hide ht) (by decide)
  | cons t s =>
    have h1 := cell_one hcell
    have ht256 := t.toNat_lt
    by_cases h40 : 40 < t.toNat
    · have hv : refVal (c :: t :: s) = (zV, 0, 20) := by simp [refVal, hc, h40]
      rw [hv]
      exact refValue_t40 b off cap _ w hb hl t.toNat (by simp) h0 h1 h40
    · have hd : decU (t :: s) = (t.toNat, 1, 0, 0) := dec_one (by omega)
      have hlen : (c :: t :: s).length = s.length + 2 := by simp
      have hr1 : RBp w w.heap.size (.slice (some ⟨b, off + 1, none⟩) ((c :: t :: s).length - 1) (cap - 1)) (t :: s) := rb_drop (l := c :: t :: s) (at' := 1) hb (by simp) hcap hm hl hcell
      have ht := refText_any _ _ 40 (t :: s) (twoV w 3) (hr1.below hB (Nat.le_refl _))
      by_cases hp : 0 ≤ indexByte (s.take t.toNat) 0
      · have hv : refVal (c :: t :: s) = (zV, 0, 20) := by simp [refVal, hc, h40, hp]
        rw [hv]
        have HP := refPlain_at (s.take t.toNat) (twoV w 3) (by simp; omega) false (by simp; omega)
        by_cases hs : 2 + t.toNat < (c :: t :: s).length
        · have hmid := rb_mid (a := 2) (n := t.toNat) hb (by omega) hcap hm hl hcell
          rw [Nat.add_sub_cancel_left] at hmid
          have hcv := conv_any _ _ _ _ (hmid.below hB (Nat.le_refl _))
          by_cases hce : cap = 2
          · omega
          · exact refValue_t0A b off cap _ w hb hl t.toNat (by simp) hcap hce h0 h1 (by omega) hs _ HP hcv
        · by_cases hce : cap = 2
          · have hs0 : s = [] := by
              cases s with
              | nil => rfl
              | cons _ _ => simp at hcap; omega
            subst hs0
            simp [indexByte] at hp
          · have hmid := rb_drop (l := c :: t :: s) (at' := 2) hb (by simp) hcap hm hl hcell
            have hcv := conv_any _ _ _ _ (hmid.below hB (Nat.le_refl _))
            have e2 : (c :: t :: s).drop 2 = s.take t.toNat := by
              rw [List.take_of_length_le (by omega)]; rfl
            rw [e2] at hcv
            exact refValue_t0B b off cap _ w hb hl t.toNat (by simp) hcap hce h0 h1 (by omega) (by omega) _ HP hcv
      · have HP := refPlain_at (s.take t.toNat) (twoV w 3) (by simp; omega) true (by simp; omega)
        by_cases hsl : s.length < t.toNat
        · have hv : refVal (c :: t :: s) = (zV, 0, 22) := by simp [refVal, hc, h40, hp, hsl]
          have e0 : refTxt (t :: s) 40 = ([], 0, 22) := by simp [refTxt, hd, h40, hsl]
          rw [e0] at ht
          rw [hv]
          by_cases hce : cap = 2
          · subst hce
            have hs0 : s = [] := by
              cases s with
              | nil => rfl
              | cons _ _ => simp at hcap
            subst hs0
            have hend : RBp w w.heap.size (.slice (some ⟨b, off, none⟩) 0 0) [] := rb_end (l := [c, t]) (at' := 2) hb (by simp) hcap rfl off
            have hcv := conv_any _ _ _ _ (hend.below hB (Nat.le_refl _))
            rw [List.take_nil] at HP
            exact refValue_tcC b off w hb t.toNat h0 h1 (by omega) _ HP hcv _ 0 22 (hide ht) (by decide)
          · have hmid := rb_drop (l := c :: t :: s) (at' := 2) hb (by simp) hcap hm hl hcell
            have hcv := conv_any _ _ _ _ (hmid.below hB (Nat.le_refl _))
            have e2 : (c :: t :: s).drop 2 = s.take t.toNat := by
              rw [List.take_of_length_le (by omega)]; rfl
            rw [e2] at hcv
            exact refValue_tcB b off cap _ w hb hl t.toNat (by simp) hcap hce h0 h1 (by omega) (by omega) _ HP hcv _ 0 22 (hide ht) (by decide)
        · have hv : refVal (c :: t :: s) = (⟨3, 0, ⟨(s.take t.toNat).toArray⟩⟩, 1 + (1 + t.toNat), 0) := by simp [refVal, hc, h40, hp, hsl]; omega
          have e0 : refTxt (t :: s) 40 = (s.take t.toNat, 1 + t.toNat, 0) := by simp [refTxt, hd, h40, hsl]
          rw [e0] at ht
          rw [hv]
          by_cases hs : 2 + t.toNat < (c :: t :: s).length
          · have hmid := rb_mid (a := 2) (n := t.toNat) hb (by omega) hcap hm hl hcell
            rw [Nat.add_sub_cancel_left] at hmid
            have hcv := conv_any _ _ _ _ (hmid.below hB (Nat.le_refl _))
            by_cases hce : cap = 2
            · omega
            · exact refValue_tkA b off cap _ w hb hl t.toNat (by simp) hcap hce h0 h1 (by omega) hs _ HP hcv _ (1 + t.toNat) 0 (hide ht) rfl (by omega)
          · by_cases hce : cap = 2
            · subst hce
              have hs0 : s = [] := by
                cases s with
                | nil => rfl
                | cons _ _ => simp at hcap
              subst hs0
              have hend : RBp w w.heap.size (.slice (some ⟨b, off, none⟩) 0 0) [] := rb_end (l := [c, t]) (at' := 2) hb (by simp) hcap rfl off
              have hcv := conv_any _ _ _ _ (hend.below hB (Nat.le_refl _))
              rw [List.take_nil] at HP ht ⊢
              exact refValue_tkC b off w hb t.toNat h0 h1 (by omega) _ HP hcv _ (1 + t.toNat) 0 (hide ht) rfl (by omega)
            · have hmid := rb_drop (l := c :: t :: s) (at' := 2) hb (by simp) hcap hm hl hcell
              have hcv := conv_any _ _ _ _ (hmid.below hB (Nat.le_refl _))
              have e2 : (c :: t :: s).drop 2 = s.take t.toNat := by
                rw [List.take_of_length_le (by omega)]; rfl
              rw [e2] at hcv
              exact refValue_tkB b off cap _ w hb hl t.toNat (by simp) hcap hce h0 h1 (by omega) (by omega) _ HP hcv _ (1 + t.toNat) 0 (hide ht) rfl (by omega)

theorem refValue_any (v : Value) (m : List UInt8) (w : World) (hv : RBp w w.heap.size v m) :
    Calls Tryd.prog 49 #[v] w fun e w' => e = VR (refVal m) ∧ Below w.heap.size w w' := by
  obtain ⟨hlen, ⟨rfl, rfl⟩ | ⟨b, off, cap, hbB, hcap, hm, rfl, hcell⟩⟩ := hv
  · exact refValue_nil w
  · cases m with
    | nil => exact refValue_empty _ cap w
    | cons c r =>
      have h0 := cell_zero hcell
      by_cases c0 : c.toNat = 0
      · have hv : refVal (c :: r) = (zV, 1, 0) := by simp [refVal, c0]
        rw [c0] at h0; rw [hv]
        exact refValue_null b off cap _ w hbB hlen (by simp) h0
      by_cases c1 : c.toNat = 1
      · rw [c1] at h0
        cases r with
        | nil =>
          have hv : refVal [c] = (zV, 0, 22) := by simp [refVal, c1]
          rw [hv]
          exact refValue_bool1 b off cap w hbB h0
        | cons t s =>
          have h1 := cell_one hcell
          by_cases ht : 1 < t.toNat
          · have hv : refVal (c :: t :: s) = (zV, 0, 20) := by simp [refVal, c1, ht]
            rw [hv]
            exact refValue_bool2 b off cap _ w hbB hlen t (by simp) h0 h1 ht
          · have hv : refVal (c :: t :: s) = (⟨1, (t.toNat : Int), ⟨#[]⟩⟩, 2, 0) := by simp [refVal, c1, ht]
            rw [hv]
            exact refValue_bool3 b off cap _ w hbB hlen t (by simp) h0 h1 ht
      by_cases c2 : c.toNat = 2
      · exact refValue_2 b off cap c r w hbB hlen hcap hm c2 hcell
      by_cases c3 : c.toNat = 3
      · exact refValue_3 b off cap c r w hbB hlen hcap hm c3 hcell
      · have hv : refVal (c :: r) = (zV, 0, 20) := by simp [refVal, c0, c1, c2, c3]
        rw [hv]
        exact refValue_other b off cap _ w hbB hlen c.toNat (by simp) h0 (by omega) c.toNat_lt
end Go.Proofs.YtahcfanmfocljaaDoor
