/- Contracts of wire.Int and wire.Text. -/
import Derived.Test.YtahcfanmfocljaaDoorRef1
import Derived.Test.YtahcfanmfocljaaDoorLenMath
namespace Go.Proofs.YtahcfanmfocljaaDoor
open Go.RowKit Go.Lib

theorem unzig_zigzag {k : Int} (h0 : -9223372036854775808 ≤ k) (h1 : k < 9223372036854775808) : unzig (zigzag k) = k := by
  unfold unzig zigzag
  by_cases h : 0 ≤ k
  · rw [if_pos h, if_pos (by omega)]; omega
  · rw [if_neg h, if_neg (by omega)]; omega

theorem dec_all (l : List UInt8) : (∃ n k, decU l = (n, k, 0, 0) ∧ n < 18446744073709551616 ∧ k ≤ l.length) ∨ (∃ c q, (c = 20 ∨ c = 22) ∧ decU l = (0, 0, c, q)) := by
  rcases dec_cases l 0 0 (by omega) (by simp) with ⟨n, k, e, g1, g2, g3⟩ | ⟨q, e⟩ | ⟨q, e, g⟩
  · exact .inl ⟨n, k, e, g1, by omega⟩
  · exact .inr ⟨20, q, .inl rfl, e⟩
  · exact .inr ⟨22, q, .inr rfl, e⟩

theorem int_ok (v : Value) (B n k q : Nat) (l : List UInt8) (w : World) (hv : RBp w B v l) (hn : n < 18446744073709551616) (hd : decU l = (n, k, 0, q)) :
    Calls Tryd.prog 18 #[v] w fun e w' => e = .returned (.tuple #[.int .i64 (unzig n), .int .i64 k, .nilIface]) ∧ w' = w := by
  have HU := hide (uint_ok v B n k q l w hv hd)
  clear hv hd
  go_enter Tryd.func18, Tryd.ntmps18
  go_wp2_with (first | (go_at_call 17; refine (unhide HU).mono ?_; rintro e w1 ⟨rfl, rfl⟩) | (go_at_call 44; refine (unfolded_any n _ hn).mono ?_; rintro e w2 ⟨rfl, rfl⟩))
  go_ret3
  exact ⟨rfl, rfl⟩
theorem int_bad (v : Value) (B c q : Nat) (l : List UInt8) (w : World) (hv : RBp w B v l) (hc : c ≠ 0) (hd : decU l = (0, 0, c, q)) :
    Calls Tryd.prog 18 #[v] w fun e w' => e = .returned (.tuple #[.int .i64 0, .int .i64 0, ev w.heap.size]) ∧ ErrAt w' w.heap.size q c ∧ Below w.heap.size w w' := by
  have HU := hide (uint_badb v B c q l w hv hc hd)
  clear hv hd
  have h0 : unzig 0 = 0 := by decide
  go_enter Tryd.func18, Tryd.ntmps18
  go_wp2_with (first | (go_at_call 17; refine (unhide HU).mono ?_; rintro e w1 ⟨rfl, he1, hb1⟩) | (go_at_call 44; refine (unfolded_any 0 _ (by decide)).mono ?_; rintro e w1 ⟨rfl, rfl⟩))
  go_ret3
  exact ⟨rfl, he1, hb1⟩

/-- A slice within bytes. -/
theorem rb_mid {w : World} {B b off cap a n : Nat} {l : List UInt8} (hbB : b < B) (hl : a + n ≤ l.length) (hcap : l.length ≤ cap) (hm : cap ≤ maxLen) (hlen : l.length ≤ 1000000000000)
    (hcell : ∀ i, i < l.length → w.cell? ⟨b, off + i, none⟩ = some (.int .u8 ((l.getD i 0).toNat : Int))) : RBp w B (.slice (some ⟨b, off + a, none⟩) (a + n - a) (cap - a)) ((l.drop a).take n) :=
  rb_take hbB (by omega) (by omega) hcap hm hlen hcell

set_option maxHeartbeats 1600000 in
theorem text_bad (v : Value) (B c q : Nat) (l : List UInt8) (w : World) (hv : RBp w B v l) (hc : c ≠ 0) (hd : decU l = (0, 0, c, q)) :
    Calls Tryd.prog 19 #[v] w fun e w' => e = .returned (.tuple #[.string ⟨#[]⟩, .int .i64 0, ev w.heap.size]) ∧ ErrAt w' w.heap.size q c ∧ Below w.heap.size w w' := by
  have HU := hide (uint_badb v B c q l w hv hc hd)
  clear hv hd
  go_enter Tryd.func19, Tryd.ntmps19
  go_wp2_with (first | (go_at_call 17; refine (unhide HU).mono ?_; rintro e w1 ⟨rfl, he1, hb1⟩))
  go_ret3
  exact ⟨rfl, he1, hb1⟩
set_option maxHeartbeats 1600000 in
theorem text_great (v : Value) (B n k q : Nat) (l : List UInt8) (w : World) (hv : RBp w B v l) (hd : decU l = (n, k, 0, q)) (hn : 2000 < n) :
    Calls Tryd.prog 19 #[v] w fun e w' => ∃ b pl, e = .returned (.tuple #[.string ⟨#[]⟩, .int .i64 0, ev b]) ∧ ErrAt w' b pl 20 ∧ Below w.heap.size w w' := by
  have HU := hide (uint_ok v B n k q l w hv hd)
  clear hv hd
  have hn' : (2000 : Int) < (n : Int) := by omega
  go_enter Tryd.func19, Tryd.ntmps19
  go_wp2_with (first | (go_at_call 17; refine (unhide HU).mono ?_; rintro e w1 ⟨rfl, rfl⟩) | (go_at_call 43; refine (fault_b 20 0 _).mono ?_; rintro e w2 ⟨rfl, he2, hb2⟩))
  go_ret3
  exact ⟨_, _, rfl, he2, hb2⟩
set_option maxHeartbeats 1600000 in
theorem text_short (v : Value) (B n k q : Nat) (l : List UInt8) (w : World) (hv : RBp w B v l) (hd : decU l = (n, k, 0, q)) (hn : n ≤ 2000) (hk : k ≤ l.length) (hs : l.length < k + n) :
    Calls Tryd.prog 19 #[v] w fun e w' => ∃ b pl, e = .returned (.tuple #[.string ⟨#[]⟩, .int .i64 0, ev b]) ∧ ErrAt w' b pl 22 ∧ Below w.heap.size w w' := by
  have hle := hv.1
  have HU := hide (uint_ok v B n k q l w hv hd)
  obtain ⟨ad, kk, rfl⟩ := rb_len hv
  clear hv hd
  have hn' : ¬ ((2000 : Int) < (n : Int)) := by omega
  have hs' : (l.length : Int) < (k : Int) + (n : Int) := by omega
  go_enter Tryd.func19, Tryd.ntmps19
  go_wp2_with (first | (go_at_call 17; refine (unhide HU).mono ?_; rintro e w1 ⟨rfl, rfl⟩) | (go_at_call 43; refine (fault_b 22 _ _).mono ?_; rintro e w2 ⟨rfl, he2, hb2⟩))
  go_ret3
  exact ⟨_, _, rfl, he2, hb2⟩
set_option maxHeartbeats 400000 in
set_option maxRecDepth 100000 in
theorem text_ok (v : Value) (B n k q : Nat) (l : List UInt8) (w : World) (hv : RBp w B v l) (hd : decU l = (n, k, 0, q)) (hn : n ≤ 2000) (hs : k + n ≤ l.length) (hk0 : 0 < k) :
    Calls Tryd.prog 19 #[v] w fun e w' => e = .returned (.tuple #[.string ⟨((l.drop k).take n).toArray⟩, .int .i64 ((k + n : Nat) : Int), .nilIface]) ∧ w' = w := by
  have hle := hv.1
  have HU := hide (uint_ok v B n k q l w hv hd)
  have hn' : ¬ ((2000 : Int) < (n : Int)) := by omega
  have hs' : ¬ ((l.length : Int) < (k : Int) + (n : Int)) := by omega
  obtain ⟨hlen, ⟨rfl, rfl⟩ | ⟨b, off, cap, hbB, hcap, hm, rfl, hcell⟩⟩ := hv
  · simp at hs; omega
  · have hm' := hm
    unfold maxLen at hm
    by_cases hce : cap = k
    · subst hce
      have hnk : n ≤ l.length - cap := by omega
      have hr0 : RBp w B (.slice (some ⟨b, off, none⟩) (cap + n - cap) 0) ((l.drop cap).take n) := rb_take0 hbB hnk hcap rfl 0 (Nat.zero_le _)
      rw [Nat.add_sub_cancel_left] at hr0
      have hcv := conv_any _ _ _ _ hr0
      clear hr0
      generalize hlt : (l.drop cap).take n = lt at hcv ⊢
      clear hlt hcell hd hlen
      go_enter Tryd.func19, Tryd.ntmps19
      go_wp2_with (first | (go_at_call 17; refine (unhide HU).mono ?_; rintro e w1 ⟨rfl, rfl⟩))
      go_ret3
      exact ⟨rfl, rfl⟩
    · have hr0 : RBp w B (.slice (some ⟨b, off + k, none⟩) (k + n - k) (cap - k)) ((l.drop k).take n) := rb_mid hbB hs hcap hm' hlen hcell
      rw [Nat.add_sub_cancel_left] at hr0
      have hcv := conv_any _ _ _ _ hr0
      clear hr0
      generalize hlt : (l.drop k).take n = lt at hcv ⊢
      clear hlt hcell hd hlen
      go_enter Tryd.func19, Tryd.ntmps19
      go_wp2_with (first | (go_at_call 17; refine (unhide HU).mono ?_; rintro e w1 ⟨rfl, rfl⟩))
      go_ret3
      exact ⟨rfl, rfl⟩
end Go.Proofs.YtahcfanmfocljaaDoor
