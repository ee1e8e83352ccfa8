/- The walk of the statement WireWrites: it answers true; nothing old turns. -/
import Derived.Test.YtahcfanmfocljaaDoorValsIn
namespace Go.Proofs.YtahcfanmfocljaaDoor
open Go.RowKit Go.Lib

theorem ET.later {w w' : World} (h : ET w) (hb : Below w.heap.size w w') : ET w' := h.below hb h.lt
theorem ST.later {w w' : World} (h : ST w) (hb : Below w.heap.size w w') : ST w' := h.below hb h.lt

set_option maxHeartbeats 1600000 in
/-- Few, at a row too long. -/
theorem few_long (v : Value) (gs : List GV) (w : World) (hv : RVu w w.heap.size v gs) (hl : 80 < gs.length) :
    Calls Tryd.prog 31 #[v, .int .i64 80] w fun e w' => e = .returned (.bool false) ∧ w' = w := by
  obtain ⟨h1, h2, ⟨rfl, rfl⟩ | ⟨b, off, cap, hb, rfl, hc⟩⟩ := hv
  · simp at hl
  · have HC := hide hc
    have HO := hide h2
    have hl' : ¬ ((gs.length : Int) ≤ 80) := by omega
    have h1' : (gs.length : Int) ≤ 9223372036854775807 := by unfold maxLen at h1; omega
    clear hc h2 h1
    go_enter Tryd.func31, Tryd.ntmps31
    go_wp2
    go_loop [5] (fun i => ∃ k : Nat, k ≤ gs.length ∧ i = .int .i64 k) (fun i => gs.length - (intOf i).toNat)
    case atStart => exact ⟨0, by omega, rfl⟩
    case round =>
      obtain ⟨k, hk, rfl⟩ := hrel
      by_cases hlt : k < gs.length
      · obtain ⟨g, hgk⟩ : ∃ g, gs[k]? = some g := ⟨gs[k], List.getElem?_eq_getElem hlt⟩
        obtain ⟨c0, c1, c2⟩ := unhide HC k g hgk
        have hgo := unhide HO g (List.mem_of_getElem? hgk)
        have hsz : (g.text.size : Int) ≤ 9223372036854775807 := by have := hgo.2.2; unfold maxLen at this; omega
        clear HC HO hgk hgo c0 c1
        by_cases h100 : (100 : Int) < (g.text.size : Int)
        · go_wp2
          go_ret
          exact ⟨rfl, rfl⟩
        · go_wp2
          go_round
          case rel => exact ⟨k + 1, by omega, by go_num⟩
          case measure => simp [intOf]; omega
      · clear HC HO
        have e8 : decide ((gs.length : Int) ≤ 80) = false := decide_eq_false (by omega)
        go_wp2
        go_ret
        exact ⟨rfl, rfl⟩

set_option maxHeartbeats 1600000 in
theorem writes_row (v : Value) (gs : List GV) (te : Nat) (k : Int) (c q : Nat) (t : ByteArray) (vm : Value) (w : World) (hE : ET w) (hT : ST w) (hv : RVu w w.heap.size v gs) (hl : 80 < gs.length) :
    Calls Tryd.prog 5 #[v, .agg #[.int .u64 te, .int .i64 k, .int .u64 c, .int .u64 q, .string t], vm] w fun e w' => e = .returned (.bool true) ∧ Below w.heap.size w w' := by
  have hb0 : Below w.heap.size w (oneE w te k c q t) := below_alloc _ (Nat.le_refl _)
  have HK := hide (known_any (oneE w te k c q t) (hE.later hb0) (hT.later hb0))
  have HF := hide (fun (W : World) (hb : Below w.heap.size w W) => few_long v gs W (hv.later hb hb.size) hl)
  clear hE hT hv
  go_enter Tryd.func5, Tryd.ntmps5
  go_wp2_with (first
    | (go_at_call 9; refine (unhide HK).mono ?_; rintro e w1 ⟨rfl, hb1⟩; have c1 := bt hb0 hb1)
    | (go_at_call 31; refine (unhide HF _ c1).mono ?_; rintro e w1 ⟨rfl, rfl⟩))
  go_ret
  exact ⟨rfl, c1⟩

set_option maxHeartbeats 1600000 in
theorem writes_long (v : Value) (gs : List GV) (te : Nat) (k : Int) (c q : Nat) (t : ByteArray) (ad : Option Addr) (lm cap : Nat) (w : World) (hE : ET w) (hT : ST w) (hv : RV w w.heap.size v gs) (ht : t.size ≤ maxLen) (hm : lm ≤ maxLen) (hbig : 3000 < t.size ∨ 3000 < lm) :
    Calls Tryd.prog 5 #[v, .agg #[.int .u64 te, .int .i64 k, .int .u64 c, .int .u64 q, .string t], .slice ad lm cap] w fun e w' => e = .returned (.bool true) ∧ Below w.heap.size w w' := by
  have hb0 : Below w.heap.size w (oneE w te k c q t) := below_alloc _ (Nat.le_refl _)
  have HK := hide (known_any (oneE w te k c q t) (hE.later hb0) (hT.later hb0))
  have HC := hide (C5.new w te k c q t)
  have HF := hide (fun (W : World) (hb : Below w.heap.size w W) => few_any v gs W (hv.later hb hb.size))
  have ht' : (t.size : Int) ≤ 9223372036854775807 := by unfold maxLen at ht; omega
  have hm' : (lm : Int) ≤ 9223372036854775807 := by unfold maxLen at hm; omega
  have h0 : w.heap.size < (oneE w te k c q t).heap.size := by simp
  clear hE hT hv ht hm
  by_cases h1 : 3000 < t.size
  · have h1' : (3000 : Int) < (t.size : Int) := by omega
    go_enter Tryd.func5, Tryd.ntmps5
    go_wp2_with (first
      | (go_at_call 9; refine (unhide HK).mono ?_; rintro e w1 ⟨rfl, hb1⟩))
    have c1 := bt hb0 hb1
    obtain ⟨_, _, _, _, k4⟩ := (unhide HC).below hb1 h0
    refine (unhide HF _ c1).mono ?_
    rintro e w1 ⟨⟨m, rfl⟩, rfl⟩
    cases m
    · go_wp2
      go_ret
      exact ⟨rfl, c1⟩
    · go_wp2
      go_ret
      exact ⟨rfl, c1⟩
  · have h1' : ¬ ((3000 : Int) < (t.size : Int)) := by omega
    have h2' : (3000 : Int) < (lm : Int) := by omega
    go_enter Tryd.func5, Tryd.ntmps5
    go_wp2_with (first
      | (go_at_call 9; refine (unhide HK).mono ?_; rintro e w1 ⟨rfl, hb1⟩))
    have c1 := bt hb0 hb1
    obtain ⟨_, _, _, _, k4⟩ := (unhide HC).below hb1 h0
    refine (unhide HF _ c1).mono ?_
    rintro e w1 ⟨⟨m, rfl⟩, rfl⟩
    cases m
    · go_wp2
      go_ret
      exact ⟨rfl, c1⟩
    · go_wp2
      go_ret
      exact ⟨rfl, c1⟩

set_option maxHeartbeats 6400000 in
set_option maxRecDepth 100000 in
theorem writes_small (v : Value) (gs : List GV) (te : Nat) (k : Int) (c q : Nat) (t : ByteArray) (vm : Value) (lm : List UInt8) (w : World) (hE : ET w) (hT : ST w) (hv : RV w w.heap.size v gs) (hg : GE.ok ⟨te, k, c, q, t⟩) (hs : t.size ≤ 3000)
    (hm : RBp w w.heap.size vm lm) (hl : lm.length ≤ 3000) :
    Calls Tryd.prog 5 #[v, .agg #[.int .u64 te, .int .i64 k, .int .u64 c, .int .u64 q, .string t], vm] w fun e w' => e = .returned (.bool true) ∧ Below w.heap.size w w' := by
  have hb0 : Below w.heap.size w (oneE w te k c q t) := below_alloc _ (Nat.le_refl _)
  have HK := hide (known_any (oneE w te k c q t) (hE.later hb0) (hT.later hb0))
  have HC := hide (C5.new w te k c q t)
  have HF := hide (fun (W : World) (hb : Below w.heap.size w W) => few_any v gs W (hv.later hb hb.size))
  have hs' : ¬ ((3000 : Int) < (t.size : Int)) := by omega
  have hl' : ¬ ((3000 : Int) < (lm.length : Int)) := by omega
  have h0 : w.heap.size < (oneE w te k c q t).heap.size := by simp
  obtain ⟨am, km, rfl⟩ := rb_len hm
  obtain ⟨l1, n1, P1, R1⟩ : ∃ (l1 : List UInt8) (n1 : Int), (∀ W, Below w.heap.size w W → Calls Tryd.prog 32 #[v] W fun e w' => ∃ p er, e = .returned (.tuple #[p, er]) ∧ RBp w' w'.heap.size p l1 ∧ EO w' er n1 ∧ Below W.heap.size W w') ∧
      (∀ W, Below w.heap.size w W → Calls Tryd.prog 33 #[v] W fun e w' => ∃ p, e = .returned (.tuple #[p, .int .i64 n1]) ∧ RBp w' w'.heap.size p l1 ∧ Below W.heap.size W w') :=
    ⟨_, _, fun W hb => putRow_wp v gs W (hv.later hb hb.size), fun W hb => refPutRow_wr v gs W (hv.later hb hb.size)⟩
  obtain ⟨l2, n2, P2, R2⟩ : ∃ (l2 : List UInt8) (n2 : Int), (∀ W, Calls Tryd.prog 34 #[.agg #[.int .u64 te, .int .i64 k, .int .u64 c, .int .u64 q, .string t]] W fun e w' => ∃ p er, e = .returned (.tuple #[p, er]) ∧ RBp w' w'.heap.size p l2 ∧ EO w' er n2 ∧ Below W.heap.size W w') ∧
      (∀ W, Calls Tryd.prog 35 #[.agg #[.int .u64 te, .int .i64 k, .int .u64 c, .int .u64 q, .string t]] W fun e w' => ∃ p, e = .returned (.tuple #[p, .int .i64 n2]) ∧ RBp w' w'.heap.size p l2 ∧ Below W.heap.size W w') :=
    ⟨_, _, fun W => putEntry_wp ⟨te, k, c, q, t⟩ W hg, fun W => refPutEntry_wr ⟨te, k, c, q, t⟩ W hg⟩
  obtain ⟨l3, P3, R3⟩ : ∃ (l3 : List UInt8), (∀ W, Below w.heap.size w W → Calls Tryd.prog 36 #[.slice am lm.length km] W fun e w' => ∃ p, e = .returned (.tuple #[p, .nilIface]) ∧ RBp w' w'.heap.size p l3 ∧ Below W.heap.size W w') ∧
      (∀ W, Below w.heap.size w W → Calls Tryd.prog 37 #[.slice am lm.length km] W fun e w' => ∃ p, e = .returned (.tuple #[p, .int .i64 0]) ∧ RBp w' w'.heap.size p l3 ∧ Below W.heap.size W w') :=
    ⟨frameBytes lm, fun W hb => (frame_ok _ lm W (rb_later hm hb hb.size) (by omega) (hT.later hb)).mono fun _ _ ⟨_, _, h1, h2, h3⟩ => ⟨_, h1, h2, h3⟩,
      fun W hb => (refFrame_ok _ lm W (rb_later hm hb hb.size) (by omega)).mono fun _ _ ⟨_, _, h1, h2, h3⟩ => ⟨_, h1, h2, h3⟩⟩
  obtain ⟨n4, P4, R4⟩ : ∃ n4 : Nat, (∀ W, Below w.heap.size w W → Calls Tryd.prog 38 #[.slice am lm.length km] W fun e w' => e = .returned (.int .u32 (n4 : Int)) ∧ w' = W) ∧
      (∀ W, Below w.heap.size w W → Calls Tryd.prog 39 #[.slice am lm.length km] W fun e w' => e = .returned (.int .u32 (n4 : Int)) ∧ w' = W) :=
    ⟨crc lm, fun W hb => sum_any _ _ lm W (rb_later hm hb hb.size) (hT.later hb), fun W hb => refSum_any _ _ lm W (rb_later hm hb hb.size)⟩
  have HE := hide (fun (W : World) (hb : Below w.heap.size w W) => hE.later hb)
  have P1 := hide P1
  have R1 := hide R1
  have P2 := hide P2
  have R2 := hide R2
  have P3 := hide P3
  have R3 := hide R3
  have P4 := hide P4
  have R4 := hide R4
  clear hE hT hv hm hg
  go_enter Tryd.func5, Tryd.ntmps5
  go_wp2_with (first
    | (go_at_call 9; refine (unhide HK).mono ?_; rintro e w1 ⟨rfl, hb1⟩))
  have c1 := bt hb0 hb1
  have hz1 : w.heap.size < w1.heap.size := Nat.lt_of_lt_of_le h0 hb1.size
  have k1 := (unhide HC).below hb1 h0
  refine (unhide HF _ c1).mono ?_
  rintro e w1 ⟨⟨m, rfl⟩, rfl⟩
  have k4 := k1.2.2.2.2
  have K1 := hide k1
  clear k1 HK HC HF
  cases m
  · go_wp2
    go_ret
    exact ⟨rfl, c1⟩
  · go_wp2_with (first
      | (go_at_call 32; refine (unhide P1 _ c1).mono ?_; rintro e w2 ⟨p2, er2, rfl, r2, e2, hb2⟩; clear k4)
      | (go_at_call 33; refine (unhide R1 _ (bt c1 hb2)).mono ?_; rintro e w3 ⟨p3, rfl, r3, hb3⟩; obtain ⟨j0, j1, j2, j3, j4⟩ := (unhide K1).below (bt hb2 hb3) hz1)
      | (go_at_call 34; refine (unhide P2 _).mono ?_; rintro e w4 ⟨p4, er4, rfl, r4, e4, hb4⟩; clear j0 j1 j2 j3 j4; obtain ⟨j0, j1, j2, j3, j4⟩ := (unhide K1).below (bt (bt hb2 hb3) hb4) hz1)
      | (go_at_call 35; refine (unhide R2 _).mono ?_; rintro e w5 ⟨p5, rfl, r5, hb5⟩; clear j0 j1 j2 j3 j4; have c5 := bt (bt (bt (bt c1 hb2) hb3) hb4) hb5)
      | (go_at_call 36; refine (unhide P3 _ c5).mono ?_; rintro e w6 ⟨p6, rfl, r6, hb6⟩)
      | (go_at_call 37; refine (unhide R3 _ (bt c5 hb6)).mono ?_; rintro e w7 ⟨p7, rfl, r7, hb7⟩))
    have c7 := bt (bt c5 hb6) hb7
    have d2 := bt (bt (bt (bt hb3 hb4) hb5) hb6) hb7
    have d3 := bt (bt (bt hb4 hb5) hb6) hb7
    have d4 := bt (bt hb5 hb6) hb7
    have d5 := bt hb6 hb7
    have q2 := rb_later r2 d2 d2.size
    have q3 := rb_later r3 d3 d3.size
    have q4 := rb_later r4 d4 d4.size
    have q5 := rb_later r5 d5 d5.size
    have q6 := rb_later r6 hb7 hb7.size
    have e2 := e2.later d2
    have e4 := e4.later d4
    clear r2 r3 r4 r5 r6 d2 d3 d4 d5 P1 P2 P3 R1 R2 R3 K1
    refine (bytes_same _ _ _ _ l1 _ q2 q3).mono ?_
    rintro e w7 ⟨rfl, rfl⟩
    go_wp2_with (first
      | (go_at_call 20; refine (class_eo _ n1 _ (unhide HE _ c7) e2).mono ?_; rintro e w8 ⟨rfl, hb8⟩; have c8 := bt c7 hb8))
    refine (bytes_same _ _ _ _ l2 _ (rb_later q4 hb8 hb8.size) (rb_later q5 hb8 hb8.size)).mono ?_
    rintro e w8 ⟨rfl, rfl⟩
    go_wp2_with (first
      | (go_at_call 20; refine (class_eo _ n2 _ (unhide HE _ c8) (e4.later hb8)).mono ?_; rintro e w9 ⟨rfl, hb9⟩; have c9 := bt c8 hb9; have d9 := bt hb8 hb9))
    refine (bytes_same _ _ _ _ l3 _ (rb_later q6 d9 d9.size) (rb_later r7 d9 d9.size)).mono ?_
    rintro e w9 ⟨rfl, rfl⟩
    go_wp2_with (first
      | (go_at_call 20; refine (class_nil _).mono ?_; rintro e w9 ⟨rfl, rfl⟩)
      | (go_at_call 38; refine (unhide P4 _ c9).mono ?_; rintro e w9 ⟨rfl, rfl⟩)
      | (go_at_call 39; refine (unhide R4 _ c9).mono ?_; rintro e w9 ⟨rfl, rfl⟩))
    go_ret
    exact ⟨rfl, c9⟩
end Go.Proofs.YtahcfanmfocljaaDoor
