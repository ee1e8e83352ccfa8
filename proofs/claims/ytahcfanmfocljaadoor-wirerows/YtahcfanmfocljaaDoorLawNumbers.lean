/- The walk of the statement WireNumbers: it answers true; nothing old turns. -/
import Derived.Test.YtahcfanmfocljaaDoorIntText
import Derived.Test.YtahcfanmfocljaaDoorLawLengths
import Derived.Laws.AppendOwnNone
namespace Go.Proofs.YtahcfanmfocljaaDoor
open Go.RowKit Go.Lib

/-- 'append(own, bytes...)', whatever slice the bytes are read of. -/
theorem wpList_append_rb {w : World} {ops : Array Oper} {rest : List Oper} {o : Oper} {a : Act} {Q : Exit → Act → World → Prop} (hgd : o.guard = none) (s x : Operand)
    (ho : o.op = .call { callee := .builtin .append, args := #[s, x], argTypes := #[23, 23] })
    (base : Nat) (v : Value) (n : Nat) (xs : List Value) (hs : a.eval s = v) (hown : w.ownsRow base 5 1 v n xs)
    (B : Nat) (xv : Value) (lx : List UInt8) (hx : a.eval x = xv) (hrb : RBp w B xv lx) (hn : n ≤ 1000000000) (hl : lx.length ≤ 1000000000) (hbase : base ≤ w.heap.size)
    (h : ∀ v' w', w'.ownsRow base 5 1 v' (n + lx.length) (xs ++ byteCells lx) → KeepT 5 w w' → Below base w w' → wpList Tryd.prog ops Q rest (a.put o.dst v') w') : wpList Tryd.prog ops Q (o :: rest) a w := by
  obtain ⟨i0, hi, hz0, hz1, hz2⟩ := info_parts Tryd.infoB
  obtain ⟨hlen, ⟨rfl, rfl⟩ | ⟨b, off, cap, hbB, hcap, hm, rfl, hcell⟩⟩ := hrb
  · refine wpList_append_own_none hgd s x 23 ho base 5 i0 1 Tryd.underlying23 hi v n xs hs hown hx ?_
    exact h v w (by simpa [byteCells] using hown) (KeepT.refl _ _) (Below.refl _ _)
  · refine wpList_append_own w hgd s x 23 ho base 5 i0 (.int .u8 0) 1 1 Tryd.underlying23 hi hz0 hz1 hz2 rfl (by decide) v n xs hs hown ⟨b, off, none⟩ lx.length cap (byteCells lx) hx (by rw [byteCells_length]; omega) ?_ ?_ (by unfold maxLen; omega) (by omega) hbase ?_
    · intro j u hj
      have hjl : j < lx.length := by
        have := (List.getElem?_eq_some_iff.1 hj).1
        rwa [byteCells_length] at this
      have e2 : (byteCells lx)[j]? = some (.int .u8 ((lx.getD j 0).toNat : Int)) := by
        simp [byteCells, hjl]
      have hj2 := Option.some.inj (e2.symm.trans hj)
      rw [← hj2]
      have e3 : (⟨b, off, none⟩ : Addr).add j = ⟨b, off + j, none⟩ := by unfold Addr.add; split <;> simp_all
      rw [e3]; exact hcell j hjl
    · intro u hu
      simp only [byteCells, List.mem_map] at hu
      obtain ⟨c, _, rfl⟩ := hu
      rfl
    · intro v' w' h1 h2 _
      exact h v' w' h1 (KeepT.of_grown hown h2) ((Below.refl _ _).grown h2 hbase (own_block_ge hown))

theorem bt {a b c : World} (h : Below a.heap.size a b) (h' : Below b.heap.size b c) : Below a.heap.size a c := h.trans (h'.mono h.size)
/-- A slice that reads as these bytes, whatever its size. -/
def RBu (w : World) (B : Nat) (v : Value) (l : List UInt8) : Prop :=
  (v = .slice none 0 0 ∧ l = []) ∨ ∃ b off cap, b < B ∧ l.length ≤ cap ∧ cap ≤ maxLen ∧ v = .slice (some ⟨b, off, none⟩) l.length cap ∧ ∀ i, i < l.length → w.cell? ⟨b, off + i, none⟩ = some (.int .u8 ((l.getD i 0).toNat : Int))
theorem RBu.rb {w : World} {B : Nat} {v : Value} {l : List UInt8} (h : RBu w B v l) (hl : l.length ≤ 1000000000000) : RBp w B v l := by
  rcases h with h | ⟨b, off, cap, h1, h2, h3, h4, h5⟩
  · exact ⟨hl, .inl h⟩
  · exact ⟨hl, .inr ⟨b, off, cap, h1, h2, h3, h4, h5⟩⟩
theorem RBu.len {w : World} {B : Nat} {v : Value} {l : List UInt8} (h : RBu w B v l) : ∃ a k, v = .slice a l.length k := by
  rcases h with ⟨rfl, rfl⟩ | ⟨b, off, cap, h1, h2, h3, rfl, h5⟩
  · exact ⟨none, 0, rfl⟩
  · exact ⟨_, _, rfl⟩

set_option maxHeartbeats 1600000 in
theorem numbers_long (n : Nat) (k : Int) (s : ByteArray) (ad : Option Addr) (lm cap : Nat) (w : World) (hE : ET w) (hT : ST w) (hs : s.size ≤ maxLen) (hm : lm ≤ maxLen) (hbig : 3000 < s.size ∨ 300 < lm) :
    Calls Tryd.prog 3 #[.int .u64 n, .int .i64 k, .string s, .slice ad lm cap] w fun e w' => e = .returned (.bool true) ∧ Below w.heap.size w w' := by
  have HK := hide (known_any w hE hT)
  clear hE hT
  have hs' : (s.size : Int) ≤ 9223372036854775807 := by unfold maxLen at hs; omega
  have hlm : (lm : Int) ≤ 9223372036854775807 := by unfold maxLen at hm; omega
  clear hm hs
  by_cases h1 : 3000 < s.size
  · have h1' : (3000 : Int) < (s.size : Int) := by omega
    go_enter Tryd.func3, Tryd.ntmps3
    go_wp2_with (first | (go_at_call 9; refine (unhide HK).mono ?_; rintro e w1 ⟨rfl, hb1⟩))
    go_ret
    exact ⟨rfl, hb1⟩
  · have h1' : ¬ ((3000 : Int) < (s.size : Int)) := by omega
    have h2' : (300 : Int) < (lm : Int) := by omega
    go_enter Tryd.func3, Tryd.ntmps3
    go_wp2_with (first | (go_at_call 9; refine (unhide HK).mono ?_; rintro e w1 ⟨rfl, hb1⟩))
    go_ret
    exact ⟨rfl, hb1⟩

theorem text_take (s : ByteArray) (lm : List UInt8) : (⟨(((textBytes s ++ lm).drop (uvarint s.size).length).take s.size).toArray⟩ : ByteArray) = s := by
  have e : ((textBytes s ++ lm).drop (uvarint s.size).length).take s.size = s.data.toList := by
    rw [textBytes, List.append_assoc, List.drop_left, ← bytes_length s, List.take_left]
  rw [e]
theorem dec_text (s : ByteArray) (lm : List UInt8) (hs : s.size < 18446744073709551616) : decU (textBytes s ++ lm) = (s.size, (uvarint s.size).length, 0, 0) := by
  rw [textBytes, List.append_assoc]; exact decU_uv s.size hs _
theorem own_rb2 {w' : World} {v : Value} {B : Nat} {x y : List UInt8} (ho : w'.ownsRow B 5 1 v (0 + x.length + y.length) ([] ++ byteCells x ++ byteCells y)) (hl : x.length + y.length ≤ 1000000000000) : RBp w' w'.heap.size v (x ++ y) := by
  refine rb_own (B := B) ?_ (by simpa using hl)
  rw [byteCells_append, List.length_append]
  simpa using ho
theorem own_rb (x : List UInt8) {w w' : World} {v : Value} (ho : w'.ownsRow w.heap.size 5 1 v x.length (byteCells x)) (hl : x.length ≤ 1000000000000) : ∃ a k, v = .slice a x.length k ∧ RBp w' w'.heap.size (.slice a x.length k) x := by
  obtain ⟨a, k, rfl⟩ := own_slice ho
  exact ⟨a, k, rfl, rb_own ho hl⟩

set_option maxHeartbeats 6400000 in
set_option maxRecDepth 100000 in
theorem numbers_small (n : Nat) (k : Int) (s : ByteArray) (vm : Value) (lm : List UInt8) (w : World) (hE : ET w) (hT : ST w) (hn : n < 18446744073709551616) (hk0 : -9223372036854775808 ≤ k) (hk1 : k < 9223372036854775808)
    (hs : s.size ≤ 3000) (hm : RBp w w.heap.size vm lm) (hm3 : lm.length ≤ 300) (hs2 : s.size ≤ 2000) :
    Calls Tryd.prog 3 #[.int .u64 n, .int .i64 k, .string s, vm] w fun e w' => e = .returned (.bool true) ∧ Below w.heap.size w w' := by
  have HK := hide (known_any w hE hT)
  have hs' : ¬ ((3000 : Int) < (s.size : Int)) := by omega
  have hs2' : ¬ ((2000 : Int) < (s.size : Int)) := by omega
  have hm' : ¬ ((300 : Int) < (lm.length : Int)) := by omega
  obtain ⟨am, km, rfl⟩ := rb_len hm
  have HM := hide hm
  have lA := uvarint_length64 hn
  have hz := zigzag_lt hk0 (by omega : k ≤ 9223372036854775807)
  have lB := uvarint_length64 hz
  have lC : (textBytes s).length ≤ 3010 := by have := uvarint_length64 (x := s.size) (by omega); rw [textBytes_length]; omega
  have P1 := hide (fun w => putUint_any n w hn)
  have P2 := hide (fun w => putInt_any k w hk0 hk1)
  have P3 := hide (fun w => putText_any s w (by omega))
  have R1 := hide (fun w => refPutUint_any n w hn)
  have R2 := hide (fun w => refPutInt_any k w hk0 hk1)
  have R3 := hide (fun w => refPutText_any s w (by omega))
  have HE := hE
  clear hm hE hT
  have DA := hide (decU_uv n hn lm)
  have DB := hide (decU_uv (zigzag k) hz lm)
  have DC := hide (dec_text s lm (by omega))
  have TC := hide (text_take s lm)
  have lU := uvarint_length64 (x := s.size) (by omega)
  have pU := uvarint_pos s.size
  have lCe := hide (textBytes_length s)
  have UZ := hide (unzig_zigzag hk0 hk1)
  generalize hA : uvarint n = la at *
  generalize hB : uvarint (zigzag k) = lb at *
  generalize hC : textBytes s = lc at *
  generalize hU : uvarint s.size = lu at *
  clear hU
  have HA := hide hA
  have HB := hide hB
  have HC := hide hC
  clear hA hB hC
  go_enter Tryd.func3, Tryd.ntmps3
  go_wp2_with (first
    | (go_at_call 9; refine (unhide HK).mono ?_; rintro e w1 ⟨rfl, hb1⟩)
    | (go_at_call 10; refine (unhide P1 _).mono ?_; rintro e w2 ⟨v2, rfl, ho2, hb2⟩; obtain ⟨a2, k2, rfl, r2⟩ := own_rb la ho2 (by omega); clear ho2)
    | (go_at_call 11; refine (unhide P2 _).mono ?_; rintro e w3 ⟨v3, rfl, ho3, hb3⟩; obtain ⟨a3, k3, rfl, r3⟩ := own_rb lb ho3 (by omega); clear ho3)
    | (go_at_call 12; refine (unhide P3 _).mono ?_; rintro e w4 ⟨v4, rfl, ho4, hb4⟩; obtain ⟨a4, k4, rfl, r4⟩ := own_rb lc ho4 (by omega); clear ho4)
    | (go_at_call 14; refine (unhide R1 _).mono ?_; rintro e w5 ⟨v5, rfl, ho5, hb5⟩; obtain ⟨a5, k5, rfl, r5⟩ := own_rb la ho5 (by omega); clear ho5))
  refine (bytes_same _ _ _ _ la _ (rb_later r2 (bt (bt hb3 hb4) hb5) (Nat.le_refl _)) r5).mono ?_
  rintro e w5 ⟨rfl, rfl⟩
  clear r5
  go_wp2_with (first
    | (go_at_call 15; refine (unhide R2 _).mono ?_; rintro e w6 ⟨v6, rfl, ho6, hb6⟩; obtain ⟨a6, k6, rfl, r6⟩ := own_rb lb ho6 (by omega); clear ho6))
  refine (bytes_same _ _ _ _ lb _ (rb_later r3 (bt (bt hb4 hb5) hb6) (Nat.le_refl _)) r6).mono ?_
  rintro e w6 ⟨rfl, rfl⟩
  clear r6
  go_wp2_with (first
    | (go_at_call 16; refine (unhide R3 _).mono ?_; rintro e w7 ⟨v7, rfl, ho7, hb7⟩; obtain ⟨a7, k7, rfl, r7⟩ := own_rb lc ho7 (by omega); clear ho7))
  refine (bytes_same _ _ _ _ lc _ (rb_later r4 (bt (bt hb5 hb6) hb7) (Nat.le_refl _)) r7).mono ?_
  rintro e w7 ⟨rfl, rfl⟩
  clear r7
  have c47 := bt (bt hb5 hb6) hb7
  have c37 := bt hb4 c47
  have c27 := bt hb3 c37
  have c7 := bt hb1 (bt hb2 c27)
  have q2 := rb_later r2 c27 (Nat.le_refl _)
  have q3 := rb_later r3 c37 (Nat.le_refl _)
  have q4 := rb_later r4 c47 (Nat.le_refl _)
  have z27 := c27.size
  have z37 := c37.size
  have z47 := c47.size
  have z7 := c7.size
  clear r2 r3 r4 hb1 hb2 hb3 hb4 hb5 hb6 hb7 P1 P2 P3 R1 R2 R3 HK c27 c37 c47
  go_wp2_with (first
    | (at_builtin; refine wpList_append_rb rfl (.const (.slice none 0 0)) (.tmp 57) rfl w7.heap.size _ 0 [] rfl (World.ownsRow_nil _ _ _ _) _ _ la rfl q2 (by omega) (by omega) (Nat.le_refl _) ?_; intro v8 w8 ho8 _ hb8; have z8 := hb8.size)
    | (at_builtin; refine wpList_append_rb rfl (.tmp 58) (.tmp 59) rfl w7.heap.size _ _ _ rfl ho8 _ _ lm rfl (rb_later (unhide HM) (bt c7 hb8) (Nat.le_refl _)) (by omega) (by omega) (by omega) ?_; intro v9 w9 ho9 _ hb9; have r9 := own_rb2 ho9 (by omega); have z9 := hb9.size; have d9 := hb8.trans hb9; clear ho8 ho9 hb8 hb9)
    | (go_at_call 17; refine (uint_ok _ _ n la.length 0 (la ++ lm) _ r9 (unhide DA)).mono ?_; clear r9; rintro e w9 ⟨rfl, rfl⟩)
    | (at_builtin; refine wpList_append_rb rfl (.const (.slice none 0 0)) (.tmp 66) rfl w9.heap.size _ 0 [] rfl (World.ownsRow_nil _ _ _ _) _ _ lb rfl (rb_later q3 (d9.mono z37) (Nat.le_refl _)) (by omega) (by omega) (Nat.le_refl _) ?_; intro v10 w10 ho10 _ hb10; have z10 := hb10.size)
    | (at_builtin; refine wpList_append_rb rfl (.tmp 67) (.tmp 68) rfl w9.heap.size _ _ _ rfl ho10 _ _ lm rfl (rb_later (unhide HM) (bt (bt c7 d9) hb10) (Nat.le_refl _)) (by omega) (by omega) (by omega) ?_; intro v11 w11 ho11 _ hb11; have r11 := own_rb2 ho11 (by omega); have z11 := hb11.size; have d11 := hb10.trans hb11; clear ho10 ho11 hb10 hb11)
    | (go_at_call 18; refine (int_ok _ _ (zigzag k) lb.length 0 (lb ++ lm) _ r11 hz (unhide DB)).mono ?_; clear r11; rw [unhide UZ]; rintro e w11 ⟨rfl, rfl⟩)
    | (at_builtin; refine wpList_append_rb rfl (.const (.slice none 0 0)) (.tmp 75) rfl w11.heap.size _ 0 [] rfl (World.ownsRow_nil _ _ _ _) _ _ lc rfl (rb_later q4 ((bt d9 d11).mono z47) (Nat.le_refl _)) (by omega) (by omega) (Nat.le_refl _) ?_; intro v12 w12 ho12 _ hb12; have z12 := hb12.size)
    | (at_builtin; refine wpList_append_rb rfl (.tmp 76) (.tmp 77) rfl w11.heap.size _ _ _ rfl ho12 _ _ lm rfl (rb_later (unhide HM) (bt (bt (bt c7 d9) d11) hb12) (Nat.le_refl _)) (by omega) (by omega) (by omega) ?_; intro v13 w13 ho13 _ hb13; have r13 := own_rb2 ho13 (by omega); have d13 := hb12.trans hb13; have hE13 := HE.below (bt (bt (bt c7 d9) d11) d13) HE.lt; clear ho12 ho13 hb12 hb13)
    | (go_at_call 19; refine (text_ok _ _ s.size lu.length 0 (lc ++ lm) _ r13 (unhide DC) hs2 (by rw [List.length_append, unhide lCe]; omega) (by omega)).mono ?_; clear r13; rw [unhide TC, ← unhide lCe]; rintro e w13 ⟨rfl, rfl⟩))
  go_ret
  exact ⟨rfl, bt (bt (bt c7 d9) d11) d13⟩

set_option maxHeartbeats 6400000 in
set_option maxRecDepth 100000 in
theorem numbers_great (n : Nat) (k : Int) (s : ByteArray) (vm : Value) (lm : List UInt8) (w : World) (hE : ET w) (hT : ST w) (hn : n < 18446744073709551616) (hk0 : -9223372036854775808 ≤ k) (hk1 : k < 9223372036854775808)
    (hs : s.size ≤ 3000) (hm : RBp w w.heap.size vm lm) (hm3 : lm.length ≤ 300) (hs2 : 2000 < s.size) :
    Calls Tryd.prog 3 #[.int .u64 n, .int .i64 k, .string s, vm] w fun e w' => e = .returned (.bool true) ∧ Below w.heap.size w w' := by
  have HK := hide (known_any w hE hT)
  have hs' : ¬ ((3000 : Int) < (s.size : Int)) := by omega
  have hs2' : (2000 : Int) < (s.size : Int) := by omega
  have hm' : ¬ ((300 : Int) < (lm.length : Int)) := by omega
  obtain ⟨am, km, rfl⟩ := rb_len hm
  have HM := hide hm
  have lA := uvarint_length64 hn
  have hz := zigzag_lt hk0 (by omega : k ≤ 9223372036854775807)
  have lB := uvarint_length64 hz
  have lC : (textBytes s).length ≤ 3010 := by have := uvarint_length64 (x := s.size) (by omega); rw [textBytes_length]; omega
  have P1 := hide (fun w => putUint_any n w hn)
  have P2 := hide (fun w => putInt_any k w hk0 hk1)
  have P3 := hide (fun w => putText_any s w (by omega))
  have R1 := hide (fun w => refPutUint_any n w hn)
  have R2 := hide (fun w => refPutInt_any k w hk0 hk1)
  have R3 := hide (fun w => refPutText_any s w (by omega))
  have HE := hE
  clear hm hE hT
  have DA := hide (decU_uv n hn lm)
  have DB := hide (decU_uv (zigzag k) hz lm)
  have DC := hide (dec_text s lm (by omega))
  have TC := hide (text_take s lm)
  have lU := uvarint_length64 (x := s.size) (by omega)
  have pU := uvarint_pos s.size
  have lCe := hide (textBytes_length s)
  have UZ := hide (unzig_zigzag hk0 hk1)
  generalize hA : uvarint n = la at *
  generalize hB : uvarint (zigzag k) = lb at *
  generalize hC : textBytes s = lc at *
  generalize hU : uvarint s.size = lu at *
  clear hU
  have HA := hide hA
  have HB := hide hB
  have HC := hide hC
  clear hA hB hC
  go_enter Tryd.func3, Tryd.ntmps3
  go_wp2_with (first
    | (go_at_call 9; refine (unhide HK).mono ?_; rintro e w1 ⟨rfl, hb1⟩)
    | (go_at_call 10; refine (unhide P1 _).mono ?_; rintro e w2 ⟨v2, rfl, ho2, hb2⟩; obtain ⟨a2, k2, rfl, r2⟩ := own_rb la ho2 (by omega); clear ho2)
    | (go_at_call 11; refine (unhide P2 _).mono ?_; rintro e w3 ⟨v3, rfl, ho3, hb3⟩; obtain ⟨a3, k3, rfl, r3⟩ := own_rb lb ho3 (by omega); clear ho3)
    | (go_at_call 12; refine (unhide P3 _).mono ?_; rintro e w4 ⟨v4, rfl, ho4, hb4⟩; obtain ⟨a4, k4, rfl, r4⟩ := own_rb lc ho4 (by omega); clear ho4)
    | (go_at_call 14; refine (unhide R1 _).mono ?_; rintro e w5 ⟨v5, rfl, ho5, hb5⟩; obtain ⟨a5, k5, rfl, r5⟩ := own_rb la ho5 (by omega); clear ho5))
  refine (bytes_same _ _ _ _ la _ (rb_later r2 (bt (bt hb3 hb4) hb5) (Nat.le_refl _)) r5).mono ?_
  rintro e w5 ⟨rfl, rfl⟩
  clear r5
  go_wp2_with (first
    | (go_at_call 15; refine (unhide R2 _).mono ?_; rintro e w6 ⟨v6, rfl, ho6, hb6⟩; obtain ⟨a6, k6, rfl, r6⟩ := own_rb lb ho6 (by omega); clear ho6))
  refine (bytes_same _ _ _ _ lb _ (rb_later r3 (bt (bt hb4 hb5) hb6) (Nat.le_refl _)) r6).mono ?_
  rintro e w6 ⟨rfl, rfl⟩
  clear r6
  go_wp2_with (first
    | (go_at_call 16; refine (unhide R3 _).mono ?_; rintro e w7 ⟨v7, rfl, ho7, hb7⟩; obtain ⟨a7, k7, rfl, r7⟩ := own_rb lc ho7 (by omega); clear ho7))
  refine (bytes_same _ _ _ _ lc _ (rb_later r4 (bt (bt hb5 hb6) hb7) (Nat.le_refl _)) r7).mono ?_
  rintro e w7 ⟨rfl, rfl⟩
  clear r7
  have c47 := bt (bt hb5 hb6) hb7
  have c37 := bt hb4 c47
  have c27 := bt hb3 c37
  have c7 := bt hb1 (bt hb2 c27)
  have q2 := rb_later r2 c27 (Nat.le_refl _)
  have q3 := rb_later r3 c37 (Nat.le_refl _)
  have q4 := rb_later r4 c47 (Nat.le_refl _)
  have z27 := c27.size
  have z37 := c37.size
  have z47 := c47.size
  have z7 := c7.size
  clear r2 r3 r4 hb1 hb2 hb3 hb4 hb5 hb6 hb7 P1 P2 P3 R1 R2 R3 HK c27 c37 c47
  go_wp2_with (first
    | (at_builtin; refine wpList_append_rb rfl (.const (.slice none 0 0)) (.tmp 57) rfl w7.heap.size _ 0 [] rfl (World.ownsRow_nil _ _ _ _) _ _ la rfl q2 (by omega) (by omega) (Nat.le_refl _) ?_; intro v8 w8 ho8 _ hb8; have z8 := hb8.size)
    | (at_builtin; refine wpList_append_rb rfl (.tmp 58) (.tmp 59) rfl w7.heap.size _ _ _ rfl ho8 _ _ lm rfl (rb_later (unhide HM) (bt c7 hb8) (Nat.le_refl _)) (by omega) (by omega) (by omega) ?_; intro v9 w9 ho9 _ hb9; have r9 := own_rb2 ho9 (by omega); have z9 := hb9.size; have d9 := hb8.trans hb9; clear ho8 ho9 hb8 hb9)
    | (go_at_call 17; refine (uint_ok _ _ n la.length 0 (la ++ lm) _ r9 (unhide DA)).mono ?_; clear r9; rintro e w9 ⟨rfl, rfl⟩)
    | (at_builtin; refine wpList_append_rb rfl (.const (.slice none 0 0)) (.tmp 66) rfl w9.heap.size _ 0 [] rfl (World.ownsRow_nil _ _ _ _) _ _ lb rfl (rb_later q3 (d9.mono z37) (Nat.le_refl _)) (by omega) (by omega) (Nat.le_refl _) ?_; intro v10 w10 ho10 _ hb10; have z10 := hb10.size)
    | (at_builtin; refine wpList_append_rb rfl (.tmp 67) (.tmp 68) rfl w9.heap.size _ _ _ rfl ho10 _ _ lm rfl (rb_later (unhide HM) (bt (bt c7 d9) hb10) (Nat.le_refl _)) (by omega) (by omega) (by omega) ?_; intro v11 w11 ho11 _ hb11; have r11 := own_rb2 ho11 (by omega); have z11 := hb11.size; have d11 := hb10.trans hb11; clear ho10 ho11 hb10 hb11)
    | (go_at_call 18; refine (int_ok _ _ (zigzag k) lb.length 0 (lb ++ lm) _ r11 hz (unhide DB)).mono ?_; clear r11; rw [unhide UZ]; rintro e w11 ⟨rfl, rfl⟩)
    | (at_builtin; refine wpList_append_rb rfl (.const (.slice none 0 0)) (.tmp 75) rfl w11.heap.size _ 0 [] rfl (World.ownsRow_nil _ _ _ _) _ _ lc rfl (rb_later q4 ((bt d9 d11).mono z47) (Nat.le_refl _)) (by omega) (by omega) (Nat.le_refl _) ?_; intro v12 w12 ho12 _ hb12; have z12 := hb12.size)
    | (at_builtin; refine wpList_append_rb rfl (.tmp 76) (.tmp 77) rfl w11.heap.size _ _ _ rfl ho12 _ _ lm rfl (rb_later (unhide HM) (bt (bt (bt c7 d9) d11) hb12) (Nat.le_refl _)) (by omega) (by omega) (by omega) ?_; intro v13 w13 ho13 _ hb13; have r13 := own_rb2 ho13 (by omega); have d13 := hb12.trans hb13; have hE13 := HE.below (bt (bt (bt c7 d9) d11) d13) HE.lt; clear ho12 ho13 hb12 hb13)
    | (go_at_call 19; refine (text_great _ _ s.size lu.length 0 (lc ++ lm) _ r13 (unhide DC) hs2).mono ?_; clear r13; rintro e w14 ⟨b14, pl14, rfl, he14, hb14⟩; have hE14 := hE13.below hb14 hE13.lt)
    | (go_at_call 20; refine (class_at b14 pl14 20 _ hE14 he14).mono ?_; rintro e w15 ⟨rfl, hb15⟩))
  go_ret
  exact ⟨rfl, bt (bt (bt (bt (bt c7 d9) d11) d13) hb14) hb15⟩
end Go.Proofs.YtahcfanmfocljaaDoor
