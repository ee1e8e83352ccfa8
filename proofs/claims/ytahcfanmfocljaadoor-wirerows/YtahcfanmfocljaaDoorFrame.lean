/- Contracts of wire.appendWord and wire.Frame, and of the document's own four, Sum and Frame. -/
import Derived.Test.YtahcfanmfocljaaDoorLawNumbers
import Derived.Test.YtahcfanmfocljaaDoorCrcMath
namespace Go.Proofs.YtahcfanmfocljaaDoor
open Go.RowKit Go.Lib

/-- A word's bytes, the lowest first. -/
def word4 (n : Nat) : List UInt8 := [(n % 256).toUInt8, (n / 256 % 256).toUInt8, (n / 65536 % 256).toUInt8, (n / 16777216 % 256).toUInt8]
theorem word4_cells (n : Nat) (hn : n < 4294967296) : byteCells (word4 n) = [.int .u8 ((n : Int) % 256), .int .u8 ((n : Int) / 256 % 256), .int .u8 ((n : Int) / 65536 % 256), .int .u8 ((n : Int) / 16777216)] := by
  have e0 : ((n % 256 : Nat) : Int) = (n : Int) % 256 := by omega
  have e1 : ((n / 256 % 256 : Nat) : Int) = (n : Int) / 256 % 256 := by omega
  have e2 : ((n / 65536 % 256 : Nat) : Int) = (n : Int) / 65536 % 256 := by omega
  have e3 : ((n / 16777216 % 256 : Nat) : Int) = (n : Int) / 16777216 := by omega
  simp only [byteCells, word4, List.map_cons, List.map_nil]
  rw [toUInt8_toNat (by omega), toUInt8_toNat (by omega), toUInt8_toNat (by omega), toUInt8_toNat (by omega), e0, e1, e2, e3]
theorem four_new (w : World) (a b c d : Value) (e : TypeId) : ∀ j v, ([a, b, c, d] : List Value)[j]? = some v → (w.alloc (.cells #[a, b, c, d] e)).cell? ((⟨w.heap.size, 0, none⟩ : Addr).add j) = some v := by
  intro j v hj
  match j, hj with
  | 0, hj => simp at hj; subst hj; simp [Addr.add]
  | 1, hj => simp at hj; subst hj; simp [Addr.add]
  | 2, hj => simp at hj; subst hj; simp [Addr.add]
  | 3, hj => simp at hj; subst hj; simp [Addr.add]
theorem four_cell {a b c d : Int} : ∀ u ∈ ([.int .u8 a, .int .u8 b, .int .u8 c, .int .u8 d] : List Value), u.oneCell' = true := by
  intro u hu; simp at hu; rcases hu with rfl | rfl | rfl | rfl <;> rfl

set_option maxHeartbeats 1600000 in
theorem appendWord_any (B m n : Nat) (v : Value) (xs : List Value) (w : World) (hn : n < 4294967296) (hm : m ≤ 1000000000) (hB : B ≤ w.heap.size) (hown : w.ownsRow B 5 1 v m xs) :
    Calls Tryd.prog 58 #[v, .int .u32 n] w fun e w' =>
      ∃ v', e = .returned v' ∧ w'.ownsRow B 5 1 v' (m + 4) (xs ++ byteCells (word4 n)) ∧ Below B w w' := by
  obtain ⟨i0, hi, hz0, hz1, hz2⟩ := info_parts Tryd.infoB
  rw [word4_cells n hn]
  have hn' : (n : Int) < 4294967296 := by omega
  go_enter Tryd.func58, Tryd.ntmps58
  go_wp2_with (first | (at_builtin; refine wpList_append_own _ rfl (.tmp 5) (.tmp 17) 23 rfl B 5 i0 (.int .u8 0) 1 1 Tryd.underlying23 hi hz0 hz1 hz2 rfl (by decide) _ _ _ rfl (hown.alloc _) ⟨w.heap.size, 0, none⟩ 4 4 [_, _, _, _] rfl rfl (four_new _ _ _ _ _ _) four_cell (by unfold maxLen; omega) (by omega) (by simp; omega) ?_))
  intro v' w1 hown1 hgrow _
  have hb1 := ((Below.refl B w).alloc hB _).grown hgrow (by simp; omega) (own_block_ge hown)
  have HO := hide hown1
  clear hown1 hgrow hown
  go_wp2
  go_ret
  exact ⟨v', rfl, unhide HO, hb1⟩

/-- A frame's bytes. -/
def frameBytes (l : List UInt8) : List UInt8 := word4 l.length ++ l ++ word4 (crc (word4 l.length ++ l))
theorem crc_lt (l : List UInt8) : crc l < 4294967296 := by unfold crc; omega
theorem word4_length (n : Nat) : (word4 n).length = 4 := rfl
theorem own_later {w w' : World} {B : Nat} {e : TypeId} {sz : Nat} {v : Value} {n : Nat} {xs : List Value} (h : w.ownsRow B e sz v n xs) (hb : Below w.heap.size w w') : w'.ownsRow B e sz v n xs := by
  obtain ⟨h1, h2 | ⟨g, cap, cur, h3, h4, h5, h6⟩⟩ := h
  · exact ⟨h1, .inl h2⟩
  · have hg : g < w.heap.size := by
      rcases Nat.lt_or_ge g w.heap.size with h' | h'
      · exact h'
      · rw [Array.getElem?_eq_none h'] at h5; cases h5
    exact ⟨h1, .inr ⟨g, cap, cur, h3, h4, (hb.block g hg).trans h5, h6⟩⟩
theorem own_rb3 {w' : World} {v : Value} {B n : Nat} {x : List UInt8} {ys : List Value} (ho : w'.ownsRow B 5 1 v n ys) (hn : n = x.length) (hy : ys = byteCells x) (hl : x.length ≤ 1000000000000) : RBp w' w'.heap.size v x := by
  subst hn; subst hy; exact rb_own ho hl

set_option maxHeartbeats 3200000 in
theorem frame_ok (v : Value) (l : List UInt8) (w : World) (hv : RBp w w.heap.size v l) (hl : l.length ≤ 262144) (hT : ST w) :
    Calls Tryd.prog 36 #[v] w fun e w' => ∃ a k, e = .returned (.tuple #[.slice a (frameBytes l).length k, .nilIface]) ∧ RBp w' w'.heap.size (.slice a (frameBytes l).length k) (frameBytes l) ∧ Below w.heap.size w w' := by
  obtain ⟨i0, hi, hz0, hz1, hz2⟩ := info_parts Tryd.infoB
  have hl' : ¬ ((262144 : Int) < (l.length : Int)) := by omega
  have hfl : (frameBytes l).length = 0 + 4 + l.length + 4 := by simp [frameBytes, word4_length]; omega
  obtain ⟨ad, kk, rfl⟩ := rb_len hv
  have HV := hide hv
  have HT := hide hT
  have hcl := crc_lt (word4 l.length ++ l)
  have HF := hide hfl
  clear hv hT hfl
  go_enter Tryd.func36, Tryd.ntmps36
  go_wp2_with (first
    | (at_make; refine wpList_make_own _ rfl _ _ 23 rfl w.heap.size 5 i0 (.int .u8 0) 1 Tryd.underlying23 hi hz0 hz1 _ _ _ (l.length + 8) rfl rfl (by omega) (by rw [hz2]; omega) (by unfold maxLen; omega) (Nat.le_refl _) ?_; intro w1 ho1 hg1; have hb1 := (Below.refl w.heap.size w).grown hg1 (Nat.le_refl _) (by intro k h; cases h); have z1 := hb1.size; clear hg1)
    | (go_at_call 58; refine (appendWord_any w.heap.size 0 l.length _ [] _ (by omega) (by omega) z1 ho1).mono ?_; rintro e w2 ⟨v2, rfl, ho2, hb2⟩; have c2 := hb1.trans hb2; have z2 := c2.size; clear ho1)
    | (at_builtin; refine wpList_append_rb rfl (.tmp 18) (.tmp 19) rfl w.heap.size _ _ _ rfl ho2 _ _ l rfl (rb_later (unhide HV) c2 (Nat.le_refl _)) (by omega) (by omega) z2 ?_; intro v3 w3 ho3 _ hb3; have c3 := c2.trans hb3; have z3 := c3.size; clear ho2)
    | (go_at_call 38; refine (sum_any _ _ (word4 l.length ++ l) _ (own_rb3 ho3 (by simp [word4_length]) (by simp [byteCells_append]) (by simp [word4_length]; omega)) ((unhide HT).below c3 (unhide HT).lt)).mono ?_; rintro e w3 ⟨rfl, rfl⟩)
    | (go_at_call 58; refine (appendWord_any w.heap.size _ (crc (word4 l.length ++ l)) _ _ _ hcl (by omega) z3 ho3).mono ?_; rintro e w4 ⟨v4, rfl, ho4, hb4⟩; have c4 := c3.trans hb4; obtain ⟨a4, k4, rfl⟩ := own_slice ho4; clear ho3))
  go_ret2
  have e1 := unhide HF
  rw [e1]
  refine ⟨a4, k4, rfl, own_rb3 ho4 e1.symm (by simp [frameBytes, byteCells_append]) (by omega), c4⟩

theorem four_any (n : Nat) (w : World) (hn : n < 4294967296) :
    Calls Tryd.prog 53 #[.int .u32 n] w fun e w' => ∃ v', e = .returned v' ∧ w'.ownsRow w.heap.size 5 1 v' 4 (byteCells (word4 n)) ∧ Below w.heap.size w w' := by
  rw [word4_cells n hn]
  have hn' : (n : Int) < 4294967296 := by omega
  go_enter Tryd.func53, Tryd.ntmps53
  go_wp2
  go_ret
  exact ⟨_, rfl, World.ownsRow_lit (e := 5) (size := 1) w #[.int .u8 ((n : Int) % 256), .int .u8 ((n : Int) / 256 % 256), .int .u8 ((n : Int) / 65536 % 256), .int .u8 ((n : Int) / 16777216)] 4 (Nat.le_refl _) (by decide) rfl, (Below.refl _ _).alloc (Nat.le_refl _) _⟩

set_option maxHeartbeats 1600000 in
set_option maxRecDepth 100000 in
theorem refSum_row (b off cap : Nat) (l : List UInt8) (w : World) (hl : l.length ≤ 1000000000000) (hc : ∀ i, i < l.length → w.cell? ⟨b, off + i, none⟩ = some (.int .u8 ((l.getD i 0).toNat : Int))) :
    Calls Tryd.prog 39 #[.slice (some ⟨b, off, none⟩) l.length cap] w fun e w' => e = .returned (.int .u32 ((crc l : Nat) : Int)) ∧ w' = w := by
  go_enter Tryd.func39, Tryd.ntmps39
  go_wp2
  go_loop [3, 4] (fun s i => ∃ k q : Nat, k ≤ l.length ∧ i = .int .i64 k ∧ s = .int .u32 q ∧ q < 4294967296 ∧ q = (l.take k).foldl refByte 4294967295) (fun _ i => l.length - (intOf i).toNat)
  case atStart => exact ⟨0, 4294967295, by omega, rfl, rfl, by decide, rfl⟩
  case round =>
    obtain ⟨k, q, hk, rfl, rfl, hq, hqe⟩ := hrel
    by_cases hlt : k < l.length
    · have hcx := hc k hlt
      have hq1 : (l.take (k + 1)).foldl refByte 4294967295 = bitsN (q ^^^ (l.getD k 0).toNat) 8 := by
        show _ = refByte q (l.getD k 0)
        rw [List.take_add_one, List.getElem?_eq_getElem hlt, Option.toList_some, List.foldl_append, ← hqe]
        simp [List.getD_eq_getElem?_getD, hlt]
      have HQ := hide hq1
      clear hq1
      generalize l.getD k 0 = c at *
      have hc256 : (c.toNat : Int) < 256 := by have := c.toNat_lt; omega
      have hx1 := xorc_lt hq c
      have e1 := xor32 q c.toNat hq (by omega)
      generalize q ^^^ c.toNat = x1 at *
      clear hqe hc
      go_wp2
      go_loop [3, 5] (fun s i => ∃ j x : Nat, j ≤ 8 ∧ i = .int .i64 j ∧ s = .int .u32 x ∧ x < 4294967296 ∧ x = bitsN x1 j) (fun _ i => 8 - (intOf i).toNat)
      case atStart => exact ⟨0, x1, by omega, rfl, rfl, hx1, rfl⟩
      case round =>
        obtain ⟨j, x, hj, rfl, rfl, hx, hxe⟩ := hrel
        by_cases hj8 : j < 8
        · have HX : Hid (bitsN x1 (j + 1) = bit1 x) := by rw [hxe]; rfl
          have hxb := bit1_lt hx
          clear hxe HQ
          by_cases h2 : x % 2 = 1
          · have h2' : ((x : Int) % 2 == 1) = true := beq_iff_eq.2 (by omega)
            have e3 : bits BinOp.xor IntKind.u32 ((x : Int) / 2) 3988292384 = ((bit1 x : Nat) : Int) := by
              have := xor32 (x / 2) 3988292384 (by omega) (by decide)
              have e4 : (((x / 2 : Nat)) : Int) = (x : Int) / 2 := by omega
              have e5 : ((3988292384 : Nat) : Int) = 3988292384 := rfl
              rw [e4, e5] at this
              rw [this, show bit1 x = (x / 2) ^^^ 3988292384 by unfold bit1; rw [if_pos h2]]
            generalize bit1 x = y at *
            go_wp2
            go_round
            case rel => exact ⟨j + 1, y, by omega, by go_num, rfl, hxb, HX.out.symm⟩
            case measure => simp [intOf]; omega
          · have h2' : ((x : Int) % 2 == 1) = false := beq_eq_false_iff_ne.2 (by omega)
            have e3 : bit1 x = x / 2 := by unfold bit1; rw [if_neg h2]
            have HX2 : Hid (bitsN x1 (j + 1) = x / 2) := by rw [← e3]; exact HX.out
            clear e3 HX
            go_wp2
            go_round
            case rel => exact ⟨j + 1, x / 2, by omega, by go_num, by go_num, by omega, HX2.out.symm⟩
            case measure => simp [intOf]; omega
        · have hj2 : j = 8 := by omega
          subst hj2
          have hq2 : (l.take (k + 1)).foldl refByte 4294967295 = x := (unhide HQ).trans hxe.symm
          have HQ2 := hide hq2
          clear hq2
          clear hxe HQ
          go_wp2
          go_round
          case rel => exact ⟨k + 1, x, by omega, by go_num, rfl, hx, (unhide HQ2).symm⟩
          case measure => simp [intOf]; omega
    · have e : l.take k = l := List.take_of_length_le (by omega)
      rw [e, refFold_eq] at hqe
      have HQ := hide hqe
      clear hqe hc
      go_wp2
      go_ret
      exact ⟨ret_int (by rw [not32 q hq, unhide HQ]; rfl), rfl⟩
theorem refSum_any (v : Value) (B : Nat) (l : List UInt8) (w : World) (hv : RBp w B v l) :
    Calls Tryd.prog 39 #[v] w fun e w' => e = .returned (.int .u32 ((crc l : Nat) : Int)) ∧ w' = w := by
  obtain ⟨hlen, ⟨rfl, rfl⟩ | ⟨b, off, cap, hbB, hcap, hm, rfl, hcell⟩⟩ := hv
  · go_enter Tryd.func39, Tryd.ntmps39
    go_wp2
    refine wp_loop_rounds 1 ?_
    rw [rounds_succ]
    go_wp2
    go_ret
    exact ⟨rfl, rfl⟩
  · exact refSum_row b off cap l w hlen hcell

set_option maxHeartbeats 3200000 in
theorem refFrame_ok (v : Value) (l : List UInt8) (w : World) (hv : RBp w w.heap.size v l) (hl : l.length ≤ 262144) :
    Calls Tryd.prog 37 #[v] w fun e w' => ∃ a k, e = .returned (.tuple #[.slice a (frameBytes l).length k, .int .i64 0]) ∧ RBp w' w'.heap.size (.slice a (frameBytes l).length k) (frameBytes l) ∧ Below w.heap.size w w' := by
  have hl' : ¬ ((262144 : Int) < (l.length : Int)) := by omega
  have hfl : (frameBytes l).length = 4 + l.length + 4 := by simp [frameBytes, word4_length]; omega
  obtain ⟨ad, kk, rfl⟩ := rb_len hv
  have HV := hide hv
  have hcl := crc_lt (word4 l.length ++ l)
  have HF := hide hfl
  clear hv hfl
  go_enter Tryd.func37, Tryd.ntmps37
  go_wp2_with (fail)
  refine (four_any l.length w (by omega)).mono ?_
  rintro e w1 ⟨v1, rfl, ho1, hb1⟩
  have z1 := hb1.size
  go_wp2_with (first
    | (at_builtin; refine wpList_append_rb rfl (.tmp 11) (.tmp 12) rfl w.heap.size _ _ _ rfl ho1 _ _ l rfl (rb_later (unhide HV) hb1 (Nat.le_refl _)) (by omega) (by omega) z1 ?_; intro v3 w3 ho3 _ hb3; have c3 := hb1.trans hb3; have z3 := c3.size; clear ho1)
    | (go_at_call 39; refine (refSum_any _ _ (word4 l.length ++ l) _ (own_rb3 ho3 (by simp [word4_length]) (by simp [byteCells_append]) (by simp [word4_length]; omega))).mono ?_; rintro e w3 ⟨rfl, rfl⟩)
    | (go_at_call 53; refine (four_any (crc (word4 l.length ++ l)) w3 hcl).mono ?_; rintro e w4 ⟨v4, rfl, ho4, hb4⟩; have z4 := hb4.size; have r4 := rb_own (l := word4 (crc (word4 l.length ++ l))) ho4 (by rw [word4_length]; omega); have ho3' := own_later ho3 hb4)
    | (at_builtin; refine wpList_append_rb rfl (.tmp 14) (.tmp 17) rfl w.heap.size _ _ _ rfl ho3' _ _ (word4 (crc (word4 l.length ++ l))) rfl r4 (by omega) (by rw [word4_length]; omega) (by omega) ?_; intro v5 w5 ho5 _ hb5; have c5 := (c3.trans (hb4.mono z3)).trans hb5; obtain ⟨a5, k5, rfl⟩ := own_slice ho5))
  go_ret2
  have e1 := unhide HF
  rw [e1]
  refine ⟨a5, k5, rfl, own_rb3 ho5 e1.symm (by simp [frameBytes, byteCells_append]) (by omega), c5⟩
end Go.Proofs.YtahcfanmfocljaaDoor
