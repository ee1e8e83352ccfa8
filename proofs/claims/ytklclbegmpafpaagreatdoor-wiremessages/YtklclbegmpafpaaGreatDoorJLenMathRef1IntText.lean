/- Plain facts on the bytes of a number: how many, which bear the mark, and that they are read as it. -/
import Derived.Test.YtklclbegmpafpaaGreatDoorJPlainDec
import Derived.Test.YtklclbegmpafpaaGreatDoorJValsRead3Vals2
import Derived.Test.YtklclbegmpafpaaGreatDoorKnown
namespace Go.Proofs.YtklclbegmpafpaaGreatDoor
open Go.RowKit Go.Lib

/-- How many bits a number has. -/
def nbits (n : Nat) : Nat := if n = 0 then 0 else Nat.log2 n + 1
theorem nbits_zero : nbits 0 = 0 := rfl
theorem nbits_pos {n : Nat} (h : 0 < n) : nbits n = nbits (n / 2) + 1 := by
  unfold nbits
  rw [if_neg (by omega), Nat.log2_def]
  by_cases h2 : 2 ≤ n
  · rw [if_pos h2, if_neg (by omega)]
  · rw [if_neg h2, if_pos (by omega)]
theorem nbits_le : ∀ (k n : Nat), n < 2 ^ k → nbits n ≤ k
  | 0, n, h => by have : n = 0 := by simpa using h
                  subst this; rw [nbits_zero]; exact Nat.le_refl _
  | k + 1, n, h => by
    by_cases h0 : n = 0
    · subst h0; rw [nbits_zero]; omega
    · rw [nbits_pos (by omega)]
      have := nbits_le k (n / 2) (by rw [Nat.pow_succ] at h; omega)
      omega
theorem nbits_shift : ∀ (k n : Nat), 2 ^ k ≤ n → nbits n = k + nbits (n / 2 ^ k)
  | 0, n, h => by simp
  | k + 1, n, h => by
    have hp : 0 < 2 ^ k := Nat.two_pow_pos k
    have h2 : 2 ^ k ≤ n / 2 := by rw [Nat.pow_succ] at h; omega
    rw [nbits_pos (by omega), nbits_shift k (n / 2) h2, Nat.div_div_eq_div_mul, show 2 * 2 ^ k = 2 ^ (k + 1) by rw [Nat.pow_succ]; omega]
    omega
theorem uv_length (n : Nat) : (uvarint n).length = max 1 ((nbits n + 6) / 7) := by
  induction n using Nat.strongRecOn with
  | ind n ih =>
    by_cases h : n < 128
    · rw [uvarint_small h]
      have := nbits_le 7 n h
      simp; omega
    · rw [uvarint_big (by omega), List.length_cons, ih (n / 128) (by omega), nbits_shift 7 n (by omega)]
      have e : n / 2 ^ 7 = n / 128 := rfl
      rw [e]
      have h1 : 0 < nbits (n / 128) := by rw [nbits_pos (by omega)]; omega
      omega
theorem uv_mark (n : Nat) : ∀ i, i < (uvarint n).length → (128 ≤ ((uvarint n).getD i 0).toNat ↔ i + 1 < (uvarint n).length) := by
  induction n using Nat.strongRecOn with
  | ind n ih =>
    intro i hi
    by_cases h : n < 128
    · rw [uvarint_small h] at hi ⊢
      have hi0 : i = 0 := by simpa using hi
      subst hi0
      have : ([n.toUInt8].getD 0 0).toNat = n := toUInt8_toNat (by omega)
      rw [this]; simp; omega
    · rw [uvarint_big (by omega)] at hi ⊢
      cases i with
      | zero =>
        have : ((((n % 128 + 128).toUInt8) :: uvarint (n / 128)).getD 0 0).toNat = n % 128 + 128 := toUInt8_toNat (by omega)
        have hp := uvarint_pos (n / 128)
        rw [this]; simp; omega
      | succ i =>
        have := ih (n / 128) (by omega) i (by simpa using hi)
        simpa using this
theorem dec_uv (more : List UInt8) (y : Nat) : ∀ (i acc : Nat), (i = 0 ∨ 0 < y) → i ≤ 9 → y * 2 ^ (7 * i) < 18446744073709551616 → decFrom i acc (uvarint y ++ more) = (acc + y * 2 ^ (7 * i), i + (uvarint y).length, 0, 0) := by
  induction y using Nat.strongRecOn with
  | ind y ih =>
    intro i acc h0 hi hy
    have hp : 0 < 2 ^ (7 * i) := Nat.two_pow_pos _
    by_cases h : y < 128
    · rw [uvarint_small h]
      have ht : (y.toUInt8).toNat = y := toUInt8_toNat (by omega)
      have hn : ¬ ((i = 9 ∧ 1 < (y.toUInt8).toNat) ∨ (0 < i ∧ (y.toUInt8).toNat = 0)) := by
        rw [ht]
        rintro (⟨rfl, h1⟩ | ⟨h1, h2⟩)
        · have : 2 * 2 ^ (7 * 9) ≤ y * 2 ^ (7 * 9) := Nat.mul_le_mul_right _ h1
          simp at this hy; omega
        · omega
      have := dec_done (acc := acc) (r := more) hn (by omega)
      rw [ht, Nat.mod_eq_of_lt h] at this
      simpa using this
    · rw [uvarint_big (by omega)]
      have ht : ((y % 128 + 128).toUInt8).toNat = y % 128 + 128 := toUInt8_toNat (by omega)
      have hi9 : i ≠ 9 := by
        rintro rfl
        have : 128 * 2 ^ (7 * 9) ≤ y * 2 ^ (7 * 9) := Nat.mul_le_mul_right _ (by omega)
        simp at this hy; omega
      have hn : ¬ ((i = 9 ∧ 1 < ((y % 128 + 128).toUInt8).toNat) ∨ (0 < i ∧ ((y % 128 + 128).toUInt8).toNat = 0)) := by
        rw [ht]; omega
      rw [List.cons_append, dec_more hn (by omega), ht]
      have e128 : 2 ^ (7 * (i + 1)) = 128 * 2 ^ (7 * i) := by rw [show 7 * (i + 1) = 7 + 7 * i by omega, Nat.pow_add]
      have hy2 : y / 128 * 2 ^ (7 * (i + 1)) ≤ y * 2 ^ (7 * i) := by
        rw [e128, ← Nat.mul_assoc]; exact Nat.mul_le_mul_right _ (by omega)
      rw [ih (y / 128) (by omega) (i + 1) _ (Or.inr (by omega)) (by omega) (by omega)]
      have ev : acc + (y % 128 + 128) % 128 * 2 ^ (7 * i) + y / 128 * 2 ^ (7 * (i + 1)) = acc + y * 2 ^ (7 * i) := by
        rw [e128, ← Nat.mul_assoc, Nat.add_assoc, ← Nat.add_mul]
        congr 2
        omega
      rw [ev, List.length_cons]
      congr 2
      omega
/-- What is written is read, whatever stands behind. -/
theorem decU_uv (x : Nat) (hx : x < 18446744073709551616) (more : List UInt8) : decU (uvarint x ++ more) = (x, (uvarint x).length, 0, 0) := by
  have := dec_uv more x 0 0 (Or.inl rfl) (by omega) (by simpa using hx)
  simpa [decU] using this
theorem zig_even {k : Int} (h0 : 0 ≤ k) (h1 : k < 9223372036854775808) : zigzag k % 2 = 0 ∧ zigzag (-k - 1) = zigzag k + 1 ∧ zigzag k + 1 < 18446744073709551616 := by
  unfold zigzag
  rw [if_pos h0, if_neg (by omega)]
  omega
end Go.Proofs.YtklclbegmpafpaaGreatDoor
/- Contracts of the document's own writers of numbers and texts (the statements' reference), and of wire.PutText. -/
namespace Go.Proofs.YtklclbegmpafpaaGreatDoor
open Go.RowKit Go.Lib

theorem cells_more' (done : List UInt8) (y : Nat) :
    byteCells done ++ [Value.int IntKind.u8 ((y : Int) % 128 + 128)] = byteCells (done ++ [(y % 128 + 128).toUInt8]) := by
  rw [byteCells_snoc done (by omega)]
  have e : ((y : Int) % 128 + 128) = ((y % 128 + 128 : Nat) : Int) := by omega
  rw [e]
theorem cells_last' (done : List UInt8) (y : Nat) (h : y < 128) :
    byteCells done ++ [Value.int IntKind.u8 (y : Int)] = byteCells (done ++ [y.toUInt8]) := by
  rw [byteCells_snoc done (by omega)]

set_option maxHeartbeats 1600000 in
set_option maxRecDepth 100000 in
theorem refPutUint_any (x : Nat) (w : World) (hx : x < 18446744073709551616) :
    Calls Tryz.prog 46 #[.int .u64 x] w fun e w' =>
      ∃ v', e = .returned v' ∧ w'.ownsRow w.heap.size 5 1 v' (uvarint x).length (byteCells (uvarint x)) ∧ Below w.heap.size w w' := by
  obtain ⟨i0, hi, hz0, hz1, hz2⟩ := info_parts Tryz.infoB
  go_enter Tryz.func46, Tryz.ntmps46
  go_wp2
  go_loopw [0, 3] (fun n v wr => ∃ (y : Nat) (done : List UInt8), y ≤ x ∧ n = .int .u64 y ∧ done ++ uvarint y = uvarint x ∧ wr.ownsRow w.heap.size 5 1 v done.length (byteCells done) ∧ Below w.heap.size w wr)
    (fun n _ _ => (intOf n).toNat)
  case atStart => exact ⟨x, [], Nat.le_refl _, rfl, rfl, World.ownsRow_nil _ _ _ _, Below.refl _ _⟩
  case round =>
    obtain ⟨y, done, hy, rfl, hd, hown, hnx⟩ := hrel
    have hdn := uv_done hx hd
    have hsz := hnx.size
    by_cases hge : 128 ≤ y
    · go_wp2_with (first | (at_builtin; refine wpList_append_own _ rfl (.tmp 6) (.tmp 11) 24 rfl w.heap.size 5 i0 (.int .u8 0) 1 1 Tryz.underlying24 hi hz0 hz1 hz2 rfl (by decide) _ _ _ rfl (hown.alloc _) ⟨wr.heap.size, 0, none⟩ 1 1 [_] rfl rfl (one_new _ _ _) one_cell (by unfold maxLen; omega) (by omega) (by simp; omega) ?_))
      intro v' w1 hown1 hgrow _
      rw [cells_more'] at hown1
      have hb1 := (hnx.alloc (by omega) (.cells #[.int .u8 ((y : Int) % 128 + 128)] 5)).grown hgrow (by simp; omega) (own_block_ge hown)
      have HU : Hid ((done ++ [(y % 128 + 128).toUInt8]) ++ uvarint (y / 128) = uvarint x) := uv_more hge hd
      clear hd hown hgrow hnx
      go_wp2
      go_roundw
      case rel => exact ⟨y / 128, done ++ [(y % 128 + 128).toUInt8], by omega, by go_num, HU.out, by simpa using hown1, hb1⟩
      case measure => simp [intOf]; omega
    · go_wp2_with (first | (at_builtin; refine wpList_append_own _ rfl (.tmp 15) (.tmp 18) 24 rfl w.heap.size 5 i0 (.int .u8 0) 1 1 Tryz.underlying24 hi hz0 hz1 hz2 rfl (by decide) _ _ _ rfl (hown.alloc _) ⟨wr.heap.size, 0, none⟩ 1 1 [_] rfl rfl (one_new _ _ _) one_cell (by unfold maxLen; omega) (by omega) (by simp; omega) ?_))
      intro v' w1 hown1 hgrow _
      rw [cells_last' _ _ (Nat.lt_of_not_le hge)] at hown1
      have hb1 := (hnx.alloc (by omega) (.cells #[.int .u8 (y : Int)] 5)).grown hgrow (by simp; omega) (own_block_ge hown)
      have HU : Hid (done ++ [y.toUInt8] = uvarint x) := uv_last (by omega) hd
      clear hd hown hgrow hnx
      go_wp2
      go_ret
      refine ⟨v', rfl, ?_, hb1⟩
      rw [← HU.out]; simpa using hown1

theorem refPutInt_any (n : Int) (w : World) (h0 : -9223372036854775808 ≤ n) (h1 : n < 9223372036854775808) :
    Calls Tryz.prog 49 #[.int .i64 n] w fun e w' =>
      ∃ v', e = .returned v' ∧ w'.ownsRow w.heap.size 5 1 v' (uvarint (zigzag n)).length (byteCells (uvarint (zigzag n))) ∧ Below w.heap.size w w' := by
  have hz := zigzag_lt h0 (by omega : n ≤ 9223372036854775807)
  have HP := hide (fun w => refPutUint_any (zigzag n) w hz)
  by_cases hn : n < 0
  · have e : 2 * -(n + 1) + 1 = ((zigzag n : Nat) : Int) := by unfold zigzag; rw [if_neg (by omega)]; omega
    have HE := hide e
    clear e
    go_enter Tryz.func49, Tryz.ntmps49
    go_wp2_with (first | (go_at_call 46; rw [unhide HE]; refine (unhide HP _).mono ?_; rintro e w' ⟨v', rfl, hown, hb⟩))
    go_ret
    exact ⟨v', rfl, hown, hb⟩
  · have e : 2 * n = ((zigzag n : Nat) : Int) := by unfold zigzag; rw [if_pos (by omega)]; omega
    have HE := hide e
    clear e
    go_enter Tryz.func49, Tryz.ntmps49
    go_wp2_with (first | (go_at_call 46; rw [unhide HE]; refine (unhide HP _).mono ?_; rintro e w' ⟨v', rfl, hown, hb⟩))
    go_ret
    exact ⟨v', rfl, hown, hb⟩

/-- The bytes of a text. -/
def textBytes (t : ByteArray) : List UInt8 := uvarint t.size ++ t.data.toList
theorem textBytes_length (t : ByteArray) : (textBytes t).length = (uvarint t.size).length + t.size := by rw [textBytes, List.length_append, bytes_length]

set_option maxHeartbeats 1600000 in
theorem refPutText_any (t : ByteArray) (w : World) (ht : t.size ≤ 1000000000) :
    Calls Tryz.prog 47 #[.string t] w fun e w' =>
      ∃ v', e = .returned v' ∧ w'.ownsRow w.heap.size 5 1 v' (textBytes t).length (byteCells (textBytes t)) ∧ Below w.heap.size w w' := by
  obtain ⟨i0, hi, hz0, hz1, hz2⟩ := info_parts Tryz.infoB
  have hu := uvarint_length64 (x := t.size) (by omega)
  have HP := hide (refPutUint_any t.size w (by omega))
  go_enter Tryz.func47, Tryz.ntmps47
  go_wp2_with (first | (go_at_call 46; refine (unhide HP).mono ?_; rintro e w1 ⟨v1, rfl, ho1, hb1⟩; have hs1 := hb1.size) | (at_builtin; refine wpList_append_own_string _ rfl (.tmp 6) (.tmp 7) 24 9 rfl w.heap.size 5 i0 Tryz.underlying24 Tryz.underlying9 hi hz0 hz1 hz2 _ _ _ rfl ho1 t rfl (by unfold maxLen; omega) (by omega) (by omega) ?_))
  intro v' w2 ho2 hg2 _
  have hb2 := hb1.grown hg2 hs1 (own_block_ge ho1)
  have HO := hide ho2
  clear ho2 hg2 ho1
  go_wp2
  go_ret
  refine ⟨v', rfl, ?_, hb2⟩
  rw [textBytes_length, textBytes, byteCells_append]; exact unhide HO

/-- consistoryhelp.Bytes at the same bytes. -/
theorem bytes_same (v v' : Value) (B B' : Nat) (l : List UInt8) (w : World) (h : RBp w B v l) (h' : RBp w B' v' l) :
    Calls Tryz.prog 11 #[v, v'] w fun e w' => e = .returned (.bool true) ∧ w' = w := by
  have c1 := conv_any v B l w h
  have c2 := conv_any v' B' l w h'
  clear h h'
  go_enter Tryz.func11, Tryz.ntmps11
  go_wp2
  go_ret
  exact ⟨rfl, rfl⟩
end Go.Proofs.YtklclbegmpafpaaGreatDoor
/- Contracts of wire.Int and wire.Text. -/
namespace Go.Proofs.YtklclbegmpafpaaGreatDoor
open Go.RowKit Go.Lib

theorem unzig_zigzag {k : Int} (h0 : -9223372036854775808 ≤ k) (h1 : k < 9223372036854775808) : unzig (zigzag k) = k := by
  unfold unzig zigzag
  by_cases h : 0 ≤ k
  · rw [if_pos h, if_pos (by omega)]; omega
  · rw [if_neg h, if_neg (by omega)]; omega

theorem dec_all (l : List UInt8) : (∃ n k, decU l = (n, k, 0, 0) ∧ n < 18446744073709551616 ∧ k ≤ l.length) ∨ (∃ c q, (c = 20 ∨ c = 22) ∧ decU l = (0, 0, c, q)) := by
  rcases dec_cases l 0 0 (by omega) (by simp) with ⟨n, k, e, g1, g2, g3⟩ | ⟨q, e⟩ | ⟨q, e, g⟩
  · exact .inl ⟨n, k, e, g1, by omega⟩
  · exact .inr ⟨20, q, .inl rfl, e⟩
  · exact .inr ⟨22, q, .inr rfl, e⟩

/-- A slice within bytes. -/
theorem rb_mid {w : World} {B b off cap a n : Nat} {l : List UInt8} (hbB : b < B) (hl : a + n ≤ l.length) (hcap : l.length ≤ cap) (hm : cap ≤ maxLen) (hlen : l.length ≤ 1000000000000)
    (hcell : ∀ i, i < l.length → w.cell? ⟨b, off + i, none⟩ = some (.int .u8 ((l.getD i 0).toNat : Int))) : RBp w B (.slice (some ⟨b, off + a, none⟩) (a + n - a) (cap - a)) ((l.drop a).take n) :=
  rb_take hbB (by omega) (by omega) hcap hm hlen hcell

end Go.Proofs.YtklclbegmpafpaaGreatDoor
