/- Contract of wire.Sum: four bits at a time, by the table. -/
import Derived.Test.YtlmjmhpdpgeplaaGreatDoorJReaderUptoUpto2
import Derived.Lib.EndianBits
import Derived.Test.YtlmjmhpdpgeplaaGreatDoorJPutRowListOfRdMathEntryRdMath2
import Derived.Lib.SlBytesConst
import Derived.Test.YtlmjmhpdpgeplaaGreatDoorJWriterValsRead3TakeTextVRValVals2Vals3Rows2
import Derived.Test.YtlmjmhpdpgeplaaGreatDoorTDump
import Derived.Deep.RegionHeld3
namespace Go.Proofs.YtlmjmhpdpgeplaaGreatDoor
open Go.RowKit Go.Lib

def tabL : List Nat := [0, 498536548, 997073096, 651767980, 1994146192, 1802195444, 1303535960, 1342533948, 3988292384, 4027552580, 3604390888, 3412177804, 2607071920, 2262029012, 2685067896, 3183342108]
theorem tab_lt (i : Nat) : tabL.getD i 0 < 4294967296 := by
  rcases Nat.lt_or_ge i 16 with h | h
  · have : ∀ j : Fin 16, tabL.getD j.val 0 < 4294967296 := by decide
    exact this ⟨i, h⟩
  · rw [List.getD_eq_getElem?_getD, List.getElem?_eq_none (by simpa [tabL] using h)]; decide
theorem xor32 (a b : Nat) (ha : a < 4294967296) (hb : b < 4294967296) : bits BinOp.xor IntKind.u32 (a : Int) (b : Int) = ((a ^^^ b : Nat) : Int) := by
  have hx : a ^^^ b < 2 ^ 32 := Nat.xor_lt_two_pow (by omega) (by omega)
  have h1 : (BitVec.ofInt 32 (a : Int)).toNat = a := by
    rw [BitVec.ofInt_natCast, BitVec.toNat_ofNat]; exact Nat.mod_eq_of_lt (by omega)
  have h2 : (BitVec.ofInt 32 (b : Int)).toNat = b := by
    rw [BitVec.ofInt_natCast, BitVec.toNat_ofNat]; exact Nat.mod_eq_of_lt (by omega)
  show IntKind.u32.wrap ((BitVec.ofInt 32 (a : Int) ^^^ BitVec.ofInt 32 (b : Int)).toNat : Int) = _
  rw [BitVec.toNat_xor, h1, h2, IntKind.wrap_u32]
  omega
theorem and15 (a : Nat) (ha : a < 4294967296) : bits BinOp.and IntKind.u32 (a : Int) 15 = ((a % 16 : Nat) : Int) := by
  have h := bits_mask .u32 32 (by decide) wraps_u32 4 (by decide) (a : Int) (by omega) (by omega)
  have e : ((2 : Int) ^ 4 - 1) = 15 := by decide
  have e2 : ((2 : Int) ^ 4) = 16 := by decide
  rw [e, e2] at h
  rw [h]; omega
def step4 (s : Nat) : Nat := (s / 16) ^^^ tabL.getD (s % 16) 0
def byteStep (s : Nat) (c : UInt8) : Nat := step4 (step4 (s ^^^ c.toNat))
def crc (l : List UInt8) : Nat := 4294967295 - l.foldl byteStep 4294967295
theorem step4_lt {s : Nat} (h : s < 4294967296) : step4 s < 4294967296 := by
  unfold step4
  exact Nat.xor_lt_two_pow (n := 32) (by omega) (tab_lt _)
theorem xorc_lt {s : Nat} (h : s < 4294967296) (c : UInt8) : s ^^^ c.toNat < 4294967296 := Nat.xor_lt_two_pow (n := 32) h (by have := c.toNat_lt; omega)
theorem byteStep_lt {s : Nat} (h : s < 4294967296) (c : UInt8) : byteStep s c < 4294967296 := step4_lt (step4_lt (xorc_lt h c))
theorem crcs_lt (l : List UInt8) : ∀ s, s < 4294967296 → l.foldl byteStep s < 4294967296 := by
  induction l with
  | nil => intro s h; exact h
  | cons c r ih => intro s h; exact ih _ (byteStep_lt h c)

theorem xor_ones32 (b : Nat) (hb : b < 2 ^ 32) : (2 ^ 32 - 1) ^^^ b = 2 ^ 32 - 1 - b := by
  apply Nat.eq_of_testBit_eq
  intro i
  rw [Nat.testBit_xor, Nat.testBit_two_pow_sub_one, show 2 ^ 32 - 1 - b = 2 ^ 32 - (b + 1) by omega, Nat.testBit_two_pow_sub_succ hb]
  by_cases hi : i < 32
  · simp [hi]
  · have : b.testBit i = false := Nat.testBit_lt_two_pow (Nat.lt_of_lt_of_le hb (Nat.pow_le_pow_right (by decide) (by omega)))
    simp [hi, this]
theorem not32 (q : Nat) (hq : q < 4294967296) : bits BinOp.xor IntKind.u32 IntKind.u32.max (q : Int) = ((4294967295 - q : Nat) : Int) := by
  have e : IntKind.u32.max = ((4294967295 : Nat) : Int) := by decide
  rw [e, xor32 _ q (by decide) hq]
  congr 1
  exact xor_ones32 q hq

end Go.Proofs.YtlmjmhpdpgeplaaGreatDoor
/- Contract of the statements' own look, known: it answers true. -/
namespace Go.Proofs.YtlmjmhpdpgeplaaGreatDoor
open Go.RowKit Go.Lib

theorem row_known : (putVals [⟨2, 5, ⟨#[]⟩⟩, ⟨0, 0, ⟨#[]⟩⟩] (putLen 2 64 (some []))) = some [2, 2, 10, 0] := by
  have u0 : uvarint 0 = [0] := uvarint_small (by decide)
  have u2 : uvarint 2 = [2] := uvarint_small (by decide)
  have u10 : uvarint 10 = [10] := uvarint_small (by decide)
  have hz : zigzag 5 = 10 := by decide
  have m1 : GV.may ⟨2, 5, ⟨#[]⟩⟩ = true := by decide +kernel
  have m2 : GV.may ⟨0, 0, ⟨#[]⟩⟩ = true := by decide +kernel
  simp [putVals, putLen, putVal, m1, m2, GV.bytes, u0, u2, u10, hz]
theorem short_known : (rdRow [2] (.ok 0)).2 = .error 22 := by kernel_rfl
theorem crc_known : crc [49, 50, 51, 52, 53, 54, 55, 56, 57] = 3421780262 := by decide +kernel

theorem rb_own {w : World} {B : Nat} {v : Value} {l : List UInt8} (h : w.ownsRow B 5 1 v l.length (byteCells l)) (hl : l.length ≤ 1000000000000) : RBp w w.heap.size v l := by
  have hh := h
  obtain ⟨h1, ⟨h2, h2'⟩ | ⟨g, cap, cur, h3, h4, h5, h6, h7, h8, h9⟩⟩ := h
  · exact ⟨hl, .inl ⟨h2, List.eq_nil_of_length_eq_zero h2'⟩⟩
  · have hg : g < w.heap.size := by
      rcases Nat.lt_or_ge g w.heap.size with h' | h'
      · exact h'
      · rw [Array.getElem?_eq_none h'] at h5; cases h5
    refine ⟨hl, .inr ⟨g, 0, cap, hg, h6, h7, h3, fun i hi => ?_⟩⟩
    have e2 : (byteCells l)[i]? = some (.int .u8 ((l.getD i 0).toNat : Int)) := by
      simp [byteCells, hi]
    have := hh.cells (g := g) (by rw [h3]; rfl) i _ e2
    have e3 : (⟨g, 0, none⟩ : Addr).add i = ⟨g, 0 + i, none⟩ := by unfold Addr.add; split <;> simp_all
    rw [e3] at this; exact this
theorem rb_later {w w' : World} {B B' : Nat} {v : Value} {l : List UInt8} (h : RBp w B v l) (hb : Below B w w') (hB : B ≤ B') : RBp w' B' v l := by
  obtain ⟨h1, h2 | ⟨b, off, cap, hbB, hc, hm, rfl, hcell⟩⟩ := h
  · exact ⟨h1, .inl h2⟩
  · exact ⟨h1, .inr ⟨b, off, cap, by omega, hc, hm, rfl, fun i hi => (hb.cell (p := ⟨b, off + i, none⟩) hbB).trans (hcell i hi)⟩⟩

end Go.Proofs.YtlmjmhpdpgeplaaGreatDoor
/- Contracts of the document's own writers of numbers and texts (the statements' reference), and of wire.PutText. -/
namespace Go.Proofs.YtlmjmhpdpgeplaaGreatDoor
open Go.RowKit Go.Lib

theorem cells_more' (done : List UInt8) (y : Nat) :
    byteCells done ++ [Value.int IntKind.u8 ((y : Int) % 128 + 128)] = byteCells (done ++ [(y % 128 + 128).toUInt8]) := by
  rw [byteCells_snoc done (by omega)]
  have e : ((y : Int) % 128 + 128) = ((y % 128 + 128 : Nat) : Int) := by omega
  rw [e]
theorem cells_last' (done : List UInt8) (y : Nat) (h : y < 128) :
    byteCells done ++ [Value.int IntKind.u8 (y : Int)] = byteCells (done ++ [y.toUInt8]) := by
  rw [byteCells_snoc done (by omega)]

set_option maxHeartbeats 1600000 in
set_option maxRecDepth 100000 in
theorem refPutUint_any (x : Nat) (w : World) (hx : x < 18446744073709551616) :
    Calls Tryz.prog 28 #[.int .u64 x] w fun e w' =>
      ∃ v', e = .returned v' ∧ w'.ownsRow w.heap.size 5 1 v' (uvarint x).length (byteCells (uvarint x)) ∧ Below w.heap.size w w' := by
  obtain ⟨i0, hi, hz0, hz1, hz2⟩ := info_parts Tryz.infoB
  go_enter Tryz.func28, Tryz.ntmps28
  go_wp2
  go_loopw [0, 3] (fun n v wr => ∃ (y : Nat) (done : List UInt8), y ≤ x ∧ n = .int .u64 y ∧ done ++ uvarint y = uvarint x ∧ wr.ownsRow w.heap.size 5 1 v done.length (byteCells done) ∧ Below w.heap.size w wr)
    (fun n _ _ => (intOf n).toNat)
  case atStart => exact ⟨x, [], Nat.le_refl _, rfl, rfl, World.ownsRow_nil _ _ _ _, Below.refl _ _⟩
  case round =>
    obtain ⟨y, done, hy, rfl, hd, hown, hnx⟩ := hrel
    have hdn := uv_done hx hd
    have hsz := hnx.size
    by_cases hge : 128 ≤ y
    · go_wp2_with (first | (at_builtin; refine wpList_append_own _ rfl (.tmp 6) (.tmp 11) 30 rfl w.heap.size 5 i0 (.int .u8 0) 1 1 Tryz.underlying30 hi hz0 hz1 hz2 rfl (by decide) _ _ _ rfl (hown.alloc _) ⟨wr.heap.size, 0, none⟩ 1 1 [_] rfl rfl (one_new _ _ _) one_cell (by unfold maxLen; omega) (by omega) (by simp; omega) ?_))
      intro v' w1 hown1 hgrow _
      rw [cells_more'] at hown1
      have hb1 := (hnx.alloc (by omega) (.cells #[.int .u8 ((y : Int) % 128 + 128)] 5)).grown hgrow (by simp; omega) (own_block_ge hown)
      have HU : Hid ((done ++ [(y % 128 + 128).toUInt8]) ++ uvarint (y / 128) = uvarint x) := uv_more hge hd
      clear hd hown hgrow hnx
      go_wp2
      go_roundw
      case rel => exact ⟨y / 128, done ++ [(y % 128 + 128).toUInt8], by omega, by go_num, HU.out, by simpa using hown1, hb1⟩
      case measure => simp [intOf]; omega
    · go_wp2_with (first | (at_builtin; refine wpList_append_own _ rfl (.tmp 15) (.tmp 18) 30 rfl w.heap.size 5 i0 (.int .u8 0) 1 1 Tryz.underlying30 hi hz0 hz1 hz2 rfl (by decide) _ _ _ rfl (hown.alloc _) ⟨wr.heap.size, 0, none⟩ 1 1 [_] rfl rfl (one_new _ _ _) one_cell (by unfold maxLen; omega) (by omega) (by simp; omega) ?_))
      intro v' w1 hown1 hgrow _
      rw [cells_last' _ _ (Nat.lt_of_not_le hge)] at hown1
      have hb1 := (hnx.alloc (by omega) (.cells #[.int .u8 (y : Int)] 5)).grown hgrow (by simp; omega) (own_block_ge hown)
      have HU : Hid (done ++ [y.toUInt8] = uvarint x) := uv_last (by omega) hd
      clear hd hown hgrow hnx
      go_wp2
      go_ret
      refine ⟨v', rfl, ?_, hb1⟩
      rw [← HU.out]; simpa using hown1

/-- The bytes of a text. -/
def textBytes (t : ByteArray) : List UInt8 := uvarint t.size ++ t.data.toList
theorem textBytes_length (t : ByteArray) : (textBytes t).length = (uvarint t.size).length + t.size := by rw [textBytes, List.length_append, bytes_length]

set_option maxHeartbeats 1600000 in
theorem refPutText_any (t : ByteArray) (w : World) (ht : t.size ≤ 1000000000) :
    Calls Tryz.prog 29 #[.string t] w fun e w' =>
      ∃ v', e = .returned v' ∧ w'.ownsRow w.heap.size 5 1 v' (textBytes t).length (byteCells (textBytes t)) ∧ Below w.heap.size w w' := by
  obtain ⟨i0, hi, hz0, hz1, hz2⟩ := info_parts Tryz.infoB
  have hu := uvarint_length64 (x := t.size) (by omega)
  have HP := hide (refPutUint_any t.size w (by omega))
  go_enter Tryz.func29, Tryz.ntmps29
  go_wp2_with (first | (go_at_call 28; refine (unhide HP).mono ?_; rintro e w1 ⟨v1, rfl, ho1, hb1⟩; have hs1 := hb1.size) | (at_builtin; refine wpList_append_own_string _ rfl (.tmp 6) (.tmp 7) 30 9 rfl w.heap.size 5 i0 Tryz.underlying30 Tryz.underlying9 hi hz0 hz1 hz2 _ _ _ rfl ho1 t rfl (by unfold maxLen; omega) (by omega) (by omega) ?_))
  intro v' w2 ho2 hg2 _
  have hb2 := hb1.grown hg2 hs1 (own_block_ge ho1)
  have HO := hide ho2
  clear ho2 hg2 ho1
  go_wp2
  go_ret
  refine ⟨v', rfl, ?_, hb2⟩
  rw [textBytes_length, textBytes, byteCells_append]; exact unhide HO

/-- consistoryhelp.Bytes at the same bytes. -/
theorem bytes_same (v v' : Value) (B B' : Nat) (l : List UInt8) (w : World) (h : RBp w B v l) (h' : RBp w B' v' l) :
    Calls Tryz.prog 17 #[v, v'] w fun e w' => e = .returned (.bool true) ∧ w' = w := by
  have c1 := conv_any v B l w h
  have c2 := conv_any v' B' l w h'
  clear h h'
  go_enter Tryz.func17, Tryz.ntmps17
  go_wp2
  go_ret
  exact ⟨rfl, rfl⟩
end Go.Proofs.YtlmjmhpdpgeplaaGreatDoor
/- TreePlays' own helpers: the dump of a row of entries; bytes written over. -/
namespace Go.Proofs.YtlmjmhpdpgeplaaGreatDoor
open Go.RowKit Go.Lib

/-- Bytes put behind bytes, as a step of a region that draws. -/
theorem step_b8 {ops : Array Oper} {o : Oper} {a : Act} {w : World} {K : Act → World → Prop} {Q : Exit → Act → World → Prop} {E : Prop} {d : Nat} (hgd : o.guard = none) (hd : o.dst = some d) (s x : Operand)
    (ho : o.op = .call { callee := .builtin .append, args := #[s, x], argTypes := #[30, 30] })
    {base n m g cap : Nat} {v : Value} {xs ys : List Value} (hs : a.eval s = v) (hown : w.ownsRow base 5 1 v n xs) (hx : a.eval x = .slice (some ⟨g, 0, none⟩) m cap) (hm : ys.length = m) (hc : ∀ j u, ys[j]? = some u → w.cell? ((⟨g, 0, none⟩ : Addr).add j) = some u) (h1 : ∀ u ∈ ys, u.oneCell' = true) (hn : n + m ≤ 1000000000) (hb : base ≤ w.heap.size)
    (h : ∀ v' w', w'.ownsRow base 5 1 v' (n + m) (xs ++ ys) → w.grownBy w' v.ownBlock → K (a.put (some d) v') w') : if Region.wanted o (yielded ops a.tmps) = true then Oper.wp Tryz.prog o a w K Q else E := by
  rw [← hd] at h
  obtain ⟨i0, hi, hz0, hz1, hz2⟩ := info_parts Tryz.infoB
  have hw : Region.wanted o (yielded ops a.tmps) = true := by simp [Region.wanted, hgd]
  rw [if_pos hw]
  obtain ⟨v', w', hrun, q2, q3, _, q5⟩ := run_append_own_at (P := Tryz.prog) w base 30 o.type 5 i0 _ 1 1 Tryz.underlying30 hi hz0 hz1 hz2 rfl (by decide) v n xs hown ⟨g, 0, none⟩ m cap ys (by rw [hm]; omega) hc h1 (by unfold maxLen; omega) (by omega) hb
  unfold Oper.wp
  simp [execOp, ho, resolve, invoke, builtin, hs, hx, hrun, Result.andThen]
  exact h v' w' q2 q3
section
variable {w : World} {v : Value} {F : List It}
set_option maxHeartbeats 12800000 in
set_option maxRecDepth 100000 in
theorem mdump_any (hv : R2 w v (F.map itV)) (hsm : Sml F) (hn : F.length ≤ 1000000) (hl : (dumpL F).length ≤ 900000000) : Calls Tryz.prog 18 #[v] w fun e w' => ∃ v', e = .returned v' ∧ w'.ownsRow w.heap.size 5 1 v' (dumpF F).length (Lib.byteCells (dumpF F)) ∧ Below w.heap.size w w' := by
  obtain ⟨a, c, rfl, _, _⟩ := id hv.slice
  rw [List.length_map] at *
  have HR : Hid (∀ (wr : World) (h : Nat), Below w.heap.size w wr → h < F.length → ∃ (x : It) (b off : Nat), F[h]? = some x ∧ a = some ⟨b, off, none⟩ ∧ ∀ W, Below w.heap.size w W → W.cell? ⟨b, off + h * 2, none⟩ = some (.string x.1) ∧ W.cell? ⟨b, off + h * 2 + 1, none⟩ = some (.string x.2)) := by
    intro wr h hb hl
    have hx : F[h]? = some F[h] := List.getElem?_eq_getElem hl
    have hm : (F.map itV)[h]? = some (itV F[h]) := by rw [List.getElem?_map, hx]; rfl
    obtain ⟨b, off, h1, _, h3, h4⟩ := (hv.below hb).at hm
    refine ⟨F[h], b, off, hx, h1, fun W hW => ?_⟩
    obtain ⟨b', off', h1', _, h3', h4'⟩ := (hv.below hW).at hm
    rw [h1] at h1'; cases h1'
    exact ⟨h3', h4'⟩
  obtain ⟨len, hlen⟩ : ∃ len, len = F.length := ⟨_, rfl⟩
  have HP := hide (refPutUint_any F.length w (by omega))
  rw [← hlen] at hn ⊢
  rw [← hlen] at HP
  have HS := hide (And.intro hlen (And.intro hsm hl))
  have hn' : (len : Int) ≤ 1000000 := by omega
  have hwu : IntKind.u64.wrap (len : Int) = (len : Int) := by rw [IntKind.wrap_u64] <;> omega
  have HT := hide (fun (s : ByteArray) (W : World) (hs : s.size ≤ 1000000) => refPutText_any s W (by omega))
  clear hv hsm hl hlen
  go_enter Tryz.func18, Tryz.ntmps18
  go_wp2_with (go_at_call 28; refine (unhide HP).mono ?_; rintro e w1 ⟨v1, rfl, ho1, hb1⟩; clear HP; have H1 := hide (And.intro ho1 hb1); clear ho1 hb1)
  go_loopw [3, 4] (fun s3 s4 wr => ∃ (i : Nat) (v3 : Value), v3 = s3 ∧ s4 = .int .i64 (i : Int) ∧ i ≤ len ∧ Hid (wr.ownsRow w.heap.size 5 1 v3 (uvarint len ++ dumpL (F.take i)).length (Lib.byteCells (uvarint len ++ dumpL (F.take i))) ∧ Below w.heap.size w wr)) (fun _ s4 _ => len - (RowKit.intOf s4).toNat)
  case atStart =>
    refine ⟨0, v1, rfl, rfl, Nat.zero_le _, ?_⟩
    rw [List.take_zero, show dumpL [] = [] from rfl, List.append_nil]
    exact unhide H1
  case round =>
    clear H1
    obtain ⟨i, v3, rfl, rfl, hil, HD⟩ := hrel
    by_cases hlt : i < len
    · have hlti : (i : Int) < (len : Int) := by omega
      have hi0 : (0 : Int) ≤ (i : Int) := by omega
      have hwi : IntKind.i64.wrap ((i : Int) + 1) = (i : Int) + 1 := by rw [IntKind.wrap_i64] <;> omega
      obtain ⟨x, b, off, hx, rfl, hc⟩ := unhide HR wr i (unhide HD).2 (by rw [← (unhide HS).1]; exact hlt)
      have HS1 : Hid (∀ W : World, Below w.heap.size w W → W.cell? ⟨b, off + i * 2, none⟩ = some (.string x.1) ∧ W.cell? ⟨b, off + i * 2 + 1, none⟩ = some (.string x.2)) := hc
      have hxm : x ∈ F := List.mem_of_getElem? hx
      have hxs := (unhide HS).2.1 x hxm
      have hdl : (dumpL (F.take i)).length + (txtB x.1).length + (txtB x.2).length ≤ 900000000 ∧ dumpL (F.take (i + 1)) = dumpL (F.take i) ++ (txtB x.1 ++ txtB x.2) := by
        have e1 : F.take (i + 1) = F.take i ++ [x] := by rw [List.take_add_one, hx]; rfl
        have e2 : dumpL (F.take (i + 1)) = dumpL (F.take i) ++ (txtB x.1 ++ txtB x.2) := by rw [e1, dumpL_app, dumpL_one]; rfl
        have e3 : F = F.take (i + 1) ++ F.drop (i + 1) := (List.take_append_drop _ _).symm
        have e4 : (dumpL F).length = (dumpL (F.take (i + 1))).length + (dumpL (F.drop (i + 1))).length := by rw [← List.length_append, ← dumpL_app, ← e3]
        have := (unhide HS).2.2
        rw [e2, List.length_append, List.length_append] at e4
        exact ⟨by omega, e2⟩
      have hul := (uv_len len (by omega)).2
      have HX := hide (And.intro hxs (And.intro hdl hul))
      have HD2 : Hid (wr.ownsRow w.heap.size 5 1 v3 (uvarint len ++ dumpL (F.take i)).length (Lib.byteCells (uvarint len ++ dumpL (F.take i))) ∧ Below w.heap.size w wr) := unhide HD
      obtain ⟨T, hT⟩ : ∃ T, T = uvarint len ++ dumpL (F.take i) := ⟨_, rfl⟩
      have hTl : T.length ≤ 900000100 ∧ T.length = (uvarint len).length + (dumpL (F.take i)).length := by rw [hT, List.length_append]; omega
      rw [← hT] at HD2
      have HTT := hide (And.intro hT hTl)
      clear hc hx hxm hxs hdl hul HD hT hTl
      go_upto_region 5 with fail
      refine wp_region_held_drew (S := fun w' => w'.cell? ⟨b, off + i * 2, none⟩ = some (.string x.1) ∧ w'.cell? ⟨b, off + i * 2 + 1, none⟩ = some (.string x.2)) (by kernel_rfl) (unhide HS1 _ (unhide HD2).2.drew) (fun hHeld => ?_)
      obtain ⟨WS, hWS⟩ : ∃ WS, WS = wr.drew := ⟨_, rfl⟩
      rw [← hWS] at hHeld ⊢
      have HB : Hid (Below w.heap.size w WS) := by rw [hWS]; exact (unhide HD2).2.drew
      have HT0 : Hid (WS.ownsRow w.heap.size 5 1 v3 T.length (Lib.byteCells T)) := by rw [hWS]; exact (unhide HD2).1
      clear hWS HD2
      refine hand_to (i := 0) (d := 15) (v := v3) rfl rfl (by kernel_rfl) (by kernel_rfl) (by kernel_rfl) (fun _ _ _ h => h) (Or.inl ⟨by rfl, ?_⟩) hHeld ?_
      · (intro w' hSw; obtain ⟨y0, y1⟩ := hSw; go_simp)
      simp only [Act.put, List.setIfInBounds_toArray, List.set_cons_zero, List.set_cons_succ]
      refine hand_to (i := 1) (d := 16) (v := (.slice (some ⟨b, off, none⟩) len c)) rfl rfl (by kernel_rfl) (by kernel_rfl) (by kernel_rfl) (fun _ _ _ h => h) (Or.inl ⟨by rfl, ?_⟩) hHeld ?_
      · (intro w' hSw; obtain ⟨y0, y1⟩ := hSw; go_simp)
      simp only [Act.put, List.setIfInBounds_toArray, List.set_cons_zero, List.set_cons_succ]
      refine hand_to (i := 2) (d := 17) (v := (.int .i64 (i : Int))) rfl rfl (by kernel_rfl) (by kernel_rfl) (by kernel_rfl) (fun _ _ _ h => h) (Or.inl ⟨by rfl, ?_⟩) hHeld ?_
      · (intro w' hSw; obtain ⟨y0, y1⟩ := hSw; go_simp)
      simp only [Act.put, List.setIfInBounds_toArray, List.set_cons_zero, List.set_cons_succ]
      refine hand_to (i := 3) (d := 18) (v := (.pointer (some ⟨b, off + i * 2, none⟩))) rfl rfl (by kernel_rfl) (by kernel_rfl) (by kernel_rfl) (fun _ _ _ h => h) (Or.inl ⟨by rfl, ?_⟩) hHeld ?_
      · (intro w' hSw; obtain ⟨y0, y1⟩ := hSw; go_simp)
      simp only [Act.put, List.setIfInBounds_toArray, List.set_cons_zero, List.set_cons_succ]
      refine hand_to (i := 4) (d := 19) (v := (.pointer (some ⟨b, off + i * 2, none⟩))) rfl rfl (by kernel_rfl) (by kernel_rfl) (by kernel_rfl) (fun _ _ _ h => h) (Or.inl ⟨by rfl, ?_⟩) hHeld ?_
      · (intro w' hSw; obtain ⟨y0, y1⟩ := hSw; go_simp)
      simp only [Act.put, List.setIfInBounds_toArray, List.set_cons_zero, List.set_cons_succ]
      refine hand_to (i := 5) (d := 20) (v := (.string x.1)) rfl rfl (by kernel_rfl) (by kernel_rfl) (by kernel_rfl) (fun _ _ _ h => h) (Or.inl ⟨by rfl, ?_⟩) hHeld ?_
      · (intro w' hSw; obtain ⟨y0, y1⟩ := hSw; go_simp)
      simp only [Act.put, List.setIfInBounds_toArray, List.set_cons_zero, List.set_cons_succ]
      refine hand_to (i := 8) (d := 23) (v := (.slice (some ⟨b, off, none⟩) len c)) rfl rfl (by kernel_rfl) (by kernel_rfl) (by kernel_rfl) (fun _ _ _ h => h) (Or.inl ⟨by rfl, ?_⟩) hHeld ?_
      · (intro w' hSw; obtain ⟨y0, y1⟩ := hSw; go_simp)
      simp only [Act.put, List.setIfInBounds_toArray, List.set_cons_zero, List.set_cons_succ]
      refine hand_to (i := 9) (d := 24) (v := (.int .i64 (i : Int))) rfl rfl (by kernel_rfl) (by kernel_rfl) (by kernel_rfl) (fun _ _ _ h => h) (Or.inl ⟨by rfl, ?_⟩) hHeld ?_
      · (intro w' hSw; obtain ⟨y0, y1⟩ := hSw; go_simp)
      simp only [Act.put, List.setIfInBounds_toArray, List.set_cons_zero, List.set_cons_succ]
      refine hand_to (i := 10) (d := 25) (v := (.pointer (some ⟨b, off + i * 2, none⟩))) rfl rfl (by kernel_rfl) (by kernel_rfl) (by kernel_rfl) (fun _ _ _ h => h) (Or.inl ⟨by rfl, ?_⟩) hHeld ?_
      · (intro w' hSw; obtain ⟨y0, y1⟩ := hSw; go_simp)
      simp only [Act.put, List.setIfInBounds_toArray, List.set_cons_zero, List.set_cons_succ]
      refine hand_to (i := 11) (d := 26) (v := (.pointer (some ⟨b, off + i * 2 + 1, none⟩))) rfl rfl (by kernel_rfl) (by kernel_rfl) (by kernel_rfl) (fun _ _ _ h => h) (Or.inl ⟨by rfl, ?_⟩) hHeld ?_
      · (intro w' hSw; obtain ⟨y0, y1⟩ := hSw; go_simp)
      simp only [Act.put, List.setIfInBounds_toArray, List.set_cons_zero, List.set_cons_succ]
      refine hand_to (i := 12) (d := 27) (v := (.string x.2)) rfl rfl (by kernel_rfl) (by kernel_rfl) (by kernel_rfl) (fun _ _ _ h => h) (Or.inl ⟨by rfl, ?_⟩) hHeld ?_
      · (intro w' hSw; obtain ⟨y0, y1⟩ := hSw; go_simp)
      simp only [Act.put, List.setIfInBounds_toArray, List.set_cons_zero, List.set_cons_succ]
      refine wpAnyH_ready (rs := [6]) (by kernel_rfl) (by simp) ?_
      refine AllReadyH.cons rfl (fun K hK => ?_) AllReadyH.nil
      go_simp
      (go_at_call 29; refine (unhide HT x.1 WS (unhide HX).1.1).mono ?_; rintro e W6 ⟨va, rfl, hO, hbb⟩)
      (go_wp2_with fail)
      have HOva : Hid (W6.ownsRow WS.heap.size 5 1 va (txtB x.1).length (Lib.byteCells (txtB x.1))) := hO
      replace HT0 := hide (own_after (unhide HT0) hbb)
      replace HB := hide (below_tr (unhide HB) hbb)
      clear hO hbb
      refine hK.out _ _ (unhide HS1 W6 (unhide HB)) (fun hHeld2 => ?_)
      clear hK K hHeld
      have hHeld := hHeld2
      clear hHeld2
      try simp only [Act.put, List.setIfInBounds_toArray, List.set_cons_zero, List.set_cons_succ]
      obtain ⟨g7, cap7, hu7, hg7, _, _, hgl7, hc7⟩ := own_row1 (unhide HOva) (by unfold txtB; rw [List.length_append]; have := uvarint_pos x.1.size; omega)
      subst hu7
      refine wpAnyH_ready (rs := [7]) (by kernel_rfl) (by simp) ?_
      refine AllReadyH.cons rfl (fun K hK => ?_) AllReadyH.nil
      refine step_b8 (d := 22) rfl rfl (.tmp 15) (.tmp 21) rfl (base := w.heap.size) rfl (unhide HT0) rfl (by rw [byteCells_length]) hc7 (bytes_one _) (by first | (have := (unhide HX).2.1.1; have := (unhide HTT).2; have := (unhide HX).2.2; omega) | (have := (unhide HX).2.1.1; have := (unhide HTT).2; have := (unhide HX).2.2; rw [List.length_append]; omega)) (unhide HB).size (fun v7 W7 hO hgr => ?_)
      have hbb : Below w.heap.size W6 W7 := (Below.refl _ _).grown hgr (unhide HB).size (own_block_ge (unhide HT0))
      replace HT0 : Hid (W7.ownsRow w.heap.size 5 1 v7 (T ++ txtB x.1).length (Lib.byteCells (T ++ txtB x.1))) := own_cast2 hO (by simp only [List.length_append]) (by simp only [byteC_app])
      replace HB := hide ((unhide HB).trans hbb)
      clear hO hbb hgr hc7
      refine hK.out _ _ (unhide HS1 W7 (unhide HB)) (fun hHeld2 => ?_)
      clear hK K hHeld
      have hHeld := hHeld2
      clear hHeld2
      try simp only [Act.put, List.setIfInBounds_toArray, List.set_cons_zero, List.set_cons_succ]
      refine wpAnyH_ready (rs := [13]) (by kernel_rfl) (by simp) ?_
      refine AllReadyH.cons rfl (fun K hK => ?_) AllReadyH.nil
      go_simp
      (go_at_call 29; refine (unhide HT x.2 W7 (unhide HX).1.2).mono ?_; rintro e W13 ⟨vb, rfl, hO, hbb⟩)
      (go_wp2_with fail)
      have HOvb : Hid (W13.ownsRow W7.heap.size 5 1 vb (txtB x.2).length (Lib.byteCells (txtB x.2))) := hO
      replace HT0 := hide (own_after (unhide HT0) hbb)
      replace HB := hide (below_tr (unhide HB) hbb)
      clear hO hbb
      refine hK.out _ _ (unhide HS1 W13 (unhide HB)) (fun hHeld2 => ?_)
      clear hK K hHeld
      have hHeld := hHeld2
      clear hHeld2
      try simp only [Act.put, List.setIfInBounds_toArray, List.set_cons_zero, List.set_cons_succ]
      obtain ⟨g14, cap14, hu14, hg14, _, _, hgl14, hc14⟩ := own_row1 (unhide HOvb) (by unfold txtB; rw [List.length_append]; have := uvarint_pos x.2.size; omega)
      subst hu14
      refine wpAnyH_ready (rs := [14]) (by kernel_rfl) (by simp) ?_
      refine AllReadyH.cons rfl (fun K hK => ?_) AllReadyH.nil
      refine step_b8 (d := 29) rfl rfl (.tmp 22) (.tmp 28) rfl (base := w.heap.size) rfl (unhide HT0) rfl (by rw [byteCells_length]) hc14 (bytes_one _) (by first | (have := (unhide HX).2.1.1; have := (unhide HTT).2; have := (unhide HX).2.2; omega) | (have := (unhide HX).2.1.1; have := (unhide HTT).2; have := (unhide HX).2.2; rw [List.length_append]; omega)) (unhide HB).size (fun v14 W14 hO hgr => ?_)
      have hbb : Below w.heap.size W13 W14 := (Below.refl _ _).grown hgr (unhide HB).size (own_block_ge (unhide HT0))
      replace HT0 : Hid (W14.ownsRow w.heap.size 5 1 v14 ((T ++ txtB x.1) ++ txtB x.2).length (Lib.byteCells ((T ++ txtB x.1) ++ txtB x.2))) := own_cast2 hO (by simp only [List.length_append]) (by simp only [byteC_app])
      replace HB := hide ((unhide HB).trans hbb)
      clear hO hbb hgr hc14
      refine hK.out _ _ (unhide HS1 W14 (unhide HB)) (fun hHeld2 => ?_)
      clear hK K hHeld
      have hHeld := hHeld2
      clear hHeld2
      try simp only [Act.put, List.setIfInBounds_toArray, List.set_cons_zero, List.set_cons_succ]
      refine hand_to (i := 15) (d := 3) (v := v14) rfl rfl (by kernel_rfl) (by kernel_rfl) (by kernel_rfl) (fun _ _ _ h => h) (Or.inl ⟨by rfl, ?_⟩) hHeld ?_
      · (intro w' hSw; obtain ⟨y0, y1⟩ := hSw; go_simp)
      simp only [Act.put, List.setIfInBounds_toArray, List.set_cons_zero, List.set_cons_succ]
      refine wpAnyH_done (by kernel_rfl) ?_ _
      go_wp2_with fail
      go_roundw
      case rel =>
        refine ⟨i + 1, v14, rfl, by simp, by omega, ?_⟩
        have e : uvarint len ++ dumpL (F.take (i + 1)) = T ++ txtB x.1 ++ txtB x.2 := by rw [(unhide HX).2.1.2, (unhide HTT).1]; simp only [List.append_assoc]
        rw [e]
        exact ⟨unhide HT0, unhide HB⟩
      case measure => simp [RowKit.intOf]; omega
    · have hlti : ¬ ((i : Int) < (len : Int)) := by omega
      obtain rfl : i = len := by omega
      have HE : Hid (wr.ownsRow w.heap.size 5 1 v3 (dumpF F).length (Lib.byteCells (dumpF F)) ∧ Below w.heap.size w wr) := by
        have e : F.take i = F := List.take_of_length_le (by rw [← (unhide HS).1]; exact Nat.le_refl _)
        have := unhide HD
        rw [e, (unhide HS).1] at this
        exact this
      clear HD HS HT HR
      go_wp2_with fail
      go_ret
      exact ⟨v3, rfl, unhide HE⟩
end
end Go.Proofs.YtlmjmhpdpgeplaaGreatDoor
