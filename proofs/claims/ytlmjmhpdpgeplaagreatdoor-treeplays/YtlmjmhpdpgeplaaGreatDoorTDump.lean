/- A tree's bytes: appendText, a node's dump, Dump. -/
import Derived.Test.YtlmjmhpdpgeplaaGreatDoorTNext
import Derived.Test.YtlmjmhpdpgeplaaGreatDoorJNumsFaultsUint
namespace Go.Proofs.YtlmjmhpdpgeplaaGreatDoor
open Go.RowKit Go.Lib

/-- A text's bytes, an item's, a list's, a tree's. -/
def txtB (s : ByteArray) : List UInt8 := uvarint s.size ++ s.data.toList
def itB (x : It) : List UInt8 := txtB x.1 ++ txtB x.2
def dumpL (l : List It) : List UInt8 := l.flatMap itB
def dumpF (l : List It) : List UInt8 := uvarint l.length ++ dumpL l
theorem dumpL_app (a b : List It) : dumpL (a ++ b) = dumpL a ++ dumpL b := by simp [dumpL]
theorem dumpL_one (x : It) : dumpL [x] = itB x := by simp [dumpL]
theorem own_row1 {w : World} {B n : Nat} {T : TypeId} {v : Value} {xs : List Value} (h : w.ownsRow B T 1 v n xs) (hn : 0 < n) : ∃ g cap, v = .slice (some ⟨g, 0, none⟩) n cap ∧ B ≤ g ∧ n ≤ cap ∧ cap ≤ maxLen ∧ g < w.heap.size ∧ ∀ j u, xs[j]? = some u → w.cell? ((⟨g, 0, none⟩ : Addr).add j) = some u := by
  obtain ⟨_, ⟨rfl, h2⟩ | ⟨g, k, cur, rfl, hB, hc, q1, q2, q3, q4⟩⟩ := h
  · omega
  · refine ⟨g, k, rfl, hB, q1, q2, (Array.getElem?_eq_some_iff.1 hc).1, fun j u hj => ?_⟩
    rw [← q4, List.getElem?_take] at hj
    split at hj
    · rw [Go.WideShapes.add_plain, Nat.zero_add, World.cell?]
      simp [hc]
      rw [← Array.getElem?_toList]
      simpa using hj
    · cases hj
theorem own_after {w w' : World} {B : Nat} {e : TypeId} {sz : Nat} {v : Value} {n : Nat} {xs : List Value} (h : w.ownsRow B e sz v n xs) (hb : Below w.heap.size w w') : w'.ownsRow B e sz v n xs := by
  obtain ⟨h1, h2 | ⟨g, k, cur, rfl, hB, hc, q⟩⟩ := h
  · exact ⟨h1, .inl h2⟩
  · exact ⟨h1, .inr ⟨g, k, cur, rfl, hB, (hb.block g (Array.getElem?_eq_some_iff.1 hc).1).trans hc, q⟩⟩
theorem bytes_one (l : List UInt8) : ∀ u ∈ Lib.byteCells l, u.oneCell' = true := by
  intro u hu
  unfold Lib.byteCells at hu
  obtain ⟨c, _, rfl⟩ := List.mem_map.1 hu
  rfl
theorem strB_eq (t : ByteArray) : strCells t = Lib.byteCells t.data.toList := rfl
theorem uv_len (x : Nat) (hx : x < 18446744073709551616) : 0 < (uvarint x).length ∧ (uvarint x).length ≤ 10 := ⟨uvarint_pos x, uvarint_length64 hx⟩
set_option maxHeartbeats 3200000 in
set_option maxRecDepth 100000 in
theorem appendText_any (B m : Nat) (s : ByteArray) (v : Value) (xs : List Value) (w : World) (hm : m ≤ 1000000000) (hs : s.size ≤ 1000000) (hB : B ≤ w.heap.size) (hown : w.ownsRow B 5 1 v m xs) :
    Calls Tryz.prog 43 #[v, .string s] w fun e w' => ∃ v', e = .returned v' ∧ w'.ownsRow B 5 1 v' (m + (txtB s).length) (xs ++ Lib.byteCells (txtB s)) ∧ Below B w w' ∧ KeepT 5 w w' := by
  obtain ⟨i0, hi, hz0, hz1, hz2⟩ := info_parts Tryz.infoB
  obtain ⟨hu0, hu1⟩ := uv_len s.size (by omega)
  have hsi : (s.size : Int) ≤ 1000000 := by omega
  have hwu : IntKind.u64.wrap (s.size : Int) = (s.size : Int) := by rw [IntKind.wrap_u64] <;> omega
  have HP : Hid (Calls Tryz.prog 27 #[.int .u64 (s.size : Int)] w fun e w1 => ∃ g cap, e = .returned (.slice (some ⟨g, 0, none⟩) (uvarint s.size).length cap) ∧ (∀ j u, (Lib.byteCells (uvarint s.size))[j]? = some u → w1.cell? ((⟨g, 0, none⟩ : Addr).add j) = some u) ∧ w1.ownsRow B 5 1 v m xs ∧ Hid (Below w.heap.size w w1)) := by
    refine (putUint_any s.size w (by omega)).mono ?_
    rintro e w1 ⟨v1, rfl, ho, hb⟩
    obtain ⟨g, cap, rfl, _, _, _, _, hc⟩ := own_row1 ho hu0
    exact ⟨g, cap, rfl, hc, own_after hown hb, hb⟩
  have HS := hide (And.intro hown hB)
  clear hown
  go_enter Tryz.func43, Tryz.ntmps43
  go_wp2_with (first
    | (go_at_call 27; refine (unhide HP).mono ?_; rintro e w1 ⟨g, cap, rfl, hc, ho, hb1⟩; clear HP; have hs1 := (unhide hb1).size)
    | (at_builtin; refine wpList_append_own _ rfl (.tmp 5) (.tmp 9) 30 rfl B 5 i0 (.int .u8 0) 1 1 Tryz.underlying30 hi hz0 hz1 hz2 rfl (by decide) _ _ _ rfl ho ⟨g, 0, none⟩ (uvarint s.size).length cap (Lib.byteCells (uvarint s.size)) rfl (by rw [byteCells_length]; omega) hc (bytes_one _) (by unfold maxLen; omega) (by omega) (by omega) ?_))
  intro v2 w2 ho2 hg2 _
  have HB2 : Hid (Below B w w2 ∧ KeepT 5 w w2) := ⟨((unhide hb1).mono hB).trans (Below.grown (Below.refl _ _) hg2 (by omega) (own_block_ge ho)), (KeepT.of_below (unhide hb1)).trans (KeepT.of_grown ho hg2)⟩
  have hs2 : B ≤ w2.heap.size := by have := (unhide HB2).1.size; omega
  clear hc ho hg2 hb1
  go_wp2_with (at_builtin; refine wpList_append_own_string _ rfl (.tmp 10) (.tmp 11) 30 9 rfl B 5 i0 Tryz.underlying30 Tryz.underlying9 hi hz0 hz1 hz2 _ _ _ rfl ho2 s rfl (by unfold maxLen; omega) (by omega) hs2 ?_)
  intro v3 w3 ho3 hg3 _
  have HB3 : Hid (Below B w w3 ∧ KeepT 5 w w3) := ⟨(unhide HB2).1.trans (Below.grown (Below.refl _ _) hg3 hs2 (own_block_ge ho2)), (unhide HB2).2.trans (KeepT.of_grown ho2 hg3)⟩
  rw [strB_eq] at ho3
  have HO : Hid (w3.ownsRow B 5 1 v3 (m + (txtB s).length) (xs ++ Lib.byteCells (txtB s))) := by
    show w3.ownsRow B 5 1 v3 (m + (txtB s).length) (xs ++ Lib.byteCells (txtB s))
    have hd : s.data.toList.length = s.size := by rw [Array.length_toList]; rfl
    have e1 : m + (txtB s).length = m + (uvarint s.size).length + s.size := by unfold txtB; rw [List.length_append, hd]; omega
    have e2 : xs ++ Lib.byteCells (txtB s) = xs ++ (Lib.byteCells (uvarint s.size) ++ Lib.byteCells s.data.toList) := by unfold txtB Lib.byteCells; rw [List.map_append]
    rw [e1, e2]
    exact ho3
  clear ho2 ho3 hg3
  go_wp2_with fail
  go_ret
  exact ⟨v3, rfl, unhide HO, (unhide HB3).1, (unhide HB3).2⟩
/-- Blocks of nodes are no rows of bytes. -/
theorem KeepT.nv {w w' : World} {b : Nat} {x y : Value} (h : KeepT 5 w w') (hv : NV w b x y) : NV w' b x y := (h.2 b (blk_lt hv) (fun cur hc => by unfold NV at hv; rw [hv] at hc; cases hc)).trans hv
theorem byteC_app (a b : List UInt8) : Lib.byteCells (a ++ b) = Lib.byteCells a ++ Lib.byteCells b := by unfold Lib.byteCells; rw [List.map_append]
theorem own_cast2 {w : World} {B n n' : Nat} {T : TypeId} {v : Value} {xs ys : List Value} (h : w.ownsRow B T 1 v n xs) (h1 : n = n') (h2 : xs = ys) : w.ownsRow B T 1 v n' ys := by rw [← h1, ← h2]; exact h
theorem KeepT.node {w w' : World} {O : Nat → Prop} {B d : Nat} {t : BT (d + 1)} {vi vk : Value} (h : Below B w w') (hO : ∀ g, O g → g < B) (hn : NodeAt w O d t vi vk) : NodeAt w' O d t vi vk := hn.keep h.size (fun g hg _ => h.block g (hO g hg))
/-- Texts short enough. -/
def Sml (F : List It) : Prop := ∀ y ∈ F, y.1.size ≤ 1000000 ∧ y.2.size ≤ 1000000
/-- What dump tells: the bytes behind what was there. -/
def DumpP (w : World) (B m : Nat) (xs : List Value) (F : List It) (e : Ending) (w' : World) : Prop :=
  ∃ v', e = .returned v' ∧ w'.ownsRow B 5 1 v' (m + (dumpL F).length) (xs ++ Lib.byteCells (dumpL F)) ∧ Below B w w' ∧ KeepT 5 w w'
/-- What stands at the loop's head. -/
def DH (w : World) (B m : Nat) (xs : List Value) (P : List It) (vi vk v : Value) (wr : World) : Prop :=
  wr.ownsRow B 5 1 v (m + (dumpL P).length) (xs ++ Lib.byteCells (dumpL P)) ∧ Below B w wr ∧ NV wr w.heap.size vi vk ∧ w.heap.size + 1 ≤ wr.heap.size ∧ KeepT 5 w wr
theorem DH.more {w wr wr' : World} {B m : Nat} {xs : List Value} {P Q : List It} {vi vk v v' : Value} (h : DH w B m xs P vi vk v wr) (ho : wr'.ownsRow B 5 1 v' (m + (dumpL P).length + (dumpL Q).length) (xs ++ Lib.byteCells (dumpL P) ++ Lib.byteCells (dumpL Q))) (hb : Below B wr wr') (hk : KeepT 5 wr wr') : DH w B m xs (P ++ Q) vi vk v' wr' := by
  obtain ⟨h1, h2, h3, h4, h5⟩ := h
  refine ⟨own_cast2 ho (by rw [dumpL_app, List.length_append]; omega) (by rw [dumpL_app, byteC_app, List.append_assoc]), h2.trans hb, hk.nv h3, Nat.le_trans h4 hb.size, h5.trans hk⟩
section
variable {w : World} {O : Nat → Prop} {B m : Nat} {xs : List Value} {vi vk v0 : Value}
set_option maxHeartbeats 25600000 in
set_option maxRecDepth 100000 in
theorem dump_0 {its : List It} {kids : List (BT 0)} (ht : NP w O 0 its kids vi vk) (hs : Shp 0 (BT.mk its kids)) (hO : ∀ g, O g → g < B) (hB : B ≤ w.heap.size) (ho : w.ownsRow B 5 1 v0 m xs) (hsm : Sml its) (hl : m + (dumpL its).length ≤ 1000000000) (h15 : its.length ≤ 1000) :
    Calls Tryz.prog 26 #[.agg #[vi, vk], v0] w (DumpP w B m xs its) := by
  obtain ⟨ia, ik, ka, kk, rfl, rfl⟩ := ht.slices
  obtain ⟨oa, ok, rfl⟩ := own_sl ho
  have hlen0 : kids.length = 0 := by rw [show kids = [] from hs]; rfl
  obtain ⟨W0, hW0⟩ : ∃ W0, W0 = w.alloc (.cells #[.slice ia its.length ik, .slice ka kids.length kk] 54) := ⟨_, rfl⟩
  have hb0 : Below w.heap.size w W0 := by rw [hW0]; exact (Below.refl _ _).alloc (Nat.le_refl _) _
  have H0 : Hid (DH w B m xs [] (.slice ia its.length ik) (.slice ka kids.length kk) (.slice oa m ok) W0) := by
    refine ⟨own_cast2 (own_after ho hb0) (by simp [dumpL]) (by simp [dumpL, Lib.byteCells]), hb0.mono hB, by rw [hW0]; exact NV.new _ _ _, by rw [hW0, World.size_alloc]; exact Nat.le_refl _, KeepT.of_below hb0⟩
  obtain ⟨c20, c21, _, _⟩ := (unhide H0).2.2.1.cells
  have HI : Hid (∀ W : World, Below B w W → KeepT 5 w W → NV W w.heap.size (.slice ia its.length ik) (.slice ka kids.length kk) → Calls Tryz.prog 36 #[.agg #[.slice ia its.length ik, .slice ka kids.length kk]] W fun e w2 => e = .returned (.bool false) ∧ Hid (Below W.heap.size W w2)) := by
    intro W hb hk hv
    obtain ⟨t1, ks, t2, t3⟩ := ht
    refine (inner_any _ _ ks W ((t2.keep hb.size (fun g hg _ => hb.block g (hO g hg))).1)).mono ?_
    rintro e w2 ⟨rfl, hb2⟩
    exact ⟨by rw [t3.len, hlen0]; rfl, hb2⟩
  have HBw := hide hB
  have HA := hide (And.intro ht (And.intro hO (And.intro hsm (And.intro hl h15))))
  have hn15 : (its.length : Int) ≤ 1000 := by omega
  have hwn : IntKind.i64.wrap ((its.length : Int) + 1) = (its.length : Int) + 1 := by rw [IntKind.wrap_i64] <;> omega
  clear ht hs hO hB ho hsm hl h15 hlen0 hb0
  go_enter Tryz.func26, Tryz.ntmps26
  go_wp2_with fail
  rw [← hW0]
  clear hW0 c20 c21
  go_loopw [1, 10] (fun s1 s10 wr => ∃ (i : Nat) (v : Value), s1 = v ∧ s10 = .int .i64 (i : Int) ∧ i ≤ its.length + 1 ∧ Hid (DH w B m xs (its.take i) (.slice ia its.length ik) (.slice ka kids.length kk) v wr)) (fun _ s10 _ => its.length + 1 - (RowKit.intOf s10).toNat)
  case atStart => exact ⟨0, _, rfl, rfl, Nat.zero_le _, unhide H0⟩
  case round =>
    obtain ⟨i, v, rfl, rfl, hi1, HD⟩ := hrel
    clear H0
    by_cases hlt : i < its.length + 1
    · have hlti : (i : Int) < (its.length : Int) + 1 := by omega
      have hwi : IntKind.i64.wrap ((i : Int) + 1) = (i : Int) + 1 := by rw [IntKind.wrap_i64] <;> omega
      obtain ⟨va, vc, hv⟩ := own_sl (unhide HD).1
      obtain ⟨vn, hvn⟩ : ∃ vn, vn = m + (dumpL (its.take i)).length := ⟨_, rfl⟩
      rw [← hvn] at hv
      subst hv
      have HVN := hide hvn
      clear hvn
      have HI2 := hide (unhide HI wr (unhide HD).2.1 (unhide HD).2.2.2.2 (unhide HD).2.2.1)
      obtain ⟨c20, c21, _, _⟩ := (unhide HD).2.2.1.cells
      by_cases hli : i < its.length
      · have hlii : (i : Int) < (its.length : Int) := by omega
        have hi0 : (0 : Int) ≤ (i : Int) := by omega
        have hy : its[i]? = some (its[i]'hli) := List.getElem?_eq_getElem _
        generalize its[i]'hli = y at hy
        obtain ⟨ib, io, hia, hib, y0, y1⟩ := (unhide HA).1.1.1.at (i := i) (x := itV y) (by rw [List.getElem?_map, hy]; rfl)
        subst hia
        have HIB : Hid (ib < B ∧ w.cell? ⟨ib, io + i * 2, none⟩ = some (.string y.1) ∧ w.cell? ⟨ib, io + i * 2 + 1, none⟩ = some (.string y.2)) := ⟨(unhide HA).2.1 ib ((unhide HA).1.1.2 ib ⟨_, _, _, rfl⟩), y0, y1⟩
        have htk : its.take (i + 1) = its.take i ++ [y] := by rw [List.take_add_one, hy]; rfl
        have HSy : Hid (y.1.size ≤ 1000000 ∧ y.2.size ≤ 1000000) := (unhide HA).2.2.1 y (List.mem_of_getElem? hy)
        have HLen : Hid (m + (dumpL (its.take i)).length + (txtB y.1).length + (txtB y.2).length ≤ 1000000000) := by
          have h1 := (unhide HA).2.2.2.1
          have h2 : its = its.take (i + 1) ++ its.drop (i + 1) := (List.take_append_drop _ _).symm
          have h3 : (dumpL its).length = (dumpL (its.take i)).length + ((txtB y.1).length + (txtB y.2).length) + (dumpL (its.drop (i + 1))).length := by
            conv => lhs; rw [h2, htk, dumpL_app, dumpL_app, dumpL_one]
            unfold itB
            simp only [List.length_append]
          show _ ≤ _
          omega
        have HTK := hide htk
        clear hib y0 y1 hy htk HI
        go_upto_region 7 with (go_at_call 36; refine (unhide HI2).mono ?_; rintro e w2 ⟨rfl, hb2⟩; clear HI2; obtain ⟨d20, d21, _, _⟩ := (NV.below (unhide HD).2.2.1 (unhide hb2)).cells)
        have HD2 : Hid (DH w B m xs (its.take i) (.slice (some ⟨ib, io, none⟩) its.length ik) (.slice ka kids.length kk) (.slice va vn vc) w2) := by
          obtain ⟨u1, u2, u3, u4, u5⟩ := unhide HD
          have hb := unhide hb2
          exact ⟨own_after u1 hb, u2.trans (hb.mono (by have := unhide HBw; omega)), u3.below hb, Nat.le_trans u4 hb.size, u5.trans (KeepT.of_below hb)⟩
        clear HD hb2 c20 c21 d20 d21
        obtain ⟨v, hv⟩ : ∃ v, v = Value.slice va vn vc := ⟨_, rfl⟩
        rw [← hv] at HD2 ⊢
        clear hv
        have HT1 : Hid (∀ W : World, Below B w2 W → KeepT 5 w2 W → W.ownsRow B 5 1 v (m + (dumpL (its.take i)).length) (xs ++ Lib.byteCells (dumpL (its.take i))) → Calls Tryz.prog 43 #[v, .string y.1] W fun e w' => ∃ v', e = .returned v' ∧ w'.ownsRow B 5 1 v' (m + (dumpL (its.take i)).length + (txtB y.1).length) (xs ++ Lib.byteCells (dumpL (its.take i)) ++ Lib.byteCells (txtB y.1)) ∧ Below B W w' ∧ KeepT 5 W w') := fun W hb hk ho => appendText_any B _ y.1 v _ W (by have := unhide HLen; omega) (unhide HSy).1 (by have h1 := (unhide HD2).2.1.size; have h2 := hb.size; have h3 := unhide HBw; omega) ho
        have HT2 : Hid (∀ (W : World) (v : Value), Below B w2 W → KeepT 5 w2 W → W.ownsRow B 5 1 v (m + (dumpL (its.take i)).length + (txtB y.1).length) (xs ++ Lib.byteCells (dumpL (its.take i)) ++ Lib.byteCells (txtB y.1)) → Calls Tryz.prog 43 #[v, .string y.2] W fun e w' => ∃ v', e = .returned v' ∧ w'.ownsRow B 5 1 v' (m + (dumpL (its.take i)).length + (txtB y.1).length + (txtB y.2).length) (xs ++ Lib.byteCells (dumpL (its.take i)) ++ Lib.byteCells (txtB y.1) ++ Lib.byteCells (txtB y.2)) ∧ Below B W w' ∧ KeepT 5 W w') := fun W v hb hk ho => appendText_any B _ y.2 v _ W (by have := unhide HLen; omega) (unhide HSy).2 (by have h1 := (unhide HD2).2.1.size; have h2 := hb.size; have h3 := unhide HBw; omega) ho
        have HS7 : Hid (∀ W : World, Below B w2 W → KeepT 5 w2 W → W.cell? ⟨w.heap.size, 0, none⟩ = some (.slice (some ⟨ib, io, none⟩) its.length ik) ∧ W.cell? ⟨ib, io + i * 2, none⟩ = some (.string y.1) ∧ W.cell? ⟨ib, io + i * 2 + 1, none⟩ = some (.string y.2)) := fun W hb hk => by
          have h1 := ((unhide HD2).2.1.trans hb)
          exact ⟨(hk.nv (unhide HD2).2.2.1).cells.1, (h1.cell (p := ⟨ib, _, none⟩) (unhide HIB).1).trans (unhide HIB).2.1, (h1.cell (p := ⟨ib, _, none⟩) (unhide HIB).1).trans (unhide HIB).2.2⟩
        refine wp_region_held_drew (S := fun w' => w'.cell? ⟨w.heap.size, 0, none⟩ = some (.slice (some ⟨ib, io, none⟩) its.length ik) ∧ w'.cell? ⟨ib, io + i * 2, none⟩ = some (.string y.1) ∧ w'.cell? ⟨ib, io + i * 2 + 1, none⟩ = some (.string y.2)) (by kernel_rfl) (unhide HS7 _ (Below.refl _ _).drew (KeepT.of_below (Below.refl _ _).drew)) (fun hHeld => ?_)
        obtain ⟨WS, hWS⟩ : ∃ WS, WS = w2.drew := ⟨_, rfl⟩
        rw [← hWS] at hHeld ⊢
        have HB : Hid (Below B w2 WS ∧ KeepT 5 w2 WS) := by rw [hWS]; exact ⟨(Below.refl _ _).drew, KeepT.of_below (Below.refl _ _).drew⟩
        have HR : Hid (WS.ownsRow B 5 1 v (m + (dumpL (its.take i)).length) (xs ++ Lib.byteCells (dumpL (its.take i)))) := by rw [hWS]; exact (unhide HD2).1
        clear hWS
        refine hand_to (i := 0) (d := 27) (v := v) rfl rfl (by kernel_rfl) (by kernel_rfl) (by kernel_rfl) (fun _ _ _ h => h) (Or.inl ⟨by rfl, ?_⟩) hHeld ?_
        · (intro w' hSw; obtain ⟨y0, y1, y2⟩ := hSw; go_simp)
        simp only [Act.put, List.setIfInBounds_toArray, List.set_cons_zero, List.set_cons_succ]
        refine hand_to (i := 1) (d := 28) (v := (.pointer (some ⟨w.heap.size, 0, none⟩))) rfl rfl (by kernel_rfl) (by kernel_rfl) (by kernel_rfl) (fun _ _ _ h => h) (Or.inl ⟨by rfl, ?_⟩) hHeld ?_
        · (intro w' hSw; obtain ⟨y0, y1, y2⟩ := hSw; go_simp)
        simp only [Act.put, List.setIfInBounds_toArray, List.set_cons_zero, List.set_cons_succ]
        refine hand_to (i := 2) (d := 29) (v := (.slice (some ⟨ib, io, none⟩) its.length ik)) rfl rfl (by kernel_rfl) (by kernel_rfl) (by kernel_rfl) (fun _ _ _ h => h) (Or.inl ⟨by rfl, ?_⟩) hHeld ?_
        · (intro w' hSw; obtain ⟨y0, y1, y2⟩ := hSw; go_simp)
        simp only [Act.put, List.setIfInBounds_toArray, List.set_cons_zero, List.set_cons_succ]
        refine hand_to (i := 3) (d := 30) (v := (.int .i64 (i : Int))) rfl rfl (by kernel_rfl) (by kernel_rfl) (by kernel_rfl) (fun _ _ _ h => h) (Or.inl ⟨by rfl, ?_⟩) hHeld ?_
        · (intro w' hSw; obtain ⟨y0, y1, y2⟩ := hSw; go_simp)
        simp only [Act.put, List.setIfInBounds_toArray, List.set_cons_zero, List.set_cons_succ]
        refine hand_to (i := 4) (d := 31) (v := (.pointer (some ⟨ib, io + i * 2, none⟩))) rfl rfl (by kernel_rfl) (by kernel_rfl) (by kernel_rfl) (fun _ _ _ h => h) (Or.inl ⟨by rfl, ?_⟩) hHeld ?_
        · (intro w' hSw; obtain ⟨y0, y1, y2⟩ := hSw; go_simp)
        simp only [Act.put, List.setIfInBounds_toArray, List.set_cons_zero, List.set_cons_succ]
        refine hand_to (i := 5) (d := 32) (v := (.pointer (some ⟨ib, io + i * 2, none⟩))) rfl rfl (by kernel_rfl) (by kernel_rfl) (by kernel_rfl) (fun _ _ _ h => h) (Or.inl ⟨by rfl, ?_⟩) hHeld ?_
        · (intro w' hSw; obtain ⟨y0, y1, y2⟩ := hSw; go_simp)
        simp only [Act.put, List.setIfInBounds_toArray, List.set_cons_zero, List.set_cons_succ]
        refine hand_to (i := 6) (d := 33) (v := (.string y.1)) rfl rfl (by kernel_rfl) (by kernel_rfl) (by kernel_rfl) (fun _ _ _ h => h) (Or.inl ⟨by rfl, ?_⟩) hHeld ?_
        · (intro w' hSw; obtain ⟨y0, y1, y2⟩ := hSw; go_simp)
        simp only [Act.put, List.setIfInBounds_toArray, List.set_cons_zero, List.set_cons_succ]
        refine hand_to (i := 8) (d := 35) (v := (.pointer (some ⟨w.heap.size, 0, none⟩))) rfl rfl (by kernel_rfl) (by kernel_rfl) (by kernel_rfl) (fun _ _ _ h => h) (Or.inl ⟨by rfl, ?_⟩) hHeld ?_
        · (intro w' hSw; obtain ⟨y0, y1, y2⟩ := hSw; go_simp)
        simp only [Act.put, List.setIfInBounds_toArray, List.set_cons_zero, List.set_cons_succ]
        refine hand_to (i := 9) (d := 36) (v := (.slice (some ⟨ib, io, none⟩) its.length ik)) rfl rfl (by kernel_rfl) (by kernel_rfl) (by kernel_rfl) (fun _ _ _ h => h) (Or.inl ⟨by rfl, ?_⟩) hHeld ?_
        · (intro w' hSw; obtain ⟨y0, y1, y2⟩ := hSw; go_simp)
        simp only [Act.put, List.setIfInBounds_toArray, List.set_cons_zero, List.set_cons_succ]
        refine hand_to (i := 10) (d := 37) (v := (.int .i64 (i : Int))) rfl rfl (by kernel_rfl) (by kernel_rfl) (by kernel_rfl) (fun _ _ _ h => h) (Or.inl ⟨by rfl, ?_⟩) hHeld ?_
        · (intro w' hSw; obtain ⟨y0, y1, y2⟩ := hSw; go_simp)
        simp only [Act.put, List.setIfInBounds_toArray, List.set_cons_zero, List.set_cons_succ]
        refine hand_to (i := 11) (d := 38) (v := (.pointer (some ⟨ib, io + i * 2, none⟩))) rfl rfl (by kernel_rfl) (by kernel_rfl) (by kernel_rfl) (fun _ _ _ h => h) (Or.inl ⟨by rfl, ?_⟩) hHeld ?_
        · (intro w' hSw; obtain ⟨y0, y1, y2⟩ := hSw; go_simp)
        simp only [Act.put, List.setIfInBounds_toArray, List.set_cons_zero, List.set_cons_succ]
        refine hand_to (i := 12) (d := 39) (v := (.pointer (some ⟨ib, io + i * 2 + 1, none⟩))) rfl rfl (by kernel_rfl) (by kernel_rfl) (by kernel_rfl) (fun _ _ _ h => h) (Or.inl ⟨by rfl, ?_⟩) hHeld ?_
        · (intro w' hSw; obtain ⟨y0, y1, y2⟩ := hSw; go_simp)
        simp only [Act.put, List.setIfInBounds_toArray, List.set_cons_zero, List.set_cons_succ]
        refine hand_to (i := 13) (d := 40) (v := (.string y.2)) rfl rfl (by kernel_rfl) (by kernel_rfl) (by kernel_rfl) (fun _ _ _ h => h) (Or.inl ⟨by rfl, ?_⟩) hHeld ?_
        · (intro w' hSw; obtain ⟨y0, y1, y2⟩ := hSw; go_simp)
        simp only [Act.put, List.setIfInBounds_toArray, List.set_cons_zero, List.set_cons_succ]
        refine wpAnyH_ready (rs := [7]) (by kernel_rfl) (by simp) ?_
        refine AllReadyH.cons rfl (fun K hK => ?_) AllReadyH.nil
        skip
        go_simp
        (go_at_call 43; refine (unhide HT1 WS (unhide HB).1 (unhide HB).2 (unhide HR)).mono ?_; rintro e V7 ⟨v7, rfl, ho, hbb, hkk⟩)
        (go_wp2_with fail)
        replace HR := hide ho
        replace HB := hide (And.intro ((unhide HB).1.trans hbb) ((unhide HB).2.trans hkk))
        clear ho hbb hkk
        refine hK.out _ _ (unhide HS7 V7 (unhide HB).1 (unhide HB).2) (fun hHeld2 => ?_)
        clear hK K hHeld
        have hHeld := hHeld2
        clear hHeld2
        try simp only [Act.put, List.setIfInBounds_toArray, List.set_cons_zero, List.set_cons_succ]
        refine wpAnyH_ready (rs := [14]) (by kernel_rfl) (by simp) ?_
        refine AllReadyH.cons rfl (fun K hK => ?_) AllReadyH.nil
        skip
        go_simp
        (go_at_call 43; refine (unhide HT2 V7 v7 (unhide HB).1 (unhide HB).2 (unhide HR)).mono ?_; rintro e V14 ⟨v14, rfl, ho, hbb, hkk⟩)
        (go_wp2_with fail)
        replace HR := hide ho
        replace HB := hide (And.intro ((unhide HB).1.trans hbb) ((unhide HB).2.trans hkk))
        clear ho hbb hkk
        refine hK.out _ _ (unhide HS7 V14 (unhide HB).1 (unhide HB).2) (fun hHeld2 => ?_)
        clear hK K hHeld
        have hHeld := hHeld2
        clear hHeld2
        try simp only [Act.put, List.setIfInBounds_toArray, List.set_cons_zero, List.set_cons_succ]
        refine hand_to (i := 15) (d := 1) (v := v14) rfl rfl (by kernel_rfl) (by kernel_rfl) (by kernel_rfl) (fun _ _ _ h => h) (Or.inl ⟨by rfl, ?_⟩) hHeld ?_
        · (intro w' hSw; obtain ⟨y0, y1, y2⟩ := hSw; go_simp)
        simp only [Act.put, List.setIfInBounds_toArray, List.set_cons_zero, List.set_cons_succ]
        refine wpAnyH_done (by kernel_rfl) ?_ _
        go_wp2_with fail
        go_roundw
        case rel =>
          refine ⟨i + 1, v14, rfl, by simp, by omega, ?_⟩
          have h := (unhide HD2).more (Q := [y]) (own_cast2 (unhide HR) (by rw [dumpL_one]; unfold itB; rw [List.length_append]; omega) (by rw [dumpL_one]; unfold itB; rw [byteC_app]; simp only [List.append_assoc])) (unhide HB).1 (unhide HB).2
          rw [← unhide HTK] at h
          exact h
        case measure => simp [RowKit.intOf]; omega
      · have hlii : ¬ ((i : Int) < (its.length : Int)) := by omega
        clear HI
        go_wp2_with (go_at_call 36; refine (unhide HI2).mono ?_; rintro e w2 ⟨rfl, hb2⟩; clear HI2; obtain ⟨d20, d21, _, _⟩ := (NV.below (unhide HD).2.2.1 (unhide hb2)).cells)
        go_roundw
        case rel =>
          refine ⟨i + 1, _, rfl, by simp, by omega, ?_⟩
          obtain ⟨u1, u2, u3, u4, u5⟩ := unhide HD
          have hb := unhide hb2
          have e : its.take (i + 1) = its.take i := by rw [List.take_of_length_le (by omega), List.take_of_length_le (by omega)]
          rw [e]
          exact ⟨own_after u1 hb, u2.trans (hb.mono (by have := unhide HBw; omega)), u3.below hb, Nat.le_trans u4 hb.size, u5.trans (KeepT.of_below hb)⟩
        case measure => simp [RowKit.intOf]; omega
    · have hlti : ¬ ((i : Int) < (its.length : Int) + 1) := by omega
      obtain ⟨va, vc, hv⟩ := own_sl (unhide HD).1
      obtain ⟨vn, hvn⟩ : ∃ vn, vn = m + (dumpL (its.take i)).length := ⟨_, rfl⟩
      rw [← hvn] at hv
      subst hv
      have HE : Hid (DumpP w B m xs its (.returned (.slice va vn vc)) wr) := by
        obtain ⟨u1, u2, u3, u4, u5⟩ := unhide HD
        rw [List.take_of_length_le (by omega)] at u1
        exact ⟨_, rfl, u1, u2, u5⟩
      clear HD HI hvn
      go_wp2_with fail
      go_ret
      exact unhide HE
end
theorem wpre_snoc : ∀ (a : List It) (c : List (List It)) (x : It) (k : List It), a.length = c.length → wpre (a ++ [x]) (c ++ [k]) = wpre a c ++ k ++ [x]
  | [], [], x, k, _ => by simp [wpre]
  | [], _ :: _, _, _, h => by simp at h
  | _ :: _, [], _, _, h => by simp at h
  | y :: a, l :: c, x, k, h => by
    have ih := wpre_snoc a c x k (by simpa using h)
    simp only [List.cons_append, wpre, ih]
    simp
/-- What was written ahead of place i. -/
def PI (d : Nat) (its : List It) (kids : List (BT (d + 1))) (i : Nat) : List It := if i ≤ its.length then wpre (its.take i) ((kids.take i).map (flat d)) else flat (d + 1) (BT.mk its kids)
theorem PI_zero (d : Nat) (its : List It) (kids : List (BT (d + 1))) : PI d its kids 0 = [] := by
  unfold PI; rw [if_pos (Nat.zero_le _)]; simp [wpre]
theorem PI_mid {d i : Nat} {its : List It} {kids : List (BT (d + 1))} {k : BT (d + 1)} {y : It} (hn : kids.length = its.length + 1) (hk : kids[i]? = some k) (hy : its[i]? = some y) : PI d its kids (i + 1) = PI d its kids i ++ flat d k ++ [y] := by
  have hi := (List.getElem?_eq_some_iff.1 hy).1
  unfold PI
  rw [if_pos (by omega), if_pos (by omega)]
  have h1 : its.take (i + 1) = its.take i ++ [y] := by rw [List.take_add_one, hy]; rfl
  have h2 : kids.take (i + 1) = kids.take i ++ [k] := by rw [List.take_add_one, hk]; rfl
  rw [h1, h2, List.map_append, List.map_cons, List.map_nil, wpre_snoc _ _ _ _ (by simp; omega)]
theorem PI_end {d i : Nat} {its : List It} {kids : List (BT (d + 1))} {k : BT (d + 1)} (hn : kids.length = its.length + 1) (hk : kids[i]? = some k) (hi : i = its.length) : PI d its kids (i + 1) = PI d its kids i ++ flat d k := by
  unfold PI
  rw [if_neg (by omega), if_pos (by omega)]
  obtain ⟨A, B, e1, e2, e3, _⟩ := flat_around (t := BT.mk its kids) hn hk
  simp only [BT.its_mk, BT.kids_mk] at e2 e3
  rw [e1, e2, e3, List.drop_eq_nil_of_le (by omega)]
  simp [wpost]
theorem PI_sub {d : Nat} {its : List It} {kids : List (BT (d + 1))} (hn : kids.length = its.length + 1) : ∀ n i, its.length + 1 - i = n → ∃ r, flat (d + 1) (BT.mk its kids) = PI d its kids i ++ r
  | 0, i, h => ⟨[], by unfold PI; rw [if_neg (by omega), List.append_nil]⟩
  | n + 1, i, h => by
    obtain ⟨r, hr⟩ := PI_sub hn n (i + 1) (by omega)
    have hk : kids[i]? = some (kids[i]'(by omega)) := List.getElem?_eq_getElem _
    rcases Nat.lt_or_ge i its.length with hi | hi
    · have hy : its[i]? = some its[i] := List.getElem?_eq_getElem hi
      rw [PI_mid hn hk hy] at hr
      exact ⟨_, by rw [hr, List.append_assoc, List.append_assoc]⟩
    · rw [PI_end hn hk (by omega)] at hr
      exact ⟨_, by rw [hr, List.append_assoc]⟩
section
variable {w : World} {O : Nat → Prop} {B m : Nat} {xs : List Value} {vi vk v0 : Value}
set_option maxHeartbeats 25600000 in
set_option maxRecDepth 100000 in
theorem dump_1 {d : Nat} {its : List It} {kids : List (BT (d + 1))} {F : List It} (ht : NP w O (d + 1) its kids vi vk) (hs : Shp (d + 1) (BT.mk its kids)) (hO : ∀ g, O g → g < B) (hB : B ≤ w.heap.size) (ho : w.ownsRow B 5 1 v0 m xs) (hF : flat (d + 1) (BT.mk its kids) = F) (hsm : Sml F) (hl : m + (dumpL F).length ≤ 1000000000) (h15 : its.length ≤ 1000)
    (IH : ∀ (k : BT (d + 1)) (ki kk v' : Value) (W : World) (m' : Nat) (xs' : List Value), k ∈ kids → NodeAt W O d k ki kk → B ≤ W.heap.size → W.ownsRow B 5 1 v' m' xs' → m' + (dumpL (flat d k)).length ≤ 1000000000 → Calls Tryz.prog 26 #[.agg #[ki, kk], v'] W (DumpP W B m' xs' (flat d k))) :
    Calls Tryz.prog 26 #[.agg #[vi, vk], v0] w (DumpP w B m xs F) := by
  obtain ⟨ia, ik, ka, kk, rfl, rfl⟩ := ht.slices
  obtain ⟨oa, ok, rfl⟩ := own_sl ho
  have hn1 : kids.length = its.length + 1 := (shp_succ.1 hs).1
  obtain ⟨W0, hW0⟩ : ∃ W0, W0 = w.alloc (.cells #[.slice ia its.length ik, .slice ka kids.length kk] 54) := ⟨_, rfl⟩
  have hb0 : Below w.heap.size w W0 := by rw [hW0]; exact (Below.refl _ _).alloc (Nat.le_refl _) _
  have H0 : Hid (DH w B m xs [] (.slice ia its.length ik) (.slice ka kids.length kk) (.slice oa m ok) W0) := by
    refine ⟨own_cast2 (own_after ho hb0) (by simp [dumpL]) (by simp [dumpL, Lib.byteCells]), hb0.mono hB, by rw [hW0]; exact NV.new _ _ _, by rw [hW0, World.size_alloc]; exact Nat.le_refl _, KeepT.of_below hb0⟩
  obtain ⟨c20, c21, _, _⟩ := (unhide H0).2.2.1.cells
  have HI : Hid (∀ W : World, Below B w W → KeepT 5 w W → NV W w.heap.size (.slice ia its.length ik) (.slice ka kids.length kk) → Calls Tryz.prog 36 #[.agg #[.slice ia its.length ik, .slice ka kids.length kk]] W fun e w2 => e = .returned (.bool true) ∧ Hid (Below W.heap.size W w2)) := by
    intro W hb hk hv
    obtain ⟨t1, ks, t2, t3⟩ := ht
    refine (inner_any _ _ ks W ((t2.keep hb.size (fun g hg _ => hb.block g (hO g hg))).1)).mono ?_
    rintro e w2 ⟨rfl, hb2⟩
    exact ⟨by rw [t3.len]; simp; omega, hb2⟩
  have HBw := hide hB
  have HA := hide (And.intro ht (And.intro hO (And.intro hsm (And.intro hl (And.intro hn1 (And.intro hF IH))))))
  have hn15 : (its.length : Int) ≤ 1000 := by omega
  have hwn : IntKind.i64.wrap ((its.length : Int) + 1) = (its.length : Int) + 1 := by rw [IntKind.wrap_i64] <;> omega
  clear ht hs hO hB ho hsm hl h15 hn1 hb0 IH hF
  go_enter Tryz.func26, Tryz.ntmps26
  go_wp2_with fail
  rw [← hW0]
  clear hW0 c20 c21
  go_loopw [1, 10] (fun s1 s10 wr => ∃ (i : Nat) (v : Value), s1 = v ∧ s10 = .int .i64 (i : Int) ∧ i ≤ its.length + 1 ∧ Hid (DH w B m xs (PI d its kids i) (.slice ia its.length ik) (.slice ka kids.length kk) v wr)) (fun _ s10 _ => its.length + 1 - (RowKit.intOf s10).toNat)
  case atStart => exact ⟨0, _, rfl, rfl, Nat.zero_le _, by rw [PI_zero]; exact unhide H0⟩
  case round =>
    obtain ⟨i, v, rfl, rfl, hi1, HD⟩ := hrel
    clear H0
    by_cases hlt : i < its.length + 1
    · have hlti : (i : Int) < (its.length : Int) + 1 := by omega
      have hwi : IntKind.i64.wrap ((i : Int) + 1) = (i : Int) + 1 := by rw [IntKind.wrap_i64] <;> omega
      have hik : i < kids.length := by have := (unhide HA).2.2.2.2.1; omega
      have hiki : (i : Int) < (kids.length : Int) := by omega
      have hi0 : (0 : Int) ≤ (i : Int) := by omega
      have hki : kids[i]? = some (kids[i]'hik) := List.getElem?_eq_getElem _
      generalize kids[i]'hik = k at hki
      obtain ⟨t1, ks, t2, t3⟩ := (unhide HA).1
      obtain ⟨vki, vkk, ek, hkn⟩ := t3.get hki
      obtain ⟨kb, ko, hka, hkb, l0, l1⟩ := t2.1.at ek
      subst hka
      obtain ⟨kia, kik, kka, kkk, rfl, rfl⟩ := one_cells hkn
      have HKB : Hid (kb < B ∧ w.cell? ⟨kb, ko + i * 2, none⟩ = some (.slice kia k.its.length kik) ∧ w.cell? ⟨kb, ko + i * 2 + 1, none⟩ = some (.slice kka k.kids.length kkk) ∧ NodeAt w O d k (.slice kia k.its.length kik) (.slice kka k.kids.length kkk) ∧ kids[i]? = some k) := ⟨(unhide HA).2.1 kb (t2.2 kb ⟨_, _, _, rfl⟩), l0, l1, hkn, hki⟩
      have HLk : Hid (m + (dumpL (PI d its kids i)).length + (dumpL (flat d k)).length ≤ 1000000000) := by
        obtain ⟨a1, a2, a3, a4, a5, a6, a7⟩ := unhide HA
        obtain ⟨r, hr⟩ := PI_sub a5 _ (i + 1) rfl
        rw [a6] at hr
        show _ ≤ _
        rcases Nat.lt_or_ge i its.length with hi | hi
        · rw [PI_mid a5 hki (List.getElem?_eq_getElem hi)] at hr
          rw [hr, dumpL_app, dumpL_app, dumpL_app] at a4
          simp only [List.length_append] at a4
          omega
        · rw [PI_end a5 hki (by omega)] at hr
          rw [hr, dumpL_app, dumpL_app] at a4
          simp only [List.length_append] at a4
          omega
      obtain ⟨va, vc, hv⟩ := own_sl (unhide HD).1
      obtain ⟨vn, hvn⟩ : ∃ vn, vn = m + (dumpL (PI d its kids i)).length := ⟨_, rfl⟩
      rw [← hvn] at hv
      subst hv
      have HVN := hide hvn
      clear hvn t1 t2 t3 ek hkn hkb l0 l1 hki hik
      have HI2 := hide (unhide HI wr (unhide HD).2.1 (unhide HD).2.2.2.2 (unhide HD).2.2.1)
      obtain ⟨c20, c21, _, _⟩ := (unhide HD).2.2.1.cells
      clear HI
      go_upto_region 5 with (go_at_call 36; refine (unhide HI2).mono ?_; rintro e w2 ⟨rfl, hb2⟩; clear HI2)
      have HD1 : Hid (DH w B m xs (PI d its kids i) (.slice ia its.length ik) (.slice (some ⟨kb, ko, none⟩) kids.length kk) (.slice va vn vc) w2) := by
        obtain ⟨u1, u2, u3, u4, u5⟩ := unhide HD
        have hb := unhide hb2
        exact ⟨own_after u1 hb, u2.trans (hb.mono (by have := unhide HBw; omega)), u3.below hb, Nat.le_trans u4 hb.size, u5.trans (KeepT.of_below hb)⟩
      clear HD hb2 c20 c21
      obtain ⟨d20, d21, _, _⟩ := (unhide HD1).2.2.1.cells
      obtain ⟨l0, l1⟩ : w2.cell? ⟨kb, ko + i * 2, none⟩ = some (.slice kia k.its.length kik) ∧ w2.cell? ⟨kb, ko + i * 2 + 1, none⟩ = some (.slice kka k.kids.length kkk) := ⟨((unhide HD1).2.1.cell (p := ⟨kb, _, none⟩) (unhide HKB).1).trans (unhide HKB).2.1, ((unhide HD1).2.1.cell (p := ⟨kb, _, none⟩) (unhide HKB).1).trans (unhide HKB).2.2.1⟩
      have HKd : Hid (Calls Tryz.prog 26 #[.agg #[.slice kia k.its.length kik, .slice kka k.kids.length kkk], .slice va vn vc] w2 fun e w3 => ∃ va' vn' vc', e = .returned (.slice va' vn' vc') ∧ (w3.cell? ⟨w.heap.size, 0, none⟩ = some (.slice ia its.length ik) ∧ w3.cell? ⟨w.heap.size, 1, none⟩ = some (.slice (some ⟨kb, ko, none⟩) kids.length kk)) ∧ Hid (DH w B m xs (PI d its kids i ++ flat d k) (.slice ia its.length ik) (.slice (some ⟨kb, ko, none⟩) kids.length kk) (.slice va' vn' vc') w3)) := by
        obtain ⟨a1, a2, a3, a4, a5, a6, a7⟩ := unhide HA
        obtain ⟨u1, u2, u3, u4, u5⟩ := unhide HD1
        refine (a7 k _ _ _ w2 _ _ (List.mem_of_getElem? (unhide HKB).2.2.2.2) ((unhide HKB).2.2.2.1.keep u2.size (fun g hg _ => u2.block g (a2 g hg))) (by have := unhide HBw; omega) u1 (by have := unhide HLk; omega)).mono ?_
        rintro e w3 ⟨v', rfl, z1, z2, z3⟩
        obtain ⟨va', vc', rfl⟩ := own_sl z1
        have h := (unhide HD1).more (Q := flat d k) z1 z2 z3
        exact ⟨va', _, vc', rfl, ⟨h.2.2.1.cells.1, h.2.2.1.cells.2.1⟩, h⟩
      by_cases hli : i < its.length
      · have hlii : (i : Int) < (its.length : Int) := by omega
        have hy : its[i]? = some (its[i]'hli) := List.getElem?_eq_getElem _
        generalize its[i]'hli = y at hy
        obtain ⟨ib, io, hia, hib, y0, y1⟩ := (unhide HA).1.1.1.at (i := i) (x := itV y) (by rw [List.getElem?_map, hy]; rfl)
        subst hia
        have HIB : Hid (ib < B ∧ w.cell? ⟨ib, io + i * 2, none⟩ = some (.string y.1) ∧ w.cell? ⟨ib, io + i * 2 + 1, none⟩ = some (.string y.2)) := ⟨(unhide HA).2.1 ib ((unhide HA).1.1.2 ib ⟨_, _, _, rfl⟩), y0, y1⟩
        have htk : PI d its kids (i + 1) = PI d its kids i ++ flat d k ++ [y] := PI_mid (unhide HA).2.2.2.2.1 (unhide HKB).2.2.2.2 hy
        have HSy : Hid (y.1.size ≤ 1000000 ∧ y.2.size ≤ 1000000) := by
          obtain ⟨a1, a2, a3, a4, a5, a6, a7⟩ := unhide HA
          exact a3 y (by rw [← a6]; exact (its_sub (BT.mk its kids)).subset (List.mem_of_getElem? hy))
        have HLen : Hid (m + (dumpL (PI d its kids i ++ flat d k)).length + (txtB y.1).length + (txtB y.2).length ≤ 1000000000) := by
          obtain ⟨a1, a2, a3, a4, a5, a6, a7⟩ := unhide HA
          obtain ⟨r, hr⟩ := PI_sub a5 _ (i + 1) rfl
          rw [a6, htk] at hr
          rw [hr, dumpL_app, dumpL_app _ [y], dumpL_one] at a4
          unfold itB at a4
          simp only [List.length_append] at a4
          show _ ≤ _
          omega
        have HTK := hide htk
        clear hib y0 y1 hy htk
        go_upto_region 7 with (go_at_call 26; refine (unhide HKd).mono ?_; rintro e w3 ⟨va', vn', vc', rfl, ⟨e20, e21⟩, HD2⟩; clear HKd)
        clear HD1 d20 d21 l0 l1 e20 e21
        obtain ⟨v, hv⟩ : ∃ v, v = Value.slice va' vn' vc' := ⟨_, rfl⟩
        rw [← hv] at HD2 ⊢
        clear hv
        have HT1 : Hid (∀ W : World, Below B w3 W → KeepT 5 w3 W → W.ownsRow B 5 1 v (m + (dumpL (PI d its kids i ++ flat d k)).length) (xs ++ Lib.byteCells (dumpL (PI d its kids i ++ flat d k))) → Calls Tryz.prog 43 #[v, .string y.1] W fun e w' => ∃ v', e = .returned v' ∧ w'.ownsRow B 5 1 v' (m + (dumpL (PI d its kids i ++ flat d k)).length + (txtB y.1).length) (xs ++ Lib.byteCells (dumpL (PI d its kids i ++ flat d k)) ++ Lib.byteCells (txtB y.1)) ∧ Below B W w' ∧ KeepT 5 W w') := fun W hb hk ho => appendText_any B _ y.1 v _ W (by have := unhide HLen; omega) (unhide HSy).1 (by have h1 := (unhide HD2).2.1.size; have h2 := hb.size; have h3 := unhide HBw; omega) ho
        have HT2 : Hid (∀ (W : World) (v : Value), Below B w3 W → KeepT 5 w3 W → W.ownsRow B 5 1 v (m + (dumpL (PI d its kids i ++ flat d k)).length + (txtB y.1).length) (xs ++ Lib.byteCells (dumpL (PI d its kids i ++ flat d k)) ++ Lib.byteCells (txtB y.1)) → Calls Tryz.prog 43 #[v, .string y.2] W fun e w' => ∃ v', e = .returned v' ∧ w'.ownsRow B 5 1 v' (m + (dumpL (PI d its kids i ++ flat d k)).length + (txtB y.1).length + (txtB y.2).length) (xs ++ Lib.byteCells (dumpL (PI d its kids i ++ flat d k)) ++ Lib.byteCells (txtB y.1) ++ Lib.byteCells (txtB y.2)) ∧ Below B W w' ∧ KeepT 5 W w') := fun W v hb hk ho => appendText_any B _ y.2 v _ W (by have := unhide HLen; omega) (unhide HSy).2 (by have h1 := (unhide HD2).2.1.size; have h2 := hb.size; have h3 := unhide HBw; omega) ho
        have HS7 : Hid (∀ W : World, Below B w3 W → KeepT 5 w3 W → W.cell? ⟨w.heap.size, 0, none⟩ = some (.slice (some ⟨ib, io, none⟩) its.length ik) ∧ W.cell? ⟨ib, io + i * 2, none⟩ = some (.string y.1) ∧ W.cell? ⟨ib, io + i * 2 + 1, none⟩ = some (.string y.2)) := fun W hb hk => by
          have h1 := ((unhide HD2).2.1.trans hb)
          exact ⟨(hk.nv (unhide HD2).2.2.1).cells.1, (h1.cell (p := ⟨ib, _, none⟩) (unhide HIB).1).trans (unhide HIB).2.1, (h1.cell (p := ⟨ib, _, none⟩) (unhide HIB).1).trans (unhide HIB).2.2⟩
        refine wp_region_held_drew (S := fun w' => w'.cell? ⟨w.heap.size, 0, none⟩ = some (.slice (some ⟨ib, io, none⟩) its.length ik) ∧ w'.cell? ⟨ib, io + i * 2, none⟩ = some (.string y.1) ∧ w'.cell? ⟨ib, io + i * 2 + 1, none⟩ = some (.string y.2)) (by kernel_rfl) (unhide HS7 _ (Below.refl _ _).drew (KeepT.of_below (Below.refl _ _).drew)) (fun hHeld => ?_)
        obtain ⟨WS, hWS⟩ : ∃ WS, WS = w3.drew := ⟨_, rfl⟩
        rw [← hWS] at hHeld ⊢
        have HB : Hid (Below B w3 WS ∧ KeepT 5 w3 WS) := by rw [hWS]; exact ⟨(Below.refl _ _).drew, KeepT.of_below (Below.refl _ _).drew⟩
        have HR : Hid (WS.ownsRow B 5 1 v (m + (dumpL (PI d its kids i ++ flat d k)).length) (xs ++ Lib.byteCells (dumpL (PI d its kids i ++ flat d k)))) := by rw [hWS]; exact (unhide HD2).1
        clear hWS
        refine hand_to (i := 0) (d := 27) (v := v) rfl rfl (by kernel_rfl) (by kernel_rfl) (by kernel_rfl) (fun _ _ _ h => h) (Or.inl ⟨by rfl, ?_⟩) hHeld ?_
        · (intro w' hSw; obtain ⟨y0, y1, y2⟩ := hSw; go_simp)
        simp only [Act.put, List.setIfInBounds_toArray, List.set_cons_zero, List.set_cons_succ]
        refine hand_to (i := 1) (d := 28) (v := (.pointer (some ⟨w.heap.size, 0, none⟩))) rfl rfl (by kernel_rfl) (by kernel_rfl) (by kernel_rfl) (fun _ _ _ h => h) (Or.inl ⟨by rfl, ?_⟩) hHeld ?_
        · (intro w' hSw; obtain ⟨y0, y1, y2⟩ := hSw; go_simp)
        simp only [Act.put, List.setIfInBounds_toArray, List.set_cons_zero, List.set_cons_succ]
        refine hand_to (i := 2) (d := 29) (v := (.slice (some ⟨ib, io, none⟩) its.length ik)) rfl rfl (by kernel_rfl) (by kernel_rfl) (by kernel_rfl) (fun _ _ _ h => h) (Or.inl ⟨by rfl, ?_⟩) hHeld ?_
        · (intro w' hSw; obtain ⟨y0, y1, y2⟩ := hSw; go_simp)
        simp only [Act.put, List.setIfInBounds_toArray, List.set_cons_zero, List.set_cons_succ]
        refine hand_to (i := 3) (d := 30) (v := (.int .i64 (i : Int))) rfl rfl (by kernel_rfl) (by kernel_rfl) (by kernel_rfl) (fun _ _ _ h => h) (Or.inl ⟨by rfl, ?_⟩) hHeld ?_
        · (intro w' hSw; obtain ⟨y0, y1, y2⟩ := hSw; go_simp)
        simp only [Act.put, List.setIfInBounds_toArray, List.set_cons_zero, List.set_cons_succ]
        refine hand_to (i := 4) (d := 31) (v := (.pointer (some ⟨ib, io + i * 2, none⟩))) rfl rfl (by kernel_rfl) (by kernel_rfl) (by kernel_rfl) (fun _ _ _ h => h) (Or.inl ⟨by rfl, ?_⟩) hHeld ?_
        · (intro w' hSw; obtain ⟨y0, y1, y2⟩ := hSw; go_simp)
        simp only [Act.put, List.setIfInBounds_toArray, List.set_cons_zero, List.set_cons_succ]
        refine hand_to (i := 5) (d := 32) (v := (.pointer (some ⟨ib, io + i * 2, none⟩))) rfl rfl (by kernel_rfl) (by kernel_rfl) (by kernel_rfl) (fun _ _ _ h => h) (Or.inl ⟨by rfl, ?_⟩) hHeld ?_
        · (intro w' hSw; obtain ⟨y0, y1, y2⟩ := hSw; go_simp)
        simp only [Act.put, List.setIfInBounds_toArray, List.set_cons_zero, List.set_cons_succ]
        refine hand_to (i := 6) (d := 33) (v := (.string y.1)) rfl rfl (by kernel_rfl) (by kernel_rfl) (by kernel_rfl) (fun _ _ _ h => h) (Or.inl ⟨by rfl, ?_⟩) hHeld ?_
        · (intro w' hSw; obtain ⟨y0, y1, y2⟩ := hSw; go_simp)
        simp only [Act.put, List.setIfInBounds_toArray, List.set_cons_zero, List.set_cons_succ]
        refine hand_to (i := 8) (d := 35) (v := (.pointer (some ⟨w.heap.size, 0, none⟩))) rfl rfl (by kernel_rfl) (by kernel_rfl) (by kernel_rfl) (fun _ _ _ h => h) (Or.inl ⟨by rfl, ?_⟩) hHeld ?_
        · (intro w' hSw; obtain ⟨y0, y1, y2⟩ := hSw; go_simp)
        simp only [Act.put, List.setIfInBounds_toArray, List.set_cons_zero, List.set_cons_succ]
        refine hand_to (i := 9) (d := 36) (v := (.slice (some ⟨ib, io, none⟩) its.length ik)) rfl rfl (by kernel_rfl) (by kernel_rfl) (by kernel_rfl) (fun _ _ _ h => h) (Or.inl ⟨by rfl, ?_⟩) hHeld ?_
        · (intro w' hSw; obtain ⟨y0, y1, y2⟩ := hSw; go_simp)
        simp only [Act.put, List.setIfInBounds_toArray, List.set_cons_zero, List.set_cons_succ]
        refine hand_to (i := 10) (d := 37) (v := (.int .i64 (i : Int))) rfl rfl (by kernel_rfl) (by kernel_rfl) (by kernel_rfl) (fun _ _ _ h => h) (Or.inl ⟨by rfl, ?_⟩) hHeld ?_
        · (intro w' hSw; obtain ⟨y0, y1, y2⟩ := hSw; go_simp)
        simp only [Act.put, List.setIfInBounds_toArray, List.set_cons_zero, List.set_cons_succ]
        refine hand_to (i := 11) (d := 38) (v := (.pointer (some ⟨ib, io + i * 2, none⟩))) rfl rfl (by kernel_rfl) (by kernel_rfl) (by kernel_rfl) (fun _ _ _ h => h) (Or.inl ⟨by rfl, ?_⟩) hHeld ?_
        · (intro w' hSw; obtain ⟨y0, y1, y2⟩ := hSw; go_simp)
        simp only [Act.put, List.setIfInBounds_toArray, List.set_cons_zero, List.set_cons_succ]
        refine hand_to (i := 12) (d := 39) (v := (.pointer (some ⟨ib, io + i * 2 + 1, none⟩))) rfl rfl (by kernel_rfl) (by kernel_rfl) (by kernel_rfl) (fun _ _ _ h => h) (Or.inl ⟨by rfl, ?_⟩) hHeld ?_
        · (intro w' hSw; obtain ⟨y0, y1, y2⟩ := hSw; go_simp)
        simp only [Act.put, List.setIfInBounds_toArray, List.set_cons_zero, List.set_cons_succ]
        refine hand_to (i := 13) (d := 40) (v := (.string y.2)) rfl rfl (by kernel_rfl) (by kernel_rfl) (by kernel_rfl) (fun _ _ _ h => h) (Or.inl ⟨by rfl, ?_⟩) hHeld ?_
        · (intro w' hSw; obtain ⟨y0, y1, y2⟩ := hSw; go_simp)
        simp only [Act.put, List.setIfInBounds_toArray, List.set_cons_zero, List.set_cons_succ]
        refine wpAnyH_ready (rs := [7]) (by kernel_rfl) (by simp) ?_
        refine AllReadyH.cons rfl (fun K hK => ?_) AllReadyH.nil
        skip
        go_simp
        (go_at_call 43; refine (unhide HT1 WS (unhide HB).1 (unhide HB).2 (unhide HR)).mono ?_; rintro e V7 ⟨v7, rfl, ho, hbb, hkk⟩)
        (go_wp2_with fail)
        replace HR := hide ho
        replace HB := hide (And.intro ((unhide HB).1.trans hbb) ((unhide HB).2.trans hkk))
        clear ho hbb hkk
        refine hK.out _ _ (unhide HS7 V7 (unhide HB).1 (unhide HB).2) (fun hHeld2 => ?_)
        clear hK K hHeld
        have hHeld := hHeld2
        clear hHeld2
        try simp only [Act.put, List.setIfInBounds_toArray, List.set_cons_zero, List.set_cons_succ]
        refine wpAnyH_ready (rs := [14]) (by kernel_rfl) (by simp) ?_
        refine AllReadyH.cons rfl (fun K hK => ?_) AllReadyH.nil
        skip
        go_simp
        (go_at_call 43; refine (unhide HT2 V7 v7 (unhide HB).1 (unhide HB).2 (unhide HR)).mono ?_; rintro e V14 ⟨v14, rfl, ho, hbb, hkk⟩)
        (go_wp2_with fail)
        replace HR := hide ho
        replace HB := hide (And.intro ((unhide HB).1.trans hbb) ((unhide HB).2.trans hkk))
        clear ho hbb hkk
        refine hK.out _ _ (unhide HS7 V14 (unhide HB).1 (unhide HB).2) (fun hHeld2 => ?_)
        clear hK K hHeld
        have hHeld := hHeld2
        clear hHeld2
        try simp only [Act.put, List.setIfInBounds_toArray, List.set_cons_zero, List.set_cons_succ]
        refine hand_to (i := 15) (d := 1) (v := v14) rfl rfl (by kernel_rfl) (by kernel_rfl) (by kernel_rfl) (fun _ _ _ h => h) (Or.inl ⟨by rfl, ?_⟩) hHeld ?_
        · (intro w' hSw; obtain ⟨y0, y1, y2⟩ := hSw; go_simp)
        simp only [Act.put, List.setIfInBounds_toArray, List.set_cons_zero, List.set_cons_succ]
        refine wpAnyH_done (by kernel_rfl) ?_ _
        go_wp2_with fail
        go_roundw
        case rel =>
          refine ⟨i + 1, v14, rfl, by simp, by omega, ?_⟩
          have h := (unhide HD2).more (Q := [y]) (own_cast2 (unhide HR) (by rw [dumpL_one]; unfold itB; rw [List.length_append]; omega) (by rw [dumpL_one]; unfold itB; rw [byteC_app]; simp only [List.append_assoc])) (unhide HB).1 (unhide HB).2
          rw [← unhide HTK] at h
          exact h
        case measure => simp [RowKit.intOf]; omega
      · have hlii : ¬ ((i : Int) < (its.length : Int)) := by omega
        have HTK := hide (PI_end (unhide HA).2.2.2.2.1 (unhide HKB).2.2.2.2 (show i = its.length by omega))
        go_wp2_with (go_at_call 26; refine (unhide HKd).mono ?_; rintro e w3 ⟨va', vn', vc', rfl, ⟨e20, e21⟩, HD2⟩; clear HKd)
        go_roundw
        case rel => exact ⟨i + 1, _, rfl, by simp, by omega, by rw [unhide HTK]; exact unhide HD2⟩
        case measure => simp [RowKit.intOf]; omega
    · have hlti : ¬ ((i : Int) < (its.length : Int) + 1) := by omega
      obtain ⟨va, vc, hv⟩ := own_sl (unhide HD).1
      obtain ⟨vn, hvn⟩ : ∃ vn, vn = m + (dumpL (PI d its kids i)).length := ⟨_, rfl⟩
      rw [← hvn] at hv
      subst hv
      have HE : Hid (DumpP w B m xs F (.returned (.slice va vn vc)) wr) := by
        obtain ⟨u1, u2, u3, u4, u5⟩ := unhide HD
        have e : PI d its kids i = F := by unfold PI; rw [if_neg (by omega)]; exact (unhide HA).2.2.2.2.2.1
        rw [e] at u1
        exact ⟨_, rfl, u1, u2, u5⟩
      clear HD HI hvn
      go_wp2_with fail
      go_ret
      exact unhide HE
end
theorem Sml.sub {F G : List It} (h : Sml F) (hs : ∀ y ∈ G, y ∈ F) : Sml G := fun y hy => h y (hs y hy)
/-- A node's dump, whatever its height. -/
theorem dump_t {B : Nat} {O : Nat → Prop} (hO : ∀ g, O g → g < B) : ∀ (d : Nat) (t : BT (d + 1)) (vi vk v0 : Value) (w : World) (m : Nat) (xs : List Value), NodeAt w O d t vi vk → Shp d t → t.its.length ≤ 15 → B ≤ w.heap.size → w.ownsRow B 5 1 v0 m xs → Sml (flat d t) → m + (dumpL (flat d t)).length ≤ 1000000000 → Calls Tryz.prog 26 #[.agg #[vi, vk], v0] w (DumpP w B m xs (flat d t))
  | 0, t, vi, vk, v0, w, m, xs, hn, hs, h15, hB, ho, hsm, hl => dump_0 (its := t.its) (kids := t.kids) (node_iff.1 hn) hs hO hB ho hsm hl (by omega)
  | d + 1, t, vi, vk, v0, w, m, xs, hn, hs, h15, hB, ho, hsm, hl => by
    refine dump_1 (its := t.its) (kids := t.kids) (node_iff.1 hn) hs hO hB ho rfl hsm hl (by omega) (fun k ki kk v' W m' xs' hk hkn hBW ho' hl' => ?_)
    have hf := (shp_succ.1 hs).2 k hk
    obtain ⟨i, hi⟩ := List.getElem?_of_mem hk
    obtain ⟨A, B', e1, _⟩ := flat_around (t := t) (shp_succ.1 hs).1 hi
    exact dump_t hO d k ki kk v' W m' xs' hkn hf.1 hf.2.2 hBW ho' (hsm.sub (fun y hy => by rw [show flat (d + 1) t = A ++ flat d k ++ B' from e1]; simp [hy])) hl'
end Go.Proofs.YtlmjmhpdpgeplaaGreatDoor
