/- TreeOne: the same keys put in whatever order, with others put and taken out, have one dump. -/
import Derived.Test.YtmahkhpmaenkhaaDoorTOneM
namespace Go.Proofs.YtmahkhpmaenkhaaDoor
open Go.RowKit Go.Lib

/-- Numbers that came in. -/
def InK (w : World) (a : Option Addr) (ks : List Nat) : Prop := ∀ i, i < ks.length → ∃ b off, a = some ⟨b, off, none⟩ ∧ b < w.heap.size ∧ w.cell? ⟨b, off + i, none⟩ = some (.int .u16 ((ks.getD i 0 : Nat) : Int)) ∧ ks.getD i 0 < 65536
theorem InK.all {w : World} {a : Option Addr} {ks : List Nat} (h : InK w a ks) : ∀ i ∈ ks, i < 65536 := fun x hx => by
  obtain ⟨i, hi⟩ := List.getElem?_of_mem hx
  obtain ⟨hl, e⟩ := List.getElem?_eq_some_iff.1 hi
  obtain ⟨_, _, _, _, _, h4⟩ := h i hl
  rw [List.getD_eq_getElem?_getD, hi] at h4
  exact h4
theorem br_num (w : World) (j : Nat) : BR (w.alloc (.cells #[.int .u8 ((nb1 j).toNat : Int), .int .u8 ((nb0 j).toNat : Int)] 5)) (.slice (some ⟨w.heap.size, 0, none⟩) 2 2) (kN j) := br_lit w [nb1 j, nb0 j] _ _ 2
theorem br_val (w : World) (j : Nat) : BR (w.alloc (.cells #[.int .u8 ((nb0 j).toNat : Int)] 5)) (.slice (some ⟨w.heap.size, 0, none⟩) 1 1) (vN j) := br_lit w [nb0 j] _ _ 1
/-- Two trees beside one another. -/
def S1 (w W : World) (pa pb : Nat) (Fa Fb : List It) : Prop := Below w.heap.size w W ∧ TT W pa (fun g => g = pb) Fa ∧ TT W pb (fun g => g = pa) Fb ∧ w.heap.size ≤ pa ∧ w.heap.size ≤ pb
section
variable {w W W' : World} {pa pb : Nat} {Fa Fb : List It}
theorem S1.below (h : S1 w W pa pb Fa Fb) (hb : Below W.heap.size W W') : S1 w W' pa pb Fa Fb := ⟨below_tr h.1 hb, h.2.1.below hb, h.2.2.1.below hb, h.2.2.2⟩
theorem S1.putA {kv vv : Value} {x : It} (h : S1 w W pa pb Fa Fb) (hk : BR W kv x.1) (hv : BR W vv x.2) (hn : Fa.length ≤ 1000000) :
    Calls Tryd.prog 8 #[.pointer (some ⟨pa, 0, none⟩), kv, vv] W fun e W' => e = .returned (.bool (!hasL x.1 Fa)) ∧ S1 w W' pa pb (insL x Fa) Fb := by
  obtain ⟨h1, h2, h3, h4, h5⟩ := h
  refine (h2.put hk.txt hv.txt hn).mono ?_
  rintro e W' ⟨rfl, z1, z2⟩
  exact ⟨rfl, z2.below h1 h4 h1.size, z1, h3.other rfl z2, h4, h5⟩
theorem S1.putB {kv vv : Value} {x : It} (h : S1 w W pa pb Fa Fb) (hk : BR W kv x.1) (hv : BR W vv x.2) (hn : Fb.length ≤ 1000000) :
    Calls Tryd.prog 8 #[.pointer (some ⟨pb, 0, none⟩), kv, vv] W fun e W' => e = .returned (.bool (!hasL x.1 Fb)) ∧ S1 w W' pa pb Fa (insL x Fb) := by
  obtain ⟨h1, h2, h3, h4, h5⟩ := h
  refine (h3.put hk.txt hv.txt hn).mono ?_
  rintro e W' ⟨rfl, z1, z2⟩
  exact ⟨rfl, z2.below h1 h5 h1.size, h2.other rfl z2, z1, h4, h5⟩
theorem S1.delB {kv : Value} {key : ByteArray} (h : S1 w W pa pb Fa Fb) (hk : BR W kv key) (hn : Fb.length ≤ 1000000) :
    Calls Tryd.prog 10 #[.pointer (some ⟨pb, 0, none⟩), kv] W fun e W' => e = .returned (.bool (hasL key Fb)) ∧ S1 w W' pa pb Fa (delL key Fb) := by
  obtain ⟨h1, h2, h3, h4, h5⟩ := h
  refine (h3.del hk.txt hn).mono ?_
  rintro e W' ⟨rfl, z1, z2⟩
  exact ⟨rfl, z2.below h1 h5 h1.size, h2.other rfl z2, z1, h4, h5⟩
end
theorem br_own {w : World} {B n : Nat} {v : Value} (l : List UInt8) (h : w.ownsRow B 5 1 v n (Lib.byteCells l)) (hn : n = l.length) : BR w v ⟨l.toArray⟩ := by
  have hsz : (⟨l.toArray⟩ : ByteArray).size = l.length := List.size_toArray
  rcases Nat.eq_zero_or_pos n with h0 | h0
  · obtain ⟨a, k, rfl⟩ := own_sl h
    exact .inl ⟨by rw [hsz, ← hn, h0], a, k, by rw [h0]⟩
  · obtain ⟨g, cap, rfl, _, _, _, hg, hc⟩ := own_row1 h h0
    refine .inr ⟨g, 0, cap, by rw [hsz, hn], hg, fun i hi => ?_⟩
    have hi' : i < l.length := by rw [← hsz]; exact hi
    have := hc i (.int .u8 ((l.getD i 0).toNat : Int)) (by unfold Lib.byteCells; rw [List.getElem?_map, List.getElem?_eq_getElem hi', List.getD_eq_getElem?_getD, List.getElem?_eq_getElem hi']; rfl)
    rw [Go.WideShapes.add_plain] at this
    exact this
theorem bytes_br {w : World} {v v' : Value} {k : ByteArray} (h : BR w v k) (h' : BR w v' k) : Calls Tryd.prog 12 #[v, v'] w fun e w' => e = .returned (.bool true) ∧ w' = w := by
  have c1 := h.conv
  have c2 := h'.conv
  clear h h'
  go_enter Tryd.func12, Tryd.ntmps12
  go_wp2_with fail
  go_ret
  exact ⟨by simp, rfl⟩
/-- Row behind an append to a number's bytes. -/
theorem num_x {w w5 w6 : World} {j : Nat} {v6 : Value} (hw5 : w5 = w.alloc (.cells #[.int .u8 ((nb1 j).toNat : Int), .int .u8 ((nb0 j).toNat : Int)] 5)) (hown5 : w5.ownsRow w.heap.size 5 1 (.slice (some ⟨w.heap.size, 0, none⟩) 2 2) 2 [.int .u8 ((nb1 j).toNat : Int), .int .u8 ((nb0 j).toNat : Int)]) (hown6 : w6.ownsRow w.heap.size 5 1 v6 3 [.int .u8 ((nb1 j).toNat : Int), .int .u8 ((nb0 j).toNat : Int), .int .u8 120]) (hg6 : (w5.alloc (.cells #[.int .u8 120] 5)).grownBy w6 (Value.slice (some ⟨w.heap.size, 0, none⟩) 2 2).ownBlock) : Below w.heap.size w w6 ∧ BR w6 v6 (kX j) := by
  have hb5 : Below w.heap.size w w5 := by rw [hw5]; exact (Below.refl _ _).alloc (Nat.le_refl _) _
  refine ⟨(hb5.alloc hb5.size _).grown hg6 (by have := hb5.size; simp; omega) (own_block_ge hown5), br_own [nb1 j, nb0 j, 120] hown6 rfl⟩
theorem num_own {w : World} (j : Nat) : ∀ W : World, W = w.alloc (.cells #[.int .u8 ((nb1 j).toNat : Int), .int .u8 ((nb0 j).toNat : Int)] 5) → W.ownsRow w.heap.size 5 1 (.slice (some ⟨w.heap.size, 0, none⟩) 2 2) 2 [.int .u8 ((nb1 j).toNat : Int), .int .u8 ((nb0 j).toNat : Int)] := by
  intro W hW
  rw [hW]
  exact ⟨rfl, .inr ⟨w.heap.size, 2, _, rfl, Nat.le_refl _, heap_alloc_new _ _, Nat.le_refl _, by decide, rfl, rfl⟩⟩
set_option maxHeartbeats 25600000 in
set_option maxRecDepth 100000 in
theorem one_law (a : Option Addr) (cap : Nat) (ks : List Nat) (ex : Nat) (w : World) (hin : InK w a ks) (hex : ex < 256) :
    Calls Tryd.prog 3 #[.slice a ks.length cap, .int .u8 (ex : Int)] w fun e w' => e = .returned (.bool true) ∧ Below w.heap.size w w' := by
  have kc := fun (w : World) (C : Array Value) (n c : Nat) => run_convert_bytes_const (P := Tryd.prog) w 27 5 C n c Tryd.underlying27 Tryd.underlying5
  have kc2 : ∀ (w : World) (o : Obj) (C : Array Value) (n c : Nat), (convert 27 27 (.slice (some ⟨w.heap.size + 1, 0, none⟩) n c)).run Tryd.prog ((w.alloc o).alloc (.cells C 5)) = .ok (.slice (some ⟨w.heap.size + 1, 0, none⟩) n c) ((w.alloc o).alloc (.cells C 5 (C.size, C.size + 1))) := fun w o C n c => by
    have := kc (w.alloc o) C n c
    rw [World.size_alloc] at this
    exact this
  obtain ⟨i0, hi, hz0, hz1, hz2⟩ := info_parts Tryd.infoB
  have HK := hide (known7_any w)
  obtain ⟨len, hlen⟩ : ∃ len, len = ks.length := ⟨_, rfl⟩
  rw [← hlen]
  by_cases hbig : 200 < len
  · have hbi : (200 : Int) < (len : Int) := by omega
    clear hin
    go_enter Tryd.func3, Tryd.ntmps3
    go_wp2_with (go_at_call 6; refine (unhide HK).mono ?_; rintro e w1 ⟨rfl, hb1⟩; clear HK)
    go_ret
    exact ⟨rfl, hb1⟩
  · have hbi : ¬ ((200 : Int) < (len : Int)) := by omega
    have hl2 : (len : Int) ≤ 200 := by omega
    have HIN := hide (And.intro hin hlen)
    clear hin hlen
    go_enter Tryd.func3, Tryd.ntmps3
    go_upto_region 7 with (first
      | (go_at_call 6; refine (unhide HK).mono ?_; rintro e w1 ⟨rfl, hb1⟩; clear HK; have HB1 := hide hb1; clear hb1; have HN1 := hide (New_any w1))
      | (go_at_call 7; refine (unhide HN1).mono ?_; rintro e w2 ⟨rfl, ht2, hb2, hz2⟩; clear HN1; have HT2 := hide (And.intro ht2 (And.intro hb2 hz2)); clear ht2 hb2 hz2; have HN2 := hide (New_any w2))
      | (go_at_call 7; refine (unhide HN2).mono ?_; rintro e w3 ⟨rfl, ht3, hb3, hz3⟩; clear HN2; have HT3 := hide (And.intro ht3 (And.intro hb3 hz3)); clear ht3 hb3 hz3))
    obtain ⟨pa, hpa⟩ : ∃ pa, pa = w1.heap.size := ⟨_, rfl⟩
    obtain ⟨pb, hpb⟩ : ∃ pb, pb = w2.heap.size := ⟨_, rfl⟩
    rw [← hpa, ← hpb]
    have HS0 : Hid (S1 w w3 pa pb [] []) := by
      obtain ⟨u1, u2, u3⟩ := unhide HT2
      obtain ⟨v1, v2, v3⟩ := unhide HT3
      rw [← hpa] at u1
      rw [← hpb] at v1
      have hs := (unhide HB1).size
      have t1 : TT w2 pa (fun _ => False) [] := ⟨id, fun _ h => h.elim, _, u1, fun _ h => h.elim⟩
      refine ⟨below_tr (below_tr (unhide HB1) u2) v2, t1.more v2 (fun g hg => .inr (by omega)), ⟨by omega, fun g hg => by omega, _, v1, fun _ _ h => h⟩, by omega, by omega⟩
    clear HT2 HT3 HB1 hpa hpb
    go_wp2_with fail
    go_loopw [8] (fun s8 wr => ∃ (i : Nat) (Fa : List It), s8 = .int .i64 (i : Int) ∧ i ≤ len ∧ Hid (S1 w wr pa pb Fa [] ∧ InvA (ks.take i) Fa)) (fun s8 _ => len - (RowKit.intOf s8).toNat)
    case atStart => exact ⟨0, [], rfl, Nat.zero_le _, unhide HS0, InvA.nil⟩
    case round =>
      clear HS0
      obtain ⟨i, Fa, rfl, hi1, HD⟩ := hrel
      by_cases hlt : i < len
      · have hlti : (i : Int) < (len : Int) := by omega
        have hi0 : (0 : Int) ≤ (i : Int) := by omega
        have hwi : IntKind.i64.wrap ((i : Int) + 1) = (i : Int) + 1 := by rw [IntKind.wrap_i64] <;> omega
        obtain ⟨kb, ko, hka, hkb, hkc, hj⟩ := (unhide HIN).1 i (by rw [← (unhide HIN).2]; exact hlt)
        subst hka
        obtain ⟨j, hjd⟩ : ∃ j, j = ks.getD i 0 := ⟨_, rfl⟩
        rw [← hjd] at hkc hj
        have htk : ks.take (i + 1) = ks.take i ++ [j] := by
          have : ks[i]? = some j := by rw [hjd, List.getD_eq_getElem?_getD, List.getElem?_eq_getElem (show i < ks.length by rw [← (unhide HIN).2]; exact hlt)]; rfl
          rw [List.take_add_one, this]; rfl
        have HJ := hide (And.intro hj htk)
        have h0 : (j : Int) % 256 = ((nb0 j).toNat : Int) := by rw [nb0_nat]; omega
        have hw8 : IntKind.u8.wrap (j : Int) = ((nb0 j).toNat : Int) := by rw [IntKind.wrap_u8]; exact h0
        have HS10 : Hid (∀ W : World, Below w.heap.size w W → W.cell? ⟨kb, ko + i, none⟩ = some (.int .u16 (j : Int))) := fun W hb => (hb.cell (p := ⟨kb, _, none⟩) hkb).trans hkc
        have HNum := hide (fun W => number_any hj W)
        clear hkb hkc hjd htk hj
        go_upto_region 10 with fail
        refine wp_region_held_drew (S := fun w' => w'.cell? ⟨kb, ko + i, none⟩ = some (.int .u16 (j : Int))) (by kernel_rfl) (unhide HS10 _ (below_tr (unhide HD).1.1 (Below.refl _ _).drew)) (fun hHeld => ?_)
        obtain ⟨WS, hWS⟩ : ∃ WS, WS = wr.drew := ⟨_, rfl⟩
        rw [← hWS] at hHeld ⊢
        have HS : Hid (S1 w WS pa pb Fa []) := by rw [hWS]; exact (unhide HD).1.below (Below.refl _ _).drew
        have HFl : Hid (Fa.length ≤ 1000000) := by have := (unhide HD).2.2.1; rw [List.length_take] at this; show _ ≤ _; omega
        clear hWS
        refine hand_to (i := 0) (d := 26) (v := (.pointer (some ⟨pa, 0, none⟩))) rfl rfl (by kernel_rfl) (by kernel_rfl) (by kernel_rfl) (fun _ _ _ h => h) (Or.inl ⟨by rfl, ?_⟩) hHeld ?_
        · (intro w' hSw; obtain y0 := hSw; go_simp)
        simp only [Act.put, List.setIfInBounds_toArray, List.set_cons_zero, List.set_cons_succ]
        refine hand_to (i := 1) (d := 27) (v := (.slice (some ⟨kb, ko, none⟩) len cap)) rfl rfl (by kernel_rfl) (by kernel_rfl) (by kernel_rfl) (fun _ _ _ h => h) (Or.inl ⟨by rfl, ?_⟩) hHeld ?_
        · (intro w' hSw; obtain y0 := hSw; go_simp)
        simp only [Act.put, List.setIfInBounds_toArray, List.set_cons_zero, List.set_cons_succ]
        refine hand_to (i := 2) (d := 28) (v := (.int .i64 (i : Int))) rfl rfl (by kernel_rfl) (by kernel_rfl) (by kernel_rfl) (fun _ _ _ h => h) (Or.inl ⟨by rfl, ?_⟩) hHeld ?_
        · (intro w' hSw; obtain y0 := hSw; go_simp)
        simp only [Act.put, List.setIfInBounds_toArray, List.set_cons_zero, List.set_cons_succ]
        refine hand_to (i := 3) (d := 29) (v := (.pointer (some ⟨kb, ko + i, none⟩))) rfl rfl (by kernel_rfl) (by kernel_rfl) (by kernel_rfl) (fun _ _ _ h => h) (Or.inl ⟨by rfl, ?_⟩) hHeld ?_
        · (intro w' hSw; obtain y0 := hSw; go_simp)
        simp only [Act.put, List.setIfInBounds_toArray, List.set_cons_zero, List.set_cons_succ]
        refine hand_to (i := 4) (d := 30) (v := (.int .u16 (j : Int))) rfl rfl (by kernel_rfl) (by kernel_rfl) (by kernel_rfl) (fun _ _ _ h => h) (Or.inl ⟨by rfl, ?_⟩) hHeld ?_
        · (intro w' hSw; obtain y0 := hSw; go_simp)
        simp only [Act.put, List.setIfInBounds_toArray, List.set_cons_zero, List.set_cons_succ]
        refine hand_to (i := 6) (d := 32) (v := (.slice (some ⟨kb, ko, none⟩) len cap)) rfl rfl (by kernel_rfl) (by kernel_rfl) (by kernel_rfl) (fun _ _ _ h => h) (Or.inl ⟨by rfl, ?_⟩) hHeld ?_
        · (intro w' hSw; obtain y0 := hSw; go_simp)
        simp only [Act.put, List.setIfInBounds_toArray, List.set_cons_zero, List.set_cons_succ]
        refine hand_to (i := 7) (d := 33) (v := (.int .i64 (i : Int))) rfl rfl (by kernel_rfl) (by kernel_rfl) (by kernel_rfl) (fun _ _ _ h => h) (Or.inl ⟨by rfl, ?_⟩) hHeld ?_
        · (intro w' hSw; obtain y0 := hSw; go_simp)
        simp only [Act.put, List.setIfInBounds_toArray, List.set_cons_zero, List.set_cons_succ]
        refine hand_to (i := 8) (d := 34) (v := (.pointer (some ⟨kb, ko + i, none⟩))) rfl rfl (by kernel_rfl) (by kernel_rfl) (by kernel_rfl) (fun _ _ _ h => h) (Or.inl ⟨by rfl, ?_⟩) hHeld ?_
        · (intro w' hSw; obtain y0 := hSw; go_simp)
        simp only [Act.put, List.setIfInBounds_toArray, List.set_cons_zero, List.set_cons_succ]
        refine hand_to (i := 9) (d := 35) (v := (.int .u16 (j : Int))) rfl rfl (by kernel_rfl) (by kernel_rfl) (by kernel_rfl) (fun _ _ _ h => h) (Or.inl ⟨by rfl, ?_⟩) hHeld ?_
        · (intro w' hSw; obtain y0 := hSw; go_simp)
        simp only [Act.put, List.setIfInBounds_toArray, List.set_cons_zero, List.set_cons_succ]
        refine hand_to (i := 10) (d := 36) (v := (.int .u8 ((nb0 j).toNat : Int))) rfl rfl (by kernel_rfl) (by kernel_rfl) (by kernel_rfl) (fun _ _ _ h => h) (Or.inl ⟨by rfl, ?_⟩) hHeld ?_
        · (intro w' hSw; obtain y0 := hSw; go_simp)
        simp only [Act.put, List.setIfInBounds_toArray, List.set_cons_zero, List.set_cons_succ]
        refine wpAnyH_ready (rs := [5, 11]) (by kernel_rfl) (by simp) ?_
        refine (AllReadyH.cons rfl (fun K hK => ?_) (AllReadyH.cons rfl (fun K hK => ?_) AllReadyH.nil))
        · skip
          skip
          go_simp
          (go_at_call 9; refine (unhide HNum WS).mono ?_; rintro e W5 ⟨rfl, hW⟩; have HWn := hide hW; clear hW)
          (go_wp2_with fail)
          have hW := unhide HWn
          clear HWn
          obtain ⟨vk, hvk⟩ : ∃ vk, vk = Value.slice (some ⟨WS.heap.size, 0, none⟩) 2 2 := ⟨_, rfl⟩
          rw [← hvk]
          have hbb : Below WS.heap.size WS W5 := by rw [hW]; exact (Below.refl _ _).alloc (Nat.le_refl _) _
          have Hk : Hid (BR W5 vk (kN j)) := by rw [hvk, hW]; exact br_num _ _
          replace HS := hide ((unhide HS).below hbb)
          clear hvk hW hbb
          refine hK.out _ _ (unhide HS10 W5 (unhide HS).1) (fun hHeld2 => ?_)
          clear hK K hHeld
          have hHeld := hHeld2
          clear hHeld2
          try simp only [Act.put, List.setIfInBounds_toArray, List.set_cons_zero, List.set_cons_succ]
          refine wpAnyH_ready (rs := [11]) (by kernel_rfl) (by simp) ?_
          refine AllReadyH.cons rfl (fun K hK => ?_) AllReadyH.nil
          skip
          go_simp
          skip
          (go_wp2_with fail)
          obtain ⟨W11, hW⟩ : ∃ W11, W11 = W5.alloc (.cells #[.int .u8 ((nb0 j).toNat : Int)] 5) := ⟨_, rfl⟩
          obtain ⟨vv, hvv⟩ : ∃ vv, vv = Value.slice (some ⟨W5.heap.size, 0, none⟩) 1 1 := ⟨_, rfl⟩
          rw [← hW, ← hvv]
          have hbb : Below W5.heap.size W5 W11 := by rw [hW]; exact (Below.refl _ _).alloc (Nat.le_refl _) _
          have Hv : Hid (BR W11 vv (vN j)) := by rw [hvv, hW]; exact br_val _ _
          replace HS := hide ((unhide HS).below hbb)
          replace Hk := hide ((unhide Hk).below hbb)
          clear hvv hW hbb
          refine hK.out _ _ (unhide HS10 W11 (unhide HS).1) (fun hHeld2 => ?_)
          clear hK K hHeld
          have hHeld := hHeld2
          clear hHeld2
          try simp only [Act.put, List.setIfInBounds_toArray, List.set_cons_zero, List.set_cons_succ]
          refine wpAnyH_ready (rs := [12]) (by kernel_rfl) (by simp) ?_
          refine AllReadyH.cons rfl (fun K hK => ?_) AllReadyH.nil
          skip
          go_simp
          (go_at_call 8; refine ((unhide HS).putA (x := itN j) (unhide Hk) (unhide Hv) (unhide HFl)).mono ?_; rintro e W12 ⟨rfl, hS12⟩)
          (go_wp2_with fail)
          replace HS := hide hS12
          clear hS12 Hk Hv
          refine hK.out _ _ (unhide HS10 W12 (unhide HS).1) (fun hHeld2 => ?_)
          clear hK K hHeld
          have hHeld := hHeld2
          clear hHeld2
          try simp only [Act.put, List.setIfInBounds_toArray, List.set_cons_zero, List.set_cons_succ]
          refine wpAnyH_done (by kernel_rfl) ?_ _
          go_wp2_with fail
          go_roundw
          case rel => exact ⟨i + 1, insL (itN j) Fa, by simp, by omega, unhide HS, by rw [(unhide HJ).2]; exact (unhide HD).2.ins (fun x hx => (unhide HIN).1.all x (List.mem_of_mem_take hx)) (unhide HJ).1⟩
          case measure => simp [RowKit.intOf]; omega
        · skip
          skip
          go_simp
          skip
          (go_wp2_with fail)
          obtain ⟨W11, hW⟩ : ∃ W11, W11 = WS.alloc (.cells #[.int .u8 ((nb0 j).toNat : Int)] 5) := ⟨_, rfl⟩
          obtain ⟨vv, hvv⟩ : ∃ vv, vv = Value.slice (some ⟨WS.heap.size, 0, none⟩) 1 1 := ⟨_, rfl⟩
          rw [← hW, ← hvv]
          have hbb : Below WS.heap.size WS W11 := by rw [hW]; exact (Below.refl _ _).alloc (Nat.le_refl _) _
          have Hv : Hid (BR W11 vv (vN j)) := by rw [hvv, hW]; exact br_val _ _
          replace HS := hide ((unhide HS).below hbb)
          clear hvv hW hbb
          refine hK.out _ _ (unhide HS10 W11 (unhide HS).1) (fun hHeld2 => ?_)
          clear hK K hHeld
          have hHeld := hHeld2
          clear hHeld2
          try simp only [Act.put, List.setIfInBounds_toArray, List.set_cons_zero, List.set_cons_succ]
          refine wpAnyH_ready (rs := [5]) (by kernel_rfl) (by simp) ?_
          refine AllReadyH.cons rfl (fun K hK => ?_) AllReadyH.nil
          skip
          go_simp
          (go_at_call 9; refine (unhide HNum W11).mono ?_; rintro e W5 ⟨rfl, hW⟩; have HWn := hide hW; clear hW)
          (go_wp2_with fail)
          have hW := unhide HWn
          clear HWn
          obtain ⟨vk, hvk⟩ : ∃ vk, vk = Value.slice (some ⟨W11.heap.size, 0, none⟩) 2 2 := ⟨_, rfl⟩
          rw [← hvk]
          have hbb : Below W11.heap.size W11 W5 := by rw [hW]; exact (Below.refl _ _).alloc (Nat.le_refl _) _
          have Hk : Hid (BR W5 vk (kN j)) := by rw [hvk, hW]; exact br_num _ _
          replace HS := hide ((unhide HS).below hbb)
          replace Hv := hide ((unhide Hv).below hbb)
          clear hvk hW hbb
          refine hK.out _ _ (unhide HS10 W5 (unhide HS).1) (fun hHeld2 => ?_)
          clear hK K hHeld
          have hHeld := hHeld2
          clear hHeld2
          try simp only [Act.put, List.setIfInBounds_toArray, List.set_cons_zero, List.set_cons_succ]
          refine wpAnyH_ready (rs := [12]) (by kernel_rfl) (by simp) ?_
          refine AllReadyH.cons rfl (fun K hK => ?_) AllReadyH.nil
          skip
          go_simp
          (go_at_call 8; refine ((unhide HS).putA (x := itN j) (unhide Hk) (unhide Hv) (unhide HFl)).mono ?_; rintro e W12 ⟨rfl, hS12⟩)
          (go_wp2_with fail)
          replace HS := hide hS12
          clear hS12 Hk Hv
          refine hK.out _ _ (unhide HS10 W12 (unhide HS).1) (fun hHeld2 => ?_)
          clear hK K hHeld
          have hHeld := hHeld2
          clear hHeld2
          try simp only [Act.put, List.setIfInBounds_toArray, List.set_cons_zero, List.set_cons_succ]
          refine wpAnyH_done (by kernel_rfl) ?_ _
          go_wp2_with fail
          go_roundw
          case rel => exact ⟨i + 1, insL (itN j) Fa, by simp, by omega, unhide HS, by rw [(unhide HJ).2]; exact (unhide HD).2.ins (fun x hx => (unhide HIN).1.all x (List.mem_of_mem_take hx)) (unhide HJ).1⟩
          case measure => simp [RowKit.intOf]; omega
      · have hlti : ¬ ((i : Int) < (len : Int)) := by omega
        have hil : len ≤ i := by omega
        have HA : Hid (InvA ks Fa ∧ S1 w wr pa pb Fa []) := by
          have h := (unhide HD).2
          rw [List.take_of_length_le (by rw [← (unhide HIN).2]; exact hil)] at h
          exact ⟨h, (unhide HD).1⟩
        clear HD hlt hi1 hil
        go_wp2_with fail
        go_loopw [9] (fun s9 wr => ∃ (i : Nat) (Fb : List It), s9 = .int .i64 (i : Int) ∧ i ≤ len ∧ Hid (S1 w wr pa pb Fa Fb ∧ InvB (ks.reverse.take i) (ks.reverse.take i) (3 * i) Fb)) (fun s9 _ => len - (RowKit.intOf s9).toNat)
        case atStart => exact ⟨0, [], rfl, Nat.zero_le _, (unhide HA).2, InvB.nil⟩
        case round =>
          obtain ⟨i, Fb, rfl, hi1, HD⟩ := hrel
          by_cases hlt : i < len
          · have hlti : (i : Int) < (len : Int) := by omega
            have hi0 : (0 : Int) ≤ (i : Int) := by omega
            have hwi : IntKind.i64.wrap ((i : Int) + 1) = (i : Int) + 1 := by rw [IntKind.wrap_i64] <;> omega
            obtain ⟨m, hm⟩ : ∃ m, m = len - 1 - i := ⟨_, rfl⟩
            obtain ⟨kb, ko, hka, hkb, hkc, hj⟩ := (unhide HIN).1 m (by rw [← (unhide HIN).2]; omega)
            subst hka
            obtain ⟨j, hjd⟩ : ∃ j, j = ks.getD m 0 := ⟨_, rfl⟩
            rw [← hjd] at hkc hj
            have htk : ks.reverse.take (i + 1) = ks.reverse.take i ++ [j] := by
              have hl : len = ks.length := (unhide HIN).2
              have : ks.reverse[i]? = some j := by
                rw [List.getElem?_reverse (by omega), hjd, List.getD_eq_getElem?_getD, show ks.length - 1 - i = m by omega, List.getElem?_eq_getElem (show m < ks.length by omega)]; rfl
              rw [List.take_add_one, this]; rfl
            have HJ := hide (And.intro hj htk)
            have h0 : (j : Int) % 256 = ((nb0 j).toNat : Int) := by rw [nb0_nat]; omega
            have hw8 : IntKind.u8.wrap (j : Int) = ((nb0 j).toNat : Int) := by rw [IntKind.wrap_u8]; exact h0
            have hkc' : wr.cell? ⟨kb, ko + m, none⟩ = some (.int .u16 (j : Int)) := ((unhide HD).1.1.cell (p := ⟨kb, _, none⟩) hkb).trans hkc
            have HNum := hide (fun W => number_any hj W)
            have hmi : (len : Int) - 1 - (i : Int) = (m : Int) := by omega
            have hm0 : (0 : Int) ≤ (m : Int) := by omega
            have hml : (m : Int) < (len : Int) := by omega
            have hwl : IntKind.i64.wrap ((len : Int) - 1) = (len : Int) - 1 := by rw [IntKind.wrap_i64] <;> omega
            clear hkb hkc hjd htk hj hm
            have HP16 : Hid (∀ (W : World) (kv : Value), S1 w W pa pb Fa Fb ∧ BR W kv (kX j) → Calls Tryd.prog 8 #[.pointer (some ⟨pb, 0, none⟩), kv, .slice (some ⟨W.heap.size, 0, none⟩) 1 1] (W.alloc (.cells #[.int .u8 121] 5 (1, 2))) fun e W' => (∃ bb, e = .returned (.bool bb)) ∧ Hid (S1 w W' pa pb Fa (insL (kX j, ⟨#[121]⟩) Fb))) := fun W kv h => by
              have b1 := (Below.refl W.heap.size W).alloc (Nat.le_refl _) (.cells #[.int .u8 121] 5 (1, 2))
              refine ((h.1.below b1).putB (x := (kX j, ⟨#[121]⟩)) (h.2.below b1) (br_lit W [121] _ _ 1) (by have := (unhide HD).2.2.1; omega)).mono ?_
              rintro e W' ⟨rfl, z1⟩
              exact ⟨⟨_, rfl⟩, z1⟩
            have HP17 : Hid (∀ (W : World) (G : List It), S1 w W pa pb Fa G ∧ G.length ≤ 1000 → Calls Tryd.prog 8 #[.pointer (some ⟨pb, 0, none⟩), .slice (some ⟨W.heap.size, 0, none⟩) 2 2, .slice (some ⟨W.heap.size + 1, 0, none⟩) 3 3] ((W.alloc (.cells #[.int .u8 ((nb1 j).toNat : Int), .int .u8 ((nb0 j).toNat : Int)] 5)).alloc (.cells #[.int .u8 111, .int .u8 108, .int .u8 100] 5 (3, 4))) fun e W' => (∃ bb, e = .returned (.bool bb)) ∧ Hid (S1 w W' pa pb Fa (insL (kN j, ⟨#[111, 108, 100]⟩) G))) := fun W G h => by
              have b1 := (Below.refl W.heap.size W).alloc (Nat.le_refl _) (.cells #[.int .u8 ((nb1 j).toNat : Int), .int .u8 ((nb0 j).toNat : Int)] 5)
              have b2 := (Below.refl (W.alloc (.cells #[.int .u8 ((nb1 j).toNat : Int), .int .u8 ((nb0 j).toNat : Int)] 5)).heap.size (W.alloc (.cells #[.int .u8 ((nb1 j).toNat : Int), .int .u8 ((nb0 j).toNat : Int)] 5))).alloc (Nat.le_refl _) (.cells #[.int .u8 111, .int .u8 108, .int .u8 100] 5 (3, 4))
              have r2 : BR ((W.alloc (.cells #[.int .u8 ((nb1 j).toNat : Int), .int .u8 ((nb0 j).toNat : Int)] 5)).alloc (.cells #[.int .u8 111, .int .u8 108, .int .u8 100] 5 (3, 4))) (.slice (some ⟨W.heap.size + 1, 0, none⟩) 3 3) ⟨#[111, 108, 100]⟩ := by
                have := br_lit (W.alloc (.cells #[.int .u8 ((nb1 j).toNat : Int), .int .u8 ((nb0 j).toNat : Int)] 5)) [111, 108, 100] 5 (3, 4) 3
                rw [World.size_alloc] at this
                exact this
              refine (((h.1.below b1).below b2).putB (x := (kN j, ⟨#[111, 108, 100]⟩)) ((br_num W j).below b2) r2 (by omega)).mono ?_
              rintro e W' ⟨rfl, z1⟩
              exact ⟨⟨_, rfl⟩, z1⟩
            have HP18 : Hid (∀ (W : World) (G : List It), S1 w W pa pb Fa G ∧ G.length ≤ 1000 → Calls Tryd.prog 8 #[.pointer (some ⟨pb, 0, none⟩), .slice (some ⟨W.heap.size, 0, none⟩) 2 2, .slice (some ⟨W.heap.size + 1, 0, none⟩) 1 1] ((W.alloc (.cells #[.int .u8 ((nb1 j).toNat : Int), .int .u8 ((nb0 j).toNat : Int)] 5)).alloc (.cells #[.int .u8 ((nb0 j).toNat : Int)] 5)) fun e W' => (∃ bb, e = .returned (.bool bb)) ∧ Hid (S1 w W' pa pb Fa (insL (itN j) G))) := fun W G h => by
              have b1 := (Below.refl W.heap.size W).alloc (Nat.le_refl _) (.cells #[.int .u8 ((nb1 j).toNat : Int), .int .u8 ((nb0 j).toNat : Int)] 5)
              have b2 := (Below.refl (W.alloc (.cells #[.int .u8 ((nb1 j).toNat : Int), .int .u8 ((nb0 j).toNat : Int)] 5)).heap.size (W.alloc (.cells #[.int .u8 ((nb1 j).toNat : Int), .int .u8 ((nb0 j).toNat : Int)] 5))).alloc (Nat.le_refl _) (.cells #[.int .u8 ((nb0 j).toNat : Int)] 5)
              have r2 : BR ((W.alloc (.cells #[.int .u8 ((nb1 j).toNat : Int), .int .u8 ((nb0 j).toNat : Int)] 5)).alloc (.cells #[.int .u8 ((nb0 j).toNat : Int)] 5)) (.slice (some ⟨W.heap.size + 1, 0, none⟩) 1 1) (vN j) := by
                have := br_val (W.alloc (.cells #[.int .u8 ((nb1 j).toNat : Int), .int .u8 ((nb0 j).toNat : Int)] 5)) j
                rw [World.size_alloc] at this
                exact this
              refine (((h.1.below b1).below b2).putB (x := itN j) ((br_num W j).below b2) r2 (by omega)).mono ?_
              rintro e W' ⟨rfl, z1⟩
              exact ⟨⟨_, rfl⟩, z1⟩
            by_cases hc : ((i : Int) % ((ex : Int) % 7 + 1) == 0) = true
            · have HOw := hide (num_own (w := wr) j)
              go_upto_region 17 with (first
                | (go_at_call 9; refine (unhide HNum wr).mono ?_; rintro e w5 ⟨rfl, hw5⟩; have hown5 := unhide HOw w5 hw5; have HS5 : Hid (w5.heap.size = wr.heap.size + 1) := (by show w5.heap.size = wr.heap.size + 1; rw [hw5, World.size_alloc]); have HW5 := hide hw5; clear hw5 HOw)
                | (at_builtin; refine wpList_append_own _ rfl (.tmp 60) (.tmp 61) 27 rfl wr.heap.size 5 i0 (.int .u8 0) 1 1 Tryd.underlying27 hi hz0 hz1 hz2 rfl (by decide) _ _ _ rfl (hown5.alloc _) ⟨w5.heap.size, 0, none⟩ 1 1 [_] rfl rfl (one_new _ _ _) one_cell (by unfold maxLen; omega) (by omega) (by have := unhide HS5; simp; omega) ?_))
              intro v6 w6 hown6 hg6 _
              have HS6 : Hid (S1 w w6 pa pb Fa Fb ∧ BR w6 v6 (kX j)) := by
                have h := num_x (unhide HW5) hown5 hown6 hg6
                exact ⟨(unhide HD).1.below h.1, h.2⟩
              have HP := hide (unhide HP16 w6 v6 (unhide HS6))
              clear HS6 HW5 hown5 hown6 hg6 HP16 HS5
              go_upto_region 17 with (go_at_call 8; refine (unhide HP).mono ?_; rintro e w7 ⟨⟨bb, rfl⟩, HS7⟩; clear HP)
              have HI7 : Hid (InvB (ks.reverse.take i) (ks.reverse.take i ++ [j]) (3 * i + 1) (insL (kX j, ⟨#[121]⟩) Fb)) := (unhide HD).2.insX j
              have HPa := hide (unhide HP17 w7 (insL (kX j, ⟨#[121]⟩) Fb) ⟨unhide HS7, by have := (unhide HI7).2.1; omega⟩)
              clear HP17
              go_upto_region 18 with (first
                | (go_at_call 9; refine (unhide HNum w7).mono ?_; rintro e w8 ⟨rfl, rfl⟩)
                | (go_at_call 8; refine (unhide HPa).mono ?_; rintro e w9 ⟨⟨bb, rfl⟩, HS9⟩; clear HPa))
              have HPb := hide (unhide HP18 w9 _ ⟨unhide HS9, by have := (unhide HI7).2.1; have := ins_le (kN j, ⟨#[111, 108, 100]⟩) (insL (kX j, ⟨#[121]⟩) Fb); omega⟩)
              clear HP18
              go_wp2_with (first
                | (go_at_call 9; refine (unhide HNum w9).mono ?_; rintro e w10 ⟨rfl, rfl⟩)
                | (go_at_call 8; refine (unhide HPb).mono ?_; rintro e w11 ⟨⟨bb2, rfl⟩, HS11⟩; clear HPb))
              go_roundw
              case rel =>
                refine ⟨i + 1, _, by simp, by omega, unhide HS11, ?_⟩
                rw [(unhide HJ).2]
                exact ((unhide HI7).ins2 (fun x hx => (unhide HIN).1.all x (List.mem_reverse.1 (List.mem_of_mem_take hx))) (unhide HJ).1).more (fun _ h => h) (by omega)
              case measure => simp [RowKit.intOf]; omega
            · have hcf : ((i : Int) % ((ex : Int) % 7 + 1) == 0) = false := by simpa using hc
              have HS7 := hide (unhide HD).1
              have HI7 : Hid (InvB (ks.reverse.take i) (ks.reverse.take i ++ [j]) (3 * i + 1) Fb) := (unhide HD).2.more (fun x hx => List.mem_append.2 (.inl hx)) (by omega)
              clear hc HP16
              go_upto_region 17 with fail
              have HPa := hide (unhide HP17 wr Fb ⟨unhide HS7, by have := (unhide HI7).2.1; omega⟩)
              clear HP17
              go_upto_region 18 with (first
                | (go_at_call 9; refine (unhide HNum wr).mono ?_; rintro e w8 ⟨rfl, rfl⟩)
                | (go_at_call 8; refine (unhide HPa).mono ?_; rintro e w9 ⟨⟨bb, rfl⟩, HS9⟩; clear HPa))
              have HPb := hide (unhide HP18 w9 _ ⟨unhide HS9, by have := (unhide HI7).2.1; have := ins_le (kN j, ⟨#[111, 108, 100]⟩) Fb; omega⟩)
              clear HP18
              go_wp2_with (first
                | (go_at_call 9; refine (unhide HNum w9).mono ?_; rintro e w10 ⟨rfl, rfl⟩)
                | (go_at_call 8; refine (unhide HPb).mono ?_; rintro e w11 ⟨⟨bb2, rfl⟩, HS11⟩; clear HPb))
              go_roundw
              case rel =>
                refine ⟨i + 1, _, by simp, by omega, unhide HS11, ?_⟩
                rw [(unhide HJ).2]
                exact ((unhide HI7).ins2 (fun x hx => (unhide HIN).1.all x (List.mem_reverse.1 (List.mem_of_mem_take hx))) (unhide HJ).1).more (fun _ h => h) (by omega)
              case measure => simp [RowKit.intOf]; omega
          · have hlti : ¬ ((i : Int) < (len : Int)) := by omega
            have hil : len ≤ i := by omega
            have HB : Hid (S1 w wr pa pb Fa Fb ∧ InvB ks.reverse ks (3 * len) Fb) := by
              have h := (unhide HD).2
              rw [List.take_of_length_le (by rw [List.length_reverse, ← (unhide HIN).2]; exact hil)] at h
              exact ⟨(unhide HD).1, h.more (fun x hx => List.mem_reverse.1 hx) (by omega)⟩
            have HIA := hide (unhide HA).1
            clear HD hlt hi1 hil HA
            go_wp2_with fail
            go_loopw [11] (fun s11 wr => ∃ (i : Nat) (Fb : List It), s11 = .int .i64 (i : Int) ∧ i ≤ len ∧ Hid (S1 w wr pa pb Fa Fb ∧ InvB ks.reverse (ks.drop i) (3 * len) Fb)) (fun s11 _ => len - (RowKit.intOf s11).toNat)
            case atStart => exact ⟨0, Fb, rfl, Nat.zero_le _, unhide HB⟩
            case round =>
              clear HB
              obtain ⟨i, Fb, rfl, hi1, HD⟩ := hrel
              by_cases hlt : i < len
              · have hlti : (i : Int) < (len : Int) := by omega
                have hi0 : (0 : Int) ≤ (i : Int) := by omega
                have hwi : IntKind.i64.wrap ((i : Int) + 1) = (i : Int) + 1 := by rw [IntKind.wrap_i64] <;> omega
                obtain ⟨kb, ko, hka, hkb, hkc, hj⟩ := (unhide HIN).1 i (by rw [← (unhide HIN).2]; exact hlt)
                subst hka
                obtain ⟨j, hjd⟩ : ∃ j, j = ks.getD i 0 := ⟨_, rfl⟩
                rw [← hjd] at hkc hj
                have htk : ks.drop i = j :: ks.drop (i + 1) := by
                  have hl : i < ks.length := by rw [← (unhide HIN).2]; exact hlt
                  rw [List.drop_eq_getElem_cons hl, hjd, List.getD_eq_getElem?_getD, List.getElem?_eq_getElem hl]; rfl
                have HJ := hide htk
                have hkc' : wr.cell? ⟨kb, ko + i, none⟩ = some (.int .u16 (j : Int)) := ((unhide HD).1.1.cell (p := ⟨kb, _, none⟩) hkb).trans hkc
                have HNum := hide (fun W => number_any hj W)
                have HOw := hide (num_own (w := wr) j)
                clear hkb hkc hjd htk hj
                go_wp2_with (first
                  | (go_at_call 9; refine (unhide HNum wr).mono ?_; rintro e w5 ⟨rfl, hw5⟩; have hown5 := unhide HOw w5 hw5; have HS5 : Hid (w5.heap.size = wr.heap.size + 1) := (by show w5.heap.size = wr.heap.size + 1; rw [hw5, World.size_alloc]); have HW5 := hide hw5; clear hw5 HOw)
                  | (at_builtin; refine wpList_append_own _ rfl (.tmp 89) (.tmp 90) 27 rfl wr.heap.size 5 i0 (.int .u8 0) 1 1 Tryd.underlying27 hi hz0 hz1 hz2 rfl (by decide) _ _ _ rfl (hown5.alloc _) ⟨w5.heap.size, 0, none⟩ 1 1 [_] rfl rfl (one_new _ _ _) one_cell (by unfold maxLen; omega) (by omega) (by have := unhide HS5; simp; omega) ?_))
                intro v6 w6 hown6 hg6 _
                have HDl : Hid (Calls Tryd.prog 10 #[.pointer (some ⟨pb, 0, none⟩), v6] w6 fun e W' => (∃ bb, e = .returned (.bool bb)) ∧ Hid (S1 w W' pa pb Fa (delL (kX j) Fb))) := by
                  have h := num_x (unhide HW5) hown5 hown6 hg6
                  refine (((unhide HD).1.below h.1).delB h.2 (by have := (unhide HD).2.2.1; omega)).mono ?_
                  rintro e W' ⟨rfl, z1⟩
                  exact ⟨⟨_, rfl⟩, z1⟩
                clear HW5 hown5 hown6 hg6 HS5
                go_wp2_with (go_at_call 10; refine (unhide HDl).mono ?_; rintro e w7 ⟨⟨bb, rfl⟩, HS7⟩; clear HDl)
                go_roundw
                case rel =>
                  have h := (unhide HD).2
                  rw [unhide HJ] at h
                  exact ⟨i + 1, _, by simp, by omega, unhide HS7, h.delX⟩
                case measure => simp [RowKit.intOf]; omega
              · have hlti : ¬ ((i : Int) < (len : Int)) := by omega
                have hF : Fb = Fa := by
                  have h := (unhide HD).2
                  rw [List.drop_eq_nil_of_le (by rw [← (unhide HIN).2]; omega)] at h
                  exact h.same (unhide HIA) (fun x => List.mem_reverse)
                subst hF
                have HLa : Hid (Calls Tryd.prog 11 #[.pointer (some ⟨pa, 0, none⟩)] wr fun e w' => e = .returned (.int .i64 (Fb.length : Int)) ∧ w' = wr) := by
                  obtain ⟨_, _, O, h3, _⟩ := (unhide HD).1.2.1
                  exact Len_any h3
                have HLb : Hid (Calls Tryd.prog 11 #[.pointer (some ⟨pb, 0, none⟩)] wr fun e w' => e = .returned (.int .i64 (Fb.length : Int)) ∧ w' = wr) := by
                  obtain ⟨_, _, O, h3, _⟩ := (unhide HD).1.2.2.1
                  exact Len_any h3
                have hks : ks.length ≤ 200 := by have := (unhide HIN).2; omega
                have HDa : Hid (Calls Tryd.prog 13 #[.pointer (some ⟨pa, 0, none⟩)] wr fun e w' => ∃ v, e = .returned v ∧ Hid (BR w' v ⟨(dumpF Fb).toArray⟩ ∧ S1 w w' pa pb Fb Fb)) := by
                  obtain ⟨_, _, O, h3, _⟩ := (unhide HD).1.2.1
                  refine (Dump_any h3 (unhide HIA).sml (by have := (unhide HIA).2.1; omega) ((unhide HIA).dump (by omega))).mono ?_
                  rintro e w' ⟨v, rfl, z1, z2⟩
                  exact ⟨v, rfl, br_own _ z1 rfl, (unhide HD).1.below z2⟩
                have HDb : Hid (∀ (W : World) (v : Value), BR W v ⟨(dumpF Fb).toArray⟩ ∧ S1 w W pa pb Fb Fb → Calls Tryd.prog 13 #[.pointer (some ⟨pb, 0, none⟩)] W fun e w' => ∃ v', e = .returned v' ∧ Hid (Calls Tryd.prog 12 #[v, v'] w' fun e w'' => e = .returned (.bool true) ∧ w'' = w') ∧ Hid (Below w.heap.size w w')) := fun W v hv => by
                  obtain ⟨_, _, O, h3, _⟩ := hv.2.2.2.1
                  refine (Dump_any h3 (unhide HIA).sml (by have := (unhide HIA).2.1; omega) ((unhide HIA).dump (by omega))).mono ?_
                  rintro e w' ⟨v', rfl, z1, z2⟩
                  exact ⟨v', rfl, bytes_br (hv.1.below z2) (br_own _ z1 rfl), below_tr hv.2.1 z2⟩
                clear HD HIA hks
                go_wp2_with (first
                  | (go_at_call 11; refine (unhide HLa).mono ?_; rintro e w5 ⟨rfl, hw5⟩; rw [hw5]; clear hw5 HLa)
                  | (go_at_call 11; refine (unhide HLb).mono ?_; rintro e w5 ⟨rfl, hw5⟩; rw [hw5]; clear hw5 HLb)
                  | (go_at_call 13; refine (unhide HDa).mono ?_; rintro e w6 ⟨v6, rfl, HV6⟩; clear HDa; have HDc := hide (unhide HDb w6 v6 (unhide HV6)); clear HDb)
                  | (go_at_call 13; refine (unhide HDc).mono ?_; rintro e w7 ⟨v7, rfl, HBy, HB7⟩; clear HDc)
                  | (go_at_call 12; refine (unhide HBy).mono ?_; rintro e w8 ⟨rfl, hw8⟩; rw [hw8]; clear hw8 HBy))
                go_ret
                exact ⟨rfl, unhide HB7⟩
end Go.Proofs.YtmahkhpmaenkhaaDoor
