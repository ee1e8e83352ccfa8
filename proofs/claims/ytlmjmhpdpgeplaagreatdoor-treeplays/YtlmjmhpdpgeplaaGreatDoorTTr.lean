/- A tree's Dump; a tree among other blocks; the statements' own look at known answers. -/
import Derived.Test.YtlmjmhpdpgeplaaGreatDoorTDump
import Derived.Test.YtlmjmhpdpgeplaaGreatDoorTDelT
import Derived.Lib.SlBytesConst
namespace Go.Proofs.YtlmjmhpdpgeplaaGreatDoor
open Go.RowKit Go.Lib

theorem own_mono {w : World} {B B' n sz : Nat} {T : TypeId} {v : Value} {xs : List Value} (h : w.ownsRow B T sz v n xs) (hB : B' ≤ B) : w.ownsRow B' T sz v n xs := by
  obtain ⟨h1, h2 | ⟨g, k, cur, rfl, h3, h4⟩⟩ := h
  · exact ⟨h1, .inl h2⟩
  · exact ⟨h1, .inr ⟨g, k, cur, rfl, Nat.le_trans hB h3, h4⟩⟩
section
variable {w : World} {O : Nat → Prop} {p : Nat} {F : List It}
set_option maxHeartbeats 12800000 in
set_option maxRecDepth 100000 in
theorem Dump_any (ht : TreeAt w p O F) (hsm : Sml F) (hn : F.length ≤ 1000000) (hl : (dumpL F).length ≤ 900000000) :
    Calls Tryz.prog 16 #[.pointer (some ⟨p, 0, none⟩)] w fun e w' => ∃ v, e = .returned v ∧ w'.ownsRow w.heap.size 5 1 v (dumpF F).length (Lib.byteCells (dumpF F)) ∧ Below w.heap.size w w' := by
  obtain ⟨d, t, ra, rb, rn, rk, rn', rk', h1, h2, h3, h4, h5, h6⟩ := ht
  have hpl := blk_lt h1
  have HPu : Hid (∀ W : World, Below w.heap.size w W → Calls Tryz.prog 27 #[.int .u64 (F.length : Int)] W fun e w' => ∃ v', e = .returned v' ∧ w'.ownsRow w.heap.size 5 1 v' (uvarint F.length).length (Lib.byteCells (uvarint F.length)) ∧ Below W.heap.size W w') := fun W hb => by
    refine (putUint_any F.length W (by omega)).mono ?_
    rintro e w' ⟨v', rfl, ho, hb'⟩
    exact ⟨v', rfl, own_mono ho hb.size, hb'⟩
  have HDu : Hid (∀ (W : World) (v0 : Value), Below w.heap.size w W → W.ownsRow w.heap.size 5 1 v0 (uvarint F.length).length (Lib.byteCells (uvarint F.length)) → Calls Tryz.prog 26 #[.agg #[.slice ra rn rk, .slice rb rn' rk'], v0] W fun e w' => ∃ v', e = .returned v' ∧ w'.ownsRow w.heap.size 5 1 v' (dumpF F).length (Lib.byteCells (dumpF F)) ∧ Below w.heap.size W w') := fun W v0 hb ho => by
    have hu := (uv_len F.length (by omega)).2
    refine (dump_t (B := w.heap.size) (O := fun g => O g ∧ g < w.heap.size) (fun g hg => hg.2) d t _ _ v0 W _ _ (h2.lt.below hb) h3.1 h3.2.1 hb.size ho (by rw [h4]; exact hsm) (by rw [h4]; omega)).mono ?_
    rintro e w' ⟨v', rfl, z1, z2, _⟩
    rw [h4] at z1
    exact ⟨v', rfl, own_cast2 z1 (by unfold dumpF; rw [List.length_append]) (by unfold dumpF; rw [byteC_app]), z2⟩
  have HS1 : Hid (∀ W : World, Below w.heap.size w W → W.cell? ⟨p, 0, none⟩ = some (.slice ra rn rk) ∧ W.cell? ⟨p, 1, none⟩ = some (.slice rb rn' rk') ∧ W.cell? ⟨p, 2, none⟩ = some (.int .i64 (F.length : Int))) := fun W hb => ⟨(h1.below hb).cells.1, (h1.below hb).cells.2.1, (h1.below hb).cells.2.2.1⟩
  have hwu : IntKind.u64.wrap (F.length : Int) = (F.length : Int) := by rw [IntKind.wrap_u64] <;> omega
  clear h1 h2 h3 h4 h5 h6 hsm hn hl
  go_enter Tryz.func16, Tryz.ntmps16
  go_upto_region 1 with fail
  refine wp_region_held_drew (S := fun w' => w'.cell? ⟨p, 0, none⟩ = some (.slice ra rn rk) ∧ w'.cell? ⟨p, 1, none⟩ = some (.slice rb rn' rk') ∧ w'.cell? ⟨p, 2, none⟩ = some (.int .i64 (F.length : Int))) (by kernel_rfl) (unhide HS1 _ (Below.refl _ _).drew) (fun hHeld => ?_)
  obtain ⟨WS, hWS⟩ : ∃ WS, WS = w.drew := ⟨_, rfl⟩
  rw [← hWS] at hHeld ⊢
  have HB : Hid (Below w.heap.size w WS) := by rw [hWS]; exact (Below.refl _ _).drew
  clear hWS
  refine hand_to (i := 0) (d := 3) (v := (.pointer (some ⟨p, 0, none⟩))) rfl rfl (by kernel_rfl) (by kernel_rfl) (by kernel_rfl) (fun _ _ _ h => h) (Or.inl ⟨by rfl, ?_⟩) hHeld ?_
  · (intro w' hSw; obtain ⟨y0, y1, y2⟩ := hSw; go_simp)
  simp only [Act.put, List.setIfInBounds_toArray, List.set_cons_zero, List.set_cons_succ]
  refine hand_to (i := 1) (d := 4) (v := (.pointer (some ⟨p, 0, none⟩))) rfl rfl (by kernel_rfl) (by kernel_rfl) (by kernel_rfl) (fun _ _ _ h => h) (Or.inl ⟨by rfl, ?_⟩) hHeld ?_
  · (intro w' hSw; obtain ⟨y0, y1, y2⟩ := hSw; go_simp)
  simp only [Act.put, List.setIfInBounds_toArray, List.set_cons_zero, List.set_cons_succ]
  refine hand_to (i := 2) (d := 5) (v := (.pointer (some ⟨p, 0, none⟩))) rfl rfl (by kernel_rfl) (by kernel_rfl) (by kernel_rfl) (fun _ _ _ h => h) (Or.inl ⟨by rfl, ?_⟩) hHeld ?_
  · (intro w' hSw; obtain ⟨y0, y1, y2⟩ := hSw; go_simp)
  simp only [Act.put, List.setIfInBounds_toArray, List.set_cons_zero, List.set_cons_succ]
  refine hand_to (i := 3) (d := 6) (v := (.agg #[.slice ra rn rk, .slice rb rn' rk'])) rfl rfl (by kernel_rfl) (by kernel_rfl) (by kernel_rfl) (fun _ _ _ h => h) (Or.inl ⟨by rfl, ?_⟩) hHeld ?_
  · (intro w' hSw; obtain ⟨y0, y1, y2⟩ := hSw; go_simp)
  simp only [Act.put, List.setIfInBounds_toArray, List.set_cons_zero, List.set_cons_succ]
  refine hand_to (i := 4) (d := 7) (v := (.pointer (some ⟨p, 0, none⟩))) rfl rfl (by kernel_rfl) (by kernel_rfl) (by kernel_rfl) (fun _ _ _ h => h) (Or.inl ⟨by rfl, ?_⟩) hHeld ?_
  · (intro w' hSw; obtain ⟨y0, y1, y2⟩ := hSw; go_simp)
  simp only [Act.put, List.setIfInBounds_toArray, List.set_cons_zero, List.set_cons_succ]
  refine hand_to (i := 5) (d := 8) (v := (.pointer (some ⟨p, 0, none⟩))) rfl rfl (by kernel_rfl) (by kernel_rfl) (by kernel_rfl) (fun _ _ _ h => h) (Or.inl ⟨by rfl, ?_⟩) hHeld ?_
  · (intro w' hSw; obtain ⟨y0, y1, y2⟩ := hSw; go_simp)
  simp only [Act.put, List.setIfInBounds_toArray, List.set_cons_zero, List.set_cons_succ]
  refine hand_to (i := 6) (d := 9) (v := (.pointer (some ⟨p, 2, none⟩))) rfl rfl (by kernel_rfl) (by kernel_rfl) (by kernel_rfl) (fun _ _ _ h => h) (Or.inl ⟨by rfl, ?_⟩) hHeld ?_
  · (intro w' hSw; obtain ⟨y0, y1, y2⟩ := hSw; go_simp)
  simp only [Act.put, List.setIfInBounds_toArray, List.set_cons_zero, List.set_cons_succ]
  refine hand_to (i := 7) (d := 10) (v := (.int .i64 (F.length : Int))) rfl rfl (by kernel_rfl) (by kernel_rfl) (by kernel_rfl) (fun _ _ _ h => h) (Or.inl ⟨by rfl, ?_⟩) hHeld ?_
  · (intro w' hSw; obtain ⟨y0, y1, y2⟩ := hSw; go_simp)
  simp only [Act.put, List.setIfInBounds_toArray, List.set_cons_zero, List.set_cons_succ]
  refine hand_to (i := 8) (d := 11) (v := (.int .u64 (F.length : Int))) rfl rfl (by kernel_rfl) (by kernel_rfl) (by kernel_rfl) (fun _ _ _ h => h) (Or.inl ⟨by rfl, ?_⟩) hHeld ?_
  · (intro w' hSw; obtain ⟨y0, y1, y2⟩ := hSw; go_simp)
  simp only [Act.put, List.setIfInBounds_toArray, List.set_cons_zero, List.set_cons_succ]
  refine wpAnyH_ready (rs := [9]) (by kernel_rfl) (by simp) ?_
  refine AllReadyH.cons rfl (fun K hK => ?_) AllReadyH.nil
  skip
  go_simp
  (go_at_call 27; refine (unhide HPu WS (unhide HB)).mono ?_; rintro e V9 ⟨v9, rfl, ho, hbb⟩)
  (go_wp2_with fail)
  have HR := hide ho
  replace HB := hide (below_tr (unhide HB) hbb)
  clear ho hbb
  refine hK.out _ _ (unhide HS1 V9 (unhide HB)) (fun hHeld2 => ?_)
  clear hK K hHeld
  have hHeld := hHeld2
  clear hHeld2
  try simp only [Act.put, List.setIfInBounds_toArray, List.set_cons_zero, List.set_cons_succ]
  refine wpAnyH_ready (rs := [10]) (by kernel_rfl) (by simp) ?_
  refine AllReadyH.cons rfl (fun K hK => ?_) AllReadyH.nil
  skip
  go_simp
  (go_at_call 26; refine (unhide HDu V9 v9 (unhide HB) (unhide HR)).mono ?_; rintro e V10 ⟨v10, rfl, ho, hbb⟩)
  (go_wp2_with fail)
  replace HR := hide ho
  replace HB := hide ((unhide HB).trans hbb)
  clear ho hbb
  refine hK.out _ _ (unhide HS1 V10 (unhide HB)) (fun hHeld2 => ?_)
  clear hK K hHeld
  have hHeld := hHeld2
  clear hHeld2
  try simp only [Act.put, List.setIfInBounds_toArray, List.set_cons_zero, List.set_cons_succ]
  refine hand_to (i := 11) (d := 2) (v := v10) rfl rfl (by kernel_rfl) (by kernel_rfl) (by kernel_rfl) (fun _ _ _ h => h) (Or.inl ⟨by rfl, ?_⟩) hHeld ?_
  · (intro w' hSw; obtain ⟨y0, y1, y2⟩ := hSw; go_simp)
  simp only [Act.put, List.setIfInBounds_toArray, List.set_cons_zero, List.set_cons_succ]
  refine wpAnyH_done (by kernel_rfl) ?_ _
  go_wp2_with fail
  go_ret
  exact ⟨v10, rfl, unhide HR, unhide HB⟩
end
/-- A tree, none of whose blocks is one of N. -/
def TT (w : World) (p : Nat) (N : Nat → Prop) (F : List It) : Prop := ¬ N p ∧ (∀ g, N g → g < w.heap.size) ∧ ∃ O, TreeAt w p O F ∧ ∀ g, N g → ¬ O g
section
variable {w w' : World} {p : Nat} {N : Nat → Prop} {F : List It}
theorem TT.keep (h : TT w p N F) (hz : w.heap.size ≤ w'.heap.size) (hk : ∀ g, g < w.heap.size → ¬ N g → w'.heap[g]? = w.heap[g]?) : TT w' p N F := by
  obtain ⟨h1, h2, O, h3, h4⟩ := h
  exact ⟨h1, fun g hg => Nat.lt_of_lt_of_le (h2 g hg) hz, O, h3.keep hz (fun g hg hp => hk g hg (fun hN => hp.elim (fun e => h1 (e ▸ hN)) (h4 g hN))), h4⟩
theorem TT.below (h : TT w p N F) (hb : Below w.heap.size w w') : TT w' p N F := h.keep hb.size (fun g hg _ => hb.block g hg)
/-- Another's block turned. -/
theorem TT.other {q : Nat} (h : TT w p N F) (hq : N q) (hf : FrP q w w') : TT w' p N F := h.keep hf.2.2.2.1 (fun g hg hN => hf.2.2.2.2 g hg (fun e => hN (e ▸ hq)))
/-- What is new is no block of the tree. -/
theorem TT.more {N' : Nat → Prop} (h : TT w p N F) (hb : Below w.heap.size w w') (hN : ∀ g, N' g → N g ∨ (w.heap.size ≤ g ∧ g < w'.heap.size)) : TT w' p N' F := by
  obtain ⟨h1, h2, O, h3, h4⟩ := h
  have hp := h3.pos
  refine ⟨fun h => (hN p h).elim h1 (fun h => by omega), fun g hg => (hN g hg).elim (fun h => Nat.lt_of_lt_of_le (h2 g h) hb.size) (fun h => h.2), fun g => O g ∧ g < w.heap.size, h3.lt.below hb, fun g hg ho => (hN g hg).elim (fun h => h4 g h ho.1) (fun h => by omega)⟩
theorem TT.put {kv vv : Value} {x : It} (ht : TT w p N F) (hk : Txt w kv x.1) (hv : Txt w vv x.2) (hn : F.length ≤ 1000000) :
    Calls Tryz.prog 10 #[.pointer (some ⟨p, 0, none⟩), kv, vv] w fun e w' => e = .returned (.bool (!hasL x.1 F)) ∧ TT w' p N (insL x F) ∧ FrP p w w' := by
  obtain ⟨h1, h2, O, h3, h4⟩ := ht
  refine (Put_any h3 hk hv hn).mono ?_
  rintro e w' ⟨rfl, z1, z2⟩
  exact ⟨rfl, ⟨h1, fun g hg => Nat.lt_of_lt_of_le (h2 g hg) z2.2.2.2.1, _, z1, fun g hg ho => ho.elim (h4 g hg) (fun h => by have := h2 g hg; omega)⟩, z2⟩
theorem TT.del {kv : Value} {key : ByteArray} (ht : TT w p N F) (hk : Txt w kv key) (hn : F.length ≤ 1000000) :
    Calls Tryz.prog 12 #[.pointer (some ⟨p, 0, none⟩), kv] w fun e w' => e = .returned (.bool (hasL key F)) ∧ TT w' p N (delL key F) ∧ FrP p w w' := by
  obtain ⟨h1, h2, O, h3, h4⟩ := ht
  refine (Del_any h3 hk hn).mono ?_
  rintro e w' ⟨rfl, z1, z2⟩
  exact ⟨rfl, ⟨h1, fun g hg => Nat.lt_of_lt_of_le (h2 g hg) z2.2.2.2.1, _, z1, fun g hg ho => ho.elim (h4 g hg) (fun h => by have := h2 g hg; omega)⟩, z2⟩
theorem TT.srt (ht : TT w p N F) : Srt F := by
  obtain ⟨h1, h2, O, h3, h4⟩ := ht
  exact h3.srt
theorem TT.lt (ht : TT w p N F) : p < w.heap.size := by
  obtain ⟨h1, h2, O, h3, h4⟩ := ht
  exact h3.pos
theorem FrP.below {B : Nat} {a : World} (h : FrP p w w') (hb : Below B a w) (hp : B ≤ p) (hz : B ≤ w.heap.size) : Below B a w' := hb.trans ⟨h.1, h.2.1, h.2.2.1, h.2.2.2.1, fun g hg => h.2.2.2.2 g (by omega) (by omega)⟩
end
/-- A slice of constant bytes. -/
theorem br_lit (w : World) (C : List UInt8) (T : TypeId) (fz : Nat × Nat) (c : Nat) : BR (w.alloc (.cells (C.map fun b => Value.int .u8 (b.toNat : Int)).toArray T fz)) (.slice (some ⟨w.heap.size, 0, none⟩) C.length c) ⟨C.toArray⟩ := by
  have hsz : (⟨C.toArray⟩ : ByteArray).size = C.length := List.size_toArray
  refine .inr ⟨w.heap.size, 0, c, by rw [hsz], by simp, fun i hi => ?_⟩
  have hi' : i < C.length := by rw [← hsz]; exact hi
  rw [Nat.zero_add, World.cell?, heap_alloc_new]
  simp [hi']
/-- Put of a key of one byte with a value of one. -/
theorem put_lit {w : World} {p : Nat} {N : Nat → Prop} {F : List It} (a b : UInt8) (ht : TT w p N F) (hn : F.length ≤ 1000) :
    Calls Tryz.prog 10 #[.pointer (some ⟨p, 0, none⟩), .slice (some ⟨w.heap.size, 0, none⟩) 1 1, .slice (some ⟨w.heap.size + 1, 0, none⟩) 1 1] ((w.alloc (.cells #[.int .u8 (a.toNat : Int)] 5 (1, 2))).alloc (.cells #[.int .u8 (b.toNat : Int)] 5 (1, 2))) fun e w' => e = .returned (.bool (!hasL ⟨#[a]⟩ F)) ∧ TT w' p N (insL (⟨#[a]⟩, ⟨#[b]⟩) F) ∧ FrP p w w' := by
  have b1 := (Below.refl w.heap.size w).alloc (Nat.le_refl _) (.cells #[.int .u8 (a.toNat : Int)] 5 (1, 2))
  have b2 := (Below.refl (w.alloc (.cells #[.int .u8 (a.toNat : Int)] 5 (1, 2))).heap.size (w.alloc (.cells #[.int .u8 (a.toNat : Int)] 5 (1, 2)))).alloc (Nat.le_refl _) (.cells #[.int .u8 (b.toNat : Int)] 5 (1, 2))
  have r1 : BR (w.alloc (.cells #[.int .u8 (a.toNat : Int)] 5 (1, 2))) (.slice (some ⟨w.heap.size, 0, none⟩) 1 1) ⟨#[a]⟩ := br_lit w [a] _ _ 1
  have r2 : BR ((w.alloc (.cells #[.int .u8 (a.toNat : Int)] 5 (1, 2))).alloc (.cells #[.int .u8 (b.toNat : Int)] 5 (1, 2))) (.slice (some ⟨w.heap.size + 1, 0, none⟩) 1 1) ⟨#[b]⟩ := by
    have := br_lit (w.alloc (.cells #[.int .u8 (a.toNat : Int)] 5 (1, 2))) [b] 5 (1, 2) 1
    rw [World.size_alloc] at this
    exact this
  refine (TT.put (x := (⟨#[a]⟩, ⟨#[b]⟩)) ((ht.below b1).below b2) (r1.below b2).txt r2.txt (by omega)).mono ?_
  rintro e w' ⟨rfl, z1, z2⟩
  exact ⟨rfl, z1, (FrP.of_below (below_tr b1 b2)).trans z2⟩
theorem put_lit0 {w : World} {p : Nat} {N : Nat → Prop} {F : List It} (a : UInt8) (ht : TT w p N F) (hn : F.length ≤ 1000) :
    Calls Tryz.prog 10 #[.pointer (some ⟨p, 0, none⟩), .slice (some ⟨w.heap.size, 0, none⟩) 1 1, .slice none 0 0] (w.alloc (.cells #[.int .u8 (a.toNat : Int)] 5 (1, 2))) fun e w' => e = .returned (.bool (!hasL ⟨#[a]⟩ F)) ∧ TT w' p N (insL (⟨#[a]⟩, ⟨#[]⟩) F) ∧ FrP p w w' := by
  have b1 := (Below.refl w.heap.size w).alloc (Nat.le_refl _) (.cells #[.int .u8 (a.toNat : Int)] 5 (1, 2))
  have r1 : BR (w.alloc (.cells #[.int .u8 (a.toNat : Int)] 5 (1, 2))) (.slice (some ⟨w.heap.size, 0, none⟩) 1 1) ⟨#[a]⟩ := br_lit w [a] _ _ 1
  refine (TT.put (x := (⟨#[a]⟩, ⟨#[]⟩)) (ht.below b1) r1.txt (BR.txt (.inl ⟨rfl, none, 0, rfl⟩)) (by omega)).mono ?_
  rintro e w' ⟨rfl, z1, z2⟩
  exact ⟨rfl, z1, (FrP.of_below b1).trans z2⟩
set_option maxHeartbeats 12800000 in
set_option maxRecDepth 100000 in
theorem known7_any (w : World) : Calls Tryz.prog 4 #[] w fun e w' => e = .returned (.bool true) ∧ Below w.heap.size w w' := by
  have kc := fun (w : World) (C : Array Value) (n c : Nat) => run_convert_bytes_const (P := Tryz.prog) w 30 5 C n c Tryz.underlying30 Tryz.underlying5
  have kc2 : ∀ (w : World) (o : Obj) (C : Array Value) (n c : Nat), (convert 30 30 (.slice (some ⟨w.heap.size + 1, 0, none⟩) n c)).run Tryz.prog ((w.alloc o).alloc (.cells C 5)) = .ok (.slice (some ⟨w.heap.size + 1, 0, none⟩) n c) ((w.alloc o).alloc (.cells C 5 (C.size, C.size + 1))) := fun w o C n c => by
    have := kc (w.alloc o) C n c
    rw [World.size_alloc] at this
    exact this
  have HN := hide (New_any w)
  obtain ⟨F1, hF1⟩ : ∃ F1, F1 = insL (⟨#[98]⟩, ⟨#[49]⟩) [] := ⟨_, rfl⟩
  obtain ⟨F2, hF2⟩ : ∃ F2, F2 = insL (⟨#[97]⟩, ⟨#[]⟩) F1 := ⟨_, rfl⟩
  obtain ⟨F3, hF3⟩ : ∃ F3, F3 = insL (⟨#[97]⟩, ⟨#[50]⟩) F2 := ⟨_, rfl⟩
  have HF : Hid (hasL ⟨#[97]⟩ F1 = false ∧ hasL ⟨#[97]⟩ F2 = true ∧ F1.length ≤ 1000 ∧ F2.length ≤ 1000 ∧ F3.length = 2 ∧ leastL ⟨#[]⟩ F3 = some (⟨#[97]⟩, ⟨#[50]⟩) ∧ Sml F3) := by
    rw [hF3, hF2, hF1]
    refine ⟨by decide, by decide, by decide, by decide, by decide, by decide, ?_⟩
    intro y hy
    rcases insL_mem hy with rfl | hy
    · exact ⟨by decide, by decide⟩
    · rcases insL_mem hy with rfl | hy
      · exact ⟨by decide, by decide⟩
      · rcases insL_mem hy with rfl | hy
        · exact ⟨by decide, by decide⟩
        · cases hy
  have HP1 : Hid (∀ W : World, TT W w.heap.size (fun _ => False) [] ∧ Below w.heap.size w W → Calls Tryz.prog 10 #[.pointer (some ⟨w.heap.size, 0, none⟩), .slice (some ⟨W.heap.size, 0, none⟩) 1 1, .slice (some ⟨W.heap.size + 1, 0, none⟩) 1 1] ((W.alloc (.cells #[.int .u8 98] 5 (1, 2))).alloc (.cells #[.int .u8 49] 5 (1, 2))) fun e w' => e = .returned (.bool true) ∧ Hid (TT w' w.heap.size (fun _ => False) F1 ∧ Below w.heap.size w w')) := fun W hW => by
    refine (put_lit 98 49 hW.1 (by simp)).mono ?_
    rintro e w' ⟨rfl, z1, z2⟩
    exact ⟨rfl, by rw [hF1]; exact z1, z2.below hW.2 (Nat.le_refl _) hW.2.size⟩
  have HP2 : Hid (∀ W : World, TT W w.heap.size (fun _ => False) F1 ∧ Below w.heap.size w W → Calls Tryz.prog 10 #[.pointer (some ⟨w.heap.size, 0, none⟩), .slice (some ⟨W.heap.size, 0, none⟩) 1 1, .slice none 0 0] (W.alloc (.cells #[.int .u8 97] 5 (1, 2))) fun e w' => e = .returned (.bool true) ∧ Hid (TT w' w.heap.size (fun _ => False) F2 ∧ Below w.heap.size w w')) := fun W hW => by
    refine (put_lit0 97 hW.1 (unhide HF).2.2.1).mono ?_
    rintro e w' ⟨rfl, z1, z2⟩
    exact ⟨by rw [(unhide HF).1]; rfl, by rw [hF2]; exact z1, z2.below hW.2 (Nat.le_refl _) hW.2.size⟩
  have HP3 : Hid (∀ W : World, TT W w.heap.size (fun _ => False) F2 ∧ Below w.heap.size w W → Calls Tryz.prog 10 #[.pointer (some ⟨w.heap.size, 0, none⟩), .slice (some ⟨W.heap.size, 0, none⟩) 1 1, .slice (some ⟨W.heap.size + 1, 0, none⟩) 1 1] ((W.alloc (.cells #[.int .u8 97] 5 (1, 2))).alloc (.cells #[.int .u8 50] 5 (1, 2))) fun e w' => e = .returned (.bool false) ∧ Hid (TT w' w.heap.size (fun _ => False) F3 ∧ Below w.heap.size w w')) := fun W hW => by
    refine (put_lit 97 50 hW.1 (unhide HF).2.2.2.1).mono ?_
    rintro e w' ⟨rfl, z1, z2⟩
    exact ⟨by rw [(unhide HF).2.1]; rfl, by rw [hF3]; exact z1, z2.below hW.2 (Nat.le_refl _) hW.2.size⟩
  have HSk : Hid (∀ W : World, TT W w.heap.size (fun _ => False) F3 ∧ Below w.heap.size w W → Calls Tryz.prog 7 #[.pointer (some ⟨w.heap.size, 0, none⟩), .slice none 0 0] W fun e w' => ∃ q, e = .returned (.pointer (some ⟨q, 0, none⟩)) ∧ Hid (TT w' w.heap.size (fun g => g = q) F3 ∧ Below w.heap.size w w' ∧ CV w' q w.heap.size ⟨#[]⟩ ∧ w.heap.size < q)) := fun W hW => by
    refine (Seek_any (p := w.heap.size) (BR.txt (k := ⟨#[]⟩) (.inl ⟨rfl, none, 0, rfl⟩))).mono ?_
    rintro e w' ⟨rfl, z1, z2, z3⟩
    exact ⟨_, rfl, hW.1.more z2 (fun g hg => .inr ⟨by omega, by omega⟩), below_tr hW.2 z2, z1, hW.1.lt⟩
  have HNx : Hid (∀ (W : World) (q : Nat), (TT W w.heap.size (fun g => g = q) F3 ∧ Below w.heap.size w W ∧ CV W q w.heap.size ⟨#[]⟩ ∧ w.heap.size < q) → Calls Tryz.prog 13 #[.pointer (some ⟨q, 0, none⟩)] W fun e w' => ∃ vk vv, e = .returned (.tuple #[vk, vv, .bool true]) ∧ ((convert 30 9 vk).run Tryz.prog w' = .ok (.string ⟨#[97]⟩) w' ∧ (convert 30 9 vv).run Tryz.prog w' = .ok (.string ⟨#[50]⟩) w') ∧ Hid (TT w' w.heap.size (fun g => g = q) F3 ∧ Below w.heap.size w w')) := fun W q hW => by
    obtain ⟨⟨h1, h2, O, h3, h4⟩, h5, h6, h7⟩ := hW
    refine (Next_any h3 h6 (fun y hy => ((unhide HF).2.2.2.2.2.2 y hy).1)).mono ?_
    rintro e w' ⟨z1, ⟨x, vk, vv, zx, rfl, z2, z3, z4⟩ | ⟨zx, _⟩⟩
    · rw [(unhide HF).2.2.2.2.2.1] at zx
      cases zx
      exact ⟨vk, vv, rfl, ⟨z3.conv, z4.conv⟩, TT.other ⟨h1, h2, O, h3, h4⟩ rfl z1, z1.below h5 (by omega) h5.size⟩
    · rw [(unhide HF).2.2.2.2.2.1] at zx
      cases zx
  have HLn : Hid (∀ (W : World) (q : Nat), (TT W w.heap.size (fun g => g = q) F3 ∧ Below w.heap.size w W) → Calls Tryz.prog 15 #[.pointer (some ⟨w.heap.size, 0, none⟩)] W fun e w' => e = .returned (.int .i64 2) ∧ w' = W) := fun W q hW => by
    obtain ⟨⟨h1, h2, O, h3, h4⟩, h5⟩ := hW
    refine (Len_any h3).mono ?_
    rintro e w' ⟨rfl, rfl⟩
    exact ⟨by rw [(unhide HF).2.2.2.2.1]; rfl, rfl⟩
  clear hF1 hF2 hF3 HF
  go_enter Tryz.func4, Tryz.ntmps4
  go_wp2_with (first
    | (go_at_call 6; refine (unhide HN).mono ?_; rintro e w1 ⟨rfl, ht1, hb1, hz1⟩; clear HN; have HT1 : Hid (TT w1 w.heap.size (fun _ => False) [] ∧ Below w.heap.size w w1) := ⟨⟨id, fun _ h => h.elim, _, ht1, fun _ h => h.elim⟩, hb1⟩; clear ht1 hb1 hz1; have HP := hide (unhide HP1 w1 (unhide HT1)); clear HP1 HT1)
    | (go_at_call 10; refine (unhide HP).mono ?_; rintro e w2 ⟨rfl, HT2⟩; clear HP; have HQ := hide (unhide HP2 w2 (unhide HT2)); clear HP2 HT2)
    | (go_at_call 10; refine (unhide HQ).mono ?_; rintro e w3 ⟨rfl, HT3⟩; clear HQ; have HR := hide (unhide HP3 w3 (unhide HT3)); clear HP3 HT3)
    | (go_at_call 10; refine (unhide HR).mono ?_; rintro e w4 ⟨rfl, HT4⟩; clear HR; have HS := hide (unhide HSk w4 (unhide HT4)); clear HSk HT4)
    | (go_at_call 7; refine (unhide HS).mono ?_; rintro e w5 ⟨q, rfl, HT5⟩; clear HS; have HU := hide (unhide HNx w5 q (unhide HT5)); clear HNx HT5)
    | (go_at_call 13; refine (unhide HU).mono ?_; rintro e w6 ⟨vk, vv, rfl, ⟨hc1, hc2⟩, HT6⟩; clear HU; have HV := hide (unhide HLn w6 q (unhide HT6)); clear HLn)
    | (go_at_call 15; refine (unhide HV).mono ?_; rintro e w7 ⟨rfl, rfl⟩; clear HV))
  go_ret
  exact ⟨rfl, (unhide HT6).2⟩
end Go.Proofs.YtlmjmhpdpgeplaaGreatDoor
