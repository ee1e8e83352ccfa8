/- The reader of a tree's bytes: fault, number, text, item. -/
import Derived.Test.YtlmjmhpdpgeplaaGreatDoorJTOneMTRdM
import Derived.Test.YtlmjmhpdpgeplaaGreatDoorJAsTAs2
import Derived.Test.YtlmjmhpdpgeplaaGreatDoorJNumsFaultsUint
namespace Go.Proofs.YtlmjmhpdpgeplaaGreatDoor
open Go.RowKit Go.Lib

/-- A reader's block. -/
def RD (w : World) (r : Nat) (v : Value) (a : Nat) (fr : ByteArray) : Prop := w.heap[r]? = some (.cells #[v, .int .i64 (a : Int), .string fr] 77 (0, 0))
theorem RD.cells {w : World} {r : Nat} {v : Value} {a : Nat} {fr : ByteArray} (h : RD w r v a fr) : w.cell? ⟨r, 0, none⟩ = some v ∧ w.cell? ⟨r, 1, none⟩ = some (.int .i64 (a : Int)) ∧ w.cell? ⟨r, 2, none⟩ = some (.string fr) ∧ w.frozen? ⟨r, 1, none⟩ = false ∧ w.frozen? ⟨r, 2, none⟩ = false := ⟨cellB2 h 0, cellB2 h 1, cellB2 h 2, frzB2 h 1, frzB2 h 2⟩
theorem RD.below {w w' : World} {r : Nat} {v : Value} {a : Nat} {fr : ByteArray} (h : RD w r v a fr) (hb : Below w.heap.size w w') : RD w' r v a fr := blk_below h hb
theorem RD.set1 {w : World} {r : Nat} {v : Value} {a : Nat} {fr : ByteArray} (h : RD w r v a fr) (a' : Nat) : RD (w.setCell ⟨r, 1, none⟩ (.int .i64 (a' : Int))) r v a' fr := (heap_set_at h _ _).trans rfl
theorem RD.set2 {w : World} {r : Nat} {v : Value} {a : Nat} {fr : ByteArray} (h : RD w r v a fr) (fr' : ByteArray) : RD (w.setCell ⟨r, 2, none⟩ (.string fr')) r v a fr' := (heap_set_at h _ _).trans rfl
/-- Bytes that stand apart from a reader. -/
def BL (w : World) (r : Nat) (v : Value) (l : List UInt8) : Prop :=
  (v = .slice none 0 0 ∧ l = []) ∨ ∃ b off cap, v = .slice (some ⟨b, off, none⟩) l.length cap ∧ l.length ≤ cap ∧ cap ≤ maxLen ∧ b ≠ r ∧ b < w.heap.size ∧ ∀ i, i < l.length → w.cell? ⟨b, off + i, none⟩ = some (.int .u8 ((l.getD i 0).toNat : Int))
theorem BL.keep {w w' : World} {r : Nat} {v : Value} {l : List UInt8} (h : BL w r v l) (hf : FrP r w w') : BL w' r v l := by
  obtain h | ⟨b, off, cap, rfl, h2, h3, h4, h5, h6⟩ := h
  · exact .inl h
  · exact .inr ⟨b, off, cap, rfl, h2, h3, h4, Nat.lt_of_lt_of_le h5 hf.2.2.2.1, fun i hi => (World.cell?_of_block (hf.2.2.2.2 b h5 h4)).trans (h6 i hi)⟩
/-- A reader over bytes, at a place. -/
def RS2 (w : World) (r : Nat) (v : Value) (l : List UInt8) (a : Nat) (fr : ByteArray) : Prop := RD w r v a fr ∧ BL w r v l ∧ a ≤ l.length ∧ l.length ≤ 1000000 ∧ ET w ∧ 0 ≠ r
theorem RS2.below {w w' : World} {r : Nat} {v : Value} {l : List UInt8} {a : Nat} {fr : ByteArray} (h : RS2 w r v l a fr) (hb : Below w.heap.size w w') : RS2 w' r v l a fr := ⟨h.1.below hb, h.2.1.keep (FrP.of_below hb), h.2.2.1, h.2.2.2.1, h.2.2.2.2.1.below hb h.2.2.2.2.1.lt, h.2.2.2.2.2⟩
theorem ET.frp {w w' : World} {r : Nat} (h : ET w) (hf : FrP r w w') (hr : 0 ≠ r) : ET w' := by
  unfold ET
  rw [World.cell?_of_block (a := ⟨0, 0, none⟩) (hf.2.2.2.2 _ h.lt hr)]; exact h
theorem RS2.move {w w' : World} {r : Nat} {v : Value} {l : List UInt8} {a a' : Nat} {fr fr' : ByteArray} (h : RS2 w r v l a fr) (hd : RD w' r v a' fr') (hf : FrP r w w') (ha : a' ≤ l.length) : RS2 w' r v l a' fr' := ⟨hd, h.2.1.keep hf, ha, h.2.2.2.1, h.2.2.2.2.1.frp hf h.2.2.2.2.2, h.2.2.2.2.2⟩
set_option maxHeartbeats 3200000 in
set_option maxRecDepth 100000 in
theorem fault_p {w : World} {r : Nat} {v : Value} {l : List UInt8} {a b : Nat} {fr : ByteArray} {pl c : Int} (h : RS2 w r v l a fr) (he : ErrAt w b pl c) :
    Calls Tryz.prog 33 #[.pointer (some ⟨r, 0, none⟩), ev b] w fun e w' => ∃ T x, e = .returned (.iface T x) ∧ Chn w' 20 1 (.iface T x) ∧ Below w.heap.size w w' := by
  have hbl := he.lt
  obtain ⟨c0, c1, c2, _, _⟩ := h.1.cells
  have hE1 := h.2.2.2.2.1.alloc (.cells #[.pointer none] 98)
  have ht1 : (w.alloc (.cells #[.pointer none] 98)).cell? ⟨w.heap.size, 0, none⟩ = some (.pointer none) := by simp
  have hf1 : (w.alloc (.cells #[.pointer none] 98)).frozen? ⟨w.heap.size, 0, none⟩ = false := by simp
  have HAs : Hid (Calls Tryz.prog 47 #[ev b, .iface 100 (.pointer (some ⟨w.heap.size, 0, none⟩))] (w.alloc (.cells #[.pointer none] 98)) fun e w1 => e = .returned (.bool true) ∧ w1.cell? ⟨w.heap.size, 0, none⟩ = some (.pointer (some ⟨b, 0, none⟩)) ∧ w1.cell? ⟨b, 0, none⟩ = some (.int .i64 pl) ∧ Hid (Below w.heap.size w w1 ∧ w.heap.size ≤ w1.heap.size)) := by
    refine (as_place b ⟨w.heap.size, 0, none⟩ _ _ hE1 ht1 hf1).mono ?_
    rintro e w1 ⟨rfl, q1, q2, q3⟩
    have hb : Below w.heap.size w w1 := ((Below.refl _ _).alloc (Nat.le_refl _) _).trans q2
    exact ⟨rfl, q1, (hb.cell (p := ⟨b, 0, none⟩) hbl).trans he.1, hb, hb.size⟩
  clear h he hE1 ht1 hf1 hbl
  go_enter Tryz.func33, Tryz.ntmps33
  go_wp2_with (go_at_call 47; refine (unhide HAs).mono ?_; rintro e w1 ⟨rfl, q1, q2, hb1⟩; clear HAs)
  go_ret
  exact ⟨_, _, rfl, ⟨_, w1.heap.size, _, .inr rfl, rfl, by simp, by simp, rfl⟩, (unhide hb1).1.alloc (unhide hb1).2 _⟩
set_option maxHeartbeats 3200000 in
set_option maxRecDepth 100000 in
theorem fault_c {w : World} {r : Nat} {v : Value} {l : List UInt8} {a : Nat} {fr : ByteArray} (h : RS2 w r v l a fr) :
    Calls Tryz.prog 33 #[.pointer (some ⟨r, 0, none⟩), .iface 67 (.int .i64 20)] w fun e w' => ∃ T x, e = .returned (.iface T x) ∧ Chn w' 20 1 (.iface T x) ∧ Below w.heap.size w w' := by
  obtain ⟨c0, c1, c2, _, _⟩ := h.1.cells
  have hE1 := h.2.2.2.2.1.alloc (.cells #[.pointer none] 98)
  have ht1 : (w.alloc (.cells #[.pointer none] 98)).cell? ⟨w.heap.size, 0, none⟩ = some (.pointer none) := by simp
  have HAs : Hid (Calls Tryz.prog 47 #[.iface 67 (.int .i64 20), .iface 100 (.pointer (some ⟨w.heap.size, 0, none⟩))] (w.alloc (.cells #[.pointer none] 98)) fun e w1 => e = .returned (.bool false) ∧ Hid (Below w.heap.size w w1 ∧ w.heap.size ≤ w1.heap.size)) := by
    refine (as_CP 20 ⟨w.heap.size, 0, none⟩ _ _ hE1 ht1).mono ?_
    rintro e w1 ⟨rfl, q2⟩
    have hb : Below w.heap.size w w1 := ((Below.refl _ _).alloc (Nat.le_refl _) _).trans (q2.mono (by simp))
    exact ⟨rfl, hb, hb.size⟩
  clear h hE1 ht1
  go_enter Tryz.func33, Tryz.ntmps33
  go_wp2_with (go_at_call 47; refine (unhide HAs).mono ?_; rintro e w1 ⟨rfl, hb1⟩; clear HAs)
  go_ret
  exact ⟨_, _, rfl, ⟨_, w1.heap.size, _, .inr rfl, rfl, by simp, by simp, rfl⟩, (unhide hb1).1.alloc (unhide hb1).2 _⟩
/-- What number tells. -/
def NumP (w : World) (r : Nat) (v : Value) (l : List UInt8) (a : Nat) (fr : ByteArray) (e : Ending) (w' : World) : Prop :=
  FrP r w w' ∧ ((∃ n a', rdNum l a = some (n, a') ∧ e = .returned (.tuple #[.int .i64 ((n : Nat) : Int), .nilIface]) ∧ RS2 w' r v l a' fr) ∨ (rdNum l a = none ∧ RS2 w' r v l a fr ∧ ∃ T x, e = .returned (.tuple #[.int .i64 0, .iface T x]) ∧ Chn w' 20 1 (.iface T x)))
set_option maxHeartbeats 12800000 in
set_option maxRecDepth 100000 in
theorem number_core {w : World} {r : Nat} {va : Option Addr} {vc : Nat} {vs : Value} {l : List UInt8} {a : Nat} {fr : ByteArray} (h : RS2 w r (.slice va l.length vc) l a fr)
    (hsl : ∀ W : World, (Instr.slice 30 (.slice va l.length vc) (some (.int .i64 (a : Int))) none none).run Tryz.prog W = .ok vs W)
    (hu : ∀ W : World, Below w.heap.size w W → Calls Tryz.prog 45 #[vs] W fun e w' => UPost 98 67 102 (decU (l.drop a)) W e w') :
    Calls Tryz.prog 30 #[.pointer (some ⟨r, 0, none⟩)] w (NumP w r (.slice va l.length vc) l a fr) := by
  obtain ⟨n, hn⟩ : ∃ n, n = (decU (l.drop a)).1 := ⟨_, rfl⟩
  obtain ⟨s, hs⟩ : ∃ s, s = (decU (l.drop a)).2.1 := ⟨_, rfl⟩
  have HU : Hid (∀ W : World, Below w.heap.size w W → Calls Tryz.prog 45 #[vs] W fun e w' => ∃ (n' s' : Nat) (er : Value), e = .returned (.tuple #[.int .u64 (n' : Int), .int .i64 (s' : Int), er]) ∧ Hid (Below W.heap.size W w' ∧ ((er = .nilIface ∧ (decU (l.drop a)).2.2.1 = 0 ∧ n = n' ∧ s = s') ∨ ((decU (l.drop a)).2.2.1 ≠ 0 ∧ ∃ b pl c, er = ev b ∧ ErrAt w' b pl c)))) := fun W hb => by
    refine (hu W hb).mono ?_
    intro e w' hp
    unfold UPost at hp
    split at hp
    · rename_i h0
      obtain ⟨rfl, rfl⟩ := hp
      exact ⟨n, s, .nilIface, by rw [hn, hs], Below.refl _ _, .inl ⟨rfl, h0, rfl, rfl⟩⟩
    · rename_i h0
      obtain ⟨rfl, rfl⟩ := hp
      exact ⟨0, 0, _, rfl, (Below.refl _ _).alloc (Nat.le_refl _) _, .inr ⟨h0, W.heap.size, _, _, rfl, ErrAt.new _ _ _⟩⟩
  have HN := hide (And.intro hn hs)
  have HS1 : Hid (∀ W : World, Below w.heap.size w W → W.cell? ⟨r, 0, none⟩ = some (.slice va l.length vc) ∧ W.cell? ⟨r, 1, none⟩ = some (.int .i64 (a : Int))) := fun W hb => ⟨(h.1.below hb).cells.1, (h.1.below hb).cells.2.1⟩
  have HR := hide h
  obtain ⟨len, hlen⟩ : ∃ len, len = l.length := ⟨_, rfl⟩
  rw [← hlen] at hsl HS1
  have HL := hide hlen
  clear h hu hn hs hlen
  go_enter Tryz.func30, Tryz.ntmps30
  go_upto_region 1 with fail
  refine wp_region_held_drew (S := fun w' => w'.cell? ⟨r, 0, none⟩ = some (.slice va len vc) ∧ w'.cell? ⟨r, 1, none⟩ = some (.int .i64 (a : Int))) (by kernel_rfl) (unhide HS1 _ (Below.refl _ _).drew) (fun hHeld => ?_)
  obtain ⟨WS, hWS⟩ : ∃ WS, WS = w.drew := ⟨_, rfl⟩
  rw [← hWS] at hHeld ⊢
  have HB : Hid (Below w.heap.size w WS) := by rw [hWS]; exact (Below.refl _ _).drew
  clear hWS
  refine hand_to (i := 0) (d := 8) (v := (.pointer (some ⟨r, 0, none⟩))) rfl rfl (by kernel_rfl) (by kernel_rfl) (by kernel_rfl) (fun _ _ _ h => h) (Or.inl ⟨by rfl, ?_⟩) hHeld ?_
  · (intro w' hSw; obtain ⟨y0, y1⟩ := hSw; go_simp)
  simp only [Act.put, List.setIfInBounds_toArray, List.set_cons_zero, List.set_cons_succ]
  refine hand_to (i := 1) (d := 9) (v := (.pointer (some ⟨r, 0, none⟩))) rfl rfl (by kernel_rfl) (by kernel_rfl) (by kernel_rfl) (fun _ _ _ h => h) (Or.inl ⟨by rfl, ?_⟩) hHeld ?_
  · (intro w' hSw; obtain ⟨y0, y1⟩ := hSw; go_simp)
  simp only [Act.put, List.setIfInBounds_toArray, List.set_cons_zero, List.set_cons_succ]
  refine hand_to (i := 2) (d := 10) (v := (.pointer (some ⟨r, 0, none⟩))) rfl rfl (by kernel_rfl) (by kernel_rfl) (by kernel_rfl) (fun _ _ _ h => h) (Or.inl ⟨by rfl, ?_⟩) hHeld ?_
  · (intro w' hSw; obtain ⟨y0, y1⟩ := hSw; go_simp)
  simp only [Act.put, List.setIfInBounds_toArray, List.set_cons_zero, List.set_cons_succ]
  refine hand_to (i := 3) (d := 11) (v := (.slice va len vc)) rfl rfl (by kernel_rfl) (by kernel_rfl) (by kernel_rfl) (fun _ _ _ h => h) (Or.inl ⟨by rfl, ?_⟩) hHeld ?_
  · (intro w' hSw; obtain ⟨y0, y1⟩ := hSw; go_simp)
  simp only [Act.put, List.setIfInBounds_toArray, List.set_cons_zero, List.set_cons_succ]
  refine hand_to (i := 4) (d := 12) (v := (.pointer (some ⟨r, 0, none⟩))) rfl rfl (by kernel_rfl) (by kernel_rfl) (by kernel_rfl) (fun _ _ _ h => h) (Or.inl ⟨by rfl, ?_⟩) hHeld ?_
  · (intro w' hSw; obtain ⟨y0, y1⟩ := hSw; go_simp)
  simp only [Act.put, List.setIfInBounds_toArray, List.set_cons_zero, List.set_cons_succ]
  refine hand_to (i := 5) (d := 13) (v := (.pointer (some ⟨r, 0, none⟩))) rfl rfl (by kernel_rfl) (by kernel_rfl) (by kernel_rfl) (fun _ _ _ h => h) (Or.inl ⟨by rfl, ?_⟩) hHeld ?_
  · (intro w' hSw; obtain ⟨y0, y1⟩ := hSw; go_simp)
  simp only [Act.put, List.setIfInBounds_toArray, List.set_cons_zero, List.set_cons_succ]
  refine hand_to (i := 6) (d := 14) (v := (.pointer (some ⟨r, 1, none⟩))) rfl rfl (by kernel_rfl) (by kernel_rfl) (by kernel_rfl) (fun _ _ _ h => h) (Or.inl ⟨by rfl, ?_⟩) hHeld ?_
  · (intro w' hSw; obtain ⟨y0, y1⟩ := hSw; go_simp)
  simp only [Act.put, List.setIfInBounds_toArray, List.set_cons_zero, List.set_cons_succ]
  refine hand_to (i := 7) (d := 15) (v := (.int .i64 (a : Int))) rfl rfl (by kernel_rfl) (by kernel_rfl) (by kernel_rfl) (fun _ _ _ h => h) (Or.inl ⟨by rfl, ?_⟩) hHeld ?_
  · (intro w' hSw; obtain ⟨y0, y1⟩ := hSw; go_simp)
  simp only [Act.put, List.setIfInBounds_toArray, List.set_cons_zero, List.set_cons_succ]
  refine hand_to (i := 8) (d := 16) (v := vs) rfl rfl (by kernel_rfl) (by kernel_rfl) (by kernel_rfl) (fun _ _ _ h => h) (Or.inl ⟨by rfl, ?_⟩) hHeld ?_
  · (intro w' hSw; obtain ⟨y0, y1⟩ := hSw; go_simp)
  simp only [Act.put, List.setIfInBounds_toArray, List.set_cons_zero, List.set_cons_succ]
  refine wpAnyH_ready (rs := [9]) (by kernel_rfl) (by simp) ?_
  refine AllReadyH.cons rfl (fun K hK => ?_) AllReadyH.nil
  skip
  go_simp
  (go_at_call 45; refine (unhide HU WS (unhide HB)).mono ?_; rintro e V9 ⟨n', s', er, rfl, hE⟩)
  (go_wp2_with fail)
  replace HB := hide (below_tr (unhide HB) (unhide hE).1)
  have HE := hide (unhide hE).2
  clear hE
  refine hK.out _ _ (unhide HS1 V9 (unhide HB)) (fun hHeld2 => ?_)
  clear hK K hHeld
  have hHeld := hHeld2
  clear hHeld2
  try simp only [Act.put, List.setIfInBounds_toArray, List.set_cons_zero, List.set_cons_succ]
  refine hand_to (i := 10) (d := 7) (v := (.tuple #[.int .u64 (n' : Int), .int .i64 (s' : Int), er])) rfl rfl (by kernel_rfl) (by kernel_rfl) (by kernel_rfl) (fun _ _ _ h => h) (Or.inl ⟨by rfl, ?_⟩) hHeld ?_
  · (intro w' hSw; obtain ⟨y0, y1⟩ := hSw; go_simp)
  simp only [Act.put, List.setIfInBounds_toArray, List.set_cons_zero, List.set_cons_succ]
  refine hand_to (i := 11) (d := 18) (v := (.int .u64 (n' : Int))) rfl rfl (by kernel_rfl) (by kernel_rfl) (by kernel_rfl) (fun _ _ _ h => h) (Or.inl ⟨by rfl, ?_⟩) hHeld ?_
  · (intro w' hSw; obtain ⟨y0, y1⟩ := hSw; go_simp)
  simp only [Act.put, List.setIfInBounds_toArray, List.set_cons_zero, List.set_cons_succ]
  refine hand_to (i := 12) (d := 19) (v := (.int .i64 (s' : Int))) rfl rfl (by kernel_rfl) (by kernel_rfl) (by kernel_rfl) (fun _ _ _ h => h) (Or.inl ⟨by rfl, ?_⟩) hHeld ?_
  · (intro w' hSw; obtain ⟨y0, y1⟩ := hSw; go_simp)
  simp only [Act.put, List.setIfInBounds_toArray, List.set_cons_zero, List.set_cons_succ]
  refine hand_to (i := 13) (d := 20) (v := er) rfl rfl (by kernel_rfl) (by kernel_rfl) (by kernel_rfl) (fun _ _ _ h => h) (Or.inl ⟨by rfl, ?_⟩) hHeld ?_
  · (intro w' hSw; obtain ⟨y0, y1⟩ := hSw; go_simp)
  simp only [Act.put, List.setIfInBounds_toArray, List.set_cons_zero, List.set_cons_succ]
  refine hand_to (i := 14) (d := 4) (v := (.int .u64 (n' : Int))) rfl rfl (by kernel_rfl) (by kernel_rfl) (by kernel_rfl) (fun _ _ _ h => h) (Or.inl ⟨by rfl, ?_⟩) hHeld ?_
  · (intro w' hSw; obtain ⟨y0, y1⟩ := hSw; go_simp)
  simp only [Act.put, List.setIfInBounds_toArray, List.set_cons_zero, List.set_cons_succ]
  refine hand_to (i := 15) (d := 5) (v := (.int .i64 (s' : Int))) rfl rfl (by kernel_rfl) (by kernel_rfl) (by kernel_rfl) (fun _ _ _ h => h) (Or.inl ⟨by rfl, ?_⟩) hHeld ?_
  · (intro w' hSw; obtain ⟨y0, y1⟩ := hSw; go_simp)
  simp only [Act.put, List.setIfInBounds_toArray, List.set_cons_zero, List.set_cons_succ]
  refine hand_to (i := 16) (d := 6) (v := er) rfl rfl (by kernel_rfl) (by kernel_rfl) (by kernel_rfl) (fun _ _ _ h => h) (Or.inl ⟨by rfl, ?_⟩) hHeld ?_
  · (intro w' hSw; obtain ⟨y0, y1⟩ := hSw; go_simp)
  simp only [Act.put, List.setIfInBounds_toArray, List.set_cons_zero, List.set_cons_succ]
  refine wpAnyH_done (by kernel_rfl) ?_ _
  rcases unhide HE with ⟨rfl, hd0, rfl, rfl⟩ | ⟨hd0, b, pl, c, rfl, hea⟩
  · have HQ : Hid (a + s ≤ l.length ∧ a ≤ l.length ∧ l.length ≤ 1000000 ∧ n < 18446744073709551616) := by
      obtain ⟨u1, u2⟩ := unhide HN
      obtain ⟨D, hD⟩ : ∃ D, D = decU (l.drop a) := ⟨_, rfl⟩
      rw [← hD] at hd0 u1 u2
      obtain ⟨m, k, c, q⟩ := D
      simp only at hd0 u1 u2
      subst hd0 u1 u2
      obtain ⟨c1, c2, c3, c4⟩ := decU_canon hD.symm
      rw [List.length_drop] at c4
      have := (unhide HR).2.2.1
      exact ⟨by omega, this, (unhide HR).2.2.2.1, c1⟩
    obtain ⟨q1, hq1⟩ : ∃ q1, q1 = l.length - a := ⟨_, rfl⟩
    obtain ⟨q2, hq2⟩ : ∃ q2, q2 = l.length - a - s := ⟨_, rfl⟩
    have hlq := unhide HL
    have hqq := unhide HQ
    have e1 : (len : Int) - (a : Int) = (q1 : Int) := by omega
    have e2 : (q1 : Int) - (s : Int) = (q2 : Int) := by omega
    have e3 : IntKind.i64.wrap (q1 : Int) = (q1 : Int) := by rw [IntKind.wrap_i64] <;> omega
    have e4 : IntKind.i64.wrap (q2 : Int) = (q2 : Int) := by rw [IntKind.wrap_i64] <;> omega
    have e5 : IntKind.u64.wrap (q2 : Int) = (q2 : Int) := by rw [IntKind.wrap_u64] <;> omega
    have e6 : IntKind.i64.wrap ((a : Int) + (s : Int)) = (a : Int) + (s : Int) := by rw [IntKind.wrap_i64] <;> omega
    have HQ2 := hide hq2
    by_cases hgt : n ≤ q2
    · have hgi : ¬ ((q2 : Int) < (n : Int)) := by omega
      have e7 : IntKind.i64.wrap (n : Int) = (n : Int) := by rw [IntKind.wrap_i64] <;> omega
      have HYes : Hid (rdNum l a = some (n, a + s)) := by
        obtain ⟨u1, u2⟩ := unhide HN
        show rdNum l a = some (n, a + s)
        unfold rdNum
        rw [if_pos ⟨hd0, by rw [← u1, ← u2]; omega⟩, ← u1, ← u2]
      clear hq1 hq2 hlq hqq hgt hd0 HE hHeld
      go_upto_region 4 with fail
      refine wp_region_held_drew (S := fun w' => w'.cell? ⟨r, 0, none⟩ = some (.slice va len vc) ∧ w'.cell? ⟨r, 1, none⟩ = some (.int .i64 (a : Int))) (by kernel_rfl) (unhide HS1 _ (below_tr (unhide HB) (Below.refl _ _).drew)) (fun hHeld => ?_)
      obtain ⟨W4, hW4⟩ : ∃ W4, W4 = V9.drew := ⟨_, rfl⟩
      rw [← hW4] at hHeld ⊢
      have HB4 : Hid (Below w.heap.size w W4) := by rw [hW4]; exact below_tr (unhide HB) (Below.refl _ _).drew
      clear hW4 HB
      refine hand_to (i := 0) (d := 26) (v := (.int .u64 (n : Int))) rfl rfl (by kernel_rfl) (by kernel_rfl) (by kernel_rfl) (fun _ _ _ h => h) (Or.inl ⟨by rfl, ?_⟩) hHeld ?_
      · (intro w' hSw; obtain ⟨y0, y1⟩ := hSw; go_simp)
      simp only [Act.put, List.setIfInBounds_toArray, List.set_cons_zero, List.set_cons_succ]
      refine hand_to (i := 1) (d := 27) (v := (.pointer (some ⟨r, 0, none⟩))) rfl rfl (by kernel_rfl) (by kernel_rfl) (by kernel_rfl) (fun _ _ _ h => h) (Or.inl ⟨by rfl, ?_⟩) hHeld ?_
      · (intro w' hSw; obtain ⟨y0, y1⟩ := hSw; go_simp)
      simp only [Act.put, List.setIfInBounds_toArray, List.set_cons_zero, List.set_cons_succ]
      refine hand_to (i := 2) (d := 28) (v := (.pointer (some ⟨r, 0, none⟩))) rfl rfl (by kernel_rfl) (by kernel_rfl) (by kernel_rfl) (fun _ _ _ h => h) (Or.inl ⟨by rfl, ?_⟩) hHeld ?_
      · (intro w' hSw; obtain ⟨y0, y1⟩ := hSw; go_simp)
      simp only [Act.put, List.setIfInBounds_toArray, List.set_cons_zero, List.set_cons_succ]
      refine hand_to (i := 3) (d := 29) (v := (.pointer (some ⟨r, 0, none⟩))) rfl rfl (by kernel_rfl) (by kernel_rfl) (by kernel_rfl) (fun _ _ _ h => h) (Or.inl ⟨by rfl, ?_⟩) hHeld ?_
      · (intro w' hSw; obtain ⟨y0, y1⟩ := hSw; go_simp)
      simp only [Act.put, List.setIfInBounds_toArray, List.set_cons_zero, List.set_cons_succ]
      refine hand_to (i := 4) (d := 30) (v := (.slice va len vc)) rfl rfl (by kernel_rfl) (by kernel_rfl) (by kernel_rfl) (fun _ _ _ h => h) (Or.inl ⟨by rfl, ?_⟩) hHeld ?_
      · (intro w' hSw; obtain ⟨y0, y1⟩ := hSw; go_simp)
      simp only [Act.put, List.setIfInBounds_toArray, List.set_cons_zero, List.set_cons_succ]
      refine hand_to (i := 5) (d := 31) (v := (.int .i64 (len : Int))) rfl rfl (by kernel_rfl) (by kernel_rfl) (by kernel_rfl) (fun _ _ _ h => h) (Or.inl ⟨by rfl, ?_⟩) hHeld ?_
      · (intro w' hSw; obtain ⟨y0, y1⟩ := hSw; go_simp)
      simp only [Act.put, List.setIfInBounds_toArray, List.set_cons_zero, List.set_cons_succ]
      refine hand_to (i := 6) (d := 32) (v := (.pointer (some ⟨r, 0, none⟩))) rfl rfl (by kernel_rfl) (by kernel_rfl) (by kernel_rfl) (fun _ _ _ h => h) (Or.inl ⟨by rfl, ?_⟩) hHeld ?_
      · (intro w' hSw; obtain ⟨y0, y1⟩ := hSw; go_simp)
      simp only [Act.put, List.setIfInBounds_toArray, List.set_cons_zero, List.set_cons_succ]
      refine hand_to (i := 7) (d := 33) (v := (.pointer (some ⟨r, 0, none⟩))) rfl rfl (by kernel_rfl) (by kernel_rfl) (by kernel_rfl) (fun _ _ _ h => h) (Or.inl ⟨by rfl, ?_⟩) hHeld ?_
      · (intro w' hSw; obtain ⟨y0, y1⟩ := hSw; go_simp)
      simp only [Act.put, List.setIfInBounds_toArray, List.set_cons_zero, List.set_cons_succ]
      refine hand_to (i := 8) (d := 34) (v := (.pointer (some ⟨r, 1, none⟩))) rfl rfl (by kernel_rfl) (by kernel_rfl) (by kernel_rfl) (fun _ _ _ h => h) (Or.inl ⟨by rfl, ?_⟩) hHeld ?_
      · (intro w' hSw; obtain ⟨y0, y1⟩ := hSw; go_simp)
      simp only [Act.put, List.setIfInBounds_toArray, List.set_cons_zero, List.set_cons_succ]
      refine hand_to (i := 9) (d := 35) (v := (.int .i64 (a : Int))) rfl rfl (by kernel_rfl) (by kernel_rfl) (by kernel_rfl) (fun _ _ _ h => h) (Or.inl ⟨by rfl, ?_⟩) hHeld ?_
      · (intro w' hSw; obtain ⟨y0, y1⟩ := hSw; go_simp)
      simp only [Act.put, List.setIfInBounds_toArray, List.set_cons_zero, List.set_cons_succ]
      refine hand_to (i := 10) (d := 36) (v := (.int .i64 (q1 : Int))) rfl rfl (by kernel_rfl) (by kernel_rfl) (by kernel_rfl) (fun _ _ _ h => h) (Or.inl ⟨by rfl, ?_⟩) hHeld ?_
      · (intro w' hSw; obtain ⟨y0, y1⟩ := hSw; go_simp)
      simp only [Act.put, List.setIfInBounds_toArray, List.set_cons_zero, List.set_cons_succ]
      refine hand_to (i := 11) (d := 37) (v := (.int .i64 (s : Int))) rfl rfl (by kernel_rfl) (by kernel_rfl) (by kernel_rfl) (fun _ _ _ h => h) (Or.inl ⟨by rfl, ?_⟩) hHeld ?_
      · (intro w' hSw; obtain ⟨y0, y1⟩ := hSw; go_simp)
      simp only [Act.put, List.setIfInBounds_toArray, List.set_cons_zero, List.set_cons_succ]
      refine hand_to (i := 12) (d := 38) (v := (.int .i64 (q2 : Int))) rfl rfl (by kernel_rfl) (by kernel_rfl) (by kernel_rfl) (fun _ _ _ h => h) (Or.inl ⟨by rfl, ?_⟩) hHeld ?_
      · (intro w' hSw; obtain ⟨y0, y1⟩ := hSw; go_simp)
      simp only [Act.put, List.setIfInBounds_toArray, List.set_cons_zero, List.set_cons_succ]
      refine hand_to (i := 13) (d := 39) (v := (.int .u64 (q2 : Int))) rfl rfl (by kernel_rfl) (by kernel_rfl) (by kernel_rfl) (fun _ _ _ h => h) (Or.inl ⟨by rfl, ?_⟩) hHeld ?_
      · (intro w' hSw; obtain ⟨y0, y1⟩ := hSw; go_simp)
      simp only [Act.put, List.setIfInBounds_toArray, List.set_cons_zero, List.set_cons_succ]
      refine hand_to (i := 14) (d := 40) (v := (.bool false)) rfl rfl (by kernel_rfl) (by kernel_rfl) (by kernel_rfl) (fun _ _ _ h => h) (Or.inl ⟨by rfl, ?_⟩) hHeld ?_
      · (intro w' hSw; obtain ⟨y0, y1⟩ := hSw; go_simp)
      simp only [Act.put, List.setIfInBounds_toArray, List.set_cons_zero, List.set_cons_succ]
      refine wpAnyH_done (by kernel_rfl) ?_ _
      have hR4 := (unhide HR).below (unhide HB4)
      obtain ⟨c0, c1, _, f1, _⟩ := hR4.1.cells
      have HR4 := hide hR4
      clear hR4 hHeld
      go_wp2_with fail
      go_ret2
      refine ⟨(FrP.of_below (unhide HB4)).trans (FrP.set _ _ _ _), .inl ⟨n, a + s, unhide HYes, rfl, (unhide HR4).move ?_ (FrP.set _ _ _ _) ?_⟩⟩
      · have := (unhide HR4).1.set1 (a + s)
        rw [show ((a + s : Nat) : Int) = (a : Int) + (s : Int) by omega] at this
        exact this
      · have := unhide HQ; omega
    · have hgi : (q2 : Int) < (n : Int) := by omega
      have HNo : Hid (rdNum l a = none) := by
        obtain ⟨u1, u2⟩ := unhide HN
        show rdNum l a = none
        unfold rdNum
        rw [if_neg (fun hc => by have := hc.2; rw [← u1, ← u2] at this; omega)]
      clear hq1 hq2 hlq hqq hgt hd0 HE hHeld
      go_upto_region 4 with fail
      refine wp_region_held_drew (S := fun w' => w'.cell? ⟨r, 0, none⟩ = some (.slice va len vc) ∧ w'.cell? ⟨r, 1, none⟩ = some (.int .i64 (a : Int))) (by kernel_rfl) (unhide HS1 _ (below_tr (unhide HB) (Below.refl _ _).drew)) (fun hHeld => ?_)
      obtain ⟨W4, hW4⟩ : ∃ W4, W4 = V9.drew := ⟨_, rfl⟩
      rw [← hW4] at hHeld ⊢
      have HB4 : Hid (Below w.heap.size w W4) := by rw [hW4]; exact below_tr (unhide HB) (Below.refl _ _).drew
      clear hW4 HB
      refine hand_to (i := 0) (d := 26) (v := (.int .u64 (n : Int))) rfl rfl (by kernel_rfl) (by kernel_rfl) (by kernel_rfl) (fun _ _ _ h => h) (Or.inl ⟨by rfl, ?_⟩) hHeld ?_
      · (intro w' hSw; obtain ⟨y0, y1⟩ := hSw; go_simp)
      simp only [Act.put, List.setIfInBounds_toArray, List.set_cons_zero, List.set_cons_succ]
      refine hand_to (i := 1) (d := 27) (v := (.pointer (some ⟨r, 0, none⟩))) rfl rfl (by kernel_rfl) (by kernel_rfl) (by kernel_rfl) (fun _ _ _ h => h) (Or.inl ⟨by rfl, ?_⟩) hHeld ?_
      · (intro w' hSw; obtain ⟨y0, y1⟩ := hSw; go_simp)
      simp only [Act.put, List.setIfInBounds_toArray, List.set_cons_zero, List.set_cons_succ]
      refine hand_to (i := 2) (d := 28) (v := (.pointer (some ⟨r, 0, none⟩))) rfl rfl (by kernel_rfl) (by kernel_rfl) (by kernel_rfl) (fun _ _ _ h => h) (Or.inl ⟨by rfl, ?_⟩) hHeld ?_
      · (intro w' hSw; obtain ⟨y0, y1⟩ := hSw; go_simp)
      simp only [Act.put, List.setIfInBounds_toArray, List.set_cons_zero, List.set_cons_succ]
      refine hand_to (i := 3) (d := 29) (v := (.pointer (some ⟨r, 0, none⟩))) rfl rfl (by kernel_rfl) (by kernel_rfl) (by kernel_rfl) (fun _ _ _ h => h) (Or.inl ⟨by rfl, ?_⟩) hHeld ?_
      · (intro w' hSw; obtain ⟨y0, y1⟩ := hSw; go_simp)
      simp only [Act.put, List.setIfInBounds_toArray, List.set_cons_zero, List.set_cons_succ]
      refine hand_to (i := 4) (d := 30) (v := (.slice va len vc)) rfl rfl (by kernel_rfl) (by kernel_rfl) (by kernel_rfl) (fun _ _ _ h => h) (Or.inl ⟨by rfl, ?_⟩) hHeld ?_
      · (intro w' hSw; obtain ⟨y0, y1⟩ := hSw; go_simp)
      simp only [Act.put, List.setIfInBounds_toArray, List.set_cons_zero, List.set_cons_succ]
      refine hand_to (i := 5) (d := 31) (v := (.int .i64 (len : Int))) rfl rfl (by kernel_rfl) (by kernel_rfl) (by kernel_rfl) (fun _ _ _ h => h) (Or.inl ⟨by rfl, ?_⟩) hHeld ?_
      · (intro w' hSw; obtain ⟨y0, y1⟩ := hSw; go_simp)
      simp only [Act.put, List.setIfInBounds_toArray, List.set_cons_zero, List.set_cons_succ]
      refine hand_to (i := 6) (d := 32) (v := (.pointer (some ⟨r, 0, none⟩))) rfl rfl (by kernel_rfl) (by kernel_rfl) (by kernel_rfl) (fun _ _ _ h => h) (Or.inl ⟨by rfl, ?_⟩) hHeld ?_
      · (intro w' hSw; obtain ⟨y0, y1⟩ := hSw; go_simp)
      simp only [Act.put, List.setIfInBounds_toArray, List.set_cons_zero, List.set_cons_succ]
      refine hand_to (i := 7) (d := 33) (v := (.pointer (some ⟨r, 0, none⟩))) rfl rfl (by kernel_rfl) (by kernel_rfl) (by kernel_rfl) (fun _ _ _ h => h) (Or.inl ⟨by rfl, ?_⟩) hHeld ?_
      · (intro w' hSw; obtain ⟨y0, y1⟩ := hSw; go_simp)
      simp only [Act.put, List.setIfInBounds_toArray, List.set_cons_zero, List.set_cons_succ]
      refine hand_to (i := 8) (d := 34) (v := (.pointer (some ⟨r, 1, none⟩))) rfl rfl (by kernel_rfl) (by kernel_rfl) (by kernel_rfl) (fun _ _ _ h => h) (Or.inl ⟨by rfl, ?_⟩) hHeld ?_
      · (intro w' hSw; obtain ⟨y0, y1⟩ := hSw; go_simp)
      simp only [Act.put, List.setIfInBounds_toArray, List.set_cons_zero, List.set_cons_succ]
      refine hand_to (i := 9) (d := 35) (v := (.int .i64 (a : Int))) rfl rfl (by kernel_rfl) (by kernel_rfl) (by kernel_rfl) (fun _ _ _ h => h) (Or.inl ⟨by rfl, ?_⟩) hHeld ?_
      · (intro w' hSw; obtain ⟨y0, y1⟩ := hSw; go_simp)
      simp only [Act.put, List.setIfInBounds_toArray, List.set_cons_zero, List.set_cons_succ]
      refine hand_to (i := 10) (d := 36) (v := (.int .i64 (q1 : Int))) rfl rfl (by kernel_rfl) (by kernel_rfl) (by kernel_rfl) (fun _ _ _ h => h) (Or.inl ⟨by rfl, ?_⟩) hHeld ?_
      · (intro w' hSw; obtain ⟨y0, y1⟩ := hSw; go_simp)
      simp only [Act.put, List.setIfInBounds_toArray, List.set_cons_zero, List.set_cons_succ]
      refine hand_to (i := 11) (d := 37) (v := (.int .i64 (s : Int))) rfl rfl (by kernel_rfl) (by kernel_rfl) (by kernel_rfl) (fun _ _ _ h => h) (Or.inl ⟨by rfl, ?_⟩) hHeld ?_
      · (intro w' hSw; obtain ⟨y0, y1⟩ := hSw; go_simp)
      simp only [Act.put, List.setIfInBounds_toArray, List.set_cons_zero, List.set_cons_succ]
      refine hand_to (i := 12) (d := 38) (v := (.int .i64 (q2 : Int))) rfl rfl (by kernel_rfl) (by kernel_rfl) (by kernel_rfl) (fun _ _ _ h => h) (Or.inl ⟨by rfl, ?_⟩) hHeld ?_
      · (intro w' hSw; obtain ⟨y0, y1⟩ := hSw; go_simp)
      simp only [Act.put, List.setIfInBounds_toArray, List.set_cons_zero, List.set_cons_succ]
      refine hand_to (i := 13) (d := 39) (v := (.int .u64 (q2 : Int))) rfl rfl (by kernel_rfl) (by kernel_rfl) (by kernel_rfl) (fun _ _ _ h => h) (Or.inl ⟨by rfl, ?_⟩) hHeld ?_
      · (intro w' hSw; obtain ⟨y0, y1⟩ := hSw; go_simp)
      simp only [Act.put, List.setIfInBounds_toArray, List.set_cons_zero, List.set_cons_succ]
      refine hand_to (i := 14) (d := 40) (v := (.bool true)) rfl rfl (by kernel_rfl) (by kernel_rfl) (by kernel_rfl) (fun _ _ _ h => h) (Or.inl ⟨by rfl, ?_⟩) hHeld ?_
      · (intro w' hSw; obtain ⟨y0, y1⟩ := hSw; go_simp)
      simp only [Act.put, List.setIfInBounds_toArray, List.set_cons_zero, List.set_cons_succ]
      refine wpAnyH_done (by kernel_rfl) ?_ _
      have HFc := hide (fault_c ((unhide HR).below (unhide HB4)))
      obtain ⟨c0, c1⟩ := unhide HS1 W4 (unhide HB4)
      clear hHeld
      go_wp2_with (go_at_call 33; refine (unhide HFc).mono ?_; rintro e w5 ⟨T, x, rfl, hch, hb5⟩; have HZ := hide (And.intro hch hb5); clear hch hb5 HFc)
      go_ret2
      exact ⟨FrP.of_below (below_tr (unhide HB4) (unhide HZ).2), .inr ⟨unhide HNo, ((unhide HR).below (unhide HB4)).below (unhide HZ).2, T, x, rfl, (unhide HZ).1⟩⟩
  · have HFp := hide (fault_p ((unhide HR).below (unhide HB)) hea)
    have HNo : Hid (rdNum l a = none) := by
      show rdNum l a = none
      unfold rdNum
      rw [if_neg (fun hc => hd0 hc.1)]
    clear hHeld hea hd0 HE
    go_wp2_with (go_at_call 33; refine (unhide HFp).mono ?_; rintro e w5 ⟨T, x, rfl, hch, hb5⟩; have HZ := hide (And.intro hch hb5); clear hch hb5 HFp)
    go_ret2
    exact ⟨FrP.of_below (below_tr (unhide HB) (unhide HZ).2), .inr ⟨unhide HNo, ((unhide HR).below (unhide HB)).below (unhide HZ).2, T, x, rfl, (unhide HZ).1⟩⟩
end Go.Proofs.YtlmjmhpdpgeplaaGreatDoor
