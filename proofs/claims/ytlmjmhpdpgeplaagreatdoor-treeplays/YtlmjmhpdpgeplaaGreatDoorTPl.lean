/- TreePlays' own helpers: place of a key in a row of entries, bytes written over. -/
import Derived.Test.YtlmjmhpdpgeplaaGreatDoorTItem
import Derived.Test.YtlmjmhpdpgeplaaGreatDoorTPlace
import Derived.Deep.RegionHeld3
namespace Go.Proofs.YtlmjmhpdpgeplaaGreatDoor
open Go.RowKit Go.Lib

/-- What place tells. -/
def PlcP (w : World) (F : List It) (k : ByteArray) (e : Ending) (w' : World) : Prop := ∃ i : Nat, e = .returned (.tuple #[.int .i64 (i : Int), .bool (hasL k F)]) ∧ Below w.heap.size w w' ∧ w'.heap.size = w.heap.size ∧ PlaceAt F k i ∧ hereB F k i = hasL k F
section
variable {w : World} {v : Value} {F : List It} {k : ByteArray}
set_option maxHeartbeats 12800000 in
set_option maxRecDepth 100000 in
theorem place_any (hv : R2 w v (F.map itV)) (hs : Srt F) (hn : F.length ≤ 1000000) : Calls Tryz.prog 9 #[v, .string k] w (PlcP w F k) := by
  obtain ⟨a, c, rfl, _, _⟩ := id hv.slice
  rw [List.length_map] at *
  have HR : Hid (∀ (wr : World) (h : Nat), Below w.heap.size w wr → h < F.length → ∃ (x : It) (b off : Nat), F[h]? = some x ∧ a = some ⟨b, off, none⟩ ∧ wr.cell? ⟨b, off + h * 2, none⟩ = some (.string x.1)) := by
    intro wr h hb hl
    have hx : F[h]? = some F[h] := List.getElem?_eq_getElem hl
    have hm : (F.map itV)[h]? = some (itV F[h]) := by rw [List.getElem?_map, hx]; rfl
    obtain ⟨b, off, h1, _, h3, h4⟩ := (hv.below hb).at hm
    exact ⟨F[h], b, off, hx, h1, h3⟩
  obtain ⟨len, hlen⟩ : ∃ len, len = F.length := ⟨_, rfl⟩
  rw [← hlen] at hn ⊢
  have HS := hide (And.intro hs hlen)
  have hn' : (len : Int) ≤ 1000000 := by omega
  clear hv hs hlen
  go_enter Tryz.func9, Tryz.ntmps9
  go_wp2_with fail
  go_loopw [6] (fun s6 wr => ∃ i : Nat, s6 = .int .i64 (i : Int) ∧ w = wr ∧ i ≤ len ∧ Hid (∀ t x, F[t]? = some x → t < i → kc x.1 k < 0)) (fun s6 _ => len - (RowKit.intOf s6).toNat)
  case atStart => exact ⟨0, rfl, rfl, Nat.zero_le _, fun t x _ h => by omega⟩
  case round =>
    obtain ⟨i, rfl, rfl, hil, HD⟩ := hrel
    by_cases hlt : i < len
    · have hlti : (i : Int) < (len : Int) := by omega
      have hi0 : (0 : Int) ≤ (i : Int) := by omega
      have hwi : IntKind.i64.wrap ((i : Int) + 1) = (i : Int) + 1 := by rw [IntKind.wrap_i64] <;> omega
      obtain ⟨x, b, off, hx, rfl, c0⟩ := unhide HR w i (Below.refl _ _) (by rw [← (unhide HS).2]; exact hlt)
      have HC : Hid (∀ W : World, Below w.heap.size w W → W.cell? ⟨b, off + i * 2, none⟩ = some (.string x.1)) := fun W hb => by
        obtain ⟨x', b', off', hx', e, c0'⟩ := unhide HR W i hb (by rw [← (unhide HS).2]; exact hlt)
        rw [hx] at hx'; cases hx'; cases e; exact c0'
      have hless := kc_less x.1 k
      have HX := hide hx
      clear hx
      by_cases hk : kc x.1 k < 0
      · have hl : Op.bytesLess x.1.toList k.toList = true := by rw [hless]; simp [hk]
        have HK := hide hk
        clear hless hk HC
        go_wp2_with fail
        go_roundw
        case rel =>
          refine ⟨i + 1, by simp, by first | rfl | trivial, by omega, fun t y hy ht => ?_⟩
          rcases Nat.lt_or_eq_of_le (Nat.le_of_lt_succ ht) with h' | rfl
          · exact unhide HD t y hy h'
          · rw [unhide HX] at hy; cases hy; exact unhide HK
        case measure => simp [RowKit.intOf]; omega
      · have hl : Op.bytesLess x.1.toList k.toList = false := by rw [hless]; simp [hk]
        have HPA : Hid (PlaceAt F k i) := ⟨by rw [← (unhide HS).2]; exact hil, unhide HD, fun t y hy ht => srt_above (unhide HS).1 (unhide HX) hy ht (by omega)⟩
        have hhas := has_list (unhide HPA) (unhide HS).1
        have hhe : hereB F k i = decide (kc x.1 k = 0) := by unfold hereB; rw [unhide HX]
        clear HR HD
        by_cases hkk : kc x.1 k = 0
        · have e : x.1 = k := kc_eq hkk
          rw [e] at c0 hl
          have hb : hasL k F = true := by rw [hhas, hhe]; simp [hkk]
          have HE : Hid (∀ W : World, Below w.heap.size w W → W.heap.size = w.heap.size → PlcP w F k (.returned (.tuple #[.int .i64 (i : Int), .bool true])) W) := fun W hW hz => ⟨i, by rw [hb], hW, hz, unhide HPA, hhas.symm⟩
          have HC2 : Hid (∀ W : World, Below w.heap.size w W → W.cell? ⟨b, off + i * 2, none⟩ = some (.string k)) := fun W hW => by rw [← e]; exact unhide HC W hW
          clear hless hhas hhe hb HX HPA HS HC hk hkk e
          go_upto_region 4 with fail
          refine wp_region_held_drew (S := fun w' => w'.cell? ⟨b, off + i * 2, none⟩ = some (.string k)) (by kernel_rfl) (unhide HC2 _ (Below.refl _ _).drew) (fun hHeld => ?_)
          refine hand_to (i := 0) (d := 22) (v := (.int .i64 (i : Int))) rfl rfl (by kernel_rfl) (by kernel_rfl) (by kernel_rfl) (fun _ _ _ h => h) (Or.inl ⟨by rfl, ?_⟩) hHeld ?_
          · (intro w' hSw; obtain y0 := hSw; go_simp)
          simp only [Act.put, List.setIfInBounds_toArray, List.set_cons_zero, List.set_cons_succ]
          refine hand_to (i := 1) (d := 23) (v := (.int .i64 (i : Int))) rfl rfl (by kernel_rfl) (by kernel_rfl) (by kernel_rfl) (fun _ _ _ h => h) (Or.inl ⟨by rfl, ?_⟩) hHeld ?_
          · (intro w' hSw; obtain y0 := hSw; go_simp)
          simp only [Act.put, List.setIfInBounds_toArray, List.set_cons_zero, List.set_cons_succ]
          refine hand_to (i := 2) (d := 24) (v := (.slice (some ⟨b, off, none⟩) len c)) rfl rfl (by kernel_rfl) (by kernel_rfl) (by kernel_rfl) (fun _ _ _ h => h) (Or.inl ⟨by rfl, ?_⟩) hHeld ?_
          · (intro w' hSw; obtain y0 := hSw; go_simp)
          simp only [Act.put, List.setIfInBounds_toArray, List.set_cons_zero, List.set_cons_succ]
          refine hand_to (i := 3) (d := 25) (v := (.int .i64 (len : Int))) rfl rfl (by kernel_rfl) (by kernel_rfl) (by kernel_rfl) (fun _ _ _ h => h) (Or.inl ⟨by rfl, ?_⟩) hHeld ?_
          · (intro w' hSw; obtain y0 := hSw; go_simp)
          simp only [Act.put, List.setIfInBounds_toArray, List.set_cons_zero, List.set_cons_succ]
          refine hand_to (i := 4) (d := 26) (v := (.bool true)) rfl rfl (by kernel_rfl) (by kernel_rfl) (by kernel_rfl) (fun _ _ _ h => h) (Or.inl ⟨by rfl, ?_⟩) hHeld ?_
          · (intro w' hSw; obtain y0 := hSw; go_simp)
          simp only [Act.put, List.setIfInBounds_toArray, List.set_cons_zero, List.set_cons_succ]
          refine hand_to (i := 5) (d := 27) (v := (.bool true)) rfl rfl (by kernel_rfl) (by kernel_rfl) (by kernel_rfl) (fun _ _ _ h => h) (Or.inl ⟨by rfl, ?_⟩) hHeld ?_
          · (intro w' hSw; obtain y0 := hSw; go_simp)
          simp only [Act.put, List.setIfInBounds_toArray, List.set_cons_zero, List.set_cons_succ]
          refine hand_to (i := 6) (d := 28) (v := (.slice (some ⟨b, off, none⟩) len c)) rfl rfl (by kernel_rfl) (by kernel_rfl) (by kernel_rfl) (fun _ _ _ h => h) (Or.inl ⟨by rfl, ?_⟩) hHeld ?_
          · (intro w' hSw; obtain y0 := hSw; go_simp)
          simp only [Act.put, List.setIfInBounds_toArray, List.set_cons_zero, List.set_cons_succ]
          refine hand_to (i := 7) (d := 29) (v := (.int .i64 (i : Int))) rfl rfl (by kernel_rfl) (by kernel_rfl) (by kernel_rfl) (fun _ _ _ h => h) (Or.inl ⟨by rfl, ?_⟩) hHeld ?_
          · (intro w' hSw; obtain y0 := hSw; go_simp)
          simp only [Act.put, List.setIfInBounds_toArray, List.set_cons_zero, List.set_cons_succ]
          refine hand_to (i := 8) (d := 30) (v := (.pointer (some ⟨b, off + i * 2, none⟩))) rfl rfl (by kernel_rfl) (by kernel_rfl) (by kernel_rfl) (fun _ _ _ h => h) (Or.inl ⟨by rfl, ?_⟩) hHeld ?_
          · (intro w' hSw; obtain y0 := hSw; go_simp)
          simp only [Act.put, List.setIfInBounds_toArray, List.set_cons_zero, List.set_cons_succ]
          refine hand_to (i := 9) (d := 31) (v := (.pointer (some ⟨b, off + i * 2, none⟩))) rfl rfl (by kernel_rfl) (by kernel_rfl) (by kernel_rfl) (fun _ _ _ h => h) (Or.inl ⟨by rfl, ?_⟩) hHeld ?_
          · (intro w' hSw; obtain y0 := hSw; go_simp)
          simp only [Act.put, List.setIfInBounds_toArray, List.set_cons_zero, List.set_cons_succ]
          refine hand_to (i := 10) (d := 32) (v := (.string k)) rfl rfl (by kernel_rfl) (by kernel_rfl) (by kernel_rfl) (fun _ _ _ h => h) (Or.inl ⟨by rfl, ?_⟩) hHeld ?_
          · (intro w' hSw; obtain y0 := hSw; go_simp)
          simp only [Act.put, List.setIfInBounds_toArray, List.set_cons_zero, List.set_cons_succ]
          refine hand_to (i := 11) (d := 33) (v := (.string k)) rfl rfl (by kernel_rfl) (by kernel_rfl) (by kernel_rfl) (fun _ _ _ h => h) (Or.inl ⟨by rfl, ?_⟩) hHeld ?_
          · (intro w' hSw; obtain y0 := hSw; go_simp)
          simp only [Act.put, List.setIfInBounds_toArray, List.set_cons_zero, List.set_cons_succ]
          refine hand_to (i := 12) (d := 34) (v := (.bool true)) rfl rfl (by kernel_rfl) (by kernel_rfl) (by kernel_rfl) (fun _ _ _ h => h) (Or.inl ⟨by rfl, ?_⟩) hHeld ?_
          · (intro w' hSw; obtain y0 := hSw; go_simp)
          simp only [Act.put, List.setIfInBounds_toArray, List.set_cons_zero, List.set_cons_succ]
          refine hand_to (i := 13) (d := 35) (v := (.bool true)) rfl rfl (by kernel_rfl) (by kernel_rfl) (by kernel_rfl) (fun _ _ _ h => h) (Or.inl ⟨by rfl, ?_⟩) hHeld ?_
          · (intro w' hSw; obtain y0 := hSw; go_simp)
          simp only [Act.put, List.setIfInBounds_toArray, List.set_cons_zero, List.set_cons_succ]
          refine hand_to (i := 14) (d := 4) (v := (.int .i64 (i : Int))) rfl rfl (by kernel_rfl) (by kernel_rfl) (by kernel_rfl) (fun _ _ _ h => h) (Or.inl ⟨by rfl, ?_⟩) hHeld ?_
          · (intro w' hSw; obtain y0 := hSw; go_simp)
          simp only [Act.put, List.setIfInBounds_toArray, List.set_cons_zero, List.set_cons_succ]
          refine hand_to (i := 15) (d := 5) (v := (.bool true)) rfl rfl (by kernel_rfl) (by kernel_rfl) (by kernel_rfl) (fun _ _ _ h => h) (Or.inl ⟨by rfl, ?_⟩) hHeld ?_
          · (intro w' hSw; obtain y0 := hSw; go_simp)
          simp only [Act.put, List.setIfInBounds_toArray, List.set_cons_zero, List.set_cons_succ]
          refine wpAnyH_done (by kernel_rfl) ?_ _
          go_wp2_with fail
          go_ret2
          exact unhide HE _ (Below.refl _ _).drew rfl
        · have e : x.1 ≠ k := fun e => hkk (by rw [e]; exact kc_self _)
          have hb : hasL k F = false := by rw [hhas, hhe]; simp [hkk]
          have HE : Hid (∀ W : World, Below w.heap.size w W → W.heap.size = w.heap.size → PlcP w F k (.returned (.tuple #[.int .i64 (i : Int), .bool false])) W) := fun W hW hz => ⟨i, by rw [hb], hW, hz, unhide HPA, hhas.symm⟩
          obtain ⟨x1, hx1⟩ : ∃ x1, x1 = x.1 := ⟨_, rfl⟩
          rw [← hx1] at c0 e hl
          have HC2 : Hid (∀ W : World, Below w.heap.size w W → W.cell? ⟨b, off + i * 2, none⟩ = some (.string x1)) := fun W hW => by rw [hx1]; exact unhide HC W hW
          have hbf : (x1.toList == k.toList) = false := by rw [ByteArray.toList_eq, ByteArray.toList_eq]; exact beq_eq_false_iff_ne.2 (fun h => e (text_ext h))
          clear hless hhas hhe hb HX HPA HS HC hk hkk e hx1
          go_upto_region 4 with fail
          refine wp_region_held_drew (S := fun w' => w'.cell? ⟨b, off + i * 2, none⟩ = some (.string x1)) (by kernel_rfl) (unhide HC2 _ (Below.refl _ _).drew) (fun hHeld => ?_)
          refine hand_to (i := 0) (d := 22) (v := (.int .i64 (i : Int))) rfl rfl (by kernel_rfl) (by kernel_rfl) (by kernel_rfl) (fun _ _ _ h => h) (Or.inl ⟨by rfl, ?_⟩) hHeld ?_
          · (intro w' hSw; obtain y0 := hSw; go_simp)
          simp only [Act.put, List.setIfInBounds_toArray, List.set_cons_zero, List.set_cons_succ]
          refine hand_to (i := 1) (d := 23) (v := (.int .i64 (i : Int))) rfl rfl (by kernel_rfl) (by kernel_rfl) (by kernel_rfl) (fun _ _ _ h => h) (Or.inl ⟨by rfl, ?_⟩) hHeld ?_
          · (intro w' hSw; obtain y0 := hSw; go_simp)
          simp only [Act.put, List.setIfInBounds_toArray, List.set_cons_zero, List.set_cons_succ]
          refine hand_to (i := 2) (d := 24) (v := (.slice (some ⟨b, off, none⟩) len c)) rfl rfl (by kernel_rfl) (by kernel_rfl) (by kernel_rfl) (fun _ _ _ h => h) (Or.inl ⟨by rfl, ?_⟩) hHeld ?_
          · (intro w' hSw; obtain y0 := hSw; go_simp)
          simp only [Act.put, List.setIfInBounds_toArray, List.set_cons_zero, List.set_cons_succ]
          refine hand_to (i := 3) (d := 25) (v := (.int .i64 (len : Int))) rfl rfl (by kernel_rfl) (by kernel_rfl) (by kernel_rfl) (fun _ _ _ h => h) (Or.inl ⟨by rfl, ?_⟩) hHeld ?_
          · (intro w' hSw; obtain y0 := hSw; go_simp)
          simp only [Act.put, List.setIfInBounds_toArray, List.set_cons_zero, List.set_cons_succ]
          refine hand_to (i := 4) (d := 26) (v := (.bool true)) rfl rfl (by kernel_rfl) (by kernel_rfl) (by kernel_rfl) (fun _ _ _ h => h) (Or.inl ⟨by rfl, ?_⟩) hHeld ?_
          · (intro w' hSw; obtain y0 := hSw; go_simp)
          simp only [Act.put, List.setIfInBounds_toArray, List.set_cons_zero, List.set_cons_succ]
          refine hand_to (i := 5) (d := 27) (v := (.bool true)) rfl rfl (by kernel_rfl) (by kernel_rfl) (by kernel_rfl) (fun _ _ _ h => h) (Or.inl ⟨by rfl, ?_⟩) hHeld ?_
          · (intro w' hSw; obtain y0 := hSw; go_simp)
          simp only [Act.put, List.setIfInBounds_toArray, List.set_cons_zero, List.set_cons_succ]
          refine hand_to (i := 6) (d := 28) (v := (.slice (some ⟨b, off, none⟩) len c)) rfl rfl (by kernel_rfl) (by kernel_rfl) (by kernel_rfl) (fun _ _ _ h => h) (Or.inl ⟨by rfl, ?_⟩) hHeld ?_
          · (intro w' hSw; obtain y0 := hSw; go_simp)
          simp only [Act.put, List.setIfInBounds_toArray, List.set_cons_zero, List.set_cons_succ]
          refine hand_to (i := 7) (d := 29) (v := (.int .i64 (i : Int))) rfl rfl (by kernel_rfl) (by kernel_rfl) (by kernel_rfl) (fun _ _ _ h => h) (Or.inl ⟨by rfl, ?_⟩) hHeld ?_
          · (intro w' hSw; obtain y0 := hSw; go_simp)
          simp only [Act.put, List.setIfInBounds_toArray, List.set_cons_zero, List.set_cons_succ]
          refine hand_to (i := 8) (d := 30) (v := (.pointer (some ⟨b, off + i * 2, none⟩))) rfl rfl (by kernel_rfl) (by kernel_rfl) (by kernel_rfl) (fun _ _ _ h => h) (Or.inl ⟨by rfl, ?_⟩) hHeld ?_
          · (intro w' hSw; obtain y0 := hSw; go_simp)
          simp only [Act.put, List.setIfInBounds_toArray, List.set_cons_zero, List.set_cons_succ]
          refine hand_to (i := 9) (d := 31) (v := (.pointer (some ⟨b, off + i * 2, none⟩))) rfl rfl (by kernel_rfl) (by kernel_rfl) (by kernel_rfl) (fun _ _ _ h => h) (Or.inl ⟨by rfl, ?_⟩) hHeld ?_
          · (intro w' hSw; obtain y0 := hSw; go_simp)
          simp only [Act.put, List.setIfInBounds_toArray, List.set_cons_zero, List.set_cons_succ]
          refine hand_to (i := 10) (d := 32) (v := (.string x1)) rfl rfl (by kernel_rfl) (by kernel_rfl) (by kernel_rfl) (fun _ _ _ h => h) (Or.inl ⟨by rfl, ?_⟩) hHeld ?_
          · (intro w' hSw; obtain y0 := hSw; go_simp)
          simp only [Act.put, List.setIfInBounds_toArray, List.set_cons_zero, List.set_cons_succ]
          refine hand_to (i := 11) (d := 33) (v := (.string k)) rfl rfl (by kernel_rfl) (by kernel_rfl) (by kernel_rfl) (fun _ _ _ h => h) (Or.inl ⟨by rfl, ?_⟩) hHeld ?_
          · (intro w' hSw; obtain y0 := hSw; go_simp)
          simp only [Act.put, List.setIfInBounds_toArray, List.set_cons_zero, List.set_cons_succ]
          refine hand_to (i := 12) (d := 34) (v := (.bool false)) rfl rfl (by kernel_rfl) (by kernel_rfl) (by kernel_rfl) (fun _ _ _ h => h) (Or.inl ⟨by rfl, ?_⟩) hHeld ?_
          · (intro w' hSw; obtain y0 := hSw; go_simp)
          simp only [Act.put, List.setIfInBounds_toArray, List.set_cons_zero, List.set_cons_succ]
          refine hand_to (i := 13) (d := 35) (v := (.bool false)) rfl rfl (by kernel_rfl) (by kernel_rfl) (by kernel_rfl) (fun _ _ _ h => h) (Or.inl ⟨by rfl, ?_⟩) hHeld ?_
          · (intro w' hSw; obtain y0 := hSw; go_simp)
          simp only [Act.put, List.setIfInBounds_toArray, List.set_cons_zero, List.set_cons_succ]
          refine hand_to (i := 14) (d := 4) (v := (.int .i64 (i : Int))) rfl rfl (by kernel_rfl) (by kernel_rfl) (by kernel_rfl) (fun _ _ _ h => h) (Or.inl ⟨by rfl, ?_⟩) hHeld ?_
          · (intro w' hSw; obtain y0 := hSw; go_simp)
          simp only [Act.put, List.setIfInBounds_toArray, List.set_cons_zero, List.set_cons_succ]
          refine hand_to (i := 15) (d := 5) (v := (.bool false)) rfl rfl (by kernel_rfl) (by kernel_rfl) (by kernel_rfl) (fun _ _ _ h => h) (Or.inl ⟨by rfl, ?_⟩) hHeld ?_
          · (intro w' hSw; obtain y0 := hSw; go_simp)
          simp only [Act.put, List.setIfInBounds_toArray, List.set_cons_zero, List.set_cons_succ]
          refine wpAnyH_done (by kernel_rfl) ?_ _
          go_wp2_with fail
          go_ret2
          exact unhide HE _ (Below.refl _ _).drew rfl
    · have hlti : ¬ ((i : Int) < (len : Int)) := by omega
      obtain rfl : i = len := by omega
      have HPA : Hid (PlaceAt F k i) := ⟨by rw [← (unhide HS).2]; exact Nat.le_refl _, unhide HD, fun t y hy ht => by have := (List.getElem?_eq_some_iff.1 hy).1; have := (unhide HS).2; omega⟩
      have hhas := has_list (unhide HPA) (unhide HS).1
      have hb : hasL k F = false := by
        rw [hhas]; unfold hereB
        rw [List.getElem?_eq_none (by rw [← (unhide HS).2]; exact Nat.le_refl _)]
      have HE : Hid (∀ W : World, Below w.heap.size w W → W.heap.size = w.heap.size → PlcP w F k (.returned (.tuple #[.int .i64 (i : Int), .bool false])) W) := fun W hW hz => ⟨i, by rw [hb], hW, hz, unhide HPA, hhas.symm⟩
      clear hhas hb HPA HS HD HR
      go_upto_region 4 with fail
      refine wp_region_held_drew (S := fun w' => True) (by kernel_rfl) trivial (fun hHeld => ?_)
      refine hand_to (i := 0) (d := 22) (v := (.int .i64 (i : Int))) rfl rfl (by kernel_rfl) (by kernel_rfl) (by kernel_rfl) (fun _ _ _ h => h) (Or.inl ⟨by rfl, ?_⟩) hHeld ?_
      · (intro w' hSw; obtain y0 := hSw; go_simp)
      simp only [Act.put, List.setIfInBounds_toArray, List.set_cons_zero, List.set_cons_succ]
      refine hand_to (i := 1) (d := 23) (v := (.int .i64 (i : Int))) rfl rfl (by kernel_rfl) (by kernel_rfl) (by kernel_rfl) (fun _ _ _ h => h) (Or.inl ⟨by rfl, ?_⟩) hHeld ?_
      · (intro w' hSw; obtain y0 := hSw; go_simp)
      simp only [Act.put, List.setIfInBounds_toArray, List.set_cons_zero, List.set_cons_succ]
      refine hand_to (i := 2) (d := 24) (v := (.slice a i c)) rfl rfl (by kernel_rfl) (by kernel_rfl) (by kernel_rfl) (fun _ _ _ h => h) (Or.inl ⟨by rfl, ?_⟩) hHeld ?_
      · (intro w' hSw; obtain y0 := hSw; go_simp)
      simp only [Act.put, List.setIfInBounds_toArray, List.set_cons_zero, List.set_cons_succ]
      refine hand_to (i := 3) (d := 25) (v := (.int .i64 (i : Int))) rfl rfl (by kernel_rfl) (by kernel_rfl) (by kernel_rfl) (fun _ _ _ h => h) (Or.inl ⟨by rfl, ?_⟩) hHeld ?_
      · (intro w' hSw; obtain y0 := hSw; go_simp)
      simp only [Act.put, List.setIfInBounds_toArray, List.set_cons_zero, List.set_cons_succ]
      refine hand_to (i := 4) (d := 26) (v := (.bool false)) rfl rfl (by kernel_rfl) (by kernel_rfl) (by kernel_rfl) (fun _ _ _ h => h) (Or.inl ⟨by rfl, ?_⟩) hHeld ?_
      · (intro w' hSw; obtain y0 := hSw; go_simp)
      simp only [Act.put, List.setIfInBounds_toArray, List.set_cons_zero, List.set_cons_succ]
      refine hand_to (i := 5) (d := 27) (v := (.bool false)) rfl rfl (by kernel_rfl) (by kernel_rfl) (by kernel_rfl) (fun _ _ _ h => h) (Or.inl ⟨by rfl, ?_⟩) hHeld ?_
      · (intro w' hSw; obtain y0 := hSw; go_simp)
      simp only [Act.put, List.setIfInBounds_toArray, List.set_cons_zero, List.set_cons_succ]
      refine hand_to (i := 6) (d := 28) (v := undef) rfl rfl (by kernel_rfl) (by kernel_rfl) (by kernel_rfl) (fun _ _ _ h => h) (Or.inr ⟨by rfl, by rfl⟩) hHeld ?_
      simp only [Act.put, List.setIfInBounds_toArray, List.set_cons_zero, List.set_cons_succ]
      refine hand_to (i := 7) (d := 29) (v := undef) rfl rfl (by kernel_rfl) (by kernel_rfl) (by kernel_rfl) (fun _ _ _ h => h) (Or.inr ⟨by rfl, by rfl⟩) hHeld ?_
      simp only [Act.put, List.setIfInBounds_toArray, List.set_cons_zero, List.set_cons_succ]
      refine hand_to (i := 8) (d := 30) (v := undef) rfl rfl (by kernel_rfl) (by kernel_rfl) (by kernel_rfl) (fun _ _ _ h => h) (Or.inr ⟨by rfl, by rfl⟩) hHeld ?_
      simp only [Act.put, List.setIfInBounds_toArray, List.set_cons_zero, List.set_cons_succ]
      refine hand_to (i := 9) (d := 31) (v := undef) rfl rfl (by kernel_rfl) (by kernel_rfl) (by kernel_rfl) (fun _ _ _ h => h) (Or.inr ⟨by rfl, by rfl⟩) hHeld ?_
      simp only [Act.put, List.setIfInBounds_toArray, List.set_cons_zero, List.set_cons_succ]
      refine hand_to (i := 10) (d := 32) (v := undef) rfl rfl (by kernel_rfl) (by kernel_rfl) (by kernel_rfl) (fun _ _ _ h => h) (Or.inr ⟨by rfl, by rfl⟩) hHeld ?_
      simp only [Act.put, List.setIfInBounds_toArray, List.set_cons_zero, List.set_cons_succ]
      refine hand_to (i := 11) (d := 33) (v := undef) rfl rfl (by kernel_rfl) (by kernel_rfl) (by kernel_rfl) (fun _ _ _ h => h) (Or.inr ⟨by rfl, by rfl⟩) hHeld ?_
      simp only [Act.put, List.setIfInBounds_toArray, List.set_cons_zero, List.set_cons_succ]
      refine hand_to (i := 12) (d := 34) (v := undef) rfl rfl (by kernel_rfl) (by kernel_rfl) (by kernel_rfl) (fun _ _ _ h => h) (Or.inr ⟨by rfl, by rfl⟩) hHeld ?_
      simp only [Act.put, List.setIfInBounds_toArray, List.set_cons_zero, List.set_cons_succ]
      refine hand_to (i := 13) (d := 35) (v := (.bool false)) rfl rfl (by kernel_rfl) (by kernel_rfl) (by kernel_rfl) (fun _ _ _ h => h) (Or.inl ⟨by rfl, ?_⟩) hHeld ?_
      · (intro w' hSw; obtain y0 := hSw; go_simp)
      simp only [Act.put, List.setIfInBounds_toArray, List.set_cons_zero, List.set_cons_succ]
      refine hand_to (i := 14) (d := 4) (v := (.int .i64 (i : Int))) rfl rfl (by kernel_rfl) (by kernel_rfl) (by kernel_rfl) (fun _ _ _ h => h) (Or.inl ⟨by rfl, ?_⟩) hHeld ?_
      · (intro w' hSw; obtain y0 := hSw; go_simp)
      simp only [Act.put, List.setIfInBounds_toArray, List.set_cons_zero, List.set_cons_succ]
      refine hand_to (i := 15) (d := 5) (v := (.bool false)) rfl rfl (by kernel_rfl) (by kernel_rfl) (by kernel_rfl) (fun _ _ _ h => h) (Or.inl ⟨by rfl, ?_⟩) hHeld ?_
      · (intro w' hSw; obtain y0 := hSw; go_simp)
      simp only [Act.put, List.setIfInBounds_toArray, List.set_cons_zero, List.set_cons_succ]
      refine wpAnyH_done (by kernel_rfl) ?_ _
      go_wp2_with fail
      go_ret2
      exact unhide HE _ (Below.refl _ _).drew rfl
end
end Go.Proofs.YtlmjmhpdpgeplaaGreatDoor
