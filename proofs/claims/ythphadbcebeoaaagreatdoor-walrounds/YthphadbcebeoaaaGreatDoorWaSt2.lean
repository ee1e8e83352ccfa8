/- The wal's state in memory: last, cut, drop. -/
import Derived.Test.YthphadbcebeoaaaGreatDoorJHandWaStLawFramesSPack
import Derived.BigRegion
namespace Go.Proofs.YthphadbcebeoaaaGreatDoor
open Go.RowKit Go.Lib Go.Maps

set_option maxHeartbeats 3200000 in
set_option maxRecDepth 100000 in
theorem last_any {w : World} {p o : Nat} {b n k : Nat} {a : Option Addr} (h2 : w.cell? ⟨p, o + 2, none⟩ = some (.int .u64 (b : Int))) (h4 : w.cell? ⟨p, o + 4, none⟩ = some (.slice a n k)) (hb : b ≤ 4611686018427387904) (hn : n ≤ 1000000) :
    Calls Tryz.prog 96 #[.pointer (some ⟨p, o, none⟩)] w fun e w' => e = .returned (.int .u64 ((b : Int) + (n : Int))) ∧ w' = w.drew := by
  have hw : IntKind.u64.wrap ((b : Int) + (n : Int)) = (b : Int) + (n : Int) := by rw [IntKind.wrap_u64] <;> omega
  have hw2 : IntKind.u64.wrap (n : Int) = (n : Int) := by rw [IntKind.wrap_u64] <;> omega
  go_enter Tryz.func96, Tryz.ntmps96
  go_wp2_with fail
  refine wp_region_held_drew (S := fun w' => w'.cell? ⟨p, o + 2, none⟩ = some (.int .u64 (b : Int)) ∧ w'.cell? ⟨p, o + 4, none⟩ = some (.slice a n k)) (by kernel_rfl) ⟨h2, h4⟩ (fun hHeld => ?_)
  refine hand_to (i := 0) (d := 3) (v := (.pointer (some ⟨p, o, none⟩))) rfl rfl (by kernel_rfl) (by kernel_rfl) (by kernel_rfl) (fun _ _ _ h => h) (Or.inl ⟨by rfl, ?_⟩) hHeld ?_
  · (intro w' hSw; obtain ⟨y2, y4⟩ := hSw; go_simp)
  simp only [Act.put, List.setIfInBounds_toArray, List.set_cons_zero, List.set_cons_succ]
  refine hand_to (i := 1) (d := 4) (v := (.pointer (some ⟨p, o, none⟩))) rfl rfl (by kernel_rfl) (by kernel_rfl) (by kernel_rfl) (fun _ _ _ h => h) (Or.inl ⟨by rfl, ?_⟩) hHeld ?_
  · (intro w' hSw; obtain ⟨y2, y4⟩ := hSw; go_simp)
  simp only [Act.put, List.setIfInBounds_toArray, List.set_cons_zero, List.set_cons_succ]
  refine hand_to (i := 2) (d := 5) (v := (.pointer (some ⟨p, o + 2, none⟩))) rfl rfl (by kernel_rfl) (by kernel_rfl) (by kernel_rfl) (fun _ _ _ h => h) (Or.inl ⟨by rfl, ?_⟩) hHeld ?_
  · (intro w' hSw; obtain ⟨y2, y4⟩ := hSw; go_simp)
  simp only [Act.put, List.setIfInBounds_toArray, List.set_cons_zero, List.set_cons_succ]
  refine hand_to (i := 3) (d := 6) (v := (.int .u64 (b : Int))) rfl rfl (by kernel_rfl) (by kernel_rfl) (by kernel_rfl) (fun _ _ _ h => h) (Or.inl ⟨by rfl, ?_⟩) hHeld ?_
  · (intro w' hSw; obtain ⟨y2, y4⟩ := hSw; go_simp)
  simp only [Act.put, List.setIfInBounds_toArray, List.set_cons_zero, List.set_cons_succ]
  refine hand_to (i := 4) (d := 7) (v := (.pointer (some ⟨p, o, none⟩))) rfl rfl (by kernel_rfl) (by kernel_rfl) (by kernel_rfl) (fun _ _ _ h => h) (Or.inl ⟨by rfl, ?_⟩) hHeld ?_
  · (intro w' hSw; obtain ⟨y2, y4⟩ := hSw; go_simp)
  simp only [Act.put, List.setIfInBounds_toArray, List.set_cons_zero, List.set_cons_succ]
  refine hand_to (i := 5) (d := 8) (v := (.pointer (some ⟨p, o, none⟩))) rfl rfl (by kernel_rfl) (by kernel_rfl) (by kernel_rfl) (fun _ _ _ h => h) (Or.inl ⟨by rfl, ?_⟩) hHeld ?_
  · (intro w' hSw; obtain ⟨y2, y4⟩ := hSw; go_simp)
  simp only [Act.put, List.setIfInBounds_toArray, List.set_cons_zero, List.set_cons_succ]
  refine hand_to (i := 6) (d := 9) (v := (.pointer (some ⟨p, o + 4, none⟩))) rfl rfl (by kernel_rfl) (by kernel_rfl) (by kernel_rfl) (fun _ _ _ h => h) (Or.inl ⟨by rfl, ?_⟩) hHeld ?_
  · (intro w' hSw; obtain ⟨y2, y4⟩ := hSw; go_simp)
  simp only [Act.put, List.setIfInBounds_toArray, List.set_cons_zero, List.set_cons_succ]
  refine hand_to (i := 7) (d := 10) (v := (.slice a n k)) rfl rfl (by kernel_rfl) (by kernel_rfl) (by kernel_rfl) (fun _ _ _ h => h) (Or.inl ⟨by rfl, ?_⟩) hHeld ?_
  · (intro w' hSw; obtain ⟨y2, y4⟩ := hSw; go_simp)
  simp only [Act.put, List.setIfInBounds_toArray, List.set_cons_zero, List.set_cons_succ]
  refine hand_to (i := 8) (d := 11) (v := (.int .i64 (n : Int))) rfl rfl (by kernel_rfl) (by kernel_rfl) (by kernel_rfl) (fun _ _ _ h => h) (Or.inl ⟨by rfl, ?_⟩) hHeld ?_
  · (intro w' hSw; obtain ⟨y2, y4⟩ := hSw; go_simp)
  simp only [Act.put, List.setIfInBounds_toArray, List.set_cons_zero, List.set_cons_succ]
  refine hand_to (i := 9) (d := 12) (v := (.int .u64 (n : Int))) rfl rfl (by kernel_rfl) (by kernel_rfl) (by kernel_rfl) (fun _ _ _ h => h) (Or.inl ⟨by rfl, ?_⟩) hHeld ?_
  · (intro w' hSw; obtain ⟨y2, y4⟩ := hSw; go_simp)
  simp only [Act.put, List.setIfInBounds_toArray, List.set_cons_zero, List.set_cons_succ]
  refine hand_to (i := 10) (d := 13) (v := (.int .u64 ((b : Int) + (n : Int)))) rfl rfl (by kernel_rfl) (by kernel_rfl) (by kernel_rfl) (fun _ _ _ h => h) (Or.inl ⟨by rfl, ?_⟩) hHeld ?_
  · (intro w' hSw; obtain ⟨y2, y4⟩ := hSw; go_simp)
  simp only [Act.put, List.setIfInBounds_toArray, List.set_cons_zero, List.set_cons_succ]
  refine hand_to (i := 11) (d := 2) (v := (.int .u64 ((b : Int) + (n : Int)))) rfl rfl (by kernel_rfl) (by kernel_rfl) (by kernel_rfl) (fun _ _ _ h => h) (Or.inl ⟨by rfl, ?_⟩) hHeld ?_
  · (intro w' hSw; obtain ⟨y2, y4⟩ := hSw; go_simp)
  simp only [Act.put, List.setIfInBounds_toArray, List.set_cons_zero, List.set_cons_succ]
  refine wpAnyH_done (by kernel_rfl) ?_ _
  go_wp2_with fail
  go_ret
  exact ⟨rfl, rfl⟩

set_option maxHeartbeats 6400000 in
set_option maxRecDepth 100000 in
theorem cut_mem {w : World} {p o : Nat} {b n k m : Nat} {a : Option Addr} (h2 : w.cell? ⟨p, o + 2, none⟩ = some (.int .u64 (b : Int))) (h4 : w.cell? ⟨p, o + 4, none⟩ = some (.slice a n k)) (f4 : w.frozen? ⟨p, o + 4, none⟩ = false) (hb : b ≤ 4611686018427387904) (hn : n ≤ 1000000) (hm : m ≤ n) (hk : n ≤ k) :
    Calls Tryz.prog 77 #[.pointer (some ⟨p, o, none⟩), .int .u64 ((b : Int) + 1 + (m : Int))] w fun e w' => e = .returned .nilIface ∧ ∃ W : World, W.heap = w.heap ∧ Dk.Env w W ∧ w' = W.setCell ⟨p, o + 4, none⟩ (.slice a m k) := by
  have HL := hide (last_any h2 h4 hb hn)
  have g1 : ¬ ((b : Int) + 1 + (m : Int) ≤ (b : Int)) := by omega
  have hw : IntKind.u64.wrap ((b : Int) + (n : Int) + 1) = (b : Int) + (n : Int) + 1 := by rw [IntKind.wrap_u64] <;> omega
  have g2 : ¬ ((b : Int) + (n : Int) + 1 < (b : Int) + 1 + (m : Int)) := by omega
  have hw1 : IntKind.u64.wrap ((b : Int) + 1 + (m : Int) - (b : Int)) = (m : Int) + 1 := by rw [IntKind.wrap_u64] <;> omega
  have hw2 : IntKind.u64.wrap ((m : Int) + 1 - 1) = (m : Int) := by rw [IntKind.wrap_u64] <;> omega
  have hw3 : IntKind.u64.wrap (m : Int) = (m : Int) := by rw [IntKind.wrap_u64] <;> omega
  have m0 : (0 : Int) ≤ (m : Int) := by omega
  have mk : (m : Int) ≤ (k : Int) := by omega
  clear hb hn hm hk
  go_enter Tryz.func77, Tryz.ntmps77
  go_wp2_with (first
    | (go_at_call 96; refine (unhide HL).mono ?_; rintro e w1 ⟨rfl, rfl⟩; clear HL))
  obtain ⟨W, hW, e2, e4, f4', hh⟩ : ∃ W : World, w.drew = W ∧ W.cell? ⟨p, o + 2, none⟩ = some (.int .u64 (b : Int)) ∧ W.cell? ⟨p, o + 4, none⟩ = some (.slice a n k) ∧ W.frozen? ⟨p, o + 4, none⟩ = false ∧ Hid (W.heap = w.heap ∧ Dk.Env w W) := ⟨w.drew, rfl, h2, h4, f4, rfl, rfl, rfl, rfl⟩
  rw [hW]
  clear hW h2 h4 f4
  go_region
  all_goals
    go_wp2_with fail
    go_ret
    refine ⟨rfl, W.drew, (unhide hh).1, (unhide hh).2, ?_⟩
    rfl

def DropP (w : World) (p o b n k d t G g off : Nat) (e : Ending) (w' : World) : Prop :=
  e = .returned .nilIface ∧ ∃ (W : World) (off' : Nat), (off' = off + G * 5 ∨ (k = G ∧ off' ≤ off + k * 5)) ∧ W.heap = w.heap ∧ Dk.Env w W ∧ w' = ((W.setCell ⟨p, o + 2, none⟩ (.int .u64 ((b : Int) + (d : Int)))).setCell ⟨p, o + 3, none⟩ (.int .u64 (t : Int))).setCell ⟨p, o + 4, none⟩ (.slice (some ⟨g, off', none⟩) (n - G) (k - G))
set_option maxHeartbeats 12800000 in
set_option maxRecDepth 100000 in
theorem drop_mem {w : World} {p o : Nat} {b n k d t G g off : Nat} {bt : Value} (h2 : w.cell? ⟨p, o + 2, none⟩ = some (.int .u64 (b : Int))) (h3 : w.cell? ⟨p, o + 3, none⟩ = some bt) (h4 : w.cell? ⟨p, o + 4, none⟩ = some (.slice (some ⟨g, off, none⟩) n k)) (fr : ∀ i, w.frozen? ⟨p, i, none⟩ = false) (hb : b + d ≤ 4611686018427387904) (hn : n ≤ 1000000) (hG : G = min d n) (hk : n ≤ k) :
    Calls Tryz.prog 76 #[.pointer (some ⟨p, o, none⟩), .int .u64 ((b : Int) + (d : Int)), .int .u64 (t : Int)] w fun e w' => DropP w p o b n k d t G g off e w' := by
  have g1 : ¬ ((b : Int) + (d : Int) < (b : Int)) := by omega
  have g2 : ¬ ((4611686018427387904 : Int) < (b : Int) + (d : Int)) := by omega
  have hw1 : IntKind.u64.wrap ((b : Int) + (d : Int) - (b : Int)) = (d : Int) := by rw [IntKind.wrap_u64] <;> omega
  have hw2 : IntKind.u64.wrap (n : Int) = (n : Int) := by rw [IntKind.wrap_u64] <;> omega
  have m0 : (0 : Int) ≤ (G : Int) := by omega
  have m1 : (G : Int) ≤ (n : Int) := by omega
  have mk : (n : Int) ≤ (k : Int) := by omega
  have f2 := fr (o + 2)
  have f3 := fr (o + 3)
  have f4 := fr (o + 4)
  have HG := hide hG
  clear hb hk fr hG
  go_enter Tryz.func76, Tryz.ntmps76
  go_wp2_with fail
  go_region
  have hif : (if n < d then (n : Int) else (d : Int)) = (G : Int) := by have := unhide HG; split <;> omega
  have hmi : min (d : Int) (n : Int) = (G : Int) := by have := unhide HG; omega
  first
    | rw [hif]
    | rw [hmi]
  clear hif hmi g1 g2 hw1 hw2
  go_wp2_with fail
  obtain ⟨W, hW, e2, e3, e4, f2', f3', f4', hh⟩ : ∃ W : World, w.drew = W ∧ W.cell? ⟨p, o + 2, none⟩ = some (.int .u64 (b : Int)) ∧ W.cell? ⟨p, o + 3, none⟩ = some bt ∧ W.cell? ⟨p, o + 4, none⟩ = some (.slice (some ⟨g, off, none⟩) n k) ∧ W.frozen? ⟨p, o + 2, none⟩ = false ∧ W.frozen? ⟨p, o + 3, none⟩ = false ∧ W.frozen? ⟨p, o + 4, none⟩ = false ∧ Hid (W.heap = w.heap ∧ Dk.Env w W) := ⟨w.drew, rfl, h2, h3, h4, f2, f3, f4, rfl, rfl, rfl, rfl⟩
  rw [hW]
  clear hW h2 h3 h4 f2 f3 f4
  by_cases hkG : k = G
  · subst hkG
    go_region
    go_wp2_with fail
    go_ret
    unfold DropP
    exact ⟨rfl, W.drew, off, .inr ⟨rfl, by omega⟩, (unhide hh).1, (unhide hh).2, by rw [Nat.sub_self]; rfl⟩
  · go_region
    go_wp2_with fail
    go_ret
    unfold DropP
    exact ⟨rfl, W.drew, off + G * 5, .inl rfl, (unhide hh).1, (unhide hh).2, rfl⟩

set_option maxHeartbeats 12800000 in
set_option maxRecDepth 100000 in
theorem drop_nil {w : World} {p o : Nat} {b d t : Nat} {bt : Value} (h2 : w.cell? ⟨p, o + 2, none⟩ = some (.int .u64 (b : Int))) (h3 : w.cell? ⟨p, o + 3, none⟩ = some bt) (h4 : w.cell? ⟨p, o + 4, none⟩ = some (.slice none 0 0)) (fr : ∀ i, w.frozen? ⟨p, i, none⟩ = false) (hb : b + d ≤ 4611686018427387904) :
    Calls Tryz.prog 76 #[.pointer (some ⟨p, o, none⟩), .int .u64 ((b : Int) + (d : Int)), .int .u64 (t : Int)] w fun e w' => e = .returned .nilIface ∧ ∃ W : World, W.heap = w.heap ∧ Dk.Env w W ∧ w' = ((W.setCell ⟨p, o + 2, none⟩ (.int .u64 ((b : Int) + (d : Int)))).setCell ⟨p, o + 3, none⟩ (.int .u64 (t : Int))).setCell ⟨p, o + 4, none⟩ (.slice none 0 0) := by
  have g1 : ¬ ((b : Int) + (d : Int) < (b : Int)) := by omega
  have g2 : ¬ ((4611686018427387904 : Int) < (b : Int) + (d : Int)) := by omega
  have hw1 : IntKind.u64.wrap ((b : Int) + (d : Int) - (b : Int)) = (d : Int) := by rw [IntKind.wrap_u64] <;> omega
  have d0 : (0 : Int) ≤ (d : Int) := by omega
  have f2 := fr (o + 2)
  have f3 := fr (o + 3)
  have f4 := fr (o + 4)
  clear hb fr
  go_enter Tryz.func76, Tryz.ntmps76
  go_wp2_with fail
  go_region
  have hif : (if 0 < d then (0 : Int) else (d : Int)) = 0 := by split <;> omega
  have hmi : min (d : Int) 0 = 0 := by omega
  first
    | rw [hif]
    | rw [hmi]
  clear hif hmi g1 g2 hw1 d0
  go_wp2_with fail
  obtain ⟨W, hW, e2, e3, e4, f2', f3', f4', hh⟩ : ∃ W : World, w.drew = W ∧ W.cell? ⟨p, o + 2, none⟩ = some (.int .u64 (b : Int)) ∧ W.cell? ⟨p, o + 3, none⟩ = some bt ∧ W.cell? ⟨p, o + 4, none⟩ = some (.slice none 0 0) ∧ W.frozen? ⟨p, o + 2, none⟩ = false ∧ W.frozen? ⟨p, o + 3, none⟩ = false ∧ W.frozen? ⟨p, o + 4, none⟩ = false ∧ Hid (W.heap = w.heap ∧ Dk.Env w W) := ⟨w.drew, rfl, h2, h3, h4, f2, f3, f4, rfl, rfl, rfl, rfl⟩
  rw [hW]
  clear hW h2 h3 h4 f2 f3 f4
  go_region
  go_wp2_with fail
  go_ret
  exact ⟨rfl, W.drew, (unhide hh).1, (unhide hh).2, rfl⟩

theorem bad_err (s : ByteArray) (c : Int) (w : World) : Calls Tryz.prog 95 #[.string s, .int .i64 c] w fun e w' => ∃ b, e = .returned (Dk.evW b) ∧ Dk.ErrW w' b c ∧ w.heap.size ≤ b ∧ Below w.heap.size w w' :=
  (refusal_any s c w).mono fun _ _ h => ⟨_, h.1, h.2.1, Nat.le_refl _, h.2.2⟩
/-- A refusal: nothing turns. -/
def RefP (c : Int) (w : World) (e : Ending) (w' : World) : Prop := ∃ b, e = .returned (Dk.evW b) ∧ Dk.ErrW w' b c ∧ w.heap.size ≤ b ∧ Below w.heap.size w w'
set_option maxHeartbeats 3200000 in
theorem set_bad {w : World} {p o t x : Nat} (hx : 1001 < x) :
    Calls Tryz.prog 75 #[.pointer (some ⟨p, o, none⟩), .int .u64 (t : Int), .int .u64 (x : Int)] w fun e w' => RefP 20 w e w' := by
  have hx' : (1001 : Int) < (x : Int) := by omega
  go_enter Tryz.func75, Tryz.ntmps75
  go_wp2_with (first
    | (go_at_call 95; refine (bad_err _ _ _).mono ?_; rintro e w1 ⟨b, rfl, h1, h2, h3⟩))
  go_ret
  exact ⟨b, rfl, h1, h2, h3⟩
set_option maxHeartbeats 3200000 in
theorem drop_bad {w : World} {p o b i t : Nat} (h2 : w.cell? ⟨p, o + 2, none⟩ = some (.int .u64 (b : Int))) (hi : i < b ∨ 4611686018427387904 < i) :
    Calls Tryz.prog 76 #[.pointer (some ⟨p, o, none⟩), .int .u64 (i : Int), .int .u64 (t : Int)] w fun e w' => RefP 40 w e w' := by
  by_cases hx : i < b
  · have hx' : (i : Int) < (b : Int) := by omega
    go_enter Tryz.func76, Tryz.ntmps76
    go_wp2_with (first
      | (go_at_call 95; refine (bad_err _ _ _).mono ?_; rintro e w1 ⟨b, rfl, h1, h2, h3⟩))
    go_ret
    exact ⟨b, rfl, h1, h2, h3⟩
  · have hx' : ¬ ((i : Int) < (b : Int)) := by omega
    have hx2 : (4611686018427387904 : Int) < (i : Int) := by omega
    clear hi
    go_enter Tryz.func76, Tryz.ntmps76
    go_wp2_with (first
      | (go_at_call 95; refine (bad_err _ _ _).mono ?_; rintro e w1 ⟨b, rfl, h1, h2, h3⟩))
    go_ret
    exact ⟨b, rfl, h1, h2, h3⟩
set_option maxHeartbeats 3200000 in
theorem cut_bad {w : World} {p o b n k f : Nat} {a : Option Addr} (h2 : w.cell? ⟨p, o + 2, none⟩ = some (.int .u64 (b : Int))) (h4 : w.cell? ⟨p, o + 4, none⟩ = some (.slice a n k)) (hb : b ≤ 4611686018427387904) (hn : n ≤ 1000000) (hf : f ≤ b ∨ b + n + 1 < f) :
    Calls Tryz.prog 77 #[.pointer (some ⟨p, o, none⟩), .int .u64 (f : Int)] w fun e w' => RefP 40 w e w' := by
  have HL := hide (last_any h2 h4 hb hn)
  have hw : IntKind.u64.wrap ((b : Int) + (n : Int) + 1) = (b : Int) + (n : Int) + 1 := by rw [IntKind.wrap_u64] <;> omega
  by_cases hx : f ≤ b
  · have hx' : (f : Int) ≤ (b : Int) := by omega
    clear hf
    go_enter Tryz.func77, Tryz.ntmps77
    go_wp2_with (first
      | (go_at_call 95; refine (bad_err _ _ _).mono ?_; rintro e w1 ⟨b, rfl, h1, h2, h3⟩))
    go_ret
    exact ⟨b, rfl, h1, h2, h3⟩
  · have hx' : ¬ ((f : Int) ≤ (b : Int)) := by omega
    have hx2 : (b : Int) + (n : Int) + 1 < (f : Int) := by omega
    have hD : Below w.heap.size w w.drew := drew_below w 1
    have HD := hide hD
    clear hf hD
    go_enter Tryz.func77, Tryz.ntmps77
    go_wp2_with (first
      | (go_at_call 96; refine (unhide HL).mono ?_; rintro e w1 ⟨rfl, rfl⟩; clear HL)
      | (go_at_call 95; refine (bad_err _ _ _).mono ?_; rintro e w1 ⟨b, rfl, h1, h2, h3⟩))
    go_ret
    exact ⟨b, rfl, h1, h2, (unhide HD).trans h3⟩
end Go.Proofs.YthphadbcebeoaaaGreatDoor
