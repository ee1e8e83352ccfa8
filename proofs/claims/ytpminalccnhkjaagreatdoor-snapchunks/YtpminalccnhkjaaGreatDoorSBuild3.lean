/- Chunk at every place; the statement's own same. -/
import Derived.Test.YtpminalccnhkjaaGreatDoorSBuild2
namespace Go.Proofs.YtpminalccnhkjaaGreatDoor
open Go.RowKit Go.Lib

set_option maxHeartbeats 1600000 in
set_option maxRecDepth 100000 in
/-- Chunk at a place that isn't there. -/
theorem chunk_bad (i t : Nat) (off : Int) (a : Option Addr) (n k : Nat) (w : World) (ho : off < 0 ∨ (n : Int) < off) :
    Calls Tryz.prog 20 #[.agg #[.int .u64 (i : Int), .int .u64 (t : Int), .slice a n k], .int .i64 off] w fun e w' => ∃ b, e = .returned (.tuple #[.slice none 0 0, .bool false, ev b]) ∧ ErrAt w' b off 40 ∧ Below w.heap.size w w' := by
  have HB : Hid (Below w.heap.size w ((w.alloc (.cells #[.int .u64 (i : Int), .int .u64 (t : Int), .slice a n k] 34)).alloc (.cells #[.int .i64 off, .iface 71 (.int .i64 40)] 93))) := hide (((Below.refl _ _).alloc (Nat.le_refl _) _).alloc (by simp) _)
  have HA := hide (ErrAt.new (w.alloc (.cells #[.int .u64 (i : Int), .int .u64 (t : Int), .slice a n k] 34)) off 40)
  have hz : (w.alloc (.cells #[.int .u64 (i : Int), .int .u64 (t : Int), .slice a n k] 34)).heap.size = w.heap.size + 1 := by simp
  rw [hz] at HA
  rcases ho with ho | ho
  · go_enter Tryz.func20, Tryz.ntmps20
    go_wp2
    go_ret3
    exact ⟨_, rfl, unhide HA, unhide HB⟩
  · have h0 : ¬ (off < 0) := by omega
    go_enter Tryz.func20, Tryz.ntmps20
    go_wp2
    go_ret3
    exact ⟨_, rfl, unhide HA, unhide HB⟩
set_option maxHeartbeats 3200000 in
set_option maxRecDepth 100000 in
/-- Chunk of nothing. -/
theorem chunk_nil (i t : Nat) (w : World) :
    Calls Tryz.prog 20 #[.agg #[.int .u64 (i : Int), .int .u64 (t : Int), .slice none 0 0], .int .i64 0] w fun e w' => ∃ ca ck, e = .returned (.tuple #[.slice ca 0 ck, .bool true, .nilIface]) ∧ w'.ownsRow w.heap.size 5 1 (.slice ca 0 ck) 0 (byteCells []) ∧ Below w.heap.size w w' := by
  have hb0 := below_alloc (B := w.heap.size) (.cells #[.int .u64 (i : Int), .int .u64 (t : Int), .slice none 0 0] 34) (Nat.le_refl w.heap.size)
  have HS0 := hide (Sn3.new w (.int .u64 (i : Int)) (.int .u64 (t : Int)) (.slice none 0 0) 34)
  have HB0 : Hid (Below w.heap.size w (w.alloc (.cells #[.int .u64 (i : Int), .int .u64 (t : Int), .slice none 0 0] 34)).drew) := hide (bt hb0 (drew_below _ 1))
  have HC := hide (clone_bytes (.slice none 0 0) [] (w.alloc (.cells #[.int .u64 (i : Int), .int .u64 (t : Int), .slice none 0 0] 34)).drew (by decide) ⟨by decide, .inl ⟨rfl, rfl⟩⟩)
  have hmn : min (0 : Int) 200 = 0 := by decide
  clear hb0
  go_enter Tryz.func20, Tryz.ntmps20
  go_upto_region 4 with fail
  refine wp_region_held_drew (S := fun w' => Sn3 w' w.heap.size (.int .u64 (i : Int)) (.int .u64 (t : Int)) (.slice none 0 0)) (by kernel_rfl) (unhide HS0) (fun hHeld => ?_)
  refine hand_to (i := 0) (d := 28) (v := .pointer (some ⟨w.heap.size, 2, none⟩)) rfl rfl (by kernel_rfl) (by kernel_rfl) (by kernel_rfl) (fun _ _ _ h => h) (Or.inl ⟨by rfl, ?_⟩) hHeld ?_
  · (intro w' hSw; obtain ⟨hx0, hx1, hx2⟩ := hSw; go_simp)
  simp only [Act.put, List.setIfInBounds_toArray, List.set_cons_zero, List.set_cons_succ]
  refine hand_to (i := 1) (d := 29) (v := .slice none 0 0) rfl rfl (by kernel_rfl) (by kernel_rfl) (by kernel_rfl) (fun _ _ _ h => h) (Or.inl ⟨by rfl, ?_⟩) hHeld ?_
  · (intro w' hSw; obtain ⟨hx0, hx1, hx2⟩ := hSw; go_simp)
  simp only [Act.put, List.setIfInBounds_toArray, List.set_cons_zero, List.set_cons_succ]
  refine hand_to (i := 2) (d := 30) (v := .int .i64 0) rfl rfl (by kernel_rfl) (by kernel_rfl) (by kernel_rfl) (fun _ _ _ h => h) (Or.inl ⟨by rfl, ?_⟩) hHeld ?_
  · (intro w' hSw; obtain ⟨hx0, hx1, hx2⟩ := hSw; go_simp)
  simp only [Act.put, List.setIfInBounds_toArray, List.set_cons_zero, List.set_cons_succ]
  refine hand_to (i := 3) (d := 31) (v := .int .i64 0) rfl rfl (by kernel_rfl) (by kernel_rfl) (by kernel_rfl) (fun _ _ _ h => h) (Or.inl ⟨by rfl, ?_⟩) hHeld ?_
  · (intro w' hSw; obtain ⟨hx0, hx1, hx2⟩ := hSw; go_simp)
  simp only [Act.put, List.setIfInBounds_toArray, List.set_cons_zero, List.set_cons_succ]
  refine hand_to (i := 4) (d := 32) (v := .slice none 0 0) rfl rfl (by kernel_rfl) (by kernel_rfl) (by kernel_rfl) (fun _ _ _ h => h) (Or.inl ⟨by rfl, ?_⟩) hHeld ?_
  · (intro w' hSw; obtain ⟨hx0, hx1, hx2⟩ := hSw; go_simp)
  simp only [Act.put, List.setIfInBounds_toArray, List.set_cons_zero, List.set_cons_succ]
  refine hand_to (i := 6) (d := 34) (v := .int .i64 0) rfl rfl (by kernel_rfl) (by kernel_rfl) (by kernel_rfl) (fun _ _ _ h => h) (Or.inl ⟨by rfl, ?_⟩) hHeld ?_
  · (intro w' hSw; obtain ⟨hx0, hx1, hx2⟩ := hSw; go_simp)
  simp only [Act.put, List.setIfInBounds_toArray, List.set_cons_zero, List.set_cons_succ]
  refine hand_to (i := 7) (d := 35) (v := .pointer (some ⟨w.heap.size, 2, none⟩)) rfl rfl (by kernel_rfl) (by kernel_rfl) (by kernel_rfl) (fun _ _ _ h => h) (Or.inl ⟨by rfl, ?_⟩) hHeld ?_
  · (intro w' hSw; obtain ⟨hx0, hx1, hx2⟩ := hSw; go_simp)
  simp only [Act.put, List.setIfInBounds_toArray, List.set_cons_zero, List.set_cons_succ]
  refine hand_to (i := 8) (d := 36) (v := .slice none 0 0) rfl rfl (by kernel_rfl) (by kernel_rfl) (by kernel_rfl) (fun _ _ _ h => h) (Or.inl ⟨by rfl, ?_⟩) hHeld ?_
  · (intro w' hSw; obtain ⟨hx0, hx1, hx2⟩ := hSw; go_simp)
  simp only [Act.put, List.setIfInBounds_toArray, List.set_cons_zero, List.set_cons_succ]
  refine hand_to (i := 9) (d := 37) (v := .int .i64 0) rfl rfl (by kernel_rfl) (by kernel_rfl) (by kernel_rfl) (fun _ _ _ h => h) (Or.inl ⟨by rfl, ?_⟩) hHeld ?_
  · (intro w' hSw; obtain ⟨hx0, hx1, hx2⟩ := hSw; go_simp)
  simp only [Act.put, List.setIfInBounds_toArray, List.set_cons_zero, List.set_cons_succ]
  refine hand_to (i := 10) (d := 38) (v := .bool true) rfl rfl (by kernel_rfl) (by kernel_rfl) (by kernel_rfl) (fun _ _ _ h => h) (Or.inl ⟨by rfl, ?_⟩) hHeld ?_
  · (intro w' hSw; obtain ⟨hx0, hx1, hx2⟩ := hSw; go_simp)
  simp only [Act.put, List.setIfInBounds_toArray, List.set_cons_zero, List.set_cons_succ]
  refine wpAnyH_ready (rs := [5]) (by kernel_rfl) (by simp) ?_
  refine AllReadyH.cons rfl (fun K hK => ?_) AllReadyH.nil
  go_simp
  (go_at_call 38; refine (unhide HC).mono ?_; rintro e w1 ⟨c, rfl, o1, b1⟩; obtain ⟨ca, ck, rfl⟩ := own_slice o1; have HO1 := hide o1; have HC1 := hide (bt (unhide HB0) b1); have s1 := Sn3.later hHeld b1; clear o1 b1)
  (go_wp2_with fail)
  refine hK.out _ _ s1 (fun hHeld2 => ?_)
  clear hK K hHeld
  have hHeld := hHeld2
  clear hHeld2
  refine hand_to (i := 11) (d := 4) (v := .slice ca 0 ck) rfl rfl (by kernel_rfl) (by kernel_rfl) (by kernel_rfl) (fun _ _ _ h => h) (Or.inl ⟨by rfl, ?_⟩) hHeld ?_
  · (intro w' hSw; obtain ⟨hx0, hx1, hx2⟩ := hSw; go_simp)
  simp only [Act.put, List.setIfInBounds_toArray, List.set_cons_zero, List.set_cons_succ]
  refine hand_to (i := 12) (d := 5) (v := .bool true) rfl rfl (by kernel_rfl) (by kernel_rfl) (by kernel_rfl) (fun _ _ _ h => h) (Or.inl ⟨by rfl, ?_⟩) hHeld ?_
  · (intro w' hSw; obtain ⟨hx0, hx1, hx2⟩ := hSw; go_simp)
  simp only [Act.put, List.setIfInBounds_toArray, List.set_cons_zero, List.set_cons_succ]
  refine hand_to (i := 13) (d := 6) (v := .nilIface) rfl rfl (by kernel_rfl) (by kernel_rfl) (by kernel_rfl) (fun _ _ _ h => h) (Or.inl ⟨by rfl, ?_⟩) hHeld ?_
  · (intro w' hSw; obtain ⟨hx0, hx1, hx2⟩ := hSw; go_simp)
  simp only [Act.put, List.setIfInBounds_toArray, List.set_cons_zero, List.set_cons_succ]
  refine wpAnyH_done (by kernel_rfl) ?_ _
  have HS9 := hide hHeld
  clear hHeld
  go_wp2
  go_ret3
  exact ⟨_, _, rfl, own_weaker (unhide HB0).size (unhide HO1), unhide HC1⟩
/-- Chunk at a place that is there. -/
theorem chunk_any (i t off m : Nat) (v : Value) (l : List UInt8) (w : World) (hv : RBp w w.heap.size v l) (hl : l.length ≤ 1000000) (ho : off ≤ l.length) (hm : m = ((l.drop off).take 200).length) :
    Calls Tryz.prog 20 #[.agg #[.int .u64 (i : Int), .int .u64 (t : Int), v], .int .i64 (off : Int)] w fun e w' => ∃ ca ck, e = .returned (.tuple #[.slice ca m ck, .bool (decide (l.length ≤ off + 200)), .nilIface]) ∧ RBp w' w'.heap.size (.slice ca m ck) ((l.drop off).take 200) ∧ Below w.heap.size w w' := by
  obtain ⟨_, ⟨rfl, rfl⟩ | ⟨b, o, cap, hb, h1, h2, rfl, hc⟩⟩ := hv
  · obtain rfl : off = 0 := by simpa using ho
    obtain rfl : m = 0 := by simpa using hm
    refine (chunk_nil i t w).mono ?_
    rintro e w' ⟨ca, ck, rfl, ho, hb⟩
    exact ⟨ca, ck, rfl, rb_own ho (by simp), hb⟩
  · obtain ⟨o2, ho2⟩ : ∃ o2, (cap = off ∧ o2 = o) ∨ (cap ≠ off ∧ o2 = o + off) := by
      by_cases h : cap = off
      · exact ⟨o, .inl ⟨h, rfl⟩⟩
      · exact ⟨o + off, .inr ⟨h, rfl⟩⟩
    refine (chunk_some i t off b o o2 cap l w hl ho h1 h2 ho2 hb hc).mono ?_
    rintro e w' ⟨c, rfl, ho, hb⟩
    obtain ⟨ca, ck, rfl⟩ := own_slice ho
    have := rb_own ho (by simp; omega)
    rw [← hm] at this ⊢
    exact ⟨ca, ck, rfl, this, hb⟩
theorem bytes_any {w : World} {v v' : Value} {B B' : Nat} {l : List UInt8} (h : RBp w B v l) (h' : RBp w B' v' l) :
    Calls Tryz.prog 13 #[v, v'] w fun e w' => e = .returned (.bool true) ∧ w' = w := by
  have c1 := conv_any _ _ _ _ h
  have c2 := conv_any _ _ _ _ h'
  go_enter Tryz.func13, Tryz.ntmps13
  go_wp2
  go_ret
  exact ⟨rfl, rfl⟩
set_option maxHeartbeats 1600000 in
/-- Two snapshots alike. -/
theorem same_any {w : World} {i t n m : Nat} {a b : Option Addr} {k k' : Nat} {l : List UInt8} (h : RBp w w.heap.size (.slice a n k) l) (h' : RBp w w.heap.size (.slice b m k') l) :
    Calls Tryz.prog 18 #[.agg #[.int .u64 (i : Int), .int .u64 (t : Int), .slice a n k], .agg #[.int .u64 (i : Int), .int .u64 (t : Int), .slice b m k']] w fun e w' => e = .returned (.bool true) ∧ Below w.heap.size w w' := by
  have hb : Below w.heap.size w ((w.alloc (.cells #[.int .u64 (i : Int), .int .u64 (t : Int), .slice a n k] 34)).alloc (.cells #[.int .u64 (i : Int), .int .u64 (t : Int), .slice b m k'] 34)) := ((Below.refl _ _).alloc (Nat.le_refl _) _).alloc (by simp) _
  have HB := hide hb
  have H := hide (bytes_any (rb_later h hb hb.size) (rb_later h' hb hb.size))
  clear hb h h'
  go_enter Tryz.func18, Tryz.ntmps18
  go_wp2_with (go_at_call 13; refine (unhide H).mono ?_; rintro e w1 ⟨rfl, rfl⟩)
  go_ret
  exact ⟨rfl, unhide HB⟩
end Go.Proofs.YtpminalccnhkjaaGreatDoor
