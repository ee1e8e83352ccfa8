/- The document's own reader of an entry; it and the program's tell the same. -/
import Derived.Test.YtahcfanmfocljaaDoorEntry2
namespace Go.Proofs.YtahcfanmfocljaaDoor
open Go.RowKit Go.Lib

/-- What it tells. -/
def ER (r : GE × Nat × Nat) : Ending := .returned (.tuple #[r.1.agg, .int .i64 (r.2.1 : Int), .int .i64 (r.2.2 : Int)])
/-- The world in which it has laid its two variables. -/
abbrev twoE (w : World) (t : Nat) (k : Int) (c q : Nat) : World := (w.alloc (.cells #[.int .u64 0, .int .i64 0, .int .u64 0, .int .u64 0, .string ⟨#[]⟩] 52)).alloc (.cells #[.int .u64 t, .int .i64 k, .int .u64 c, .int .u64 q, .string ⟨#[]⟩] 52)
theorem twoE_below (w : World) (t : Nat) (k : Int) (c q : Nat) : Below w.heap.size w (twoE w t k c q) := by
  repeat' (first | exact Below.refl _ _ | refine Below.alloc ?_ (by simp) _)

set_option maxHeartbeats 3200000 in
set_option maxRecDepth 100000 in
theorem refEntry_e0 (b off cap len t a e0 : Nat) (w : World) (HU0 : Hid (Calls Tryd.prog 21 #[.slice (some ⟨b, off, none⟩) len cap] (twoE w 0 0 0 0) fun e w' => e = .returned (.tuple #[.int .u64 (t : Int), .int .i64 (a : Int), .int .i64 (e0 : Int)]) ∧ w' = twoE w 0 0 0 0)) (he : e0 ≠ 0) :
    Calls Tryd.prog 28 #[.slice (some ⟨b, off, none⟩) len cap] w fun e w' => e = ER (zE, 0, e0) ∧ Below w.heap.size w w' := by
  have hc' : ((e0 : Int) == 0) = false := by simp; omega
  go_enter Tryd.func28, Tryd.ntmps28
  go_wp2_with (first | (go_at_call 21; refine (unhide HU0).mono ?_; rintro e w1 ⟨rfl, rfl⟩; clear HU0))
  (try simp only [Exit.inBlock, Exit.then])
  refine bodyPost_ret (v := .tuple #[zE.agg, .int .i64 0, .int .i64 (e0 : Int)]) ?_ rfl ⟨rfl, ?_⟩
  · rw [results_cell3 rfl]
    go_simp
    rfl
  · (repeat' (first | exact Below.refl _ _ | refine Below.setCell ?_ (by simp) _ | refine Below.alloc ?_ (by simp) _))

set_option maxHeartbeats 3200000 in
set_option maxRecDepth 100000 in
theorem refEntry_cut (b off cap len t a : Nat) (w : World) (HU0 : Hid (Calls Tryd.prog 21 #[.slice (some ⟨b, off, none⟩) len cap] (twoE w 0 0 0 0) fun e w' => e = .returned (.tuple #[.int .u64 (t : Int), .int .i64 (a : Int), .int .i64 (0 : Int)]) ∧ w' = twoE w 0 0 0 0)) (hal : a = len) :
    Calls Tryd.prog 28 #[.slice (some ⟨b, off, none⟩) len cap] w fun e w' => e = ER (zE, 0, 22) ∧ Below w.heap.size w w' := by
  subst hal
  go_enter Tryd.func28, Tryd.ntmps28
  go_wp2_with (first | (go_at_call 21; refine (unhide HU0).mono ?_; rintro e w1 ⟨rfl, rfl⟩; clear HU0))
  (try simp only [Exit.inBlock, Exit.then])
  refine bodyPost_ret (v := .tuple #[zE.agg, .int .i64 0, .int .i64 22]) ?_ rfl ⟨rfl, ?_⟩
  · rw [results_cell3 rfl]
    go_simp
    rfl
  · (repeat' (first | exact Below.refl _ _ | refine Below.setCell ?_ (by simp) _ | refine Below.alloc ?_ (by simp) _))

set_option maxHeartbeats 3200000 in
set_option maxRecDepth 100000 in
theorem refEntry_bare (b off cap len t a a1 : Nat) (w : World) (_hb : b < w.heap.size) (_hl : len ≤ 1000000000000) (HU0 : Hid (Calls Tryd.prog 21 #[.slice (some ⟨b, off, none⟩) len cap] (twoE w 0 0 0 0) fun e w' => e = .returned (.tuple #[.int .u64 (t : Int), .int .i64 (a : Int), .int .i64 (0 : Int)]) ∧ w' = twoE w 0 0 0 0)) (hal : a < len) (ha1 : a1 = a + 1) (h0 : w.cell? ⟨b, off + a, none⟩ = some (.int .u8 0))  :
    Calls Tryd.prog 28 #[.slice (some ⟨b, off, none⟩) len cap] w fun e w' => e = ER (⟨t, 0, 0, 0, ⟨#[]⟩⟩, a1, 0) ∧ Below w.heap.size w w' := by
  have hne : ((a : Int) == (len : Int)) = false := by simp; omega
  have hA1 : (a : Int) + 1 = (a1 : Int) := by omega
  have hB1 : a1 ≤ len := by omega
  clear ha1
  go_enter Tryd.func28, Tryd.ntmps28
  go_wp2_with (first | (go_at_call 21; refine (unhide HU0).mono ?_; rintro e w1 ⟨rfl, rfl⟩; clear HU0))
  (try simp only [Exit.inBlock, Exit.then])
  refine bodyPost_ret (v := .tuple #[(GE.agg ⟨t, 0, 0, 0, ⟨#[]⟩⟩), .int .i64 (a1 : Int), .int .i64 0]) ?_ rfl ⟨rfl, ?_⟩
  · rw [results_cell3 rfl]
    go_simp
    rfl
  · (repeat' (first | exact Below.refl _ _ | refine Below.setCell ?_ (by simp) _ | refine Below.alloc ?_ (by simp) _))

set_option maxHeartbeats 3200000 in
set_option maxRecDepth 100000 in
theorem refEntry_kind (b off cap len t a a1 k : Nat) (w : World) (_hb : b < w.heap.size) (_hl : len ≤ 1000000000000) (HU0 : Hid (Calls Tryd.prog 21 #[.slice (some ⟨b, off, none⟩) len cap] (twoE w 0 0 0 0) fun e w' => e = .returned (.tuple #[.int .u64 (t : Int), .int .i64 (a : Int), .int .i64 (0 : Int)]) ∧ w' = twoE w 0 0 0 0)) (hal : a < len) (ha1 : a1 = a + 1) (h0 : w.cell? ⟨b, off + a, none⟩ = some (.int .u8 (k : Int))) (hk : 1 < k) (hk2 : k < 256) :
    Calls Tryd.prog 28 #[.slice (some ⟨b, off, none⟩) len cap] w fun e w' => e = ER (zE, 0, 20) ∧ Below w.heap.size w w' := by
  have hne : ((a : Int) == (len : Int)) = false := by simp; omega
  have hA1 : (a : Int) + 1 = (a1 : Int) := by omega
  have hB1 : a1 ≤ len := by omega
  clear ha1
  have k0 : ((k : Int) == 0) = false := by simp; omega
  have k1 : ((k : Int) == 1) = false := by simp; omega
  have k2 : (k : Int) < 256 := by omega
  go_enter Tryd.func28, Tryd.ntmps28
  go_wp2_with (first | (go_at_call 21; refine (unhide HU0).mono ?_; rintro e w1 ⟨rfl, rfl⟩; clear HU0))
  (try simp only [Exit.inBlock, Exit.then])
  refine bodyPost_ret (v := .tuple #[zE.agg, .int .i64 0, .int .i64 20]) ?_ rfl ⟨rfl, ?_⟩
  · rw [results_cell3 rfl]
    go_simp
    rfl
  · (repeat' (first | exact Below.refl _ _ | refine Below.setCell ?_ (by simp) _ | refine Below.alloc ?_ (by simp) _))

set_option maxHeartbeats 3200000 in
set_option maxRecDepth 100000 in
theorem refEntry_e1 (b off cap len t a a1 c n1 e1 : Nat) (w : World) (_hb : b < w.heap.size) (_hl : len ≤ 1000000000000) (HU0 : Hid (Calls Tryd.prog 21 #[.slice (some ⟨b, off, none⟩) len cap] (twoE w 0 0 0 0) fun e w' => e = .returned (.tuple #[.int .u64 (t : Int), .int .i64 (a : Int), .int .i64 (0 : Int)]) ∧ w' = twoE w 0 0 0 0)) (hal : a < len) (ha1 : a1 = a + 1) (h0 : w.cell? ⟨b, off + a, none⟩ = some (.int .u8 1)) (hce : cap ≠ a1) (HU1 : Hid (Calls Tryd.prog 21 #[.slice (some ⟨b, off + a1, none⟩) (len - a1) (cap - a1)] (twoE w t 1 0 0) fun e w' => e = .returned (.tuple #[.int .u64 (c : Int), .int .i64 (n1 : Int), .int .i64 (e1 : Int)]) ∧ w' = twoE w t 1 0 0)) (he : e1 ≠ 0) :
    Calls Tryd.prog 28 #[.slice (some ⟨b, off, none⟩) len cap] w fun e w' => e = ER (zE, 0, e1) ∧ Below w.heap.size w w' := by
  have hne : ((a : Int) == (len : Int)) = false := by simp; omega
  have hA1 : (a : Int) + 1 = (a1 : Int) := by omega
  have hB1 : a1 ≤ len := by omega
  clear ha1
  have hc' : ((e1 : Int) == 0) = false := by simp; omega
  go_enter Tryd.func28, Tryd.ntmps28
  go_wp2_with (first | (go_at_call 21; refine (unhide HU0).mono ?_; rintro e w1 ⟨rfl, rfl⟩; clear HU0) | (go_at_call 21; refine (unhide HU1).mono ?_; rintro e w1 ⟨rfl, rfl⟩; clear HU1))
  (try simp only [Exit.inBlock, Exit.then])
  refine bodyPost_ret (v := .tuple #[zE.agg, .int .i64 0, .int .i64 (e1 : Int)]) ?_ rfl ⟨rfl, ?_⟩
  · rw [results_cell3 rfl]
    go_simp
    rfl
  · (repeat' (first | exact Below.refl _ _ | refine Below.setCell ?_ (by simp) _ | refine Below.alloc ?_ (by simp) _))

set_option maxHeartbeats 3200000 in
set_option maxRecDepth 100000 in
theorem refEntry_e1L (b off len t a c n1 e1 : Nat) (w : World) (_hb : b < w.heap.size) (_hl : len ≤ 1000000000000) (HU0 : Hid (Calls Tryd.prog 21 #[.slice (some ⟨b, off, none⟩) len len] (twoE w 0 0 0 0) fun e w' => e = .returned (.tuple #[.int .u64 (t : Int), .int .i64 (a : Int), .int .i64 (0 : Int)]) ∧ w' = twoE w 0 0 0 0)) (hal : a + 1 = len) (h0 : w.cell? ⟨b, off + a, none⟩ = some (.int .u8 1)) (HU1 : Hid (Calls Tryd.prog 21 #[.slice (some ⟨b, off, none⟩) 0 0] (twoE w t 1 0 0) fun e w' => e = .returned (.tuple #[.int .u64 (c : Int), .int .i64 (n1 : Int), .int .i64 (e1 : Int)]) ∧ w' = twoE w t 1 0 0)) (he : e1 ≠ 0) :
    Calls Tryd.prog 28 #[.slice (some ⟨b, off, none⟩) len len] w fun e w' => e = ER (zE, 0, e1) ∧ Below w.heap.size w w' := by
  have hA1 : (a : Int) + 1 = (len : Int) := by omega
  clear hal
  have hal : a < len := by omega
  have hne : ((a : Int) == (len : Int)) = false := by simp; omega
  have hc' : ((e1 : Int) == 0) = false := by simp; omega
  go_enter Tryd.func28, Tryd.ntmps28
  go_wp2_with (first | (go_at_call 21; refine (unhide HU0).mono ?_; rintro e w1 ⟨rfl, rfl⟩; clear HU0) | (go_at_call 21; refine (unhide HU1).mono ?_; rintro e w1 ⟨rfl, rfl⟩; clear HU1))
  (try simp only [Exit.inBlock, Exit.then])
  refine bodyPost_ret (v := .tuple #[zE.agg, .int .i64 0, .int .i64 (e1 : Int)]) ?_ rfl ⟨rfl, ?_⟩
  · rw [results_cell3 rfl]
    go_simp
    rfl
  · (repeat' (first | exact Below.refl _ _ | refine Below.setCell ?_ (by simp) _ | refine Below.alloc ?_ (by simp) _))
end Go.Proofs.YtahcfanmfocljaaDoor
namespace Go.Proofs.YtahcfanmfocljaaDoor
open Go.RowKit Go.Lib

set_option maxHeartbeats 3200000 in
set_option maxRecDepth 100000 in
theorem refEntry_e2 (b off cap len t a a1 c n1 a2 q n2 e2 : Nat) (w : World) (_hb : b < w.heap.size) (_hl : len ≤ 1000000000000) (HU0 : Hid (Calls Tryd.prog 21 #[.slice (some ⟨b, off, none⟩) len cap] (twoE w 0 0 0 0) fun e w' => e = .returned (.tuple #[.int .u64 (t : Int), .int .i64 (a : Int), .int .i64 (0 : Int)]) ∧ w' = twoE w 0 0 0 0)) (hal : a < len) (ha1 : a1 = a + 1) (h0 : w.cell? ⟨b, off + a, none⟩ = some (.int .u8 1)) (hce : cap ≠ a1) (HU1 : Hid (Calls Tryd.prog 21 #[.slice (some ⟨b, off + a1, none⟩) (len - a1) (cap - a1)] (twoE w t 1 0 0) fun e w' => e = .returned (.tuple #[.int .u64 (c : Int), .int .i64 (n1 : Int), .int .i64 (0 : Int)]) ∧ w' = twoE w t 1 0 0)) (ha2 : a2 = a1 + n1) (_hB2 : a2 ≤ len) (hce2 : cap ≠ a2) (HU2 : Hid (Calls Tryd.prog 21 #[.slice (some ⟨b, off + a2, none⟩) (len - a2) (cap - a2)] (twoE w t 1 c 0) fun e w' => e = .returned (.tuple #[.int .u64 (q : Int), .int .i64 (n2 : Int), .int .i64 (e2 : Int)]) ∧ w' = twoE w t 1 c 0)) (he : e2 ≠ 0) :
    Calls Tryd.prog 28 #[.slice (some ⟨b, off, none⟩) len cap] w fun e w' => e = ER (zE, 0, e2) ∧ Below w.heap.size w w' := by
  have hne : ((a : Int) == (len : Int)) = false := by simp; omega
  have hA1 : (a : Int) + 1 = (a1 : Int) := by omega
  have hB1 : a1 ≤ len := by omega
  clear ha1
  have hA2 : (a1 : Int) + (n1 : Int) = (a2 : Int) := by omega
  clear ha2
  have hc' : ((e2 : Int) == 0) = false := by simp; omega
  go_enter Tryd.func28, Tryd.ntmps28
  go_wp2_with (first | (go_at_call 21; refine (unhide HU0).mono ?_; rintro e w1 ⟨rfl, rfl⟩; clear HU0) | (go_at_call 21; refine (unhide HU1).mono ?_; rintro e w1 ⟨rfl, rfl⟩; clear HU1) | (go_at_call 21; refine (unhide HU2).mono ?_; rintro e w1 ⟨rfl, rfl⟩; clear HU2))
  (try simp only [Exit.inBlock, Exit.then])
  refine bodyPost_ret (v := .tuple #[zE.agg, .int .i64 0, .int .i64 (e2 : Int)]) ?_ rfl ⟨rfl, ?_⟩
  · rw [results_cell3 rfl]
    go_simp
    rfl
  · (repeat' (first | exact Below.refl _ _ | refine Below.setCell ?_ (by simp) _ | refine Below.alloc ?_ (by simp) _))

set_option maxHeartbeats 3200000 in
set_option maxRecDepth 100000 in
theorem refEntry_e2L (b off len t a a1 c n1 q n2 e2 : Nat) (w : World) (_hb : b < w.heap.size) (_hl : len ≤ 1000000000000) (HU0 : Hid (Calls Tryd.prog 21 #[.slice (some ⟨b, off, none⟩) len len] (twoE w 0 0 0 0) fun e w' => e = .returned (.tuple #[.int .u64 (t : Int), .int .i64 (a : Int), .int .i64 (0 : Int)]) ∧ w' = twoE w 0 0 0 0)) (hal : a < len) (ha1 : a1 = a + 1) (h0 : w.cell? ⟨b, off + a, none⟩ = some (.int .u8 1)) (hce : len ≠ a1) (HU1 : Hid (Calls Tryd.prog 21 #[.slice (some ⟨b, off + a1, none⟩) (len - a1) (len - a1)] (twoE w t 1 0 0) fun e w' => e = .returned (.tuple #[.int .u64 (c : Int), .int .i64 (n1 : Int), .int .i64 (0 : Int)]) ∧ w' = twoE w t 1 0 0)) (ha2 : a1 + n1 = len) (HU2 : Hid (Calls Tryd.prog 21 #[.slice (some ⟨b, off, none⟩) 0 0] (twoE w t 1 c 0) fun e w' => e = .returned (.tuple #[.int .u64 (q : Int), .int .i64 (n2 : Int), .int .i64 (e2 : Int)]) ∧ w' = twoE w t 1 c 0)) (he : e2 ≠ 0) :
    Calls Tryd.prog 28 #[.slice (some ⟨b, off, none⟩) len len] w fun e w' => e = ER (zE, 0, e2) ∧ Below w.heap.size w w' := by
  have hne : ((a : Int) == (len : Int)) = false := by simp; omega
  have hA1 : (a : Int) + 1 = (a1 : Int) := by omega
  have hB1 : a1 ≤ len := by omega
  clear ha1
  have hA2 : (a1 : Int) + (n1 : Int) = (len : Int) := by omega
  clear ha2
  have hc' : ((e2 : Int) == 0) = false := by simp; omega
  go_enter Tryd.func28, Tryd.ntmps28
  go_wp2_with (first | (go_at_call 21; refine (unhide HU0).mono ?_; rintro e w1 ⟨rfl, rfl⟩; clear HU0) | (go_at_call 21; refine (unhide HU1).mono ?_; rintro e w1 ⟨rfl, rfl⟩; clear HU1) | (go_at_call 21; refine (unhide HU2).mono ?_; rintro e w1 ⟨rfl, rfl⟩; clear HU2))
  (try simp only [Exit.inBlock, Exit.then])
  refine bodyPost_ret (v := .tuple #[zE.agg, .int .i64 0, .int .i64 (e2 : Int)]) ?_ rfl ⟨rfl, ?_⟩
  · rw [results_cell3 rfl]
    go_simp
    rfl
  · (repeat' (first | exact Below.refl _ _ | refine Below.setCell ?_ (by simp) _ | refine Below.alloc ?_ (by simp) _))

set_option maxHeartbeats 3200000 in
set_option maxRecDepth 100000 in
theorem refEntry_two (b off cap len t a a1 c n1 a2 q n2 a3 a5 : Nat) (w : World) (_hb : b < w.heap.size) (_hl : len ≤ 1000000000000) (HU0 : Hid (Calls Tryd.prog 21 #[.slice (some ⟨b, off, none⟩) len cap] (twoE w 0 0 0 0) fun e w' => e = .returned (.tuple #[.int .u64 (t : Int), .int .i64 (a : Int), .int .i64 (0 : Int)]) ∧ w' = twoE w 0 0 0 0)) (hal : a < len) (ha1 : a1 = a + 1) (h0 : w.cell? ⟨b, off + a, none⟩ = some (.int .u8 1)) (hce : cap ≠ a1) (HU1 : Hid (Calls Tryd.prog 21 #[.slice (some ⟨b, off + a1, none⟩) (len - a1) (cap - a1)] (twoE w t 1 0 0) fun e w' => e = .returned (.tuple #[.int .u64 (c : Int), .int .i64 (n1 : Int), .int .i64 (0 : Int)]) ∧ w' = twoE w t 1 0 0)) (ha2 : a2 = a1 + n1) (_hB2 : a2 ≤ len) (hce2 : cap ≠ a2) (HU2 : Hid (Calls Tryd.prog 21 #[.slice (some ⟨b, off + a2, none⟩) (len - a2) (cap - a2)] (twoE w t 1 c 0) fun e w' => e = .returned (.tuple #[.int .u64 (q : Int), .int .i64 (n2 : Int), .int .i64 (0 : Int)]) ∧ w' = twoE w t 1 c 0)) (ha3 : a3 = a2 + n2) (_hB3 : a3 ≤ len) (h2 : a3 + 2 ≤ len) (ha5 : a5 = a3 + 1) (x : Nat) (cx : w.cell? ⟨b, off + a3, none⟩ = some (.int .u8 (x : Int))) (y : Nat) (cy : w.cell? ⟨b, off + a5, none⟩ = some (.int .u8 (y : Int))) (hx : 128 ≤ x) (hy : 128 ≤ y) :
    Calls Tryd.prog 28 #[.slice (some ⟨b, off, none⟩) len cap] w fun e w' => e = ER (zE, 0, 20) ∧ Below w.heap.size w w' := by
  have hne : ((a : Int) == (len : Int)) = false := by simp; omega
  have hA1 : (a : Int) + 1 = (a1 : Int) := by omega
  have hB1 : a1 ≤ len := by omega
  clear ha1
  have hA2 : (a1 : Int) + (n1 : Int) = (a2 : Int) := by omega
  have hA3 : (a2 : Int) + (n2 : Int) = (a3 : Int) := by omega
  clear ha2 ha3
  have hA5 : (a3 : Int) + 1 = (a5 : Int) := by omega
  have hl2 : (a3 : Int) + 2 ≤ (len : Int) := by omega
  have hB5 : a5 < len := by omega
  have hB35 : a3 < len := by omega
  clear ha5
  have hx' : (128 : Int) ≤ (x : Int) := by omega
  have hy' : (128 : Int) ≤ (y : Int) := by omega
  go_enter Tryd.func28, Tryd.ntmps28
  go_wp2_with (first | (go_at_call 21; refine (unhide HU0).mono ?_; rintro e w1 ⟨rfl, rfl⟩; clear HU0) | (go_at_call 21; refine (unhide HU1).mono ?_; rintro e w1 ⟨rfl, rfl⟩; clear HU1) | (go_at_call 21; refine (unhide HU2).mono ?_; rintro e w1 ⟨rfl, rfl⟩; clear HU2))
  (try simp only [Exit.inBlock, Exit.then])
  refine bodyPost_ret (v := .tuple #[zE.agg, .int .i64 0, .int .i64 20]) ?_ rfl ⟨rfl, ?_⟩
  · rw [results_cell3 rfl]
    go_simp
    rfl
  · (repeat' (first | exact Below.refl _ _ | refine Below.setCell ?_ (by simp) _ | refine Below.alloc ?_ (by simp) _))
end Go.Proofs.YtahcfanmfocljaaDoor
namespace Go.Proofs.YtahcfanmfocljaaDoor
open Go.RowKit Go.Lib

set_option maxHeartbeats 3200000 in
set_option maxRecDepth 100000 in
theorem refEntry_e3i (b off cap len t a a1 c n1 a2 q n2 a3 n3 e3 : Nat) (w : World) (_hb : b < w.heap.size) (_hl : len ≤ 1000000000000) (HU0 : Hid (Calls Tryd.prog 21 #[.slice (some ⟨b, off, none⟩) len cap] (twoE w 0 0 0 0) fun e w' => e = .returned (.tuple #[.int .u64 (t : Int), .int .i64 (a : Int), .int .i64 (0 : Int)]) ∧ w' = twoE w 0 0 0 0)) (hal : a < len) (ha1 : a1 = a + 1) (h0 : w.cell? ⟨b, off + a, none⟩ = some (.int .u8 1)) (hce : cap ≠ a1) (HU1 : Hid (Calls Tryd.prog 21 #[.slice (some ⟨b, off + a1, none⟩) (len - a1) (cap - a1)] (twoE w t 1 0 0) fun e w' => e = .returned (.tuple #[.int .u64 (c : Int), .int .i64 (n1 : Int), .int .i64 (0 : Int)]) ∧ w' = twoE w t 1 0 0)) (ha2 : a2 = a1 + n1) (_hB2 : a2 ≤ len) (hce2 : cap ≠ a2) (HU2 : Hid (Calls Tryd.prog 21 #[.slice (some ⟨b, off + a2, none⟩) (len - a2) (cap - a2)] (twoE w t 1 c 0) fun e w' => e = .returned (.tuple #[.int .u64 (q : Int), .int .i64 (n2 : Int), .int .i64 (0 : Int)]) ∧ w' = twoE w t 1 c 0)) (ha3 : a3 = a2 + n2) (_hB3 : a3 ≤ len) (h2 : len < a3 + 2) (hce3 : cap ≠ a3) (S : ByteArray) (HT : Hid (Calls Tryd.prog 23 #[.slice (some ⟨b, off + a3, none⟩) (len - a3) (cap - a3)] (twoE w t 1 c q) fun e w' => e = .returned (.tuple #[.string S, .int .i64 (n3 : Int), .int .i64 (e3 : Int)]) ∧ w' = twoE w t 1 c q)) (he : e3 ≠ 0) :
    Calls Tryd.prog 28 #[.slice (some ⟨b, off, none⟩) len cap] w fun e w' => e = ER (zE, 0, e3) ∧ Below w.heap.size w w' := by
  have hne : ((a : Int) == (len : Int)) = false := by simp; omega
  have hA1 : (a : Int) + 1 = (a1 : Int) := by omega
  have hB1 : a1 ≤ len := by omega
  clear ha1
  have hA2 : (a1 : Int) + (n1 : Int) = (a2 : Int) := by omega
  have hA3 : (a2 : Int) + (n2 : Int) = (a3 : Int) := by omega
  clear ha2 ha3
  have hl2 : ¬ ((a3 : Int) + 2 ≤ (len : Int)) := by omega
  have hc' : ((e3 : Int) == 0) = false := by simp; omega
  go_enter Tryd.func28, Tryd.ntmps28
  go_wp2_with (first | (go_at_call 21; refine (unhide HU0).mono ?_; rintro e w1 ⟨rfl, rfl⟩; clear HU0) | (go_at_call 21; refine (unhide HU1).mono ?_; rintro e w1 ⟨rfl, rfl⟩; clear HU1) | (go_at_call 21; refine (unhide HU2).mono ?_; rintro e w1 ⟨rfl, rfl⟩; clear HU2) | (go_at_call 23; refine (unhide HT).mono ?_; rintro e w1 ⟨rfl, rfl⟩; clear HT))
  (try simp only [Exit.inBlock, Exit.then])
  refine bodyPost_ret (v := .tuple #[zE.agg, .int .i64 0, .int .i64 (e3 : Int)]) ?_ rfl ⟨rfl, ?_⟩
  · rw [results_cell3 rfl]
    go_simp
    rfl
  · (repeat' (first | exact Below.refl _ _ | refine Below.setCell ?_ (by simp) _ | refine Below.alloc ?_ (by simp) _))

set_option maxHeartbeats 3200000 in
set_option maxRecDepth 100000 in
theorem refEntry_oki (b off cap len t a a1 c n1 a2 q n2 a3 n3 a4 : Nat) (w : World) (_hb : b < w.heap.size) (_hl : len ≤ 1000000000000) (HU0 : Hid (Calls Tryd.prog 21 #[.slice (some ⟨b, off, none⟩) len cap] (twoE w 0 0 0 0) fun e w' => e = .returned (.tuple #[.int .u64 (t : Int), .int .i64 (a : Int), .int .i64 (0 : Int)]) ∧ w' = twoE w 0 0 0 0)) (hal : a < len) (ha1 : a1 = a + 1) (h0 : w.cell? ⟨b, off + a, none⟩ = some (.int .u8 1)) (hce : cap ≠ a1) (HU1 : Hid (Calls Tryd.prog 21 #[.slice (some ⟨b, off + a1, none⟩) (len - a1) (cap - a1)] (twoE w t 1 0 0) fun e w' => e = .returned (.tuple #[.int .u64 (c : Int), .int .i64 (n1 : Int), .int .i64 (0 : Int)]) ∧ w' = twoE w t 1 0 0)) (ha2 : a2 = a1 + n1) (_hB2 : a2 ≤ len) (hce2 : cap ≠ a2) (HU2 : Hid (Calls Tryd.prog 21 #[.slice (some ⟨b, off + a2, none⟩) (len - a2) (cap - a2)] (twoE w t 1 c 0) fun e w' => e = .returned (.tuple #[.int .u64 (q : Int), .int .i64 (n2 : Int), .int .i64 (0 : Int)]) ∧ w' = twoE w t 1 c 0)) (ha3 : a3 = a2 + n2) (_hB3 : a3 ≤ len) (h2 : len < a3 + 2) (hce3 : cap ≠ a3) (S : ByteArray) (HT : Hid (Calls Tryd.prog 23 #[.slice (some ⟨b, off + a3, none⟩) (len - a3) (cap - a3)] (twoE w t 1 c q) fun e w' => e = .returned (.tuple #[.string S, .int .i64 (n3 : Int), .int .i64 (0 : Int)]) ∧ w' = twoE w t 1 c q)) (ha4 : a4 = a3 + n3) (_hB4 : a4 ≤ len) :
    Calls Tryd.prog 28 #[.slice (some ⟨b, off, none⟩) len cap] w fun e w' => e = ER (⟨t, 1, c, q, S⟩, a4, 0) ∧ Below w.heap.size w w' := by
  have hne : ((a : Int) == (len : Int)) = false := by simp; omega
  have hA1 : (a : Int) + 1 = (a1 : Int) := by omega
  have hB1 : a1 ≤ len := by omega
  clear ha1
  have hA2 : (a1 : Int) + (n1 : Int) = (a2 : Int) := by omega
  have hA3 : (a2 : Int) + (n2 : Int) = (a3 : Int) := by omega
  clear ha2 ha3
  have hl2 : ¬ ((a3 : Int) + 2 ≤ (len : Int)) := by omega
  have hA4 : (a3 : Int) + (n3 : Int) = (a4 : Int) := by omega
  clear ha4
  go_enter Tryd.func28, Tryd.ntmps28
  go_wp2_with (first | (go_at_call 21; refine (unhide HU0).mono ?_; rintro e w1 ⟨rfl, rfl⟩; clear HU0) | (go_at_call 21; refine (unhide HU1).mono ?_; rintro e w1 ⟨rfl, rfl⟩; clear HU1) | (go_at_call 21; refine (unhide HU2).mono ?_; rintro e w1 ⟨rfl, rfl⟩; clear HU2) | (go_at_call 23; refine (unhide HT).mono ?_; rintro e w1 ⟨rfl, rfl⟩; clear HT))
  (try simp only [Exit.inBlock, Exit.then])
  refine bodyPost_ret (v := .tuple #[(GE.agg ⟨t, 1, c, q, S⟩), .int .i64 (a4 : Int), .int .i64 0]) ?_ rfl ⟨rfl, ?_⟩
  · rw [results_cell3 rfl]
    go_simp
    rfl
  · (repeat' (first | exact Below.refl _ _ | refine Below.setCell ?_ (by simp) _ | refine Below.alloc ?_ (by simp) _))

set_option maxHeartbeats 3200000 in
set_option maxRecDepth 100000 in
theorem refEntry_e3j (b off cap len t a a1 c n1 a2 q n2 a3 n3 e3 : Nat) (w : World) (_hb : b < w.heap.size) (_hl : len ≤ 1000000000000) (HU0 : Hid (Calls Tryd.prog 21 #[.slice (some ⟨b, off, none⟩) len cap] (twoE w 0 0 0 0) fun e w' => e = .returned (.tuple #[.int .u64 (t : Int), .int .i64 (a : Int), .int .i64 (0 : Int)]) ∧ w' = twoE w 0 0 0 0)) (hal : a < len) (ha1 : a1 = a + 1) (h0 : w.cell? ⟨b, off + a, none⟩ = some (.int .u8 1)) (hce : cap ≠ a1) (HU1 : Hid (Calls Tryd.prog 21 #[.slice (some ⟨b, off + a1, none⟩) (len - a1) (cap - a1)] (twoE w t 1 0 0) fun e w' => e = .returned (.tuple #[.int .u64 (c : Int), .int .i64 (n1 : Int), .int .i64 (0 : Int)]) ∧ w' = twoE w t 1 0 0)) (ha2 : a2 = a1 + n1) (_hB2 : a2 ≤ len) (hce2 : cap ≠ a2) (HU2 : Hid (Calls Tryd.prog 21 #[.slice (some ⟨b, off + a2, none⟩) (len - a2) (cap - a2)] (twoE w t 1 c 0) fun e w' => e = .returned (.tuple #[.int .u64 (q : Int), .int .i64 (n2 : Int), .int .i64 (0 : Int)]) ∧ w' = twoE w t 1 c 0)) (ha3 : a3 = a2 + n2) (_hB3 : a3 ≤ len) (h2 : a3 + 2 ≤ len) (x : Nat) (cx : w.cell? ⟨b, off + a3, none⟩ = some (.int .u8 (x : Int))) (hx : x < 128) (hce3 : cap ≠ a3) (S : ByteArray) (HT : Hid (Calls Tryd.prog 23 #[.slice (some ⟨b, off + a3, none⟩) (len - a3) (cap - a3)] (twoE w t 1 c q) fun e w' => e = .returned (.tuple #[.string S, .int .i64 (n3 : Int), .int .i64 (e3 : Int)]) ∧ w' = twoE w t 1 c q)) (he : e3 ≠ 0) :
    Calls Tryd.prog 28 #[.slice (some ⟨b, off, none⟩) len cap] w fun e w' => e = ER (zE, 0, e3) ∧ Below w.heap.size w w' := by
  have hne : ((a : Int) == (len : Int)) = false := by simp; omega
  have hA1 : (a : Int) + 1 = (a1 : Int) := by omega
  have hB1 : a1 ≤ len := by omega
  clear ha1
  have hA2 : (a1 : Int) + (n1 : Int) = (a2 : Int) := by omega
  have hA3 : (a2 : Int) + (n2 : Int) = (a3 : Int) := by omega
  clear ha2 ha3
  have hl2 : (a3 : Int) + 2 ≤ (len : Int) := by omega
  have hB35 : a3 < len := by omega
  have hx' : ¬ ((128 : Int) ≤ (x : Int)) := by omega
  have hc' : ((e3 : Int) == 0) = false := by simp; omega
  go_enter Tryd.func28, Tryd.ntmps28
  go_wp2_with (first | (go_at_call 21; refine (unhide HU0).mono ?_; rintro e w1 ⟨rfl, rfl⟩; clear HU0) | (go_at_call 21; refine (unhide HU1).mono ?_; rintro e w1 ⟨rfl, rfl⟩; clear HU1) | (go_at_call 21; refine (unhide HU2).mono ?_; rintro e w1 ⟨rfl, rfl⟩; clear HU2) | (go_at_call 23; refine (unhide HT).mono ?_; rintro e w1 ⟨rfl, rfl⟩; clear HT))
  (try simp only [Exit.inBlock, Exit.then])
  refine bodyPost_ret (v := .tuple #[zE.agg, .int .i64 0, .int .i64 (e3 : Int)]) ?_ rfl ⟨rfl, ?_⟩
  · rw [results_cell3 rfl]
    go_simp
    rfl
  · (repeat' (first | exact Below.refl _ _ | refine Below.setCell ?_ (by simp) _ | refine Below.alloc ?_ (by simp) _))

set_option maxHeartbeats 3200000 in
set_option maxRecDepth 100000 in
theorem refEntry_okj (b off cap len t a a1 c n1 a2 q n2 a3 n3 a4 : Nat) (w : World) (_hb : b < w.heap.size) (_hl : len ≤ 1000000000000) (HU0 : Hid (Calls Tryd.prog 21 #[.slice (some ⟨b, off, none⟩) len cap] (twoE w 0 0 0 0) fun e w' => e = .returned (.tuple #[.int .u64 (t : Int), .int .i64 (a : Int), .int .i64 (0 : Int)]) ∧ w' = twoE w 0 0 0 0)) (hal : a < len) (ha1 : a1 = a + 1) (h0 : w.cell? ⟨b, off + a, none⟩ = some (.int .u8 1)) (hce : cap ≠ a1) (HU1 : Hid (Calls Tryd.prog 21 #[.slice (some ⟨b, off + a1, none⟩) (len - a1) (cap - a1)] (twoE w t 1 0 0) fun e w' => e = .returned (.tuple #[.int .u64 (c : Int), .int .i64 (n1 : Int), .int .i64 (0 : Int)]) ∧ w' = twoE w t 1 0 0)) (ha2 : a2 = a1 + n1) (_hB2 : a2 ≤ len) (hce2 : cap ≠ a2) (HU2 : Hid (Calls Tryd.prog 21 #[.slice (some ⟨b, off + a2, none⟩) (len - a2) (cap - a2)] (twoE w t 1 c 0) fun e w' => e = .returned (.tuple #[.int .u64 (q : Int), .int .i64 (n2 : Int), .int .i64 (0 : Int)]) ∧ w' = twoE w t 1 c 0)) (ha3 : a3 = a2 + n2) (_hB3 : a3 ≤ len) (h2 : a3 + 2 ≤ len) (x : Nat) (cx : w.cell? ⟨b, off + a3, none⟩ = some (.int .u8 (x : Int))) (hx : x < 128) (hce3 : cap ≠ a3) (S : ByteArray) (HT : Hid (Calls Tryd.prog 23 #[.slice (some ⟨b, off + a3, none⟩) (len - a3) (cap - a3)] (twoE w t 1 c q) fun e w' => e = .returned (.tuple #[.string S, .int .i64 (n3 : Int), .int .i64 (0 : Int)]) ∧ w' = twoE w t 1 c q)) (ha4 : a4 = a3 + n3) (_hB4 : a4 ≤ len) :
    Calls Tryd.prog 28 #[.slice (some ⟨b, off, none⟩) len cap] w fun e w' => e = ER (⟨t, 1, c, q, S⟩, a4, 0) ∧ Below w.heap.size w w' := by
  have hne : ((a : Int) == (len : Int)) = false := by simp; omega
  have hA1 : (a : Int) + 1 = (a1 : Int) := by omega
  have hB1 : a1 ≤ len := by omega
  clear ha1
  have hA2 : (a1 : Int) + (n1 : Int) = (a2 : Int) := by omega
  have hA3 : (a2 : Int) + (n2 : Int) = (a3 : Int) := by omega
  clear ha2 ha3
  have hl2 : (a3 : Int) + 2 ≤ (len : Int) := by omega
  have hB35 : a3 < len := by omega
  have hx' : ¬ ((128 : Int) ≤ (x : Int)) := by omega
  have hA4 : (a3 : Int) + (n3 : Int) = (a4 : Int) := by omega
  clear ha4
  go_enter Tryd.func28, Tryd.ntmps28
  go_wp2_with (first | (go_at_call 21; refine (unhide HU0).mono ?_; rintro e w1 ⟨rfl, rfl⟩; clear HU0) | (go_at_call 21; refine (unhide HU1).mono ?_; rintro e w1 ⟨rfl, rfl⟩; clear HU1) | (go_at_call 21; refine (unhide HU2).mono ?_; rintro e w1 ⟨rfl, rfl⟩; clear HU2) | (go_at_call 23; refine (unhide HT).mono ?_; rintro e w1 ⟨rfl, rfl⟩; clear HT))
  (try simp only [Exit.inBlock, Exit.then])
  refine bodyPost_ret (v := .tuple #[(GE.agg ⟨t, 1, c, q, S⟩), .int .i64 (a4 : Int), .int .i64 0]) ?_ rfl ⟨rfl, ?_⟩
  · rw [results_cell3 rfl]
    go_simp
    rfl
  · (repeat' (first | exact Below.refl _ _ | refine Below.setCell ?_ (by simp) _ | refine Below.alloc ?_ (by simp) _))

set_option maxHeartbeats 3200000 in
set_option maxRecDepth 100000 in
theorem refEntry_e3k (b off cap len t a a1 c n1 a2 q n2 a3 n3 e3 a5 : Nat) (w : World) (_hb : b < w.heap.size) (_hl : len ≤ 1000000000000) (HU0 : Hid (Calls Tryd.prog 21 #[.slice (some ⟨b, off, none⟩) len cap] (twoE w 0 0 0 0) fun e w' => e = .returned (.tuple #[.int .u64 (t : Int), .int .i64 (a : Int), .int .i64 (0 : Int)]) ∧ w' = twoE w 0 0 0 0)) (hal : a < len) (ha1 : a1 = a + 1) (h0 : w.cell? ⟨b, off + a, none⟩ = some (.int .u8 1)) (hce : cap ≠ a1) (HU1 : Hid (Calls Tryd.prog 21 #[.slice (some ⟨b, off + a1, none⟩) (len - a1) (cap - a1)] (twoE w t 1 0 0) fun e w' => e = .returned (.tuple #[.int .u64 (c : Int), .int .i64 (n1 : Int), .int .i64 (0 : Int)]) ∧ w' = twoE w t 1 0 0)) (ha2 : a2 = a1 + n1) (_hB2 : a2 ≤ len) (hce2 : cap ≠ a2) (HU2 : Hid (Calls Tryd.prog 21 #[.slice (some ⟨b, off + a2, none⟩) (len - a2) (cap - a2)] (twoE w t 1 c 0) fun e w' => e = .returned (.tuple #[.int .u64 (q : Int), .int .i64 (n2 : Int), .int .i64 (0 : Int)]) ∧ w' = twoE w t 1 c 0)) (ha3 : a3 = a2 + n2) (_hB3 : a3 ≤ len) (h2 : a3 + 2 ≤ len) (ha5 : a5 = a3 + 1) (x : Nat) (cx : w.cell? ⟨b, off + a3, none⟩ = some (.int .u8 (x : Int))) (y : Nat) (cy : w.cell? ⟨b, off + a5, none⟩ = some (.int .u8 (y : Int))) (hx : 128 ≤ x) (hy : y < 128) (hce3 : cap ≠ a3) (S : ByteArray) (HT : Hid (Calls Tryd.prog 23 #[.slice (some ⟨b, off + a3, none⟩) (len - a3) (cap - a3)] (twoE w t 1 c q) fun e w' => e = .returned (.tuple #[.string S, .int .i64 (n3 : Int), .int .i64 (e3 : Int)]) ∧ w' = twoE w t 1 c q)) (he : e3 ≠ 0) :
    Calls Tryd.prog 28 #[.slice (some ⟨b, off, none⟩) len cap] w fun e w' => e = ER (zE, 0, e3) ∧ Below w.heap.size w w' := by
  have hne : ((a : Int) == (len : Int)) = false := by simp; omega
  have hA1 : (a : Int) + 1 = (a1 : Int) := by omega
  have hB1 : a1 ≤ len := by omega
  clear ha1
  have hA2 : (a1 : Int) + (n1 : Int) = (a2 : Int) := by omega
  have hA3 : (a2 : Int) + (n2 : Int) = (a3 : Int) := by omega
  clear ha2 ha3
  have hA5 : (a3 : Int) + 1 = (a5 : Int) := by omega
  have hl2 : (a3 : Int) + 2 ≤ (len : Int) := by omega
  have hB5 : a5 < len := by omega
  have hB35 : a3 < len := by omega
  clear ha5
  have hx' : (128 : Int) ≤ (x : Int) := by omega
  have hy' : ¬ ((128 : Int) ≤ (y : Int)) := by omega
  have hc' : ((e3 : Int) == 0) = false := by simp; omega
  go_enter Tryd.func28, Tryd.ntmps28
  go_wp2_with (first | (go_at_call 21; refine (unhide HU0).mono ?_; rintro e w1 ⟨rfl, rfl⟩; clear HU0) | (go_at_call 21; refine (unhide HU1).mono ?_; rintro e w1 ⟨rfl, rfl⟩; clear HU1) | (go_at_call 21; refine (unhide HU2).mono ?_; rintro e w1 ⟨rfl, rfl⟩; clear HU2) | (go_at_call 23; refine (unhide HT).mono ?_; rintro e w1 ⟨rfl, rfl⟩; clear HT))
  (try simp only [Exit.inBlock, Exit.then])
  refine bodyPost_ret (v := .tuple #[zE.agg, .int .i64 0, .int .i64 (e3 : Int)]) ?_ rfl ⟨rfl, ?_⟩
  · rw [results_cell3 rfl]
    go_simp
    rfl
  · (repeat' (first | exact Below.refl _ _ | refine Below.setCell ?_ (by simp) _ | refine Below.alloc ?_ (by simp) _))

set_option maxHeartbeats 3200000 in
set_option maxRecDepth 100000 in
theorem refEntry_okk (b off cap len t a a1 c n1 a2 q n2 a3 n3 a4 a5 : Nat) (w : World) (_hb : b < w.heap.size) (_hl : len ≤ 1000000000000) (HU0 : Hid (Calls Tryd.prog 21 #[.slice (some ⟨b, off, none⟩) len cap] (twoE w 0 0 0 0) fun e w' => e = .returned (.tuple #[.int .u64 (t : Int), .int .i64 (a : Int), .int .i64 (0 : Int)]) ∧ w' = twoE w 0 0 0 0)) (hal : a < len) (ha1 : a1 = a + 1) (h0 : w.cell? ⟨b, off + a, none⟩ = some (.int .u8 1)) (hce : cap ≠ a1) (HU1 : Hid (Calls Tryd.prog 21 #[.slice (some ⟨b, off + a1, none⟩) (len - a1) (cap - a1)] (twoE w t 1 0 0) fun e w' => e = .returned (.tuple #[.int .u64 (c : Int), .int .i64 (n1 : Int), .int .i64 (0 : Int)]) ∧ w' = twoE w t 1 0 0)) (ha2 : a2 = a1 + n1) (_hB2 : a2 ≤ len) (hce2 : cap ≠ a2) (HU2 : Hid (Calls Tryd.prog 21 #[.slice (some ⟨b, off + a2, none⟩) (len - a2) (cap - a2)] (twoE w t 1 c 0) fun e w' => e = .returned (.tuple #[.int .u64 (q : Int), .int .i64 (n2 : Int), .int .i64 (0 : Int)]) ∧ w' = twoE w t 1 c 0)) (ha3 : a3 = a2 + n2) (_hB3 : a3 ≤ len) (h2 : a3 + 2 ≤ len) (ha5 : a5 = a3 + 1) (x : Nat) (cx : w.cell? ⟨b, off + a3, none⟩ = some (.int .u8 (x : Int))) (y : Nat) (cy : w.cell? ⟨b, off + a5, none⟩ = some (.int .u8 (y : Int))) (hx : 128 ≤ x) (hy : y < 128) (hce3 : cap ≠ a3) (S : ByteArray) (HT : Hid (Calls Tryd.prog 23 #[.slice (some ⟨b, off + a3, none⟩) (len - a3) (cap - a3)] (twoE w t 1 c q) fun e w' => e = .returned (.tuple #[.string S, .int .i64 (n3 : Int), .int .i64 (0 : Int)]) ∧ w' = twoE w t 1 c q)) (ha4 : a4 = a3 + n3) (_hB4 : a4 ≤ len) :
    Calls Tryd.prog 28 #[.slice (some ⟨b, off, none⟩) len cap] w fun e w' => e = ER (⟨t, 1, c, q, S⟩, a4, 0) ∧ Below w.heap.size w w' := by
  have hne : ((a : Int) == (len : Int)) = false := by simp; omega
  have hA1 : (a : Int) + 1 = (a1 : Int) := by omega
  have hB1 : a1 ≤ len := by omega
  clear ha1
  have hA2 : (a1 : Int) + (n1 : Int) = (a2 : Int) := by omega
  have hA3 : (a2 : Int) + (n2 : Int) = (a3 : Int) := by omega
  clear ha2 ha3
  have hA5 : (a3 : Int) + 1 = (a5 : Int) := by omega
  have hl2 : (a3 : Int) + 2 ≤ (len : Int) := by omega
  have hB5 : a5 < len := by omega
  have hB35 : a3 < len := by omega
  clear ha5
  have hx' : (128 : Int) ≤ (x : Int) := by omega
  have hy' : ¬ ((128 : Int) ≤ (y : Int)) := by omega
  have hA4 : (a3 : Int) + (n3 : Int) = (a4 : Int) := by omega
  clear ha4
  go_enter Tryd.func28, Tryd.ntmps28
  go_wp2_with (first | (go_at_call 21; refine (unhide HU0).mono ?_; rintro e w1 ⟨rfl, rfl⟩; clear HU0) | (go_at_call 21; refine (unhide HU1).mono ?_; rintro e w1 ⟨rfl, rfl⟩; clear HU1) | (go_at_call 21; refine (unhide HU2).mono ?_; rintro e w1 ⟨rfl, rfl⟩; clear HU2) | (go_at_call 23; refine (unhide HT).mono ?_; rintro e w1 ⟨rfl, rfl⟩; clear HT))
  (try simp only [Exit.inBlock, Exit.then])
  refine bodyPost_ret (v := .tuple #[(GE.agg ⟨t, 1, c, q, S⟩), .int .i64 (a4 : Int), .int .i64 0]) ?_ rfl ⟨rfl, ?_⟩
  · rw [results_cell3 rfl]
    go_simp
    rfl
  · (repeat' (first | exact Below.refl _ _ | refine Below.setCell ?_ (by simp) _ | refine Below.alloc ?_ (by simp) _))

set_option maxHeartbeats 3200000 in
set_option maxRecDepth 100000 in
theorem refEntry_e3L (b off len t a a1 c n1 a2 q n2 n3 e3 : Nat) (w : World) (_hb : b < w.heap.size) (_hl : len ≤ 1000000000000) (HU0 : Hid (Calls Tryd.prog 21 #[.slice (some ⟨b, off, none⟩) len len] (twoE w 0 0 0 0) fun e w' => e = .returned (.tuple #[.int .u64 (t : Int), .int .i64 (a : Int), .int .i64 (0 : Int)]) ∧ w' = twoE w 0 0 0 0)) (hal : a < len) (ha1 : a1 = a + 1) (h0 : w.cell? ⟨b, off + a, none⟩ = some (.int .u8 1)) (hce : len ≠ a1) (HU1 : Hid (Calls Tryd.prog 21 #[.slice (some ⟨b, off + a1, none⟩) (len - a1) (len - a1)] (twoE w t 1 0 0) fun e w' => e = .returned (.tuple #[.int .u64 (c : Int), .int .i64 (n1 : Int), .int .i64 (0 : Int)]) ∧ w' = twoE w t 1 0 0)) (ha2 : a2 = a1 + n1) (_hB2 : a2 ≤ len) (hce2 : len ≠ a2) (HU2 : Hid (Calls Tryd.prog 21 #[.slice (some ⟨b, off + a2, none⟩) (len - a2) (len - a2)] (twoE w t 1 c 0) fun e w' => e = .returned (.tuple #[.int .u64 (q : Int), .int .i64 (n2 : Int), .int .i64 (0 : Int)]) ∧ w' = twoE w t 1 c 0)) (ha3 : a2 + n2 = len) (S : ByteArray) (HT : Hid (Calls Tryd.prog 23 #[.slice (some ⟨b, off, none⟩) 0 0] (twoE w t 1 c q) fun e w' => e = .returned (.tuple #[.string S, .int .i64 (n3 : Int), .int .i64 (e3 : Int)]) ∧ w' = twoE w t 1 c q)) (he : e3 ≠ 0) :
    Calls Tryd.prog 28 #[.slice (some ⟨b, off, none⟩) len len] w fun e w' => e = ER (zE, 0, e3) ∧ Below w.heap.size w w' := by
  have hne : ((a : Int) == (len : Int)) = false := by simp; omega
  have hA1 : (a : Int) + 1 = (a1 : Int) := by omega
  have hB1 : a1 ≤ len := by omega
  clear ha1
  have hA2 : (a1 : Int) + (n1 : Int) = (a2 : Int) := by omega
  have hA3 : (a2 : Int) + (n2 : Int) = (len : Int) := by omega
  have hl2 : ¬ ((len : Int) + 2 ≤ (len : Int)) := by omega
  clear ha2 ha3
  have hc' : ((e3 : Int) == 0) = false := by simp; omega
  go_enter Tryd.func28, Tryd.ntmps28
  go_wp2_with (first | (go_at_call 21; refine (unhide HU0).mono ?_; rintro e w1 ⟨rfl, rfl⟩; clear HU0) | (go_at_call 21; refine (unhide HU1).mono ?_; rintro e w1 ⟨rfl, rfl⟩; clear HU1) | (go_at_call 21; refine (unhide HU2).mono ?_; rintro e w1 ⟨rfl, rfl⟩; clear HU2) | (go_at_call 23; refine (unhide HT).mono ?_; rintro e w1 ⟨rfl, rfl⟩; clear HT))
  (try simp only [Exit.inBlock, Exit.then])
  refine bodyPost_ret (v := .tuple #[zE.agg, .int .i64 0, .int .i64 (e3 : Int)]) ?_ rfl ⟨rfl, ?_⟩
  · rw [results_cell3 rfl]
    go_simp
    rfl
  · (repeat' (first | exact Below.refl _ _ | refine Below.setCell ?_ (by simp) _ | refine Below.alloc ?_ (by simp) _))
end Go.Proofs.YtahcfanmfocljaaDoor
namespace Go.Proofs.YtahcfanmfocljaaDoor
open Go.RowKit Go.Lib

theorem hu_is {w W : World} {v : Value} {m : List UInt8} {n k c q : Nat} (hv : RBp w w.heap.size v m) (hb : Below w.heap.size w W) (hd : decU m = (n, k, c, q)) :
    Hid (Calls Tryd.prog 21 #[v] W fun e w' => e = .returned (.tuple #[.int .u64 (n : Int), .int .i64 (k : Int), .int .i64 (c : Int)]) ∧ w' = W) := hide (refUint_is (hv.below hb (Nat.le_refl _)) hd)
theorem hu_ok {w W : World} {v : Value} {m : List UInt8} {n k q : Nat} (hv : RBp w w.heap.size v m) (hb : Below w.heap.size w W) (hd : decU m = (n, k, 0, q)) :
    Hid (Calls Tryd.prog 21 #[v] W fun e w' => e = .returned (.tuple #[.int .u64 (n : Int), .int .i64 (k : Int), .int .i64 (0 : Int)]) ∧ w' = W) := hu_is hv hb hd
theorem ht_is {w W : World} {v : Value} {m : List UInt8} {S : List UInt8} {k c : Nat} (hv : RBp w w.heap.size v m) (hb : Below w.heap.size w W) (hd : refTxt m 2000 = (S, k, c)) :
    Hid (Calls Tryd.prog 23 #[v] W fun e w' => e = .returned (.tuple #[.string ⟨S.toArray⟩, .int .i64 (k : Int), .int .i64 (c : Int)]) ∧ w' = W) := by
  have := refText2_any v _ m W (hv.below hb (Nat.le_refl _))
  rw [hd] at this
  exact hide this
theorem ht_ok {w W : World} {v : Value} {m : List UInt8} {S : List UInt8} {k : Nat} (hv : RBp w w.heap.size v m) (hb : Below w.heap.size w W) (hd : refTxt m 2000 = (S, k, 0)) :
    Hid (Calls Tryd.prog 23 #[v] W fun e w' => e = .returned (.tuple #[.string ⟨S.toArray⟩, .int .i64 (k : Int), .int .i64 (0 : Int)]) ∧ w' = W) := ht_is hv hb hd
theorem getD_drop {l r : List UInt8} {a : Nat} {c : UInt8} (h : l.drop a = c :: r) : l.getD a 0 = c := by
  have h2 : (l.drop a)[0]? = some c := by rw [h]; rfl
  rw [List.getElem?_drop, Nat.add_zero] at h2
  simp [List.getD_eq_getElem?_getD, h2]
theorem refTxt_ok {m S : List UInt8} {k : Nat} (h : refTxt m 2000 = (S, k, 0)) : k ≤ m.length := by
  unfold refTxt at h
  rcases decU_cases m with ⟨n', k', hd, _, h8, h9⟩ | ⟨q', hd⟩ | ⟨q', hd, _⟩
  · rw [hd] at h
    simp only [if_true] at h
    split at h
    · simp at h
    · split at h
      · simp at h
      · simp at h; omega
  · rw [hd] at h; simp at h
  · rw [hd] at h; simp at h

set_option maxHeartbeats 1600000 in
theorem refEntry_nil (w : World) (HU0 : Hid (Calls Tryd.prog 21 #[.slice none 0 0] (twoE w 0 0 0 0) fun e w' => e = .returned (.tuple #[.int .u64 0, .int .i64 0, .int .i64 22]) ∧ w' = twoE w 0 0 0 0)) :
    Calls Tryd.prog 28 #[.slice none 0 0] w fun e w' => e = ER (zE, 0, 22) ∧ Below w.heap.size w w' := by
  go_enter Tryd.func28, Tryd.ntmps28
  go_wp2_with (first | (go_at_call 21; refine (unhide HU0).mono ?_; rintro e w1 ⟨rfl, rfl⟩; clear HU0))
  (try simp only [Exit.inBlock, Exit.then])
  refine bodyPost_ret (v := .tuple #[zE.agg, .int .i64 0, .int .i64 22]) ?_ rfl ⟨rfl, ?_⟩
  · rw [results_cell3 rfl]
    go_simp
    rfl
  · (repeat' (first | exact Below.refl _ _ | refine Below.setCell ?_ (by simp) _ | refine Below.alloc ?_ (by simp) _))

theorem refEntry_row (b off cap : Nat) (l : List UInt8) (w : World) (hb : b < w.heap.size) (hl : l.length ≤ 1000000000000) (hcap : l.length ≤ cap) (hm : cap ≤ maxLen)
    (hcell : ∀ i, i < l.length → w.cell? ⟨b, off + i, none⟩ = some (.int .u8 ((l.getD i 0).toNat : Int))) :
    Calls Tryd.prog 28 #[.slice (some ⟨b, off, none⟩) l.length cap] w fun e w' => e = ER (refEnt l) ∧ Below w.heap.size w w' := by
  have B := fun t k c q => twoE_below w t k c q
  have hrow : RBp w w.heap.size (.slice (some ⟨b, off, none⟩) l.length cap) l := ⟨hl, .inr ⟨b, off, cap, hb, hcap, hm, rfl, hcell⟩⟩
  have drop : ∀ a, a ≤ l.length → RBp w w.heap.size (.slice (some ⟨b, off + a, none⟩) (l.length - a) (cap - a)) (l.drop a) := fun a ha => rb_drop hb ha hcap hm hl hcell
  have none' : RBp w w.heap.size (.slice (some ⟨b, off, none⟩) 0 0) [] := ⟨by simp, .inr ⟨b, off, 0, hb, by simp, by unfold maxLen; omega, by simp, fun i hi => by simp at hi⟩⟩
  have d0 : decU [] = (0, 0, 22, 0) := rfl
  have bad : ∀ c q, c ≠ 0 → decU l = (0, 0, c, q) → Calls Tryd.prog 28 #[.slice (some ⟨b, off, none⟩) l.length cap] w fun e w' => e = ER (refEnt l) ∧ Below w.heap.size w w' := by
    intro c q hc hd
    have e : refEnt l = (zE, 0, c) := by simp [refEnt, hd, hc]
    rw [e]
    exact refEntry_e0 b off cap l.length 0 0 c w (hu_is hrow (B 0 0 0 0) hd) hc
  rcases decU_cases l with ⟨t, a, hd, _, hal, ha0⟩ | ⟨q, hd⟩ | ⟨q, hd, _⟩
  rotate_left
  · exact bad 20 q (by decide) hd
  · exact bad 22 q (by decide) hd
  have HU0 := hu_ok hrow (B 0 0 0 0) hd
  cases hdr : l.drop a with
  | nil =>
    have hle : l.length ≤ a := by simpa using hdr
    have e : refEnt l = (zE, 0, 22) := by simp [refEnt, hd, hdr]
    rw [e]
    exact refEntry_cut b off cap l.length t a w HU0 (by omega)
  | cons kb r =>
    obtain ⟨h1, hlt, hr⟩ := drop_cons hdr
    have hk := hcell a hlt
    rw [getD_drop hdr] at hk
    have hk256 := kb.toNat_lt
    by_cases k0 : kb.toNat = 0
    · have e : refEnt l = (⟨t, 0, 0, 0, ⟨#[]⟩⟩, a + 1, 0) := by simp [refEnt, hd, hdr, k0]
      rw [e]; rw [k0] at hk
      exact refEntry_bare b off cap l.length t a (a + 1) w hb hl HU0 hlt rfl hk
    by_cases k1 : kb.toNat ≠ 1
    · have e : refEnt l = (zE, 0, 20) := by simp [refEnt, hd, hdr, k0, k1]
      rw [e]
      exact refEntry_kind b off cap l.length t a (a + 1) kb.toNat w hb hl HU0 hlt rfl hk (by omega) hk256
    have k1 : kb.toNat = 1 := by omega
    rw [k1] at hk
    by_cases hce : cap = a + 1
    · have hlen : l.length = a + 1 := by omega
      have hr0 : r = [] := List.eq_nil_of_length_eq_zero (by omega)
      subst hr0
      have e : refEnt l = (zE, 0, 22) := by simp [refEnt, hd, hdr, k1, d0]
      rw [e]
      obtain rfl : cap = l.length := by omega
      exact refEntry_e1L b off l.length t a 0 0 22 w hb hl HU0 hlen.symm hk (hu_is none' (B t 1 0 0) d0) (by decide)
    have hr1 := drop (a + 1) (by omega)
    rw [h1] at hr1
    have bad1 : ∀ c q, c ≠ 0 → decU r = (0, 0, c, q) → Calls Tryd.prog 28 #[.slice (some ⟨b, off, none⟩) l.length cap] w fun e w' => e = ER (refEnt l) ∧ Below w.heap.size w w' := by
      intro c q hc hd1
      have e : refEnt l = (zE, 0, c) := by simp [refEnt, hd, hdr, k1, hd1, hc]
      rw [e]
      exact refEntry_e1 b off cap l.length t a (a + 1) 0 0 c w hb hl HU0 hlt rfl hk hce (hu_is hr1 (B t 1 0 0) hd1) hc
    rcases decU_cases r with ⟨c, n1, hd1, _, hn1, hn10⟩ | ⟨q, hd1⟩ | ⟨q, hd1, _⟩
    rotate_left
    · exact bad1 20 q (by decide) hd1
    · exact bad1 22 q (by decide) hd1
    have HU1 := hu_ok hr1 (B t 1 0 0) hd1
    have e2 : r.drop n1 = l.drop (a + 1 + n1) := by rw [← h1, List.drop_drop]
    by_cases hce2 : cap = a + 1 + n1
    · have hlen : a + 1 + n1 = l.length := by omega
      have hr0 : r.drop n1 = [] := List.drop_eq_nil_of_le (by omega)
      have e : refEnt l = (zE, 0, 22) := by simp [refEnt, hd, hdr, k1, hd1, hr0, d0]
      rw [e]
      obtain rfl : cap = l.length := by omega
      exact refEntry_e2L b off l.length t a (a + 1) c n1 0 0 22 w hb hl HU0 hlt rfl hk hce HU1 hlen (hu_is none' (B t 1 c 0) d0) (by decide)
    have hr2 := drop (a + 1 + n1) (by omega)
    rw [← e2] at hr2
    have hl2 : (r.drop n1).length = l.length - (a + 1 + n1) := by simp; omega
    have bad2 : ∀ x q, x ≠ 0 → decU (r.drop n1) = (0, 0, x, q) → Calls Tryd.prog 28 #[.slice (some ⟨b, off, none⟩) l.length cap] w fun e w' => e = ER (refEnt l) ∧ Below w.heap.size w w' := by
      intro x q hx hd2
      have e : refEnt l = (zE, 0, x) := by simp [refEnt, hd, hdr, k1, hd1, hd2, hx]
      rw [e]
      exact refEntry_e2 b off cap l.length t a (a + 1) c n1 (a + 1 + n1) 0 0 x w hb hl HU0 hlt rfl hk hce HU1 rfl (by omega) hce2 (hu_is hr2 (B t 1 c 0) hd2) hx
    rcases decU_cases (r.drop n1) with ⟨q, n2, hd2, _, hn2, hn20⟩ | ⟨q, hd2⟩ | ⟨q, hd2, _⟩
    rotate_left
    · exact bad2 20 q (by decide) hd2
    · exact bad2 22 q (by decide) hd2
    have HU2 := hu_ok hr2 (B t 1 c 0) hd2
    have e3 : (r.drop n1).drop n2 = l.drop (a + 1 + n1 + n2) := by rw [e2, List.drop_drop]
    by_cases hce3 : cap = a + 1 + n1 + n2
    · have hlen : a + 1 + n1 + n2 = l.length := by omega
      have hr0 : (r.drop n1).drop n2 = [] := List.drop_eq_nil_of_le (by omega)
      have t0 : refTxt [] 2000 = ([], 0, 22) := rfl
      have w0 : twoMore [] = false := rfl
      have e : refEnt l = (zE, 0, 22) := by simp [refEnt, hd, hdr, k1, hd1, hd2, -List.drop_drop, hr0, t0, w0]
      rw [e]
      obtain rfl : cap = l.length := by omega
      exact refEntry_e3L b off l.length t a (a + 1) c n1 (a + 1 + n1) q n2 0 22 w hb hl HU0 hlt rfl hk hce HU1 rfl (by omega) hce2 HU2 hlen _ (ht_is none' (B t 1 c q) t0) (by decide)
    have hr3 := drop (a + 1 + n1 + n2) (by omega)
    rw [← e3] at hr3
    have hm3 : ((r.drop n1).drop n2).length = l.length - (a + 1 + n1 + n2) := by rw [e3]; simp
    generalize hmm : (r.drop n1).drop n2 = m at e3 hr3 hm3
    obtain ⟨S, n3, x3, ht⟩ : ∃ S n3 x3, refTxt m 2000 = (S, n3, x3) := ⟨_, _, _, rfl⟩
    have cellAt : ∀ i x, m[i]? = some x → w.cell? ⟨b, off + (a + 1 + n1 + n2 + i), none⟩ = some (.int .u8 ((x : UInt8).toNat : Int)) := by
      intro i x hx
      have hi : i < m.length := (List.getElem?_eq_some_iff.1 hx).1
      have hc := hcell (a + 1 + n1 + n2 + i) (by omega)
      have hg : l.getD (a + 1 + n1 + n2 + i) 0 = x := by
        rw [e3, List.getElem?_drop] at hx
        simp [List.getD_eq_getElem?_getD, hx]
      rw [hg] at hc
      exact hc
    cases htw : twoMore m with
    | true =>
      match m, htw with
      | x :: y :: rest, htw =>
        simp [twoMore] at htw
        have e : refEnt l = (zE, 0, 20) := by simp [refEnt, hd, hdr, k1, hd1, hd2, -List.drop_drop, hmm, twoMore, htw]
        rw [e]
        simp at hm3
        exact refEntry_two b off cap l.length t a (a + 1) c n1 (a + 1 + n1) q n2 (a + 1 + n1 + n2) (a + 1 + n1 + n2 + 1) w hb hl HU0 hlt rfl hk hce HU1 rfl (by omega) hce2 HU2 rfl (by omega) (by omega) rfl x.toNat (cellAt 0 x rfl) y.toNat (cellAt 1 y rfl) htw.1 htw.2
    | false =>
      by_cases hx3 : x3 = 0
      · subst hx3
        have hn3 := refTxt_ok ht
        have e : refEnt l = (⟨t, 1, c, q, ⟨S.toArray⟩⟩, a + 1 + n1 + n2 + n3, 0) := by simp [refEnt, hd, hdr, k1, hd1, hd2, -List.drop_drop, hmm, htw, ht]
        rw [e]
        have HT := ht_ok hr3 (B t 1 c q) ht
        match m, htw with
        | [], _ => exact refEntry_oki b off cap l.length t a (a + 1) c n1 (a + 1 + n1) q n2 (a + 1 + n1 + n2) n3 _ w hb hl HU0 hlt rfl hk hce HU1 rfl (by omega) hce2 HU2 rfl (by omega) (by simp at hm3; omega) hce3 _ HT rfl (by omega)
        | [x], _ => exact refEntry_oki b off cap l.length t a (a + 1) c n1 (a + 1 + n1) q n2 (a + 1 + n1 + n2) n3 _ w hb hl HU0 hlt rfl hk hce HU1 rfl (by omega) hce2 HU2 rfl (by omega) (by simp at hm3; omega) hce3 _ HT rfl (by omega)
        | x :: y :: rest, htw =>
          simp [twoMore] at htw
          simp at hm3
          by_cases hx : x.toNat < 128
          · exact refEntry_okj b off cap l.length t a (a + 1) c n1 (a + 1 + n1) q n2 (a + 1 + n1 + n2) n3 _ w hb hl HU0 hlt rfl hk hce HU1 rfl (by omega) hce2 HU2 rfl (by omega) (by omega) x.toNat (cellAt 0 x rfl) hx hce3 _ HT rfl (by simp at hn3; omega)
          · exact refEntry_okk b off cap l.length t a (a + 1) c n1 (a + 1 + n1) q n2 (a + 1 + n1 + n2) n3 _ (a + 1 + n1 + n2 + 1) w hb hl HU0 hlt rfl hk hce HU1 rfl (by omega) hce2 HU2 rfl (by omega) (by omega) rfl x.toNat (cellAt 0 x rfl) y.toNat (cellAt 1 y rfl) (by omega) (htw (by omega)) hce3 _ HT rfl (by simp at hn3; omega)
      · have e : refEnt l = (zE, 0, x3) := by simp [refEnt, hd, hdr, k1, hd1, hd2, -List.drop_drop, hmm, htw, ht, hx3]
        rw [e]
        have HT := ht_is hr3 (B t 1 c q) ht
        match m, htw with
        | [], _ => exact refEntry_e3i b off cap l.length t a (a + 1) c n1 (a + 1 + n1) q n2 (a + 1 + n1 + n2) n3 x3 w hb hl HU0 hlt rfl hk hce HU1 rfl (by omega) hce2 HU2 rfl (by omega) (by simp at hm3; omega) hce3 _ HT hx3
        | [x], _ => exact refEntry_e3i b off cap l.length t a (a + 1) c n1 (a + 1 + n1) q n2 (a + 1 + n1 + n2) n3 x3 w hb hl HU0 hlt rfl hk hce HU1 rfl (by omega) hce2 HU2 rfl (by omega) (by simp at hm3; omega) hce3 _ HT hx3
        | x :: y :: rest, htw =>
          simp [twoMore] at htw
          simp at hm3
          by_cases hx : x.toNat < 128
          · exact refEntry_e3j b off cap l.length t a (a + 1) c n1 (a + 1 + n1) q n2 (a + 1 + n1 + n2) n3 x3 w hb hl HU0 hlt rfl hk hce HU1 rfl (by omega) hce2 HU2 rfl (by omega) (by omega) x.toNat (cellAt 0 x rfl) hx hce3 _ HT hx3
          · exact refEntry_e3k b off cap l.length t a (a + 1) c n1 (a + 1 + n1) q n2 (a + 1 + n1 + n2) n3 x3 (a + 1 + n1 + n2 + 1) w hb hl HU0 hlt rfl hk hce HU1 rfl (by omega) hce2 HU2 rfl (by omega) (by omega) rfl x.toNat (cellAt 0 x rfl) y.toNat (cellAt 1 y rfl) (by omega) (htw (by omega)) hce3 _ HT hx3

theorem refEntry_any (v : Value) (l : List UInt8) (w : World) (hv : RBp w w.heap.size v l) :
    Calls Tryd.prog 28 #[v] w fun e w' => e = ER (refEnt l) ∧ Below w.heap.size w w' := by
  have hv' := hv
  obtain ⟨hlen, ⟨rfl, rfl⟩ | ⟨b, off, cap, hbB, hcap, hm, rfl, hcell⟩⟩ := hv
  · exact refEntry_nil w (hu_is (c := 22) hv' (twoE_below w 0 0 0 0) rfl)
  · exact refEntry_row b off cap l w hbB hlen hcap hm hcell
end Go.Proofs.YtahcfanmfocljaaDoor
namespace Go.Proofs.YtahcfanmfocljaaDoor
open Go.RowKit Go.Lib

theorem ent_same (l : List UInt8) : (∀ g k, refEnt l = (g, k, 0) → rdEnt l (.ok 0) = (g, .ok k)) ∧ (∀ g k c, refEnt l = (g, k, c) → c ≠ 0 → (rdEnt l (.ok 0)).2 = .error c ∧ g = zE ∧ k = 0) := by
  have fin : ∀ (x : GE × Except Nat Nat) (g : GE) (k : Nat), refEnt l = (g, k, 0) → x = (g, .ok k) → (∀ g k, refEnt l = (g, k, 0) → x = (g, .ok k)) ∧ (∀ g k c, refEnt l = (g, k, c) → c ≠ 0 → x.2 = .error c ∧ g = zE ∧ k = 0) := by
    intro x g k e h
    refine ⟨fun g' k' e' => ?_, fun g' k' c' e' hc => ?_⟩
    · rw [e] at e'; simp only [Prod.mk.injEq] at e'; obtain ⟨rfl, rfl, _⟩ := e'; exact h
    · rw [e] at e'; simp only [Prod.mk.injEq] at e'; exact absurd e'.2.2.symm hc
  have fer : ∀ (x : GE × Except Nat Nat) (c : Nat), c ≠ 0 → refEnt l = (zE, 0, c) → x.2 = .error c → (∀ g k, refEnt l = (g, k, 0) → x = (g, .ok k)) ∧ (∀ g k c, refEnt l = (g, k, c) → c ≠ 0 → x.2 = .error c ∧ g = zE ∧ k = 0) := by
    intro x c hc e h
    refine ⟨fun g' k' e' => ?_, fun g' k' c' e' _ => ?_⟩
    · rw [e] at e'; simp only [Prod.mk.injEq] at e'; exact absurd e'.2.2 hc
    · rw [e] at e'; simp only [Prod.mk.injEq] at e'; obtain ⟨rfl, rfl, rfl⟩ := e'; exact ⟨h, rfl, rfl⟩
  have bad : ∀ c q, c ≠ 0 → decU l = (0, 0, c, q) → (∀ g k, refEnt l = (g, k, 0) → rdEnt l (.ok 0) = (g, .ok k)) ∧ (∀ g k c, refEnt l = (g, k, c) → c ≠ 0 → (rdEnt l (.ok 0)).2 = .error c ∧ g = zE ∧ k = 0) := by
    intro c q hc hd
    have m0 : rdMax l (.ok 0) = (0, .error c) := by have := rdMax_ok (l := l) (a := 0) hd; simpa [hc] using this
    refine fer _ c hc (by simp [refEnt, hd, hc]) ?_
    simp [rdEnt, m0, rdB_err]
  rcases decU_cases l with ⟨t, a, hd, _, hal, ha0⟩ | ⟨q, hd⟩ | ⟨q, hd, _⟩
  rotate_left
  · exact bad 20 q (by decide) hd
  · exact bad 22 q (by decide) hd
  have m0 : rdMax l (.ok 0) = (t, .ok a) := by have := rdMax_ok (l := l) (a := 0) hd; simpa using this
  cases hdr : l.drop a with
  | nil =>
    have b1 : rdBetween l 0 1 (.ok a) = (0, .error 22) := rdB_nil (hi := 1) hdr
    refine fer _ 22 (by decide) (by simp [refEnt, hd, hdr]) ?_
    simp [rdEnt, m0, b1]
  | cons kb r =>
    obtain ⟨h1, hlt, hr⟩ := drop_cons hdr
    have b1 : rdBetween l 0 1 (.ok a) = if kb.toNat ≤ 1 then ((kb.toNat : Int), .ok (a + 1)) else (0, .error 20) := rdB_small (hi := 1) (by decide) hdr
    by_cases k0 : kb.toNat = 0
    · refine fin _ _ _ (by simp [refEnt, hd, hdr, k0]; exact ⟨rfl, rfl⟩) ?_
      rw [k0] at b1
      simp at b1
      simp [rdEnt, m0, b1]
    by_cases k1 : kb.toNat ≠ 1
    · rw [if_neg (by omega)] at b1
      refine fer _ 20 (by decide) (by simp [refEnt, hd, hdr, k0, k1]) ?_
      simp [rdEnt, m0, b1]
    have k1 : kb.toNat = 1 := by omega
    rw [k1] at b1
    simp at b1
    have bad1 : ∀ c q, c ≠ 0 → decU r = (0, 0, c, q) → (∀ g k, refEnt l = (g, k, 0) → rdEnt l (.ok 0) = (g, .ok k)) ∧ (∀ g k c, refEnt l = (g, k, c) → c ≠ 0 → (rdEnt l (.ok 0)).2 = .error c ∧ g = zE ∧ k = 0) := by
      intro c q hc hd1
      have m1 : rdMax l (.ok (a + 1)) = (0, .error c) := by have := rdMax_ok (l := l) (a := a + 1) (n := 0) (k := 0) (c := c) (q := q) (by rw [h1, hd1]); simpa [hc] using this
      refine fer _ c hc (by simp [refEnt, hd, hdr, k1, hd1, hc]) ?_
      simp [rdEnt, m0, b1, m1, rdMax_err, rdSql_err]
    rcases decU_cases r with ⟨c, n1, hd1, _, hn1, hn10⟩ | ⟨q, hd1⟩ | ⟨q, hd1, _⟩
    rotate_left
    · exact bad1 20 q (by decide) hd1
    · exact bad1 22 q (by decide) hd1
    have m1 : rdMax l (.ok (a + 1)) = (c, .ok (a + 1 + n1)) := by have := rdMax_ok (l := l) (a := a + 1) (n := c) (k := n1) (c := 0) (q := 0) (by rw [h1, hd1]); simpa using this
    have e2 : r.drop n1 = l.drop (a + 1 + n1) := by rw [← h1, List.drop_drop]
    have bad2 : ∀ x q, x ≠ 0 → decU (r.drop n1) = (0, 0, x, q) → (∀ g k, refEnt l = (g, k, 0) → rdEnt l (.ok 0) = (g, .ok k)) ∧ (∀ g k c, refEnt l = (g, k, c) → c ≠ 0 → (rdEnt l (.ok 0)).2 = .error c ∧ g = zE ∧ k = 0) := by
      intro x q hx hd2
      have m2 : rdMax l (.ok (a + 1 + n1)) = (0, .error x) := by have := rdMax_ok (l := l) (a := a + 1 + n1) (n := 0) (k := 0) (c := x) (q := q) (by rw [← e2, hd2]); simpa [hx] using this
      refine fer _ x hx (by simp [refEnt, hd, hdr, k1, hd1, hd2, hx]) ?_
      simp [rdEnt, m0, b1, m1, m2, rdSql_err]
    rcases decU_cases (r.drop n1) with ⟨q, n2, hd2, _, hn2, hn20⟩ | ⟨q, hd2⟩ | ⟨q, hd2, _⟩
    rotate_left
    · exact bad2 20 q (by decide) hd2
    · exact bad2 22 q (by decide) hd2
    have m2 : rdMax l (.ok (a + 1 + n1)) = (q, .ok (a + 1 + n1 + n2)) := by have := rdMax_ok (l := l) (a := a + 1 + n1) (n := q) (k := n2) (c := 0) (q := 0) (by rw [← e2, hd2]); simpa using this
    have e3 : (r.drop n1).drop n2 = l.drop (a + 1 + n1 + n2) := by rw [e2, List.drop_drop]
    have hle3 : a + 1 + n1 + n2 ≤ l.length := by simp at hn2; omega
    have hs := rdSql_ok l (a + 1 + n1 + n2) hle3
    rw [← e3] at hs
    generalize hmm : (r.drop n1).drop n2 = m at hs
    cases htw : twoMore m with
    | true =>
      rw [htw, if_pos rfl] at hs
      have := hs.2 (by decide)
      refine fer _ 20 (by decide) (by simp [refEnt, hd, hdr, k1, hd1, hd2, -List.drop_drop, hmm, htw]) ?_
      simp [rdEnt, m0, b1, m1, m2, this]
    | false =>
      rw [htw, if_neg (by decide)] at hs
      obtain ⟨S, n3, x3, ht⟩ : ∃ S n3 x3, refTxt m 2000 = (S, n3, x3) := ⟨_, _, _, rfl⟩
      rw [ht] at hs
      by_cases hx3 : x3 = 0
      · subst hx3
        have := (hs.1 rfl).1
        dsimp only at this
        refine fin _ ⟨t, 1, c, q, ⟨S.toArray⟩⟩ (a + 1 + n1 + n2 + n3) (by simp [refEnt, hd, hdr, k1, hd1, hd2, -List.drop_drop, hmm, htw, ht]) ?_
        simp [rdEnt, m0, b1, m1, m2, this]
      · have := hs.2 hx3
        dsimp only at this
        refine fer _ x3 hx3 (by simp [refEnt, hd, hdr, k1, hd1, hd2, -List.drop_drop, hmm, htw, ht, hx3]) ?_
        simp [rdEnt, m0, b1, m1, m2, this]
end Go.Proofs.YtahcfanmfocljaaDoor
