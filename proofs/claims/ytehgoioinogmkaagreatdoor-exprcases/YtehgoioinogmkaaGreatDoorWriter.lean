/- Contracts of package wire's writer: what it has gathered, or that it failed. -/
import Derived.Test.YtehgoioinogmkaaGreatDoorJNumsDecFaultsVErr
import Derived.Lib.AppendStr
namespace Go.Proofs.YtehgoioinogmkaaGreatDoor
open Go.RowKit Go.Lib

/-- An int of 64 bits. -/
abbrev I6 : Type := {p : Int // -9223372036854775808 ≤ p ∧ p < 9223372036854775808}
/-- A writer at block p: it has gathered these bytes (in a row of its own), or it has failed with a fault of class 20. -/
def WS (w : World) (p : Nat) (s : Option (List UInt8)) : Prop :=
  w.frozen? ⟨p, 0, none⟩ = false ∧ w.frozen? ⟨p, 1, none⟩ = false ∧
  match s with
  | some l => ∃ v, w.cell? ⟨p, 0, none⟩ = some v ∧ w.cell? ⟨p, 1, none⟩ = some .nilIface ∧ w.ownsRow (p + 1) 5 1 v l.length (byteCells l)
  | none => ∃ (b : Nat) (pl : I6), w.cell? ⟨p, 0, none⟩ = some (.slice none 0 0) ∧ w.cell? ⟨p, 1, none⟩ = some (ev b) ∧ p < b ∧ ErrAt w b pl 20

theorem WS.lt {w : World} {p : Nat} {s : Option (List UInt8)} (h : WS w p s) : p < w.heap.size := by
  cases s with
  | none => obtain ⟨_, _, b, pl, h0, _⟩ := h; exact lt_of_cell h0
  | some l => obtain ⟨_, _, v, h0, _⟩ := h; exact lt_of_cell h0

theorem ne01 (p : Nat) : (⟨p, 0, none⟩ : Addr) ≠ ⟨p, 1, none⟩ := by intro h; injection h; contradiction

theorem WS.more {w w1 : World} {p : Nat} {v v' : Value} {l' : List UInt8} (h1 : w.cell? ⟨p, 0, none⟩ = some v) (h2 : w.cell? ⟨p, 1, none⟩ = some .nilIface) (f1 : w.frozen? ⟨p, 0, none⟩ = false) (f2 : w.frozen? ⟨p, 1, none⟩ = false)
    (hb : Below (p + 1) w w1) (hk : KeepT 5 w w1) (ho : w1.ownsRow (p + 1) 5 1 v' l'.length (byteCells l')) : WS (w1.setCell ⟨p, 0, none⟩ v') p (some l') ∧ Fr 5 p w (w1.setCell ⟨p, 0, none⟩ v') := by
  have c0 : w1.cell? ⟨p, 0, none⟩ = some v := (hb.cell (p := ⟨p, 0, none⟩) (by simp)).trans h1
  have c1 : w1.cell? ⟨p, 1, none⟩ = some .nilIface := (hb.cell (p := ⟨p, 1, none⟩) (by simp)).trans h2
  have g0 : w1.frozen? ⟨p, 0, none⟩ = false := (hb.frozen (p := ⟨p, 0, none⟩) (by simp)).trans f1
  have g1 : w1.frozen? ⟨p, 1, none⟩ = false := (hb.frozen (p := ⟨p, 1, none⟩) (by simp)).trans f2
  refine ⟨⟨by simpa using g0, by simpa using g1, v', World.cell?_setCell_same _ _ _ c0, ?_, ownsRow_setCell_below ho (by simp) _⟩, (Fr.of (hb.mono (by omega)) hk).setCell 0 _⟩
  rw [World.cell?_setCell_other _ _ _ _ (ne01 p)]; exact c1

theorem own_slice {w : World} {B : Nat} {e : TypeId} {sz : Nat} {v : Value} {n : Nat} {xs : List Value} (h : w.ownsRow B e sz v n xs) : ∃ a k, v = .slice a n k := by
  rcases h.2 with ⟨rfl, rfl⟩ | ⟨g, cap, cur, rfl, _⟩
  · exact ⟨none, 0, rfl⟩
  · exact ⟨_, _, rfl⟩
theorem appendUint_s (B m x : Nat) (v : Value) (xs : List Value) (w : World) (hx : x < 18446744073709551616) (hm : m ≤ 1000000000) (hB : B ≤ w.heap.size)
    (hown : w.ownsRow B 5 1 v m xs) :
    Calls Tryz.prog 228 #[v, .int .u64 x] w fun e w' =>
      ∃ a k, e = .returned (.slice a (m + (uvarint x).length) k) ∧ w'.ownsRow B 5 1 (.slice a (m + (uvarint x).length) k) (m + (uvarint x).length) (xs ++ byteCells (uvarint x)) ∧ Below B w w' ∧ KeepT 5 w w' := by
  refine (appendUint_any B m x v xs w hx hm hB hown).mono ?_
  rintro e w' ⟨v', rfl, ho, hb, hk⟩
  obtain ⟨a, k, rfl⟩ := own_slice ho
  exact ⟨a, k, rfl, ho, hb, hk⟩

set_option maxHeartbeats 1600000 in
theorem wnumber_any (p x : Nat) (s : Option (List UInt8)) (w : World) (hx : x < 18446744073709551616) (hw : WS w p s) (hl : ∀ l, s = some l → l.length ≤ 1000000000) :
    Calls Tryz.prog 221 #[.pointer (some ⟨p, 0, none⟩), .int .u64 x] w fun e w' =>
      e = .returned (.tuple #[]) ∧ WS w' p (s.map (· ++ uvarint x)) ∧ Fr 5 p w w' := by
  have hp := hw.lt
  cases s with
  | none =>
    obtain ⟨f0, f1, b, pl, h0, h1, hb, he⟩ := hw
    go_enter Tryz.func221, Tryz.ntmps221
    go_wp2
    go_end0
    exact ⟨rfl, ⟨f0, f1, b, pl, h0, h1, hb, he⟩, Fr.refl _ _ _⟩
  | some l =>
    obtain ⟨f0, f1, v, h0, h1, ho⟩ := hw
    have hl := hl l rfl
    have HA := hide (appendUint_s (p + 1) l.length x v (byteCells l) w hx hl (by omega) ho)
    have HW := hide (fun (w1 : World) (v' : Value) (hb : Below (p + 1) w w1) (hk : KeepT 5 w w1) (ho' : w1.ownsRow (p + 1) 5 1 v' (l ++ uvarint x).length (byteCells (l ++ uvarint x))) => WS.more h0 h1 f0 f1 hb hk ho')
    clear ho
    go_enter Tryz.func221, Tryz.ntmps221
    go_wp2_with (go_at_call 228; refine (unhide HA).mono ?_; rintro e w1 ⟨a1, k1, rfl, ho1, hb1, hk1⟩; have c0 : w1.cell? ⟨p, 0, none⟩ = some v := (hb1.cell (p := ⟨p, 0, none⟩) (Nat.lt_succ_self p)).trans h0; have g0 : w1.frozen? ⟨p, 0, none⟩ = false := (hb1.frozen (p := ⟨p, 0, none⟩) (Nat.lt_succ_self p)).trans f0)
    go_end0
    have R := unhide HW w1 _ hb1 hk1 (by rw [byteCells_append, List.length_append]; exact ho1)
    exact ⟨rfl, R.1, R.2⟩

theorem own_i6 {w : World} {B : Nat} {v : Value} {l : List UInt8} (h : w.ownsRow B 5 1 v l.length (byteCells l)) : -9223372036854775808 ≤ (l.length : Int) ∧ (l.length : Int) < 9223372036854775808 := by
  rcases h.2 with ⟨_, e⟩ | ⟨g, cap, cur, _, _, _, h1, h2, _⟩
  · omega
  · unfold maxLen at h2
    omega

theorem WS.fail {w : World} {p : Nat} {v x : Value} (hp : p < w.heap.size) (h0 : w.cell? ⟨p, 0, none⟩ = some v) (h1 : w.cell? ⟨p, 1, none⟩ = some x) (f0 : w.frozen? ⟨p, 0, none⟩ = false) (f1 : w.frozen? ⟨p, 1, none⟩ = false) (pl : Int) (hpl : -9223372036854775808 ≤ pl ∧ pl < 9223372036854775808) :
    WS (((w.setCell ⟨p, 0, none⟩ (.slice none 0 0)).setCell ⟨p, 1, none⟩ (ev w.heap.size)).alloc (.cells #[.int .i64 pl, .iface 102 (.int .i64 20)] 110)) p none ∧
    Fr 5 p w (((w.setCell ⟨p, 0, none⟩ (.slice none 0 0)).setCell ⟨p, 1, none⟩ (ev w.heap.size)).alloc (.cells #[.int .i64 pl, .iface 102 (.int .i64 20)] 110)) := by
  have e : ((w.setCell ⟨p, 0, none⟩ (.slice none 0 0)).setCell ⟨p, 1, none⟩ (ev w.heap.size)).heap.size = w.heap.size := by simp
  have hE := ErrAt.new ((w.setCell ⟨p, 0, none⟩ (.slice none 0 0)).setCell ⟨p, 1, none⟩ (ev w.heap.size)) pl 20
  rw [e] at hE
  refine ⟨⟨?_, ?_, w.heap.size, ⟨pl, hpl⟩, ?_, ?_, hp, hE⟩, ?_⟩
  · rw [World.frozen?_alloc_old _ _ _ (by simp; omega)]; simpa using f0
  · rw [World.frozen?_alloc_old _ _ _ (by simp; omega)]; simpa using f1
  · rw [World.cell?_alloc_lt _ _ _ (by simpa using hp), World.cell?_setCell_other _ _ _ _ (ne01 p).symm]; exact World.cell?_setCell_same _ _ _ h0
  · rw [World.cell?_alloc_lt _ _ _ (by simpa using hp)]; exact World.cell?_setCell_same _ _ _ ((World.cell?_setCell_other _ _ _ _ (ne01 p)).trans h1)
  · exact (((Fr.refl _ p w).setCell 0 _).setCell 1 _).alloc (by simp; omega) _

set_option maxHeartbeats 1600000 in
theorem wrefuse_any (p : Nat) (s : Option (List UInt8)) (w : World) (hw : WS w p s) :
    Calls Tryz.prog 219 #[.pointer (some ⟨p, 0, none⟩)] w fun e w' => e = .returned (.tuple #[]) ∧ WS w' p none ∧ Fr 5 p w w' := by
  have hp := hw.lt
  cases s with
  | none =>
    obtain ⟨f0, f1, b, pl, h0, h1, hb, he⟩ := hw
    go_enter Tryz.func219, Tryz.ntmps219
    go_wp2
    go_end0
    exact ⟨rfl, ⟨f0, f1, b, pl, h0, h1, hb, he⟩, Fr.refl _ _ _⟩
  | some l =>
    obtain ⟨f0, f1, v, h0, h1, ho⟩ := hw
    obtain ⟨a, k, rfl⟩ := own_slice ho
    have HW := hide (WS.fail hp h0 h1 f0 f1 (l.length : Int) (own_i6 ho))
    clear ho
    have hne : ¬ p = w.heap.size := by omega
    go_enter Tryz.func219, Tryz.ntmps219
    go_wp2_with (go_at_call 227; refine (fault_any 20 _ _).mono ?_; rintro e w1 ⟨rfl, rfl⟩)
    go_end0
    exact ⟨rfl, (unhide HW).1, (unhide HW).2⟩

set_option maxHeartbeats 1600000 in
theorem wbetween_any (p : Nat) (n lo hi : Int) (s : Option (List UInt8)) (w : World) (hlo : -1000 ≤ lo) (hlh : lo ≤ hi) (hhi : hi ≤ 1000000000) (hw : WS w p s) (hl : ∀ l, s = some l → l.length ≤ 1000000000) :
    Calls Tryz.prog 217 #[.pointer (some ⟨p, 0, none⟩), .int .i64 n, .int .i64 lo, .int .i64 hi] w fun e w' =>
      e = .returned (.tuple #[]) ∧ WS w' p (if lo ≤ n ∧ n ≤ hi then s.map (· ++ uvarint (n - lo).toNat) else none) ∧ Fr 5 p w w' := by
  by_cases h1 : n < lo
  · rw [if_neg (by omega)]
    go_enter Tryz.func217, Tryz.ntmps217
    go_wp2_with (go_at_call 219; refine (wrefuse_any p s _ hw).mono ?_; rintro e w1 ⟨rfl, hw1, hb1⟩)
    first | go_end0 | refine bodyPost_ret (results_none rfl _ _ _) rfl ?_
    exact ⟨rfl, hw1, hb1⟩
  · by_cases h2 : hi < n
    · rw [if_neg (by omega)]
      go_enter Tryz.func217, Tryz.ntmps217
      go_wp2_with (go_at_call 219; refine (wrefuse_any p s _ hw).mono ?_; rintro e w1 ⟨rfl, hw1, hb1⟩)
      first | go_end0 | refine bodyPost_ret (results_none rfl _ _ _) rfl ?_
      exact ⟨rfl, hw1, hb1⟩
    · rw [if_pos (by omega)]
      obtain ⟨d, hd⟩ := Int.eq_ofNat_of_zero_le (show 0 ≤ n - lo by omega)
      have HD := hide hd
      have hd2 : d < 18446744073709551616 := by omega
      rw [hd, Int.toNat_natCast]
      clear hd
      go_enter Tryz.func217, Tryz.ntmps217
      go_wp2_with (go_at_call 221; rw [unhide HD]; refine (wnumber_any p d s _ hd2 hw hl).mono ?_; rintro e w1 ⟨rfl, hw1, hb1⟩)
      first | go_end0 | refine bodyPost_ret (results_none rfl _ _ _) rfl ?_
      exact ⟨rfl, hw1, hb1⟩

theorem wtruth_any (p : Nat) (t : Bool) (s : Option (List UInt8)) (w : World) (hw : WS w p s) (hl : ∀ l, s = some l → l.length ≤ 1000000000) :
    Calls Tryz.prog 220 #[.pointer (some ⟨p, 0, none⟩), .bool t] w fun e w' =>
      e = .returned (.tuple #[]) ∧ WS w' p (s.map (· ++ uvarint (if t then 1 else 0))) ∧ Fr 5 p w w' := by
  cases t
  · go_enter Tryz.func220, Tryz.ntmps220
    go_wp2_with (go_at_call 221; refine (wnumber_any p 0 s _ (by decide) hw hl).mono ?_; rintro e w1 ⟨rfl, hw1, hb1⟩)
    first | go_end0 | refine bodyPost_ret (results_none rfl _ _ _) rfl ?_
    exact ⟨rfl, by simpa using hw1, hb1⟩
  · go_enter Tryz.func220, Tryz.ntmps220
    go_wp2_with (go_at_call 221; refine (wnumber_any p 1 s _ (by decide) hw hl).mono ?_; rintro e w1 ⟨rfl, hw1, hb1⟩)
    first | go_end0 | refine bodyPost_ret (results_none rfl _ _ _) rfl ?_
    exact ⟨rfl, by simpa using hw1, hb1⟩
end Go.Proofs.YtehgoioinogmkaaGreatDoor
