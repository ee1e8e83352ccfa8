/- Frames read: wire.Unframe and the document's own. -/
import Derived.Test.YthphadbcebeoaaaGreatDoorJREntryEntry2ErAll
import Derived.Test.YthphadbcebeoaaaGreatDoorJCrcMathFrameRef2Ref3DrawRefEnt
import Derived.BigQuiet
import Derived.Lib.BufferMore
import Derived.Test.YthphadbcebeoaaaGreatDoorJJointRdAllRefRowValsInLawWrites
import Derived.Deep.RegionHeld3
import Derived.Deep.RegionWith
namespace Go.Proofs.YthphadbcebeoaaaGreatDoor
open Go.RowKit Go.Lib

/-- The number of four bytes, the lowest first. -/
def wd4 (x0 x1 x2 x3 : Nat) : Nat := x0 + 256 * x1 + 65536 * x2 + 16777216 * x3
theorem or32 (k a b : Nat) (ha : a < 2 ^ k) (hb : b * 2 ^ k < 4294967296) (ha2 : a < 4294967296) : bits BinOp.or IntKind.u32 (a : Int) ((b * 2 ^ k : Nat) : Int) = ((a + b * 2 ^ k : Nat) : Int) := by
  have hx : a ||| (b * 2 ^ k) < 2 ^ 32 := Nat.or_lt_two_pow (by omega) (by omega)
  have h1 : (BitVec.ofInt 32 (a : Int)).toNat = a := by
    rw [BitVec.ofInt_natCast, BitVec.toNat_ofNat]; exact Nat.mod_eq_of_lt (by omega)
  have h2 : (BitVec.ofInt 32 ((b * 2 ^ k : Nat) : Int)).toNat = b * 2 ^ k := by
    rw [BitVec.ofInt_natCast, BitVec.toNat_ofNat]; exact Nat.mod_eq_of_lt (by omega)
  show IntKind.u32.wrap ((BitVec.ofInt 32 (a : Int) ||| BitVec.ofInt 32 ((b * 2 ^ k : Nat) : Int)).toNat : Int) = _
  rw [BitVec.toNat_or, h1, h2]
  have e : a ||| (b * 2 ^ k) = a + b * 2 ^ k := by rw [Nat.or_comm, Nat.mul_comm b, ← Nat.two_pow_add_eq_or_of_lt ha, Nat.add_comm]
  rw [e] at hx ⊢
  rw [IntKind.wrap_u32]
  omega

set_option maxHeartbeats 1600000 in
theorem word_at (b off cap len : Nat) (x0 x1 x2 x3 : UInt8) (w : World) (hl : 4 ≤ len) (hl2 : len ≤ 1000000000000) (h0 : w.cell? ⟨b, off, none⟩ = some (.int .u8 (x0.toNat : Int))) (h1 : w.cell? ⟨b, off + 1, none⟩ = some (.int .u8 (x1.toNat : Int)))
    (h2 : w.cell? ⟨b, off + 2, none⟩ = some (.int .u8 (x2.toNat : Int))) (h3 : w.cell? ⟨b, off + 3, none⟩ = some (.int .u8 (x3.toNat : Int))) :
    Calls Tryz.prog 91 #[.slice (some ⟨b, off, none⟩) len cap] w fun e w' => e = .returned (.int .u32 ((wd4 x0.toNat x1.toNat x2.toNat x3.toNat : Nat) : Int)) ∧ ∃ m, w' = w.drewN m := by
  have i0 : (0 : Int) < (len : Int) := by omega
  have i1 : (1 : Int) < (len : Int) := by omega
  have i2 : (2 : Int) < (len : Int) := by omega
  have i3 : (3 : Int) < (len : Int) := by omega
  have b0 : (x0.toNat : Int) < 256 := by have := x0.toNat_lt; omega
  have b1 : (x1.toNat : Int) < 256 := by have := x1.toNat_lt; omega
  have b2 : (x2.toNat : Int) < 256 := by have := x2.toNat_lt; omega
  have b3 : (x3.toNat : Int) < 256 := by have := x3.toNat_lt; omega
  have hw : bits BinOp.or IntKind.u32 (bits BinOp.or IntKind.u32 (bits BinOp.or IntKind.u32 (x0.toNat : Int) ((x1.toNat : Int) * 256)) ((x2.toNat : Int) * 65536)) ((x3.toNat : Int) * 16777216) = ((wd4 x0.toNat x1.toNat x2.toNat x3.toNat : Nat) : Int) := by
    have e1 : (x1.toNat : Int) * 256 = ((x1.toNat * 2 ^ 8 : Nat) : Int) := by omega
    have e2 : (x2.toNat : Int) * 65536 = ((x2.toNat * 2 ^ 16 : Nat) : Int) := by omega
    have e3 : (x3.toNat : Int) * 16777216 = ((x3.toNat * 2 ^ 24 : Nat) : Int) := by omega
    rw [e1, e2, e3, or32 8 _ _ (by omega) (by omega) (by omega), or32 16 _ _ (by omega) (by omega) (by omega), or32 24 _ _ (by omega) (by omega) (by omega)]
    unfold wd4; omega
  have HW := hide hw
  clear hw
  go_enter Tryz.func91, Tryz.ntmps91
  go_wp2
  go_quiet (fail)
  go_wp2
  go_ret
  exact ⟨congrArg (fun z => Ending.returned (.int .u32 z)) (unhide HW), _, rfl⟩
end Go.Proofs.YthphadbcebeoaaaGreatDoor
namespace Go.Proofs.YthphadbcebeoaaaGreatDoor
open Go.RowKit Go.Lib

theorem own_empty (w : World) : (w.alloc (.cells #[] 5)).ownsRow w.heap.size 5 1 (.slice (some ⟨w.heap.size, 0, none⟩) 0 0) 0 [] :=
  ⟨rfl, .inr ⟨w.heap.size, 0, #[], rfl, Nat.le_refl _, heap_alloc_new _ _, Nat.le_refl _, Nat.zero_le _, rfl, rfl⟩⟩
theorem empty_app {w' : World} {v : Value} {B n : Nat} {l : List UInt8} (ho : w'.ownsRow B 5 1 v (0 + n) ([] ++ byteCells l)) (hn : n = l.length) (hl : l.length ≤ 1000000000000) : RBp w' w'.heap.size v l :=
  own_rb3 ho (by omega) rfl hl
set_option maxHeartbeats 1600000 in
set_option maxRecDepth 100000 in
theorem clone_any (a : Addr) (n cap : Nat) (l : List UInt8) (w : World) (hl : l.length ≤ 1000000000) (hv : RBp w w.heap.size (.slice (some a) n cap) l) :
    Calls Tryz.prog 50 #[.slice (some a) n cap] w fun e w' => ∃ v', e = .returned v' ∧ RBp w' w'.heap.size v' l ∧ Below w.heap.size w w' := by
  have hb0 := below_alloc (B := w.heap.size) (.cells #[] 5) (Nat.le_refl w.heap.size)
  have HO := hide (own_empty w)
  have HV := hide (hv.below hb0 (Nat.le_refl _))
  have HB0 := hide hb0
  have hnil := run_eql_slice_some_nil (P := Tryz.prog) w a n cap Tryz.underlying22
  clear hv hb0
  go_enter Tryz.func50, Tryz.ntmps50
  go_wp2_with (first
    | (at_builtin; refine wpList_append_rb rfl (.tmp 5) (.tmp 6) rfl w.heap.size _ 0 [] rfl (unhide HO) _ _ l rfl (unhide HV) (by omega) hl (by simp) ?_; intro v3 w3 ho3 _ hb3; have HO3 := hide ho3; clear ho3))
  go_ret
  exact ⟨_, rfl, empty_app (unhide HO3) rfl (by omega), (unhide HB0).trans hb3⟩
end Go.Proofs.YthphadbcebeoaaaGreatDoor
namespace Go.Proofs.YthphadbcebeoaaaGreatDoor
open Go.RowKit Go.Lib

def wdOf (m : List UInt8) : Nat := wd4 (m.getD 0 0).toNat (m.getD 1 0).toNat (m.getD 2 0).toNat (m.getD 3 0).toNat
theorem wdOf_lt (m : List UInt8) : wdOf m < 4294967296 := by
  have h0 := (m.getD 0 0).toNat_lt
  have h1 := (m.getD 1 0).toNat_lt
  have h2 := (m.getD 2 0).toNat_lt
  have h3 := (m.getD 3 0).toNat_lt
  unfold wdOf wd4; omega
/-- What a frame at the beginning holds, its size, the class. -/
def unfr (l : List UInt8) : List UInt8 × Nat × Nat :=
  if l.length < 4 then ([], 0, 22) else if 262144 < wdOf l then ([], 0, 20) else if l.length < wdOf l + 8 then ([], 0, 22)
  else if crc (l.take (wdOf l + 4)) = wdOf (l.drop (wdOf l + 4)) then ((l.drop 4).take (wdOf l), wdOf l + 8, 0) else ([], 0, 21)
/-- What wire.Unframe tells. -/
def UnPost (r : List UInt8 × Nat × Nat) (w : World) (e : Ending) (w' : World) : Prop :=
  ∃ p er, e = .returned (.tuple #[p, .int .i64 (r.2.1 : Int), er]) ∧ RBp w' w'.heap.size p r.1 ∧ EO w' er (r.2.2 : Int) ∧ Below w.heap.size w w'
theorem un_err {w w' : World} {b : Nat} {pl : Int} {c : Nat} (he : ErrAt w' b pl (c : Int)) (hb : Below w.heap.size w w') : UnPost ([], 0, c) w (.returned (.tuple #[.slice none 0 0, .int .i64 0, ev b])) w' :=
  ⟨_, _, rfl, ⟨Nat.zero_le _, .inl ⟨rfl, rfl⟩⟩, .inr ⟨b, pl, rfl, he⟩, hb⟩
theorem drew_below (w : World) (n : Nat) : Below w.heap.size w (w.drewN n) := below_drewN (Below.refl _ _) n

set_option maxHeartbeats 1600000 in
theorem unframe_short (ad : Option Addr) (len cap : Nat) (w : World) (hl : len < 4) :
    Calls Tryz.prog 73 #[.slice ad len cap] w fun e w' => UnPost ([], 0, 22) w e w' := by
  have hl' : (len : Int) < 4 := by omega
  go_enter Tryz.func73, Tryz.ntmps73
  go_wp2_with (first | (go_at_call 90; refine (fault_b 22 _ _).mono ?_; rintro e w2 ⟨rfl, he2, hb2⟩))
  go_ret3
  exact un_err (c := 22) he2 hb2

set_option maxHeartbeats 3200000 in
set_option maxRecDepth 100000 in
theorem unframe_great (b off cap len n : Nat) (w : World) (hl4 : 4 ≤ len) (hl : len ≤ 1000000000000) (hn : n < 4294967296)
    (HW : Hid (Calls Tryz.prog 91 #[.slice (some ⟨b, off, none⟩) len cap] w fun e w' => e = .returned (.int .u32 (n : Int)) ∧ ∃ m, w' = w.drewN m)) (hg : 262144 < n) :
    Calls Tryz.prog 73 #[.slice (some ⟨b, off, none⟩) len cap] w fun e w' => UnPost ([], 0, 20) w e w' := by
  have hl' : ¬ ((len : Int) < 4) := by omega
  have hg' : (262144 : Int) < (n : Int) := by omega
  go_enter Tryz.func73, Tryz.ntmps73
  go_wp2_with (first | (go_at_call 91; refine (unhide HW).mono ?_; rintro e w1 ⟨rfl, m1, hw1⟩; have hb1 : Below w.heap.size w w1 := (by rw [hw1]; exact drew_below w m1); clear HW hw1) | (go_at_call 90; refine (fault_b 20 _ _).mono ?_; rintro e w2 ⟨rfl, he2, hb2⟩))
  go_ret3
  exact un_err (c := 20) he2 (bt hb1 hb2)

set_option maxHeartbeats 3200000 in
set_option maxRecDepth 100000 in
theorem unframe_cut (b off cap len n : Nat) (w : World) (hl4 : 4 ≤ len) (hl : len ≤ 1000000000000) (hn : n < 4294967296)
    (HW : Hid (Calls Tryz.prog 91 #[.slice (some ⟨b, off, none⟩) len cap] w fun e w' => e = .returned (.int .u32 (n : Int)) ∧ ∃ m, w' = w.drewN m)) (en e8 : Nat) (hen : en = 4 + n) (he8 : e8 = en + 4) (hg : n ≤ 262144) (hc : len < e8) :
    Calls Tryz.prog 73 #[.slice (some ⟨b, off, none⟩) len cap] w fun e w' => UnPost ([], 0, 22) w e w' := by
  have hl' : ¬ ((len : Int) < 4) := by omega
  have hg' : ¬ ((262144 : Int) < (n : Int)) := by omega
  have hA : (4 : Int) + (n : Int) = (en : Int) := by omega
  have hA8 : (en : Int) + 4 = (e8 : Int) := by omega
  have hc' : (len : Int) < (e8 : Int) := by omega
  have hb8 : e8 ≤ 1000000 := by omega
  have hben : en ≤ 1000000 := by omega
  clear hen he8
  go_enter Tryz.func73, Tryz.ntmps73
  go_wp2_with (first | (go_at_call 91; refine (unhide HW).mono ?_; rintro e w1 ⟨rfl, m1, hw1⟩; have hb1 : Below w.heap.size w w1 := (by rw [hw1]; exact drew_below w m1); clear HW hw1) | (go_at_call 90; refine (fault_b 22 _ _).mono ?_; rintro e w2 ⟨rfl, he2, hb2⟩))
  go_ret3
  exact un_err (c := 22) he2 (bt hb1 hb2)

set_option maxHeartbeats 3200000 in
set_option maxRecDepth 100000 in
theorem unframe_sum (b off cap len n : Nat) (w : World) (hl4 : 4 ≤ len) (hl : len ≤ 1000000000000) (hn : n < 4294967296)
    (HW : Hid (Calls Tryz.prog 91 #[.slice (some ⟨b, off, none⟩) len cap] w fun e w' => e = .returned (.int .u32 (n : Int)) ∧ ∃ m, w' = w.drewN m)) (en e8 : Nat) (hen : en = 4 + n) (he8 : e8 = en + 4) (hg : n ≤ 262144) (hcap : len ≤ cap) (_hm : cap ≤ 9223372036854775807) (hc : e8 ≤ len) (c1 c2 : Nat) (HS : Hid (∀ W, Below w.heap.size w W → Calls Tryz.prog 92 #[.slice (some ⟨b, off, none⟩) en cap] W fun e w' => e = .returned (.int .u32 (c1 : Int)) ∧ w' = W))
    (HW2 : Hid (∀ W, Below w.heap.size w W → Calls Tryz.prog 91 #[.slice (some ⟨b, off + en, none⟩) (len - en) (cap - en)] W fun e w' => e = .returned (.int .u32 (c2 : Int)) ∧ ∃ m, w' = W.drewN m)) (hx : c1 ≠ c2) :
    Calls Tryz.prog 73 #[.slice (some ⟨b, off, none⟩) len cap] w fun e w' => UnPost ([], 0, 21) w e w' := by
  have hl' : ¬ ((len : Int) < 4) := by omega
  have hg' : ¬ ((262144 : Int) < (n : Int)) := by omega
  have hA : (4 : Int) + (n : Int) = (en : Int) := by omega
  have hA8 : (en : Int) + 4 = (e8 : Int) := by omega
  have hc' : ¬ ((len : Int) < (e8 : Int)) := by omega
  have hb8 : e8 ≤ 1000000 := by omega
  have hben : en ≤ 1000000 := by omega
  have hlen : en ≤ len := by omega
  have hce : cap ≠ en := by omega
  have hce4 : cap ≠ 4 := by omega
  have h4n : 4 ≤ en := by omega
  have hcen : en ≤ cap := by omega
  have hx' : ((c1 : Int) == (c2 : Int)) = false := by simp; omega
  clear hen he8
  go_enter Tryz.func73, Tryz.ntmps73
  go_wp2_with (first | (go_at_call 91; refine (unhide HW).mono ?_; rintro e w1 ⟨rfl, m1, hw1⟩; have hb1 : Below w.heap.size w w1 := (by rw [hw1]; exact drew_below w m1); clear HW hw1))
  go_quiet (first
    | (go_at_call 92; refine Calls.quiet_of_same (unhide HS _ (bt hb1 (drew_below w1 _))))
    | (go_at_call 91; refine Calls.quiet_of (unhide HW2 _ (bt hb1 (drew_below w1 _)))))
  go_wp2_with (first | (go_at_call 90; refine (fault_b 21 _ _).mono ?_; rintro e w2 ⟨rfl, he2, hb2⟩))
  go_ret3
  exact un_err (c := 21) he2 (bt (bt hb1 (drew_below _ _)) hb2)

set_option maxHeartbeats 3200000 in
set_option maxRecDepth 100000 in
theorem unframe_ok (b off cap len n : Nat) (w : World) (hl4 : 4 ≤ len) (hl : len ≤ 1000000000000) (hn : n < 4294967296)
    (HW : Hid (Calls Tryz.prog 91 #[.slice (some ⟨b, off, none⟩) len cap] w fun e w' => e = .returned (.int .u32 (n : Int)) ∧ ∃ m, w' = w.drewN m)) (en e8 : Nat) (hen : en = 4 + n) (he8 : e8 = en + 4) (hg : n ≤ 262144) (hcap : len ≤ cap) (_hm : cap ≤ 9223372036854775807) (hc : e8 ≤ len) (c1 c2 : Nat) (HS : Hid (∀ W, Below w.heap.size w W → Calls Tryz.prog 92 #[.slice (some ⟨b, off, none⟩) en cap] W fun e w' => e = .returned (.int .u32 (c1 : Int)) ∧ w' = W))
    (HW2 : Hid (∀ W, Below w.heap.size w W → Calls Tryz.prog 91 #[.slice (some ⟨b, off + en, none⟩) (len - en) (cap - en)] W fun e w' => e = .returned (.int .u32 (c2 : Int)) ∧ ∃ m, w' = W.drewN m)) (hx : c1 = c2) (lm : List UInt8) (HC : Hid (∀ W, Below w.heap.size w W → Calls Tryz.prog 50 #[.slice (some ⟨b, off + 4, none⟩) (en - 4) (cap - 4)] W fun e w' => ∃ v', e = .returned v' ∧ RBp w' w'.heap.size v' lm ∧ Below W.heap.size W w')) :
    Calls Tryz.prog 73 #[.slice (some ⟨b, off, none⟩) len cap] w fun e w' => UnPost (lm, e8, 0) w e w' := by
  have hl' : ¬ ((len : Int) < 4) := by omega
  have hg' : ¬ ((262144 : Int) < (n : Int)) := by omega
  have hA : (4 : Int) + (n : Int) = (en : Int) := by omega
  have hA8 : (en : Int) + 4 = (e8 : Int) := by omega
  have hc' : ¬ ((len : Int) < (e8 : Int)) := by omega
  have hb8 : e8 ≤ 1000000 := by omega
  have hben : en ≤ 1000000 := by omega
  have hlen : en ≤ len := by omega
  have hce : cap ≠ en := by omega
  have hce4 : cap ≠ 4 := by omega
  have h4n : 4 ≤ en := by omega
  have hcen : en ≤ cap := by omega
  subst hx
  clear hen he8
  go_enter Tryz.func73, Tryz.ntmps73
  go_wp2_with (first | (go_at_call 91; refine (unhide HW).mono ?_; rintro e w1 ⟨rfl, m1, hw1⟩; have hb1 : Below w.heap.size w w1 := (by rw [hw1]; exact drew_below w m1); clear HW hw1))
  go_quiet (first
    | (go_at_call 92; refine Calls.quiet_of_same (unhide HS _ (bt hb1 (drew_below w1 _))))
    | (go_at_call 91; refine Calls.quiet_of (unhide HW2 _ (bt hb1 (drew_below w1 _)))))
  go_wp2_with (first | (go_at_call 50; refine (unhide HC _ (bt hb1 (drew_below w1 _))).mono ?_; rintro e w3 ⟨v3, rfl, hv3, hb3⟩))
  go_ret3
  exact ⟨_, _, rfl, hv3, .inl ⟨rfl, rfl⟩, bt (bt hb1 (drew_below w1 _)) hb3⟩

theorem word_is {b off cap len : Nat} {m : List UInt8} {w W : World} (hb : b < w.heap.size) (hW : Below w.heap.size w W) (hl : 4 ≤ len) (hl2 : len ≤ 1000000000000) (hm : m.length = len) (hc : ∀ i, i < m.length → w.cell? ⟨b, off + i, none⟩ = some (.int .u8 ((m.getD i 0).toNat : Int))) :
    Calls Tryz.prog 91 #[.slice (some ⟨b, off, none⟩) len cap] W fun e w' => e = .returned (.int .u32 ((wdOf m : Nat) : Int)) ∧ ∃ k, w' = W.drewN k :=
  word_at b off cap len _ _ _ _ W hl hl2 ((hW.cell (p := ⟨b, off, none⟩) hb).trans (hc 0 (by omega))) ((hW.cell (p := ⟨b, off + 1, none⟩) hb).trans (hc 1 (by omega))) ((hW.cell (p := ⟨b, off + 2, none⟩) hb).trans (hc 2 (by omega))) ((hW.cell (p := ⟨b, off + 3, none⟩) hb).trans (hc 3 (by omega)))

theorem unframe_any (v : Value) (l : List UInt8) (w : World) (hT : ST w) (hl3 : l.length ≤ 1000000) (hv : RBp w w.heap.size v l) : Calls Tryz.prog 73 #[v] w fun e w' => UnPost (unfr l) w e w' := by
  have hrow := hv
  obtain ⟨ad, kk, rfl⟩ := rb_len hv
  by_cases h4 : l.length < 4
  · have e : unfr l = ([], 0, 22) := by simp [unfr, h4]
    rw [e]; exact unframe_short ad l.length kk w h4
  obtain ⟨hlen, ⟨hn, hn2⟩ | ⟨b, off, cap, hbB, hcap, hm, hveq, hcell⟩⟩ := hv
  · rw [hn2] at h4; simp at h4
  injection hveq with e1 e2 e3
  subst e1 e3
  have hn := wdOf_lt l
  have HW := hide (word_is (cap := kk) hbB (Below.refl _ _) (by omega) hlen rfl hcell)
  by_cases hg : 262144 < wdOf l
  · have e : unfr l = ([], 0, 20) := by simp [unfr, h4, hg]
    rw [e]; exact unframe_great b off kk l.length (wdOf l) w (by omega) hlen hn HW hg
  by_cases hc : l.length < wdOf l + 8
  · have e : unfr l = ([], 0, 22) := by simp [unfr, h4, hg, hc]
    rw [e]; exact unframe_cut b off kk l.length (wdOf l) w (by omega) hlen hn HW _ _ rfl rfl (by omega) (by omega)
  have HS : Hid (∀ W, Below w.heap.size w W → Calls Tryz.prog 92 #[.slice (some ⟨b, off, none⟩) (4 + wdOf l) kk] W fun e w' => e = .returned (.int .u32 ((crc (l.take (4 + wdOf l)) : Nat) : Int)) ∧ w' = W) :=
    hide fun W hW => sum_any _ _ _ W (rb_first (rb_later hrow hW (Nat.le_refl _)) (by omega)) (hT.later hW)
  have hd : (l.drop (4 + wdOf l)).length = l.length - (4 + wdOf l) := by simp
  have HW2 : Hid (∀ W, Below w.heap.size w W → Calls Tryz.prog 91 #[.slice (some ⟨b, off + (4 + wdOf l), none⟩) (l.length - (4 + wdOf l)) (kk - (4 + wdOf l))] W fun e w' => e = .returned (.int .u32 ((wdOf (l.drop (4 + wdOf l)) : Nat) : Int)) ∧ ∃ m, w' = W.drewN m) :=
    hide fun W hW => word_is hbB hW (by omega) (by omega) hd (fun i hi => by
      have := hcell (4 + wdOf l + i) (by rw [hd] at hi; omega)
      rw [Nat.add_assoc, this]
      simp [List.getD_eq_getElem?_getD, List.getElem?_drop])
  have em : wdOf l + 4 = 4 + wdOf l := by omega
  by_cases hx : crc (l.take (4 + wdOf l)) = wdOf (l.drop (4 + wdOf l))
  · have e : unfr l = ((l.drop 4).take (wdOf l), 4 + wdOf l + 4, 0) := by
      simp [unfr, h4, hg, hc, em, hx]
    rw [e]
    have hmid := rb_mid (a := 4) (n := wdOf l) hbB (by omega) hcap hm hlen hcell
    exact unframe_ok b off kk l.length (wdOf l) w (by omega) hlen hn HW _ _ rfl rfl (by omega) hcap hm (by omega) _ _ HS HW2 hx _ (hide fun W hW => clone_any _ _ _ _ W (by simp; omega) (rb_later hmid hW hW.size))
  · have e : unfr l = ([], 0, 21) := by simp [unfr, h4, hg, hc, em, hx]
    rw [e]
    exact unframe_sum b off kk l.length (wdOf l) w (by omega) hlen hn HW _ _ rfl rfl (by omega) hcap hm (by omega) _ _ HS HW2 hx
end Go.Proofs.YthphadbcebeoaaaGreatDoor
namespace Go.Proofs.YthphadbcebeoaaaGreatDoor
open Go.RowKit Go.Lib
attribute [local go_sem ↓] Go.wp_at_zero Go.wp_at_succ

/-- What it tells. -/
def URPost (r : List UInt8 × Nat × Nat) (w : World) (e : Ending) (w' : World) : Prop :=
  ∃ p, e = .returned (.tuple #[p, .int .i64 (r.2.1 : Int), .int .i64 (r.2.2 : Int)]) ∧ RBp w' w'.heap.size p r.1 ∧ Below w.heap.size w w'
theorem ur_err {w w' : World} {c : Nat} (hb : Below w.heap.size w w') : URPost ([], 0, c) w (.returned (.tuple #[.slice none 0 0, .int .i64 0, .int .i64 (c : Int)])) w' :=
  ⟨_, rfl, ⟨Nat.zero_le _, .inl ⟨rfl, rfl⟩⟩, hb⟩

theorem word4_wd (m : List UInt8) (hm : m.length = 4) : m = word4 (wdOf m) := by
  match m, hm with
  | [a, b, c, d], _ =>
    have h0 := a.toNat_lt
    have h1 := b.toNat_lt
    have h2 := c.toNat_lt
    have h3 := d.toNat_lt
    simp only [wdOf, wd4, word4, List.getD_cons_zero, List.getD_cons_succ]
    have e0 : (a.toNat + 256 * b.toNat + 65536 * c.toNat + 16777216 * d.toNat) % 256 = a.toNat := by omega
    have e1 : (a.toNat + 256 * b.toNat + 65536 * c.toNat + 16777216 * d.toNat) / 256 % 256 = b.toNat := by omega
    have e2 : (a.toNat + 256 * b.toNat + 65536 * c.toNat + 16777216 * d.toNat) / 65536 % 256 = c.toNat := by omega
    have e3 : (a.toNat + 256 * b.toNat + 65536 * c.toNat + 16777216 * d.toNat) / 16777216 % 256 = d.toNat := by omega
    rw [e0, e1, e2, e3]
    simp
theorem wd_word4 (n : Nat) (hn : n < 4294967296) : wdOf (word4 n) = n := by
  simp only [wdOf, wd4, word4, List.getD_cons_zero, List.getD_cons_succ]
  rw [toUInt8_toNat (by omega), toUInt8_toNat (by omega), toUInt8_toNat (by omega), toUInt8_toNat (by omega)]
  omega
theorem wdOf_take (m : List UInt8) (k : Nat) (hk : 4 ≤ k) : wdOf (m.take k) = wdOf m := by
  unfold wdOf
  have e : ∀ i, i < 4 → (m.take k).getD i 0 = m.getD i 0 := by
    intro i hi
    simp [List.getD_eq_getElem?_getD, show i < k by omega]
  rw [e 0 (by omega), e 1 (by omega), e 2 (by omega), e 3 (by omega)]

end Go.Proofs.YthphadbcebeoaaaGreatDoor
