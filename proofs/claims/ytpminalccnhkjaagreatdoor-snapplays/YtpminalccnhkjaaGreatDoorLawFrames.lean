/- The walk of the statement WireFrames: it answers true; nothing old turns. -/
import Derived.Test.YtpminalccnhkjaaGreatDoorBurst
import Derived.RegionTactic
import Derived.ChangeAlike
namespace Go.Proofs.YtpminalccnhkjaaGreatDoor
open Go.RowKit Go.Lib

set_option maxHeartbeats 3200000 in
set_option maxRecDepth 100000 in
theorem unframe_fine (b off cap len n : Nat) (w : World) (hl4 : 4 ≤ len) (hl : len ≤ 1000000000000) (hn : n < 4294967296)
    (HW : Hid (Calls Tryz.prog 74 #[.slice (some ⟨b, off, none⟩) len cap] w fun e w' => e = .returned (.int .u32 (n : Int)) ∧ ∃ m, w' = w.drewN m)) (en e8 : Nat) (hen : en = 4 + n) (he8 : e8 = en + 4) (hg : n ≤ 262144)
    (hcap : len ≤ cap) (_hm : cap ≤ 9223372036854775807) (hc : e8 ≤ len) (c1 c2 : Nat) (HS : Hid (∀ W, Below w.heap.size w W → Calls Tryz.prog 62 #[.slice (some ⟨b, off, none⟩) en cap] W fun e w' => e = .returned (.int .u32 (c1 : Int)) ∧ w' = W))
    (HW2 : Hid (∀ W, Below w.heap.size w W → Calls Tryz.prog 74 #[.slice (some ⟨b, off + en, none⟩) (len - en) (cap - en)] W fun e w' => e = .returned (.int .u32 (c2 : Int)) ∧ ∃ m, w' = W.drewN m)) (hx : c1 = c2) (lm : List UInt8)
    (HC : Hid (∀ W, Below w.heap.size w W → Calls Tryz.prog 38 #[.slice (some ⟨b, off + 4, none⟩) (en - 4) (cap - 4)] W fun e w' => ∃ v', e = .returned v' ∧ RBp w' w'.heap.size v' lm ∧ Below W.heap.size W w')) :
    Calls Tryz.prog 67 #[.slice (some ⟨b, off, none⟩) len cap] w fun e w' => ∃ p, e = .returned (.tuple #[p, .int .i64 (e8 : Int), .nilIface]) ∧ RBp w' w'.heap.size p lm ∧ Below w.heap.size w w' := by
  have hl' : ¬ ((len : Int) < 4) := by omega
  have hg' : ¬ ((262144 : Int) < (n : Int)) := by omega
  have hA : (4 : Int) + (n : Int) = (en : Int) := by omega
  have hA8 : (en : Int) + 4 = (e8 : Int) := by omega
  have hc' : ¬ ((len : Int) < (e8 : Int)) := by omega
  have hb8 : e8 ≤ 1000000 := by omega
  have hben : en ≤ 1000000 := by omega
  have hlen : en ≤ len := by omega
  have hce : cap ≠ en := by omega
  have hce4 : cap ≠ 4 := by omega
  have h4n : 4 ≤ en := by omega
  have hcen : en ≤ cap := by omega
  subst hx
  clear hen he8
  go_enter Tryz.func67, Tryz.ntmps67
  go_wp2_with (first | (go_at_call 74; refine (unhide HW).mono ?_; rintro e w1 ⟨rfl, m1, hw1⟩; have hb1 : Below w.heap.size w w1 := (by rw [hw1]; exact drew_below w m1); clear HW hw1))
  go_quiet (first
    | (go_at_call 62; refine Calls.quiet_of_same (unhide HS _ (bt hb1 (drew_below w1 _))))
    | (go_at_call 74; refine Calls.quiet_of (unhide HW2 _ (bt hb1 (drew_below w1 _)))))
  go_wp2_with (first | (go_at_call 38; refine (unhide HC _ (bt hb1 (drew_below w1 _))).mono ?_; rintro e w3 ⟨v3, rfl, hv3, hb3⟩))
  go_ret3
  exact ⟨_, rfl, hv3, bt (bt hb1 (drew_below w1 _)) hb3⟩
theorem unframe_good (v : Value) (l lm : List UInt8) (k : Nat) (w : World) (hT : ST w) (hl3 : l.length ≤ 1000000) (hv : RBp w w.heap.size v l) (hu : unfr l = (lm, k, 0)) :
    Calls Tryz.prog 67 #[v] w fun e w' => ∃ p, e = .returned (.tuple #[p, .int .i64 (k : Int), .nilIface]) ∧ RBp w' w'.heap.size p lm ∧ Below w.heap.size w w' := by
  have hrow := hv
  obtain ⟨ad, kk, rfl⟩ := rb_len hv
  by_cases h4 : l.length < 4
  · simp [unfr, h4] at hu
  obtain ⟨hlen, ⟨hn, hn2⟩ | ⟨b, off, cap, hbB, hcap, hm, hveq, hcell⟩⟩ := hv
  · rw [hn2] at h4; simp at h4
  injection hveq with e1 e2 e3
  subst e1 e3
  have hn := wdOf_lt l
  have HW := hide (word_is (cap := kk) hbB (Below.refl _ _) (by omega) hlen rfl hcell)
  by_cases hg : 262144 < wdOf l
  · simp [unfr, h4, hg] at hu
  by_cases hc : l.length < wdOf l + 8
  · simp [unfr, h4, hg, hc] at hu
  have HS : Hid (∀ W, Below w.heap.size w W → Calls Tryz.prog 62 #[.slice (some ⟨b, off, none⟩) (4 + wdOf l) kk] W fun e w' => e = .returned (.int .u32 ((crc (l.take (4 + wdOf l)) : Nat) : Int)) ∧ w' = W) :=
    hide fun W hW => sum_any _ _ _ W (rb_first (rb_later hrow hW (Nat.le_refl _)) (by omega)) (hT.later hW)
  have hd : (l.drop (4 + wdOf l)).length = l.length - (4 + wdOf l) := by simp
  have HW2 : Hid (∀ W, Below w.heap.size w W → Calls Tryz.prog 74 #[.slice (some ⟨b, off + (4 + wdOf l), none⟩) (l.length - (4 + wdOf l)) (kk - (4 + wdOf l))] W fun e w' => e = .returned (.int .u32 ((wdOf (l.drop (4 + wdOf l)) : Nat) : Int)) ∧ ∃ m, w' = W.drewN m) :=
    hide fun W hW => word_is hbB hW (by omega) (by omega) hd (fun i hi => by
      have := hcell (4 + wdOf l + i) (by rw [hd] at hi; omega)
      rw [Nat.add_assoc, this]
      simp [List.getD_eq_getElem?_getD, List.getElem?_drop])
  have em : wdOf l + 4 = 4 + wdOf l := by omega
  by_cases hx : crc (l.take (4 + wdOf l)) = wdOf (l.drop (4 + wdOf l))
  · have e : unfr l = ((l.drop 4).take (wdOf l), 4 + wdOf l + 4, 0) := by simp [unfr, h4, hg, hc, em, hx]
    rw [e] at hu
    simp only [Prod.mk.injEq] at hu
    obtain ⟨rfl, rfl, _⟩ := hu
    have hmid := rb_mid (a := 4) (n := wdOf l) hbB (by omega) hcap hm hlen hcell
    exact unframe_fine b off kk l.length (wdOf l) w (by omega) hlen hn HW _ _ rfl rfl (by omega) hcap hm (by omega) _ _ HS HW2 hx _ (hide fun W hW => clone_any _ _ _ _ W (by simp; omega) (rb_later hmid hW hW.size))
  · simp [unfr, h4, hg, hc, em, hx] at hu

theorem xor8 (a b : Nat) (ha : a < 256) (hb : b < 256) : bits BinOp.xor IntKind.u8 (a : Int) (b : Int) = ((a ^^^ b : Nat) : Int) := by
  have hx : a ^^^ b < 2 ^ 8 := Nat.xor_lt_two_pow (by omega) (by omega)
  have h1 : (BitVec.ofInt 8 (a : Int)).toNat = a := by
    rw [BitVec.ofInt_natCast, BitVec.toNat_ofNat]; exact Nat.mod_eq_of_lt (by omega)
  have h2 : (BitVec.ofInt 8 (b : Int)).toNat = b := by
    rw [BitVec.ofInt_natCast, BitVec.toNat_ofNat]; exact Nat.mod_eq_of_lt (by omega)
  show IntKind.u8.wrap ((BitVec.ofInt 8 (a : Int) ^^^ BitVec.ofInt 8 (b : Int)).toNat : Int) = _
  rw [BitVec.toNat_xor, h1, h2, IntKind.wrap_u8]
  omega
theorem more_ne (x k : Nat) : (true = true ↔ x + 2 ^ k ≠ 0) := by
  have := Nat.two_pow_pos k
  constructor
  · intro _; omega
  · intro _; rfl
theorem more_lt {x k : Nat} (h : x < 2 ^ k) : x + 2 ^ k < 2 ^ (k + 1) := by rw [Nat.pow_succ]; omega
theorem more_bound {x k a n : Nat} (h : x < 2 ^ k) (ha : a + k < 8 * (n + 4)) : (x + 2 ^ k) * 2 ^ a < 2 ^ (8 * (n + 4)) := by
  have h1 := Nat.mul_lt_mul_of_pos_right (more_lt h) (Nat.two_pow_pos a)
  rw [← Nat.pow_add] at h1
  exact Nat.lt_of_lt_of_le h1 (Nat.pow_le_pow_right (by decide) (by omega))
theorem more_xor {x k m : Nat} (h : x < 2 ^ k) : (x + 2 ^ k) * 2 ^ m = (x * 2 ^ m) ^^^ 2 ^ (m + k) := by
  have h1 := Nat.mul_lt_mul_of_pos_right h (Nat.two_pow_pos m)
  rw [← Nat.pow_add, Nat.add_comm k m] at h1
  have h2 := or_xor (q := 1) h1
  rw [Nat.mul_one] at h2
  rw [Nat.xor_comm, h2, Nat.add_mul, ← Nat.pow_add, Nat.add_comm k m, Nat.add_comm]
theorem more_get (f : List UInt8) (x k a i j r q : Nat) (c z : UInt8) (h : x < 2 ^ k) (hi : i = 32 + a + k) (hj : j = i / 8) (hr : r = i % 8) (hq : q = 2 ^ r) (hc : c = (xorBytes f (x * 2 ^ (32 + a))).getD j 0) (hz : z = c ^^^ q.toUInt8) :
    ∀ n, n < (xorBytes f (x * 2 ^ (32 + a))).length → (xorBytes f ((x + 2 ^ k) * 2 ^ (32 + a))).getD n 0 = if n = j then z else (xorBytes f (x * 2 ^ (32 + a))).getD n 0 := by
  intro n hn
  rw [xorBytes_length] at hn
  rw [more_xor h, ← hi, xor_more f _ i n hn, ← hj]
  by_cases e : n = j
  · rw [if_pos e, if_pos e, hz, hc, hq, hr, e]
  · rw [if_neg e, if_neg e]
/-- A row of bytes of a call's own, as it stands. -/
def GS (w : World) (base gb : Nat) (l : List UInt8) : Prop :=
  gb < w.heap.size ∧ base ≤ gb ∧ ∀ i, i < l.length → w.cell? ⟨gb, i, none⟩ = some (.int .u8 ((l.getD i 0).toNat : Int)) ∧ w.frozen? ⟨gb, i, none⟩ = false
theorem own_gs {w : World} {base : Nat} {v : Value} {n : Nat} {xs : List Value} {l : List UInt8} (h : w.ownsRow base 5 1 v n xs) (hn : n = l.length) (hxs : xs = byteCells l) (hl : 0 < l.length) :
    ∃ gb cap, v = .slice (some ⟨gb, 0, none⟩) l.length cap ∧ l.length ≤ cap ∧ cap ≤ maxLen ∧ GS w base gb l := by
  subst hn hxs
  obtain ⟨h1, ⟨rfl, h2⟩ | ⟨g, cap, cur, rfl, h4, h5, h6, h7, h8, h9⟩⟩ := h
  · omega
  · refine ⟨g, cap, rfl, h6, h7, ?_, h4, fun i hi => ?_⟩
    · rcases Nat.lt_or_ge g w.heap.size with h' | h'
      · exact h'
      · rw [Array.getElem?_eq_none h'] at h5; cases h5
    · have e1 : (byteCells l)[i]? = some (.int .u8 ((l.getD i 0).toNat : Int)) := by simp [byteCells, hi]
      rw [← h9, Nat.mul_one, List.getElem?_take, if_pos hi, Array.getElem?_toList] at e1
      refine ⟨by simp [World.cell?, h5, e1], ?_⟩
      simp [World.frozen?, h5]
theorem GS.rb {w : World} {base gb cap : Nat} {l : List UInt8} (h : GS w base gb l) (h1 : l.length ≤ cap) (h2 : cap ≤ maxLen) (h3 : l.length ≤ 1000000000000) : RBp w w.heap.size (.slice (some ⟨gb, 0, none⟩) l.length cap) l :=
  ⟨h3, .inr ⟨gb, 0, cap, h.1, h1, h2, rfl, fun i hi => by simpa using (h.2.2 i hi).1⟩⟩
theorem GS.drew {w : World} {base gb : Nat} {l : List UInt8} (h : GS w base gb l) : GS w.drew base gb l := h
theorem GS.set {w : World} {base gb j : Nat} {l l' : List UInt8} {c : UInt8} (h : GS w base gb l) (hl : l'.length = l.length) (hg : ∀ i, i < l.length → l'.getD i 0 = if i = j then c else l.getD i 0) : GS (w.setCell ⟨gb, j, none⟩ (.int .u8 (c.toNat : Int))) base gb l' := by
  refine ⟨by simpa using h.1, h.2.1, fun i hi => ?_⟩
  rw [hl] at hi
  obtain ⟨k1, k2⟩ := h.2.2 i hi
  rw [hg i hi]
  refine ⟨?_, by simpa using k2⟩
  by_cases e : i = j
  · subst e
    rw [if_pos rfl]
    exact World.cell?_setCell_same _ _ _ k1
  · rw [if_neg e, World.cell?_setCell_other _ _ _ _ (ne_off (by omega))]
    exact k1

end Go.Proofs.YtpminalccnhkjaaGreatDoor
