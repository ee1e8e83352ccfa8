/- The walk of the statement WireFrames: it answers true; nothing old turns. -/
import Derived.Test.YtahcfanmfocljaaDoorBurst
import Derived.RegionTactic
import Derived.ChangeAlike
namespace Go.Proofs.YtahcfanmfocljaaDoor
open Go.RowKit Go.Lib

set_option maxHeartbeats 3200000 in
set_option maxRecDepth 100000 in
theorem unframe_fine (b off cap len n : Nat) (w : World) (hl4 : 4 ≤ len) (hl : len ≤ 1000000000000) (hn : n < 4294967296)
    (HW : Hid (Calls Tryd.prog 51 #[.slice (some ⟨b, off, none⟩) len cap] w fun e w' => e = .returned (.int .u32 (n : Int)) ∧ ∃ m, w' = w.drewN m)) (en e8 : Nat) (hen : en = 4 + n) (he8 : e8 = en + 4) (hg : n ≤ 262144)
    (hcap : len ≤ cap) (_hm : cap ≤ 9223372036854775807) (hc : e8 ≤ len) (c1 c2 : Nat) (HS : Hid (∀ W, Below w.heap.size w W → Calls Tryd.prog 38 #[.slice (some ⟨b, off, none⟩) en cap] W fun e w' => e = .returned (.int .u32 (c1 : Int)) ∧ w' = W))
    (HW2 : Hid (∀ W, Below w.heap.size w W → Calls Tryd.prog 51 #[.slice (some ⟨b, off + en, none⟩) (len - en) (cap - en)] W fun e w' => e = .returned (.int .u32 (c2 : Int)) ∧ ∃ m, w' = W.drewN m)) (hx : c1 = c2) (lm : List UInt8)
    (HC : Hid (∀ W, Below w.heap.size w W → Calls Tryd.prog 52 #[.slice (some ⟨b, off + 4, none⟩) (en - 4) (cap - 4)] W fun e w' => ∃ v', e = .returned v' ∧ RBp w' w'.heap.size v' lm ∧ Below W.heap.size W w')) :
    Calls Tryd.prog 29 #[.slice (some ⟨b, off, none⟩) len cap] w fun e w' => ∃ p, e = .returned (.tuple #[p, .int .i64 (e8 : Int), .nilIface]) ∧ RBp w' w'.heap.size p lm ∧ Below w.heap.size w w' := by
  have hl' : ¬ ((len : Int) < 4) := by omega
  have hg' : ¬ ((262144 : Int) < (n : Int)) := by omega
  have hA : (4 : Int) + (n : Int) = (en : Int) := by omega
  have hA8 : (en : Int) + 4 = (e8 : Int) := by omega
  have hc' : ¬ ((len : Int) < (e8 : Int)) := by omega
  have hb8 : e8 ≤ 1000000 := by omega
  have hben : en ≤ 1000000 := by omega
  have hlen : en ≤ len := by omega
  have hce : cap ≠ en := by omega
  have hce4 : cap ≠ 4 := by omega
  have h4n : 4 ≤ en := by omega
  have hcen : en ≤ cap := by omega
  subst hx
  clear hen he8
  go_enter Tryd.func29, Tryd.ntmps29
  go_wp2_with (first | (go_at_call 51; refine (unhide HW).mono ?_; rintro e w1 ⟨rfl, m1, hw1⟩; have hb1 : Below w.heap.size w w1 := (by rw [hw1]; exact drew_below w m1); clear HW hw1))
  go_quiet (first
    | (go_at_call 38; refine Calls.quiet_of_same (unhide HS _ (bt hb1 (drew_below w1 _))))
    | (go_at_call 51; refine Calls.quiet_of (unhide HW2 _ (bt hb1 (drew_below w1 _)))))
  go_wp2_with (first | (go_at_call 52; refine (unhide HC _ (bt hb1 (drew_below w1 _))).mono ?_; rintro e w3 ⟨v3, rfl, hv3, hb3⟩))
  go_ret3
  exact ⟨_, rfl, hv3, bt (bt hb1 (drew_below w1 _)) hb3⟩
theorem unframe_good (v : Value) (l lm : List UInt8) (k : Nat) (w : World) (hT : ST w) (hl3 : l.length ≤ 1000000) (hv : RBp w w.heap.size v l) (hu : unfr l = (lm, k, 0)) :
    Calls Tryd.prog 29 #[v] w fun e w' => ∃ p, e = .returned (.tuple #[p, .int .i64 (k : Int), .nilIface]) ∧ RBp w' w'.heap.size p lm ∧ Below w.heap.size w w' := by
  have hrow := hv
  obtain ⟨ad, kk, rfl⟩ := rb_len hv
  by_cases h4 : l.length < 4
  · simp [unfr, h4] at hu
  obtain ⟨hlen, ⟨hn, hn2⟩ | ⟨b, off, cap, hbB, hcap, hm, hveq, hcell⟩⟩ := hv
  · rw [hn2] at h4; simp at h4
  injection hveq with e1 e2 e3
  subst e1 e3
  have hn := wdOf_lt l
  have HW := hide (word_is (cap := kk) hbB (Below.refl _ _) (by omega) hlen rfl hcell)
  by_cases hg : 262144 < wdOf l
  · simp [unfr, h4, hg] at hu
  by_cases hc : l.length < wdOf l + 8
  · simp [unfr, h4, hg, hc] at hu
  have HS : Hid (∀ W, Below w.heap.size w W → Calls Tryd.prog 38 #[.slice (some ⟨b, off, none⟩) (4 + wdOf l) kk] W fun e w' => e = .returned (.int .u32 ((crc (l.take (4 + wdOf l)) : Nat) : Int)) ∧ w' = W) :=
    hide fun W hW => sum_any _ _ _ W (rb_first (rb_later hrow hW (Nat.le_refl _)) (by omega)) (hT.later hW)
  have hd : (l.drop (4 + wdOf l)).length = l.length - (4 + wdOf l) := by simp
  have HW2 : Hid (∀ W, Below w.heap.size w W → Calls Tryd.prog 51 #[.slice (some ⟨b, off + (4 + wdOf l), none⟩) (l.length - (4 + wdOf l)) (kk - (4 + wdOf l))] W fun e w' => e = .returned (.int .u32 ((wdOf (l.drop (4 + wdOf l)) : Nat) : Int)) ∧ ∃ m, w' = W.drewN m) :=
    hide fun W hW => word_is hbB hW (by omega) (by omega) hd (fun i hi => by
      have := hcell (4 + wdOf l + i) (by rw [hd] at hi; omega)
      rw [Nat.add_assoc, this]
      simp [List.getD_eq_getElem?_getD, List.getElem?_drop])
  have em : wdOf l + 4 = 4 + wdOf l := by omega
  by_cases hx : crc (l.take (4 + wdOf l)) = wdOf (l.drop (4 + wdOf l))
  · have e : unfr l = ((l.drop 4).take (wdOf l), 4 + wdOf l + 4, 0) := by simp [unfr, h4, hg, hc, em, hx]
    rw [e] at hu
    simp only [Prod.mk.injEq] at hu
    obtain ⟨rfl, rfl, _⟩ := hu
    have hmid := rb_mid (a := 4) (n := wdOf l) hbB (by omega) hcap hm hlen hcell
    exact unframe_fine b off kk l.length (wdOf l) w (by omega) hlen hn HW _ _ rfl rfl (by omega) hcap hm (by omega) _ _ HS HW2 hx _ (hide fun W hW => clone_any _ _ _ _ W (by simp; omega) (rb_later hmid hW hW.size))
  · simp [unfr, h4, hg, hc, em, hx] at hu

theorem xor8 (a b : Nat) (ha : a < 256) (hb : b < 256) : bits BinOp.xor IntKind.u8 (a : Int) (b : Int) = ((a ^^^ b : Nat) : Int) := by
  have hx : a ^^^ b < 2 ^ 8 := Nat.xor_lt_two_pow (by omega) (by omega)
  have h1 : (BitVec.ofInt 8 (a : Int)).toNat = a := by
    rw [BitVec.ofInt_natCast, BitVec.toNat_ofNat]; exact Nat.mod_eq_of_lt (by omega)
  have h2 : (BitVec.ofInt 8 (b : Int)).toNat = b := by
    rw [BitVec.ofInt_natCast, BitVec.toNat_ofNat]; exact Nat.mod_eq_of_lt (by omega)
  show IntKind.u8.wrap ((BitVec.ofInt 8 (a : Int) ^^^ BitVec.ofInt 8 (b : Int)).toNat : Int) = _
  rw [BitVec.toNat_xor, h1, h2, IntKind.wrap_u8]
  omega
theorem more_ne (x k : Nat) : (true = true ↔ x + 2 ^ k ≠ 0) := by
  have := Nat.two_pow_pos k
  constructor
  · intro _; omega
  · intro _; rfl
theorem more_lt {x k : Nat} (h : x < 2 ^ k) : x + 2 ^ k < 2 ^ (k + 1) := by rw [Nat.pow_succ]; omega
theorem more_bound {x k a n : Nat} (h : x < 2 ^ k) (ha : a + k < 8 * (n + 4)) : (x + 2 ^ k) * 2 ^ a < 2 ^ (8 * (n + 4)) := by
  have h1 := Nat.mul_lt_mul_of_pos_right (more_lt h) (Nat.two_pow_pos a)
  rw [← Nat.pow_add] at h1
  exact Nat.lt_of_lt_of_le h1 (Nat.pow_le_pow_right (by decide) (by omega))
theorem more_xor {x k m : Nat} (h : x < 2 ^ k) : (x + 2 ^ k) * 2 ^ m = (x * 2 ^ m) ^^^ 2 ^ (m + k) := by
  have h1 := Nat.mul_lt_mul_of_pos_right h (Nat.two_pow_pos m)
  rw [← Nat.pow_add, Nat.add_comm k m] at h1
  have h2 := or_xor (q := 1) h1
  rw [Nat.mul_one] at h2
  rw [Nat.xor_comm, h2, Nat.add_mul, ← Nat.pow_add, Nat.add_comm k m, Nat.add_comm]
theorem more_get (f : List UInt8) (x k a i j r q : Nat) (c z : UInt8) (h : x < 2 ^ k) (hi : i = 32 + a + k) (hj : j = i / 8) (hr : r = i % 8) (hq : q = 2 ^ r) (hc : c = (xorBytes f (x * 2 ^ (32 + a))).getD j 0) (hz : z = c ^^^ q.toUInt8) :
    ∀ n, n < (xorBytes f (x * 2 ^ (32 + a))).length → (xorBytes f ((x + 2 ^ k) * 2 ^ (32 + a))).getD n 0 = if n = j then z else (xorBytes f (x * 2 ^ (32 + a))).getD n 0 := by
  intro n hn
  rw [xorBytes_length] at hn
  rw [more_xor h, ← hi, xor_more f _ i n hn, ← hj]
  by_cases e : n = j
  · rw [if_pos e, if_pos e, hz, hc, hq, hr, e]
  · rw [if_neg e, if_neg e]
/-- A row of bytes of a call's own, as it stands. -/
def GS (w : World) (base gb : Nat) (l : List UInt8) : Prop :=
  gb < w.heap.size ∧ base ≤ gb ∧ ∀ i, i < l.length → w.cell? ⟨gb, i, none⟩ = some (.int .u8 ((l.getD i 0).toNat : Int)) ∧ w.frozen? ⟨gb, i, none⟩ = false
theorem own_gs {w : World} {base : Nat} {v : Value} {n : Nat} {xs : List Value} {l : List UInt8} (h : w.ownsRow base 5 1 v n xs) (hn : n = l.length) (hxs : xs = byteCells l) (hl : 0 < l.length) :
    ∃ gb cap, v = .slice (some ⟨gb, 0, none⟩) l.length cap ∧ l.length ≤ cap ∧ cap ≤ maxLen ∧ GS w base gb l := by
  subst hn hxs
  obtain ⟨h1, ⟨rfl, h2⟩ | ⟨g, cap, cur, rfl, h4, h5, h6, h7, h8, h9⟩⟩ := h
  · omega
  · refine ⟨g, cap, rfl, h6, h7, ?_, h4, fun i hi => ?_⟩
    · rcases Nat.lt_or_ge g w.heap.size with h' | h'
      · exact h'
      · rw [Array.getElem?_eq_none h'] at h5; cases h5
    · have e1 : (byteCells l)[i]? = some (.int .u8 ((l.getD i 0).toNat : Int)) := by simp [byteCells, hi]
      rw [← h9, Nat.mul_one, List.getElem?_take, if_pos hi, Array.getElem?_toList] at e1
      refine ⟨by simp [World.cell?, h5, e1], ?_⟩
      simp [World.frozen?, h5]
theorem GS.rb {w : World} {base gb cap : Nat} {l : List UInt8} (h : GS w base gb l) (h1 : l.length ≤ cap) (h2 : cap ≤ maxLen) (h3 : l.length ≤ 1000000000000) : RBp w w.heap.size (.slice (some ⟨gb, 0, none⟩) l.length cap) l :=
  ⟨h3, .inr ⟨gb, 0, cap, h.1, h1, h2, rfl, fun i hi => by simpa using (h.2.2 i hi).1⟩⟩
theorem GS.drew {w : World} {base gb : Nat} {l : List UInt8} (h : GS w base gb l) : GS w.drew base gb l := h
theorem GS.set {w : World} {base gb j : Nat} {l l' : List UInt8} {c : UInt8} (h : GS w base gb l) (hl : l'.length = l.length) (hg : ∀ i, i < l.length → l'.getD i 0 = if i = j then c else l.getD i 0) : GS (w.setCell ⟨gb, j, none⟩ (.int .u8 (c.toNat : Int))) base gb l' := by
  refine ⟨by simpa using h.1, h.2.1, fun i hi => ?_⟩
  rw [hl] at hi
  obtain ⟨k1, k2⟩ := h.2.2 i hi
  rw [hg i hi]
  refine ⟨?_, by simpa using k2⟩
  by_cases e : i = j
  · subst e
    rw [if_pos rfl]
    exact World.cell?_setCell_same _ _ _ k1
  · rw [if_neg e, World.cell?_setCell_other _ _ _ _ (ne_off (by omega))]
    exact k1

set_option maxHeartbeats 6400000 in
set_option maxRecDepth 100000 in
theorem frames_main (vb vm : Value) (lb lm : List UInt8) (at' turn : Nat) (w : World) (hE : ET w) (hT : ST w) (hb : RBp w w.heap.size vb lb) (hm : RBp w w.heap.size vm lm) (hlb : lb.length ≤ 1000) (hlm : lm.length ≤ 100) (hat : at' < 9223372036854775808) (_htu : turn < 4294967296) :
    Calls Tryd.prog 6 #[vb, vm, .int .i64 at', .int .u32 turn] w fun e w' => e = .returned (.bool true) ∧ Below w.heap.size w w' := by
  have HK := hide (known_any w hE hT)
  have HE := hide (fun (W : World) (hb : Below w.heap.size w W) => hE.later hb)
  have HT := hide (fun (W : World) (hb : Below w.heap.size w W) => hT.later hb)
  have HB := hide (fun (W : World) (h : Below w.heap.size w W) => rb_later hb h h.size)
  have HM := hide (fun (W : World) (h : Below w.heap.size w W) => rb_later hm h h.size)
  obtain ⟨ab, kb, rfl⟩ := rb_len hb
  obtain ⟨am, km, rfl⟩ := rb_len hm
  have q1 : ¬ ((1000 : Int) < (lb.length : Int)) := by omega
  have q2 : ¬ ((100 : Int) < (lm.length : Int)) := by omega
  have q3 : ¬ ((at' : Int) < 0) := by omega
  have hfl : (frameBytes lb).length = lb.length + 8 := by simp [frameBytes, word4_length]; omega
  have HF := hide (fun (v : Value) (W : World) (h1 : RBp W W.heap.size v lb) (h2 : ST W) => frame_ok v lb W h1 (by omega) h2)
  have HU := hide (fun (v : Value) (W : World) (h1 : RBp W W.heap.size v (frameBytes lb ++ lm)) (h2 : ST W) => unframe_good v (frameBytes lb ++ lm) lb (lb.length + 8) W h2 (by simp [hfl]; omega) h1 (unfr_frame lb lm (by omega)))
  clear hE hT hb hm
  generalize hf : frameBytes lb = f at *
  rw [hfl] at HF
  go_enter Tryd.func6, Tryd.ntmps6
  go_wp2_with (first
    | (go_at_call 9; refine (unhide HK).mono ?_; rintro e w1 ⟨rfl, hb1⟩)
    | (at_builtin; refine wpList_append_rb rfl (.const (.slice none 0 0)) (.tmp 33) rfl w1.heap.size _ 0 [] rfl (World.ownsRow_nil _ _ _ _) _ _ lb rfl (unhide HB _ hb1) (by omega) (by omega) (Nat.le_refl _) ?_; intro v2 w2 ho2 _ hb2; have d2 := bt hb1 hb2; have r2 := empty_app (l := lb) ho2 rfl (by omega); clear ho2)
    | (go_at_call 36; refine (unhide HF _ _ r2 (unhide HT _ d2)).mono ?_; rintro e w3 ⟨a3, k3, rfl, r3, hb3⟩; have d3 := bt d2 hb3; clear r2 HF)
    | (at_builtin; refine wpList_append_rb rfl (.const (.slice none 0 0)) (.tmp 41) rfl w3.heap.size _ 0 [] rfl (World.ownsRow_nil _ _ _ _) _ _ f rfl r3 (by omega) (by omega) (Nat.le_refl _) ?_; intro v4 w4 ho4 _ hb4; have d4 := bt d3 hb4)
    | (at_builtin; refine wpList_append_rb rfl (.tmp 42) (.tmp 43) rfl w3.heap.size _ _ _ rfl ho4 _ _ lm rfl (unhide HM _ d4) (by omega) (by omega) hb4.size ?_; intro v5 w5 ho5 _ hb5; have r5 := own_rb2 (x := f) (y := lm) ho5 (by omega); have hb35 := hb4.trans hb5; have d5 := bt d3 hb35; have r35 := rb_later r3 hb35 hb35.size; clear ho4 ho5)
    | (go_at_call 29; refine (unhide HU _ _ r5 (unhide HT _ d5)).mono ?_; rintro e w6 ⟨p6, rfl, r6, hb6⟩; have d6 := bt d5 hb6; have r36 := rb_later r35 hb6 hb6.size; clear HU r5 r35 r3)
    | (go_at_call 13; refine (bytes_same p6 _ _ _ lb w6 r6 (unhide HB _ d6)).mono ?_; rintro e w6 ⟨rfl, rfl⟩)
    | (at_builtin; refine wpList_append_rb rfl (.const (.slice none 0 0)) (.tmp 67) rfl w6.heap.size _ 0 [] rfl (World.ownsRow_nil _ _ _ _) _ _ f rfl r36 (by omega) (by omega) (Nat.le_refl _) ?_; intro v7 w7 ho7 _ hb7; have d7 := bt d6 hb7; obtain ⟨gb, cap7, rfl, hc1, hc2, gs7⟩ := own_gs (l := f) ho7 (by omega) rfl (by omega); clear ho7))
  clear HK hb1 hb2 hb3 hb4 hb5 hb35 hb6 d2 d3 d4 d5 r6 r36 HM
  have G7 := hide gs7
  have hstart : (false = true ↔ (0 : Nat) ≠ 0) := by simp
  clear gs7
  go_loopw [15, 16] (fun tb kk wr => ∃ (t : Bool) (k x : Nat), k ≤ 32 ∧ kk = .int .i64 k ∧ tb = .bool t ∧ (t = true ↔ x ≠ 0) ∧ x < 2 ^ k ∧ x * 2 ^ at' < 2 ^ (8 * (lb.length + 4)) ∧ GS wr w6.heap.size gb (xorBytes f (x * 2 ^ (32 + at'))) ∧ Below w6.heap.size w7 wr) (fun _ kk _ => 32 - (intOf kk).toNat)
  case atStart => exact ⟨false, 0, 0, Nat.zero_le _, rfl, rfl, hstart, Nat.zero_lt_one, by rw [Nat.zero_mul]; exact Nat.two_pow_pos _, by rw [Nat.zero_mul, xorBytes_zero]; exact unhide G7, Below.refl _ _⟩
  case round =>
    obtain ⟨t, k, x, hk, rfl, rfl, htx, hxk, hxN, hgs, hbw⟩ := hrel
    have HG := hide hgs
    have hgl : gb < wr.heap.size := hgs.1
    have HX := hide hxN
    have HT' := hide htx
    have HXK := hide hxk
    have HBW := hide hbw
    have hfl' := hfl
    have hgs' := hgs
    have hF := hide hf
    clear hgs hxN G7 htx hxk hbw hstart hf hfl
    by_cases hlt : k < 32
    · have hk' : (k : Int) < 32 := by omega
      have hk0 : (0 : Int) ≤ (k : Int) := by omega
      obtain ⟨y, hyd⟩ : ∃ y : Nat, y = turn / 2 ^ k := ⟨_, rfl⟩
      have hy : (turn : Int) / 2 ^ k = (y : Int) := by rw [hyd]; push_cast; rfl
      have HYD := hide hyd
      clear hyd
      have hp : 2 ^ k < 2 ^ (k + 1) := Nat.pow_lt_pow_right (by decide) (by omega)
      have HP := hide hp
      clear hp
      by_cases h1 : y % 2 = 1
      · have h1' : ((y : Int) % 2 == 1) = true := by simp; omega
        by_cases h2 : at' + k < 8 * (lb.length + 4)
        · have h2' : (at' : Int) < 8 * ((lb.length : Int) + 4) - (k : Int) := by omega
          obtain ⟨i, hi⟩ : ∃ i : Nat, i = 32 + at' + k := ⟨_, rfl⟩
          have hi' : (32 : Int) + (at' : Int) + (k : Int) = (i : Int) := by omega
          have hiB : i < 100000 := by omega
          obtain ⟨j, hj⟩ : ∃ j : Nat, j = i / 8 := ⟨_, rfl⟩
          obtain ⟨r, hr⟩ : ∃ r : Nat, r = i % 8 := ⟨_, rfl⟩
          have hj' : (i : Int) / 8 = (j : Int) := by omega
          have hr' : (i : Int) % 8 = (r : Int) := by omega
          have hjl : j < f.length := by omega
          have hjl' : (j : Int) < (f.length : Int) := by omega
          have hj0 : (0 : Int) ≤ (j : Int) := by omega
          have hr8 : r < 8 := by omega
          have hr8' : (r : Int) < 8 := by omega
          have hr0 : (0 : Int) ≤ (r : Int) := by omega
          obtain ⟨cj, fj⟩ := hgs'.2.2 j (by rw [xorBytes_length]; exact hjl)
          obtain ⟨c, hc⟩ : ∃ c : UInt8, c = (xorBytes f (x * 2 ^ (32 + at'))).getD j 0 := ⟨_, rfl⟩
          rw [← hc] at cj
          obtain ⟨q, hq⟩ : ∃ q : Nat, q = 2 ^ r := ⟨_, rfl⟩
          have hq256 : q < 256 := by
            rw [hq]; have := Nat.pow_lt_pow_right (a := 2) (by decide) hr8; simpa using this
          have hs1 : IntKind.u8.wrap ((2 : Int) ^ r) = (q : Int) := by
            have e : (2 : Int) ^ r = ((2 ^ r : Nat) : Int) := by push_cast; rfl
            rw [e, ← hq, IntKind.wrap_u8]; omega
          obtain ⟨z, hz⟩ : ∃ z : UInt8, z = c ^^^ q.toUInt8 := ⟨_, rfl⟩
          have hxor : bits BinOp.xor IntKind.u8 (c.toNat : Int) (q : Int) = (z.toNat : Int) := by
            rw [xor8 _ _ c.toNat_lt hq256, hz, UInt8.toNat_xor, toUInt8_toNat hq256]
          have c256 : (c.toNat : Int) < 256 := by have := c.toNat_lt; omega
          have HI := hide hi
          have HJ := hide hj
          have HR := hide hr
          have HC := hide hc
          have HQ := hide hq
          have HZ := hide hz
          have HGB := hide hgs'.2.1
          clear hgs' hi hj hr hc hq hz
          go_wp2
          go_region
          all_goals (try go_wp2)
          go_roundw
          case rel => exact ⟨true, k + 1, x + 2 ^ k, by omega, by go_num, rfl, more_ne x k, more_lt (unhide HXK), more_bound (unhide HXK) h2, ((unhide HG).set (by rw [xorBytes_length, xorBytes_length]) (more_get f x k at' i j r q c z (unhide HXK) (unhide HI) (unhide HJ) (unhide HR) (unhide HQ) (unhide HC) (unhide HZ))).drew, ((unhide HBW).setCell (p := ⟨gb, j, none⟩) (unhide HGB) _).drew⟩
          case measure => simp [intOf]; omega
        · have h2' : ¬ ((at' : Int) < 8 * ((lb.length : Int) + 4) - (k : Int)) := by omega
          go_wp2
          go_roundw
          case rel => exact ⟨t, k + 1, x, by omega, by go_num, rfl, unhide HT', Nat.lt_trans (unhide HXK) (unhide HP), unhide HX, unhide HG, unhide HBW⟩
          case measure => simp [intOf]; omega
      · have h1' : ((y : Int) % 2 == 1) = false := by simp; omega
        go_wp2
        go_roundw
        case rel => exact ⟨t, k + 1, x, by omega, by go_num, rfl, unhide HT', Nat.lt_trans (unhide HXK) (unhide HP), unhide HX, unhide HG, unhide HBW⟩
        case measure => simp [intOf]; omega
    · have e32 : k = 32 := by omega
      subst e32
      have hxl : (xorBytes f (x * 2 ^ (32 + at'))).length = f.length := xorBytes_length _ _
      have dw : Below w.heap.size w wr := d7.trans ((unhide HBW).mono d6.size)
      have hrg := (unhide HG).rb (cap := cap7) (by omega) hc2 (by omega)
      rw [hxl, hfl'] at hrg
      have HX32 : Hid (x < 4294967296) := unhide HXK
      cases t with
      | false =>
        have hx0 : x = 0 := by
          have := unhide HT'
          simpa using this
        subst hx0
        rw [Nat.zero_mul, xorBytes_zero] at hrg
        have hu : unfr f = (lb, lb.length + 8, 0) := by
          have := unfr_frame lb [] (by omega)
          rw [List.append_nil, unhide hF] at this
          exact this
        have HU := hide (unframe_good _ f lb (lb.length + 8) wr (unhide HT _ dw) (by omega) hrg hu)
        clear hrg hxl hu hgs'
        go_wp2_with (first
          | (go_at_call 29; refine (unhide HU).mono ?_; rintro e w8 ⟨p8, rfl, r8, hb8⟩; have d8 := bt dw hb8)
          | (go_at_call 13; refine (bytes_same p8 _ _ _ lb w8 r8 (unhide HB _ d8)).mono ?_; rintro e w8 ⟨rfl, rfl⟩))
        go_ret
        exact ⟨rfl, d8⟩
      | true =>
        have hx0 : x ≠ 0 := by
          have := unhide HT'
          simpa using this
        have hu : unfr (xorBytes f (x * 2 ^ (32 + at'))) = ([], 0, 21) := by
          rw [← unhide hF]
          exact unfr_turned lb x at' (by omega) (unhide HX32) hx0 (unhide HX)
        have HU := hide (unframe_any _ (xorBytes f (x * 2 ^ (32 + at'))) wr (unhide HT _ dw) (by rw [xorBytes_length]; omega) hrg)
        rw [hu] at HU
        clear hrg hxl hu hgs'
        go_wp2_with (first
          | (go_at_call 29; refine (unhide HU).mono ?_; rintro e w8 ⟨p8, er8, rfl, r8, e8, hb8⟩; have d8 := bt dw hb8; obtain ⟨a8, k8, rfl⟩ := rb_len r8)
          | (go_at_call 20; refine (class_eo er8 21 w8 (unhide HE _ d8) e8).mono ?_; rintro e w9 ⟨rfl, hb9⟩))
        go_ret
        exact ⟨rfl, bt d8 hb9⟩

set_option maxHeartbeats 1600000 in
set_option maxRecDepth 100000 in
theorem frames_long (ab am : Option Addr) (lb kb lm km : Nat) (at' : Int) (turn : Int) (w : World) (hE : ET w) (hT : ST w) (hlb : lb ≤ maxLen) (hlm : lm ≤ maxLen) (hbig : 1000 < lb ∨ 100 < lm ∨ at' < 0) :
    Calls Tryd.prog 6 #[.slice ab lb kb, .slice am lm km, .int .i64 at', .int .u32 turn] w fun e w' => e = .returned (.bool true) ∧ Below w.heap.size w w' := by
  have HK := hide (known_any w hE hT)
  clear hE hT
  have h1 : (lb : Int) ≤ 9223372036854775807 := by unfold maxLen at hlb; omega
  have h2 : (lm : Int) ≤ 9223372036854775807 := by unfold maxLen at hlm; omega
  clear hlb hlm
  by_cases c1 : 1000 < lb
  · have c1' : (1000 : Int) < (lb : Int) := by omega
    go_enter Tryd.func6, Tryd.ntmps6
    go_wp2_with (first | (go_at_call 9; refine (unhide HK).mono ?_; rintro e w1 ⟨rfl, hb1⟩))
    go_ret
    exact ⟨rfl, hb1⟩
  · have c1' : ¬ ((1000 : Int) < (lb : Int)) := by omega
    by_cases c2 : 100 < lm
    · have c2' : (100 : Int) < (lm : Int) := by omega
      go_enter Tryd.func6, Tryd.ntmps6
      go_wp2_with (first | (go_at_call 9; refine (unhide HK).mono ?_; rintro e w1 ⟨rfl, hb1⟩))
      go_ret
      exact ⟨rfl, hb1⟩
    · have c2' : ¬ ((100 : Int) < (lm : Int)) := by omega
      have c3' : at' < 0 := by omega
      go_enter Tryd.func6, Tryd.ntmps6
      go_wp2_with (first | (go_at_call 9; refine (unhide HK).mono ?_; rintro e w1 ⟨rfl, hb1⟩))
      go_ret
      exact ⟨rfl, hb1⟩
end Go.Proofs.YtahcfanmfocljaaDoor
