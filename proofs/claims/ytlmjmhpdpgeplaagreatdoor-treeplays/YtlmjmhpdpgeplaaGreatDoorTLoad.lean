/- A tree's Load: node at every depth, spanOf, Load. -/
import Derived.Test.YtlmjmhpdpgeplaaGreatDoorTNodeI
namespace Go.Proofs.YtlmjmhpdpgeplaaGreatDoor
open Go.RowKit Go.Lib

theorem node_t {r : Nat} {v : Value} {l : List UInt8} : ∀ (d s : Nat), s = 16 ^ d → ∀ (W : World) (gi a : Nat) (fr : ByteArray), RS2 W r v l a fr → Old2 W v → 1 ≤ gi → (0 < d → s + 1 ≤ gi) → gi ≤ 16 * s → gi ≤ 1000000 →
    Calls Tryz.prog 31 #[.pointer (some ⟨r, 0, none⟩), .int .i64 (gi : Int), .int .i64 (s : Int)] W (NodP W r v l d gi ((gi + s - 1) / s) a fr)
  | 0, s, hs, W, gi, a, fr, h, ho, h1, _, h3, _ => by
    obtain rfl : s = 1 := hs
    have e : (gi + 1 - 1) / 1 = gi := by simp
    rw [e]
    exact node_0 h ho h1 (by omega)
  | d + 1, s, hs, W, gi, a, fr, h, ho, h1, h2, h3, h4 => by
    have hp : 1 ≤ 16 ^ d := Nat.pos_of_ne_zero (by simp)
    exact node_1 (s16 := 16 ^ d) h ho (by rw [hs, Nat.pow_succ, Nat.mul_comm]) hp (h2 (Nat.succ_pos _)) h3 h4 rfl (fun W' gi' a' fr' k1 k2 k3 k4 k5 => node_t d _ rfl W' gi' a' fr' k1 k2 (by omega) (fun _ => k3) k4 (by omega))
/-- What spanOf tells. -/
def SpP (gaps : Nat) (w : World) (e : Ending) (w' : World) : Prop := ∃ s d : Nat, e = .returned (.int .i64 (s : Int)) ∧ w = w' ∧ s = 16 ^ d ∧ gaps ≤ 16 * s ∧ (0 < d → s + 1 ≤ gaps)
set_option maxHeartbeats 3200000 in
set_option maxRecDepth 100000 in
theorem span_t (gaps : Nat) (h1 : 1 ≤ gaps) (h2 : gaps ≤ 1000000) (w : World) : Calls Tryz.prog 32 #[.int .i64 (gaps : Int)] w (SpP gaps w) := by
  have hgi : (gaps : Int) ≤ 1000000 := by omega
  go_enter Tryz.func32, Tryz.ntmps32
  go_wp2_with fail
  go_loopw [3] (fun s3 wr => ∃ s : Nat, s3 = .int .i64 (s : Int) ∧ w = wr ∧ Hid ((∃ d, s = 16 ^ d ∧ (0 < d → s + 1 ≤ gaps)) ∧ 1 ≤ s ∧ s ≤ gaps)) (fun s3 _ => gaps - (RowKit.intOf s3).toNat)
  case atStart => exact ⟨1, rfl, rfl, ⟨0, rfl, fun h => absurd h (by decide)⟩, Nat.le_refl _, h1⟩
  case round =>
    obtain ⟨s, rfl, rfl, HD⟩ := hrel
    obtain ⟨q1, q2⟩ := (unhide HD).2
    by_cases hlt : s * 16 < gaps
    · have hlti : (s : Int) * 16 < (gaps : Int) := by omega
      have hw : IntKind.i64.wrap ((s : Int) * 16) = (s : Int) * 16 := by rw [IntKind.wrap_i64] <;> omega
      go_wp2_with fail
      go_roundw
      case rel =>
        obtain ⟨⟨d, e1, e2⟩, _⟩ := unhide HD
        exact ⟨s * 16, by simp, by first | rfl | trivial, ⟨d + 1, by rw [Nat.pow_succ, e1], fun _ => by omega⟩, by omega, by omega⟩
      case measure => simp [RowKit.intOf]; omega
    · have hlti : ¬ ((s : Int) * 16 < (gaps : Int)) := by omega
      have hw : IntKind.i64.wrap ((s : Int) * 16) = (s : Int) * 16 := by rw [IntKind.wrap_i64] <;> omega
      obtain ⟨⟨d, e1, e2⟩, _⟩ := unhide HD
      have HE := hide (And.intro e1 e2)
      clear e1 e2 HD
      go_wp2_with fail
      go_ret
      exact ⟨s, d, rfl, rfl, (unhide HE).1, by omega, (unhide HE).2⟩
/-- What Load tells. -/
def LoadP (w : World) (l : List UInt8) (e : Ending) (w' : World) : Prop :=
  Below w.heap.size w w' ∧ ((∃ F p O, rdTree l = some F ∧ e = .returned (.tuple #[.pointer (some ⟨p, 0, none⟩), .nilIface]) ∧ TreeAt w' p O F ∧ w.heap.size ≤ p ∧ ∀ g, O g → w.heap.size ≤ g) ∨ (rdTree l = none ∧ ∃ T x m, e = .returned (.tuple #[.pointer none, .iface T x]) ∧ Chn w' 20 (m + 1) (.iface T x)))
theorem BL.below2 {w w' : World} {v : Value} {l : List UInt8} (h : BL w w.heap.size v l) (hb : Below w.heap.size w w') : BL w' w'.heap.size v l := by
  obtain h | ⟨b, off, cap, rfl, h2, h3, h4, h5, h6⟩ := h
  · exact .inl h
  · have := hb.size
    exact .inr ⟨b, off, cap, rfl, h2, h3, by omega, by omega, fun i hi => (hb.cell (p := ⟨b, _, none⟩) h5).trans (h6 i hi)⟩
/-- A new variable, written at once. -/
theorem new_var (w : World) (T : TypeId) (x y : Value) : Below w.heap.size w (w.alloc (.cells #[x, y] T)) ∧ (w.alloc (.cells #[x, y] T)).heap[w.heap.size]? = some (.cells #[x, y] T (0, 0)) := ⟨(Below.refl _ _).alloc (Nat.le_refl _) _, heap_alloc_new _ _⟩
section
variable {w : World} {v : Value} {l : List UInt8}
set_option maxHeartbeats 12800000 in
set_option maxRecDepth 100000 in
theorem Load_any (hv : BL w w.heap.size v l) (hE : ET w) (hl : l.length ≤ 900000) : Calls Tryz.prog 19 #[v] w (LoadP w l) := by
  obtain ⟨W0, hW0⟩ : ∃ W0, W0 = w.alloc (.cells #[v, .int .i64 0, .string ⟨#[]⟩] 77) := ⟨_, rfl⟩
  have hb0 : Below w.heap.size w W0 := by rw [hW0]; exact (Below.refl _ _).alloc (Nat.le_refl _) _
  have hz0 : W0.heap.size = w.heap.size + 1 := by rw [hW0, World.size_alloc]
  obtain ⟨va, vc, hva⟩ : ∃ va vc, v = .slice va l.length vc := by
    obtain ⟨rfl, rfl⟩ | ⟨b, off, cap, rfl, _⟩ := hv
    · exact ⟨none, 0, rfl⟩
    · exact ⟨_, _, rfl⟩
  have hbl : ∀ b off n c, v = .slice (some ⟨b, off, none⟩) n c → b < w.heap.size := by
    intro b off n c e
    obtain ⟨h, _⟩ | ⟨b', off', cap, h, h2, h3, h4, h5, h6⟩ := hv
    · rw [h] at e; cases e
    · rw [h] at e; cases e; exact h5
  have hrs : RS2 W0 w.heap.size v l 0 ⟨#[]⟩ := by
    refine ⟨by rw [hW0]; exact heap_alloc_new _ _, ?_, Nat.zero_le _, by omega, hE.below hb0 hE.lt, by have := hE.lt; omega⟩
    obtain h | ⟨b, off, cap, rfl, h2, h3, h4, h5, h6⟩ := hv
    · exact .inl h
    · exact .inr ⟨b, off, cap, rfl, h2, h3, h4, by omega, fun i hi => (hb0.cell (p := ⟨b, _, none⟩) h5).trans (h6 i hi)⟩
  obtain ⟨r, hr⟩ : ∃ r, r = w.heap.size := ⟨_, rfl⟩
  rw [← hr] at hrs
  have HOld : Hid (∀ W, FrP r W0 W → Old2 W v ∧ Below w.heap.size w W ∧ w.heap.size < W.heap.size) := fun W hf => by
    have hz := hf.2.2.2.1
    exact ⟨⟨fun b off n c e => by have := hbl b off n c e; omega, by have := hE.lt; omega⟩, hf.below hb0 (by omega) (by omega), by omega⟩
  have HNum := hide (number_t hrs)
  have HL := hide hl
  obtain ⟨len, hlen⟩ : ∃ len, len = l.length := ⟨_, rfl⟩
  have HLen := hide hlen
  rw [← hlen] at hva
  subst hva
  clear hv hE hl hb0 hz0 hbl hrs hlen
  cases hx : rdNum l 0 with
  | none =>
    have HN : Hid (Calls Tryz.prog 30 #[.pointer (some ⟨r, 0, none⟩)] W0 fun e w1 => ∃ T x, e = .returned (.tuple #[.int .i64 0, .iface T x]) ∧ Hid (LoadP w l (.returned (.tuple #[.pointer none, .iface T x])) w1)) := by
      refine (unhide HNum).mono ?_
      rintro e w1 ⟨z1, ⟨k, a', zx, _⟩ | ⟨_, z2, T, x, rfl, z3⟩⟩
      · rw [hx] at zx; cases zx
      · exact ⟨T, x, rfl, (unhide HOld w1 z1).2.1, .inr ⟨by unfold rdTree; rw [hx], T, x, 0, rfl, z3⟩⟩
    clear HNum HOld HL HLen hx
    go_enter Tryz.func19, Tryz.ntmps19
    go_upto_region 2 with fail
    rw [← hW0, ← hr]
    clear hW0 hr
    go_wp2_with (go_at_call 30; refine (unhide HN).mono ?_; rintro e w1 ⟨T, x, rfl, HE⟩; clear HN)
    go_ret2
    exact unhide HE
  | some q =>
    obtain ⟨n, a⟩ := q
    have hnl : n ≤ 900000 := by have := (rdNum_some hx (Nat.zero_le _)).2.2.1; have := unhide HL; omega
    obtain ⟨gp, hgp⟩ : ∃ gp, gp = n + 1 := ⟨_, rfl⟩
    have hwg : IntKind.i64.wrap ((n : Int) + 1) = (gp : Int) := by rw [IntKind.wrap_i64] <;> omega
    have HN : Hid (Calls Tryz.prog 30 #[.pointer (some ⟨r, 0, none⟩)] W0 fun e w1 => e = .returned (.tuple #[.int .i64 (n : Int), .nilIface]) ∧ Hid (FrP r W0 w1 ∧ RS2 w1 r (.slice va len vc) l a ⟨#[]⟩)) := by
      refine (unhide HNum).mono ?_
      rintro e w1 ⟨z1, ⟨n', a', zx, rfl, z2⟩ | ⟨zx, _⟩⟩
      · rw [hx] at zx; cases zx; exact ⟨rfl, z1, z2⟩
      · rw [hx] at zx; cases zx
    have HSp : Hid (∀ W : World, FrP r W0 W → RS2 W r (.slice va len vc) l a ⟨#[]⟩ → Calls Tryz.prog 32 #[.int .i64 (gp : Int)] W fun e w' => ∃ s : Nat, e = .returned (.int .i64 (s : Int)) ∧ W = w' ∧ Hid (Calls Tryz.prog 31 #[.pointer (some ⟨r, 0, none⟩), .int .i64 (gp : Int), .int .i64 (s : Int)] W (fun e w2 => ∃ d : Nat, (∃ s', s' = 16 ^ d ∧ gp ≤ 16 * s' ∧ (0 < d → s' + 1 ≤ gp) ∧ NodP W r (.slice va len vc) l d gp ((gp + s' - 1) / s') a ⟨#[]⟩ e w2)))) := fun W hf hrs => by
      refine (span_t gp (by omega) (by omega) W).mono ?_
      rintro e w' ⟨s, d, rfl, rfl, hs, h16, hd⟩
      refine ⟨s, rfl, rfl, ?_⟩
      refine (node_t d s hs W gp a ⟨#[]⟩ hrs (unhide HOld W hf).1 (by omega) hd h16 (by omega)).mono ?_
      exact fun e w2 h => ⟨d, s, hs, h16, hd, h⟩
    clear HNum
    have hsub : gp - 1 = n := by omega
    cases hy : rdIts l n a ⟨#[]⟩ with
    | none =>
      have HNo : Hid (∀ W : World, FrP r W0 W → ∀ s : Nat, Calls Tryz.prog 31 #[.pointer (some ⟨r, 0, none⟩), .int .i64 (gp : Int), .int .i64 (s : Int)] W (fun e w2 => ∃ d : Nat, (∃ s', s' = 16 ^ d ∧ gp ≤ 16 * s' ∧ (0 < d → s' + 1 ≤ gp) ∧ NodP W r (.slice va len vc) l d gp ((gp + s' - 1) / s') a ⟨#[]⟩ e w2)) → Calls Tryz.prog 31 #[.pointer (some ⟨r, 0, none⟩), .int .i64 (gp : Int), .int .i64 (s : Int)] W fun e w2 => ∃ T x, e = .returned (.tuple #[.agg #[.slice none 0 0, .slice none 0 0], .iface T x]) ∧ Hid (∀ w3, Below w2.heap.size w2 w3 → LoadP w l (.returned (.tuple #[.pointer none, .iface T x])) w3)) := fun W hf s hc => by
        refine hc.mono ?_
        rintro e w2 ⟨d, s', _, _, _, z1, ⟨xs, a', fr', its, kids, xa, xn, xk, xb, xn', xk', zx, _⟩ | ⟨_, T, x, m, rfl, z2⟩⟩
        · rw [hsub, hy] at zx; cases zx
        · refine ⟨T, x, rfl, fun w3 hb => ⟨below_tr (unhide HOld w2 (hf.trans z1)).2.1 hb, .inr ⟨by unfold rdTree; rw [hx]; simp only; rw [hy], T, x, m, rfl, z2.below hb⟩⟩⟩
      clear HOld HL HLen hx hy hgp hsub hnl
      go_enter Tryz.func19, Tryz.ntmps19
      go_upto_region 2 with fail
      rw [← hW0, ← hr]
      clear hW0 hr
      go_upto_region 6 with (first
        | (go_at_call 30; refine (unhide HN).mono ?_; rintro e w1 ⟨rfl, H1⟩; clear HN; have HSp2 := hide (unhide HSp w1 (unhide H1).1 (unhide H1).2); clear HSp)
        | (go_at_call 32; refine (unhide HSp2).mono ?_; rintro e w2 ⟨s, rfl, rfl, HNd⟩; clear HSp2; have HNd2 := hide (unhide HNo w1 (unhide H1).1 s (unhide HNd)); clear HNd HNo)
        | (go_at_call 31; refine (unhide HNd2).mono ?_; rintro e w3 ⟨T, x, rfl, HE⟩; clear HNd2))
      have HB4 := hide (new_var w3 54 (.slice none 0 0) (.slice none 0 0))
      go_wp2_with fail
      go_ret2
      exact unhide HE _ (unhide HB4).1
    | some q2 =>
      obtain ⟨xs, a2, fr2⟩ := q2
      have HNo : Hid (∀ W : World, FrP r W0 W → ∀ s : Nat, Calls Tryz.prog 31 #[.pointer (some ⟨r, 0, none⟩), .int .i64 (gp : Int), .int .i64 (s : Int)] W (fun e w2 => ∃ d : Nat, (∃ s', s' = 16 ^ d ∧ gp ≤ 16 * s' ∧ (0 < d → s' + 1 ≤ gp) ∧ NodP W r (.slice va len vc) l d gp ((gp + s' - 1) / s') a ⟨#[]⟩ e w2)) → Calls Tryz.prog 31 #[.pointer (some ⟨r, 0, none⟩), .int .i64 (gp : Int), .int .i64 (s : Int)] W fun e w2 => ∃ (xa : Option Addr) (xn xk : Nat) (xb : Option Addr) (xn' xk' : Nat), e = .returned (.tuple #[.agg #[.slice xa xn xk, .slice xb xn' xk'], .nilIface]) ∧ Hid (FrP r W0 w2 ∧ RS2 w2 r (.slice va len vc) l a2 fr2 ∧ ∃ (d : Nat) (t : BT (d + 1)), NodeAt w2 (fun g => w.heap.size ≤ g) d t (.slice xa xn xk) (.slice xb xn' xk') ∧ RootOk d t ∧ flat d t = xs)) := fun W hf s hc => by
        refine hc.mono ?_
        rintro e w2 ⟨d, s', hs', h16, hd, z1, ⟨xs', a', fr', its, kids, xa, xn, xk, xb, xn', xk', zx, rfl, z2, z3, z4, z5, z6⟩ | ⟨zx, _⟩⟩
        · rw [hsub, hy] at zx
          cases zx
          have hsp : 0 < s' := by rw [hs']; exact Nat.pos_of_ne_zero (by simp)
          refine ⟨xa, xn, xk, xb, xn', xk', rfl, hf.trans z1, z6, d, BT.mk its kids, z2.mono (fun g hg => by have := (unhide HOld W hf).2.2; show w.heap.size ≤ g; have : W.heap.size ≤ g := hg; omega), ⟨z3, ?_, ?_⟩, z5⟩
          · show its.length ≤ 15
            have : (gp + s' - 1) / s' ≤ 16 := by
              rw [Nat.div_le_iff_le_mul_add_pred hsp]; omega
            omega
          · intro h0
            show 1 ≤ its.length
            have := (ceil_two hsp (hd h0) h16).1
            omega
        · rw [hsub, hy] at zx; cases zx
      have HA2 : Hid (rdIts l n a ⟨#[]⟩ = some (xs, a2, fr2)) := hy
      have HX := hide hx
      clear hx hy
      by_cases hlt : a2 < len
      · have hlti : (a2 : Int) < (len : Int) := by omega
        have HBad : Hid (∀ w3, FrP r W0 w3 → ∀ W4, Below w3.heap.size w3 W4 → RS2 W4 r (.slice va len vc) l a2 fr2 → Calls Tryz.prog 33 #[.pointer (some ⟨r, 0, none⟩), .iface 67 (.int .i64 20)] W4 fun e w5 => ∃ T x, e = .returned (.iface T x) ∧ Hid (LoadP w l (.returned (.tuple #[.pointer none, .iface T x])) w5)) := fun w3 hf W4 hb hrs => by
          refine (fault_c hrs).mono ?_
          rintro e w5 ⟨T, x, rfl, z1, z2⟩
          refine ⟨T, x, rfl, below_tr (below_tr (unhide HOld w3 hf).2.1 hb) z2, .inr ⟨?_, T, x, 0, rfl, z1⟩⟩
          unfold rdTree; rw [unhide HX]; simp only; rw [unhide HA2]
          exact if_pos (by rw [← unhide HLen]; exact hlt)
        clear HOld HL HLen HA2 HX hlt hgp hsub hnl
        go_enter Tryz.func19, Tryz.ntmps19
        go_upto_region 2 with fail
        rw [← hW0, ← hr]
        clear hW0 hr
        go_upto_region 6 with (first
          | (go_at_call 30; refine (unhide HN).mono ?_; rintro e w1 ⟨rfl, H1⟩; clear HN; have HSp2 := hide (unhide HSp w1 (unhide H1).1 (unhide H1).2); clear HSp)
          | (go_at_call 32; refine (unhide HSp2).mono ?_; rintro e w2 ⟨s, rfl, rfl, HNd⟩; clear HSp2; have HNd2 := hide (unhide HNo w1 (unhide H1).1 s (unhide HNd)); clear HNd HNo)
          | (go_at_call 31; refine (unhide HNd2).mono ?_; rintro e w3 ⟨xa, xn, xk, xb, xn', xk', rfl, HE⟩; clear HNd2))
        obtain ⟨W4, hW4⟩ : ∃ W4, W4 = w3.alloc (.cells #[.slice xa xn xk, .slice xb xn' xk'] 54) := ⟨_, rfl⟩
        rw [← hW4]
        have hb4 : Below w3.heap.size w3 W4 := by rw [hW4]; exact (new_var _ _ _ _).1
        have hrs4 := (unhide HE).2.1.below hb4
        have c1 := hrs4.1.cells.2.1
        have HF := hide (unhide HBad w3 (unhide HE).1 W4 hb4 hrs4)
        clear hW4 hb4 hrs4 HE HBad H1
        go_wp2_with (go_at_call 33; refine (unhide HF).mono ?_; rintro e w5 ⟨T, x, rfl, HG⟩; clear HF)
        go_ret2
        exact unhide HG
      · have hlti : ¬ ((a2 : Int) < (len : Int)) := by omega
        have hrt : rdTree l = some xs := by
          unfold rdTree; rw [unhide HX]; simp only; rw [unhide HA2]
          exact if_neg (by rw [← unhide HLen]; exact hlt)
        have hxn : xs.length = n := (rdIts_some (unhide HA2) (by have := (rdNum_some (unhide HX) (Nat.zero_le _)).2.2.1; omega)).2.2.1
        have HG : Hid (∀ w3, FrP r W0 w3 → ∀ W4, Below w3.heap.size w3 W4 → w3.heap.size < W4.heap.size → ∀ (xa xb : Option Addr) (xn xk xn' xk' d : Nat) (t : BT (d + 1)), NodeAt w3 (fun g => w.heap.size ≤ g) d t (.slice xa xn xk) (.slice xb xn' xk') → RootOk d t → flat d t = xs → LoadP w l (.returned (.tuple #[.pointer (some ⟨W4.heap.size, 0, none⟩), .nilIface])) (W4.alloc (.cells #[.slice xa xn xk, .slice xb xn' xk', .int .i64 (n : Int)] 56))) := fun w3 hf W4 hb hz xa xb xn xk xn' xk' d t hn ho hfl => by
          have hb5 : Below W4.heap.size W4 (W4.alloc (.cells #[.slice xa xn xk, .slice xb xn' xk', .int .i64 (n : Int)] 56)) := (Below.refl _ _).alloc (Nat.le_refl _) _
          have hbw := below_tr (unhide HOld w3 hf).2.1 hb
          refine ⟨below_tr hbw hb5, .inl ⟨xs, W4.heap.size, fun g => w.heap.size ≤ g ∧ g < w3.heap.size, hrt, rfl, ⟨d, t, xa, xb, xn, xk, xn', xk', ?_, hn.lt.below (below_tr hb hb5), ho, hfl, (rdTree_some hrt).2.1, fun h => by have := h.2; omega⟩, hbw.size, fun g hg => hg.1⟩⟩
          unfold TV
          rw [hxn]
          exact heap_alloc_new _ _
        clear HOld HL HLen HA2 HX hlt hrt hxn hgp hsub hnl
        go_enter Tryz.func19, Tryz.ntmps19
        go_upto_region 2 with fail
        rw [← hW0, ← hr]
        clear hW0 hr
        go_upto_region 6 with (first
          | (go_at_call 30; refine (unhide HN).mono ?_; rintro e w1 ⟨rfl, H1⟩; clear HN; have HSp2 := hide (unhide HSp w1 (unhide H1).1 (unhide H1).2); clear HSp)
          | (go_at_call 32; refine (unhide HSp2).mono ?_; rintro e w2 ⟨s, rfl, rfl, HNd⟩; clear HSp2; have HNd2 := hide (unhide HNo w1 (unhide H1).1 s (unhide HNd)); clear HNd HNo)
          | (go_at_call 31; refine (unhide HNd2).mono ?_; rintro e w3 ⟨xa, xn, xk, xb, xn', xk', rfl, HE⟩; clear HNd2))
        obtain ⟨W4, hW4⟩ : ∃ W4, W4 = w3.alloc (.cells #[.slice xa xn xk, .slice xb xn' xk'] 54) := ⟨_, rfl⟩
        rw [← hW4]
        obtain ⟨hb4, hnv⟩ := new_var w3 54 (.slice xa xn xk) (.slice xb xn' xk')
        rw [← hW4] at hb4 hnv
        have hrs4 := (unhide HE).2.1.below hb4
        have c1 := hrs4.1.cells.2.1
        obtain ⟨d0, d1, _, _⟩ := NV.cells hnv
        have hz4 := blk_lt hnv
        have HF : Hid (LoadP w l (.returned (.tuple #[.pointer (some ⟨W4.heap.size, 0, none⟩), .nilIface])) (W4.alloc (.cells #[.slice xa xn xk, .slice xb xn' xk', .int .i64 (n : Int)] 56))) := by
          obtain ⟨q1, q2, d, t, q3, q4, q5⟩ := unhide HE
          exact unhide HG w3 q1 W4 hb4 hz4 _ _ _ _ _ _ d t q3 q4 q5
        clear hW4 hb4 hrs4 HE HG H1 hnv hz4
        go_wp2_with fail
        go_ret2
        exact unhide HF
end
end Go.Proofs.YtlmjmhpdpgeplaaGreatDoor
