/- The walk of the statement SnapPlays: it answers true; nothing old turns. -/
import Derived.Test.YtpminalccnhkjaaGreatDoorSXLaw0
namespace Go.Proofs.YtpminalccnhkjaaGreatDoor
open Go.RowKit Go.Lib

theorem rst_q {w W : World} {p q bx m a1 a2 : Nat} {la : List UInt8} {o1 : Option Sn} {va vx kv : Value} {X : Obj} {l : List UInt8} {ks : List Int} (h : RST w W p q bx m o1 (a1, a2, la) va X vx l kv ks) : Sv W q (.int .u64 (a1 : Int)) (.int .u64 (a2 : Int)) va := by
  obtain ⟨_, _, _, _, _, _, _, _, h, _⟩ := h
  exact h
theorem rst_x {w W : World} {p q bx m : Nat} {A : Sn} {o1 : Option Sn} {va vx kv : Value} {X : Obj} {l : List UInt8} {ks : List Int} (h : RST w W p q bx m o1 A va X vx l kv ks) : W.heap[bx]? = some X := by
  obtain ⟨_, _, _, _, _, _, _, _, _, h, _⟩ := h
  exact h
theorem hd_bel {w W : World} {p q m n dk : Nat} {o : Option Sn} {da : Option Addr} (h : HD w W p q m o da n dk) : Below w.heap.size w W := by
  obtain ⟨_, _, _, _, _, _, _, _, _, _, h, _⟩ := h
  exact h
theorem hd_new {w W2 : World} {p m : Nat} (h : Dk.DX W2 p ⟨200000, 0, false, false, 0⟩ [] (fun k => k = p)) (hb : Below w.heap.size w W2) (hp : w.heap.size ≤ p) (hm : m ≤ 96) : HD w (W2.alloc (.cells #[.int .u64 0, .int .u64 0, .slice none 0 0] 34)) p W2.heap.size m none none 0 0 := by
  have hbA : Below W2.heap.size W2 (W2.alloc (.cells #[.int .u64 0, .int .u64 0, .slice none 0 0] 34)) := below_alloc _ (Nat.le_refl _)
  refine ⟨_, none, _, h.below hbA, gok_none, (fun s hs => by cases hs), ⟨rfl, by decide, by show (0 : Int) + (m : Int) ≤ 1000; omega, fun hh => by cases hh⟩, rfl, rfl, fun k hk => ⟨by omega, by have := h.lt k hk; omega⟩, bt hb hbA, hb.size, Sv.new W2 _ _ _, by decide, .inl ⟨rfl, rfl⟩⟩
set_option maxHeartbeats 25600000 in
set_option maxRecDepth 100000 in
theorem plays_small (n ck : Nat) (aa : Option Addr) (gs : List GX) (w : World) (hn : n = gs.length) (h24 : n ≤ 24) (hin : InX w aa gs) (hE : ET w) (hT : ST w) :
    Calls Tryz.prog 4 #[.slice aa n ck] w fun e w' => e = .returned (.bool true) ∧ Below w.heap.size w w' := by
  have HK := hide (known4_any w hE hT)
  have HIN : Hid (∀ k, k < n → ∃ x, gs[k]? = some x ∧ GX.ok w x ∧ ∃ b off, aa = some ⟨b, off, none⟩ ∧ b < w.heap.size ∧ ∀ j v, x.cells[j]? = some v → w.cell? ⟨b, off + k * 6 + j, none⟩ = some v) := hide fun k hk => by
    have hk' : k < gs.length := by omega
    have e : gs[k]? = some gs[k] := List.getElem?_eq_getElem hk'
    exact ⟨gs[k], e, hin k _ e⟩
  have HE := hide hE
  have HT := hide hT
  have hg1 : ¬ ((24 : Int) < (n : Int)) := by omega
  have HN : Hid (∀ W, Calls Tryz.prog 7 #[.int .i64 200000] W fun e w' => e = .returned (.pointer (some ⟨W.heap.size, 0, none⟩)) ∧ Dk.DX w' W.heap.size ⟨200000, 0, false, false, 0⟩ [] (fun k => k = W.heap.size) ∧ Below W.heap.size W w') := hide fun W => Dk.dx_new W 200000 (by decide)
  clear hin hE hT hn
  go_enter Tryz.func4, Tryz.ntmps4
  go_wp2_with (first
    | (go_at_call 6; refine (unhide HK).mono ?_; rintro e w1 ⟨rfl, b1⟩; clear HK)
    | (go_at_call 7; refine (unhide HN _).mono ?_; rintro e w2 ⟨rfl, d2, b2⟩; clear HN; have HD0 := hide (hd_new (m := 4 * (n - 0)) d2 (bt b1 b2) b1.size (by omega)); have HQ : Hid (w.heap.size ≤ w2.heap.size) := hide (bt b1 b2).size; clear d2 b2 b1))
  generalize w1.heap.size = p at *
  generalize w2.heap.size = q at *
  go_loopw [5, 6] (fun s5 s6 wr => ∃ (k : Nat) (o : Option Sn) (da : Option Addr) (nn dk : Nat), k ≤ n ∧ s5 = .bool o.isSome ∧ s6 = .int .i64 k ∧ Hid (HD w wr p q (4 * (n - k)) o da nn dk)) (fun _ s6 _ => n - (intOf s6).toNat)
  case atStart => exact ⟨0, none, none, 0, 0, by omega, rfl, rfl, HD0⟩
  case round =>
    obtain ⟨k, o, da, nn, dk, hk, rfl, rfl, hrl⟩ := hrel
    by_cases hlt : k < n
    · have hki : (k : Int) < (n : Int) := by omega
      obtain ⟨x, _, hxok, b, off, rfl, hbw, hcx⟩ := unhide HIN k hlt
      have hbel := (hd_bel (unhide hrl))
      have hcr : ∀ j v, x.cells[j]? = some v → wr.cell? ⟨b, off + k * 6 + j, none⟩ = some v := fun j v hj => (hbel.cell (p := ⟨b, off + k * 6 + j, none⟩) hbw).trans (hcx j v hj)
      clear hcx
      obtain ⟨mm, hmm⟩ : ∃ z, z = 4 * (n - (k + 1)) := ⟨_, rfl⟩
      have hm4 : 4 * (n - k) = mm + 4 := by omega
      rw [hm4] at hrl
      obtain ⟨what, halt, xi, xt, xda, xdk, xl, xka, xkk, xks⟩ := x
      have c0 : wr.cell? ⟨b, off + k * 6, none⟩ = some (.int .i64 what) := hcr 0 _ rfl
      have c1 : wr.cell? ⟨b, off + k * 6 + 1, none⟩ = some (.int .i64 halt) := hcr 1 _ rfl
      have c2 : wr.cell? ⟨b, off + k * 6 + 2, none⟩ = some (.int .u64 (xi : Int)) := hcr 2 _ rfl
      have c3 : wr.cell? ⟨b, off + k * 6 + 3, none⟩ = some (.int .u64 (xt : Int)) := hcr 3 _ rfl
      have c4 : wr.cell? ⟨b, off + k * 6 + 4, none⟩ = some (.slice xda xl.length xdk) := hcr 4 _ rfl
      have c5 : wr.cell? ⟨b, off + k * 6 + 5, none⟩ = some (.slice xka xks.length xkk) := hcr 5 _ rfl
      clear hcr
      have hbl : xl.length ≤ maxLen := hxok.bl
      have hkb : xks.length ≤ maxLen := hxok.kl
      have HB := hide hbel
      have HBX : Hid (Below w.heap.size w (wr.alloc (.cells #[.int .i64 what, .int .i64 halt, .int .u64 (xi : Int), .int .u64 (xt : Int), .slice xda xl.length xdk, .slice xka xks.length xkk] 47))) := hide (bt hbel (below_alloc _ (Nat.le_refl _)))
      clear hbel
      by_cases hl : xl.length ≤ 1500
      · by_cases hkl : xks.length ≤ 80
        · have hl1 : ¬ ((1500 : Int) < (xl.length : Int)) := by omega
          have hl2 : ¬ ((80 : Int) < (xks.length : Int)) := by omega
          obtain ⟨S, g, O, _, hh⟩ := hf_new (m := mm) (unhide hrl) hxok hl
          have HH0 : Hid (HF w (wr.alloc (.cells #[.int .i64 what, .int .i64 halt, .int .u64 (xi : Int), .int .u64 (xt : Int), .slice xda xl.length xdk, .slice xka xks.length xkk] 47)) p q wr.heap.size mm S o g O (nowS o) (.slice da nn dk) ⟨what, halt, xi, xt, xda, xdk, xl, xka, xkk, xks⟩) := hide hh
          clear hh hrl
          go_upto_region 12 with fail
          clear c0 c1 c2 c3 c4 c5
          generalize wr.alloc (.cells #[.int .i64 what, .int .i64 halt, .int .u64 (xi : Int), .int .u64 (xt : Int), .slice xda xl.length xdk, .slice xka xks.length xkk] 47) = W1 at *
          generalize wr.heap.size = bx at *
          obtain ⟨x0, x1, x2, x3, x4, x5⟩ := (unhide HH0).cells
          obtain ⟨r3, hr3⟩ : ∃ z, Int.tmod what 3 = z := ⟨_, rfl⟩
          have hr31 : -2 ≤ r3 ∧ r3 ≤ 2 := by have h1 := Int.tmod_lt_of_pos what (show (0 : Int) < 3 by decide); have h2 := Int.lt_tmod_of_pos what (show (0 : Int) < 3 by decide); omega
          by_cases hr0 : r3 = 0
          · subst hr0
            go_upto_region 16 with fail
            clear x0 x1 x2 x3 x4 x5
            obtain ⟨W2, hW2⟩ : ∃ z, z = W1 := ⟨_, rfl⟩
            subst hW2
            have HH := HH0
            clear HH0
            cases o with
            | none =>
              obtain ⟨⟨n1, n2, nl⟩, hnz⟩ : ∃ z : Sn, z = nowS none := ⟨_, rfl⟩
              have HH : Hid (HF w W2 p q bx mm S none g O (n1, n2, nl) (.slice da nn dk) ⟨what, halt, xi, xt, xda, xdk, xl, xka, xkk, xks⟩) := by rw [hnz]; exact HH
              by_cases hq : SaveBad S none g xi
              · obtain ⟨sbb, hsb⟩ : ∃ z, decide (((n1, n2, nl) : Sn) = (xi, xt, xl)) = z := ⟨_, rfl⟩
                have hsn : decide (((n1, n2, nl) : Sn) = (n1, n2, nl)) = true := decide_eq_true rfl
                have ho1 : oOk (none : Option Sn) := (unhide HH).ho
                have hC : nowS (none : Option Sn) = (n1, n2, nl) := hnz.symm
                have hok : Option.isSome (none : Option Sn) = false := rfl
                have PT := hide (fun W8 (hr : RST w W8 p q bx mm (none : Option Sn) (n1, n2, nl) (.slice da nn dk) (GX.obj ⟨what, halt, xi, xt, xda, xdk, xl, xka, xkk, xks⟩) (.slice xda xl.length xdk) xl (.slice xka xks.length xkk) xks) => tail_any (a1 := n1) (a2 := n2) (la := nl) (b1 := xi) (b2 := xt) (lb := xl) (c1 := n1) (c2 := n2) (lc := nl) (vb := (.slice xda xl.length xdk)) (ok := false) (sb := sbb) (sn := true) hr ho1 (unhide HQ) (unhide HE) (unhide HT) hkl (.inr ⟨rfl, rfl⟩) hC hok hsb hsn)
                clear hC hok ho1 hsb hsn hnz
                have PR := hide (fun W5 k4 a4 (F : SF w W5 p q bx W2.heap.size mm xi xt xl.length k4 S (none : Option Sn) g O (n1, n2, nl) (.slice da nn dk) (.slice xda xl.length xdk) (.slice xka xks.length xkk) (GX.obj ⟨what, halt, xi, xt, xda, xdk, xl, xka, xkk, xks⟩) xl xks a4) => round_cut F (unhide HE) (unhide HT) hq)
                clear hq
                have HM := hide (fun w4 v4 => sf_make (w4 := w4) (v4 := v4) (unhide HH) hxok hl)
                have HRZ := hide ((unhide HH).dt.2.1.re (dk_below (O := O) (below_alloc (.cells #[.int .u64 (xi : Int), .int .u64 (xt : Int), .slice xda xl.length xdk] 34) (Nat.le_refl W2.heap.size))) (fun k hk => .inl hk))
                have hxz := (Array.getElem?_eq_some_iff.1 (unhide HH).xv).1
                obtain ⟨x0, x1, x2, x3, x4, x5⟩ := (unhide HH).cells
                clear HH hxok
                go_wp2_with (first
                  | (at_builtin; refine wpList_append_z rfl (.const (.slice none 0 0)) (.tmp 54) rfl _ 0 [] rfl (World.ownsRow_nil _ _ _ _) O _ xl rfl (unhide HRZ) (by omega) ?_; intro v4 w4 ho4 hg4 hl4; clear HRZ x0 x1 x2 x3 x4 x5; obtain ⟨a4, k4, rfl, hsv4, _, hsf⟩ := unhide HM w4 v4 ho4 hg4 hl4; clear HM ho4 hg4 hl4; obtain ⟨u0, u1, u2, u3, u4, u5⟩ := hsv4.cells; have PS := hide (unhide PR _ _ _ hsf); clear PR hsv4 hsf)
                  | (go_at_call 10; refine (unhide PS).mono ?_; clear u0 u1 u2 u3 u4 u5; rintro e w6 ⟨eb, rfl, hs6, hsp⟩; clear PS; obtain ⟨u0, u1, u2, u3, u4, u5⟩ := (unhide hs6).cells; clear hs6)
                  | (go_at_call 16; refine (unhide hsp).mono ?_; clear u0 u1 u2 u3 u4 u5; rintro e w7 ⟨rfl, hr7⟩; clear hsp)
                  | (go_at_call 17; refine (unhide hr7).mono ?_; rintro e w8 ⟨rfl, hr8⟩; clear hr7; have P8 := hide (unhide PT _ (unhide hr8)); clear PT; obtain ⟨z0, z1, z2, z3, z4, z5⟩ := (rst_q (unhide hr8)).cells; obtain ⟨x0, x1, x2, x3, x4, x5⟩ := obj_cells (rst_x (unhide hr8)); have hzq := (rst_q (unhide hr8)).lt; have hzx := (Array.getElem?_eq_some_iff.1 (rst_x (unhide hr8))).1; clear hr8)
                  | (go_at_call 11; refine (unhide P8).mono ?_; clear z0 z1 z2 z3 z4 z5 x0 x1 x2 x3 x4 x5 hzq hzx; rintro e w10 ⟨rfl, H10⟩; clear P8)
                  | (go_at_call 12; refine (unhide H10).mono ?_; rintro e w11 ⟨sa, sn, sk, rfl, H11⟩; clear H10; have h12 := unhide H11 _ (Below.refl _ _); obtain ⟨s1, s2, s3, hcB, hcA, hfin⟩ := h12; obtain ⟨z0, z1, z2, z3, z4, z5⟩ := s1.cells; obtain ⟨y0, y1', y2', _, _, _⟩ := s2.cells; obtain ⟨v0, v1, v2, _, _, _⟩ := s3.cells; clear s1 s2 s3)
                  | (go_at_call 18; refine (unhide hcA).mono ?_; clear hcB hcA hfin z0 z1 z2 z3 z4 z5 y0 y1' y2' v0 v1 v2; rintro e w13 ⟨rfl, hb13⟩; have h13 := unhide H11 _ hb13; have HB13 := hide hb13; clear hb13; obtain ⟨s1, s2, s3, _, _, hfin⟩ := h13; obtain ⟨z0, z1, z2, z3, z4, z5⟩ := s1.cells; obtain ⟨y0, y1', y2', _, _, _⟩ := s2.cells; obtain ⟨v0, v1, v2, _, _, _⟩ := s3.cells; clear s1 s2 s3))
                go_roundw
                case rel => exact ⟨k + 1, (none : Option Sn), sa, sn, sk, by omega, rfl, by go_num, by have hh := unhide hfin; rw [hmm] at hh; exact hh⟩
                case measure => simp [intOf]; omega
              · obtain ⟨snn, hsn⟩ : ∃ z, decide (((xi, xt, xl) : Sn) = (n1, n2, nl)) = z := ⟨_, rfl⟩
                have hsb : decide (((xi, xt, xl) : Sn) = (xi, xt, xl)) = true := decide_eq_true rfl
                have ho1 : oOk (savedO none (xi, xt, xl)) := sn_saved (unhide HH).ho ⟨hxok.i, hxok.t, hl⟩
                have hC : nowS (savedO none (xi, xt, xl)) = (xi, xt, xl) := rfl
                have hok : Option.isSome (savedO none (xi, xt, xl)) = true := is_saved _ _
                have PT := hide (fun W8 (hr : RST w W8 p q bx mm (savedO none (xi, xt, xl)) (n1, n2, nl) (.slice da nn dk) (GX.obj ⟨what, halt, xi, xt, xda, xdk, xl, xka, xkk, xks⟩) (.slice xda xl.length xdk) xl (.slice xka xks.length xkk) xks) => tail_any (a1 := n1) (a2 := n2) (la := nl) (b1 := xi) (b2 := xt) (lb := xl) (c1 := xi) (c2 := xt) (lc := xl) (vb := (.slice xda xl.length xdk)) (ok := true) (sb := true) (sn := snn) hr ho1 (unhide HQ) (unhide HE) (unhide HT) hkl (.inr ⟨rfl, rfl⟩) hC hok hsb hsn)
                clear hC hok ho1 hsb hsn hnz
                have PR := hide (fun W5 k4 a4 (F : SF w W5 p q bx W2.heap.size mm xi xt xl.length k4 S (none : Option Sn) g O (n1, n2, nl) (.slice da nn dk) (.slice xda xl.length xdk) (.slice xka xks.length xkk) (GX.obj ⟨what, halt, xi, xt, xda, xdk, xl, xka, xkk, xks⟩) xl xks a4) => round_done F (unhide HE) (unhide HT) hq)
                clear hq
                have HM := hide (fun w4 v4 => sf_make (w4 := w4) (v4 := v4) (unhide HH) hxok hl)
                have HRZ := hide ((unhide HH).dt.2.1.re (dk_below (O := O) (below_alloc (.cells #[.int .u64 (xi : Int), .int .u64 (xt : Int), .slice xda xl.length xdk] 34) (Nat.le_refl W2.heap.size))) (fun k hk => .inl hk))
                have hxz := (Array.getElem?_eq_some_iff.1 (unhide HH).xv).1
                obtain ⟨x0, x1, x2, x3, x4, x5⟩ := (unhide HH).cells
                clear HH hxok
                go_wp2_with (first
                  | (at_builtin; refine wpList_append_z rfl (.const (.slice none 0 0)) (.tmp 54) rfl _ 0 [] rfl (World.ownsRow_nil _ _ _ _) O _ xl rfl (unhide HRZ) (by omega) ?_; intro v4 w4 ho4 hg4 hl4; clear HRZ x0 x1 x2 x3 x4 x5; obtain ⟨a4, k4, rfl, hsv4, _, hsf⟩ := unhide HM w4 v4 ho4 hg4 hl4; clear HM ho4 hg4 hl4; obtain ⟨u0, u1, u2, u3, u4, u5⟩ := hsv4.cells; have PS := hide (unhide PR _ _ _ hsf); clear PR hsv4 hsf)
                  | (go_at_call 10; refine (unhide PS).mono ?_; clear u0 u1 u2 u3 u4 u5; rintro e w6 ⟨rfl, hs6, hsp⟩; clear PS; obtain ⟨u0, u1, u2, u3, u4, u5⟩ := (unhide hs6).cells; clear hs6)
                  | (go_at_call 16; refine (unhide hsp).mono ?_; clear u0 u1 u2 u3 u4 u5; rintro e w7 ⟨rfl, hr7⟩; clear hsp; have P8 := hide (unhide PT _ (unhide hr7)); clear PT; obtain ⟨z0, z1, z2, z3, z4, z5⟩ := (rst_q (unhide hr7)).cells; obtain ⟨x0, x1, x2, x3, x4, x5⟩ := obj_cells (rst_x (unhide hr7)); have hzq := (rst_q (unhide hr7)).lt; have hzx := (Array.getElem?_eq_some_iff.1 (rst_x (unhide hr7))).1; clear hr7)
                  | (go_at_call 11; refine (unhide P8).mono ?_; clear z0 z1 z2 z3 z4 z5 x0 x1 x2 x3 x4 x5 hzq hzx; rintro e w10 ⟨rfl, H10⟩; clear P8)
                  | (go_at_call 12; refine (unhide H10).mono ?_; rintro e w11 ⟨sa, sn, sk, rfl, H11⟩; clear H10; have h12 := unhide H11 _ (Below.refl _ _); obtain ⟨s1, s2, s3, hcB, hcA, hfin⟩ := h12; obtain ⟨z0, z1, z2, z3, z4, z5⟩ := s1.cells; obtain ⟨y0, y1', y2', _, _, _⟩ := s2.cells; obtain ⟨v0, v1, v2, _, _, _⟩ := s3.cells; clear s1 s2 s3)
                  | (go_at_call 18; refine (unhide hcB).mono ?_; clear hcB hcA hfin z0 z1 z2 z3 z4 z5 y0 y1' y2' v0 v1 v2; rintro e w13 ⟨rfl, hb13⟩; have h13 := unhide H11 _ hb13; have HB13 := hide hb13; clear hb13; obtain ⟨s1, s2, s3, _, _, hfin⟩ := h13; obtain ⟨z0, z1, z2, z3, z4, z5⟩ := s1.cells; obtain ⟨y0, y1', y2', _, _, _⟩ := s2.cells; obtain ⟨v0, v1, v2, _, _, _⟩ := s3.cells; clear s1 s2 s3))
                go_roundw
                case rel => exact ⟨k + 1, (savedO none (xi, xt, xl)), sa, sn, sk, by omega, by rw [is_saved], by go_num, by have hh := unhide hfin; rw [hmm] at hh; exact hh⟩
                case measure => simp [intOf]; omega
            | some y =>
              obtain ⟨y1, y2, yl⟩ := y
              have HH : Hid (HF w W2 p q bx mm S (some (y1, y2, yl)) g O (y1, y2, yl) (.slice da nn dk) ⟨what, halt, xi, xt, xda, xdk, xl, xka, xkk, xks⟩) := HH
              by_cases hy : xi < y1
              · have hyi : ¬ ((y1 : Int) ≤ (xi : Int)) := by omega
                by_cases hq : SaveBad S (some (y1, y2, yl)) g xi
                · have hsb : decide (((y1, y2, yl) : Sn) = (y1, y2, yl)) = true := decide_eq_true rfl
                  have hsn := hsb
                  have ho1 : oOk (some (y1, y2, yl)) := (unhide HH).ho
                  have hC : nowS (some (y1, y2, yl)) = (y1, y2, yl) := rfl
                  have hok : Option.isSome (some (y1, y2, yl)) = true := rfl
                  have PT := hide (fun W8 (hr : RST w W8 p q bx mm (some (y1, y2, yl)) (y1, y2, yl) (.slice da nn dk) (GX.obj ⟨what, halt, xi, xt, xda, xdk, xl, xka, xkk, xks⟩) (.slice xda xl.length xdk) xl (.slice xka xks.length xkk) xks) => tail_any (a1 := y1) (a2 := y2) (la := yl) (b1 := y1) (b2 := y2) (lb := yl) (c1 := y1) (c2 := y2) (lc := yl) (vb := (.slice da nn dk)) (ok := true) (sb := true) (sn := true) hr ho1 (unhide HQ) (unhide HE) (unhide HT) hkl (.inl ⟨rfl, rfl⟩) hC hok hsb hsn)
                  clear hC hok ho1 hsb hsn
                  have PR := hide (fun W5 k4 a4 (F : SF w W5 p q bx W2.heap.size mm xi xt xl.length k4 S (some (y1, y2, yl)) g O (y1, y2, yl) (.slice da nn dk) (.slice xda xl.length xdk) (.slice xka xks.length xkk) (GX.obj ⟨what, halt, xi, xt, xda, xdk, xl, xka, xkk, xks⟩) xl xks a4) => round_cut F (unhide HE) (unhide HT) hq)
                  clear hq
                  have HM := hide (fun w4 v4 => sf_make (w4 := w4) (v4 := v4) (unhide HH) hxok hl)
                  have HRZ := hide ((unhide HH).dt.2.1.re (dk_below (O := O) (below_alloc (.cells #[.int .u64 (xi : Int), .int .u64 (xt : Int), .slice xda xl.length xdk] 34) (Nat.le_refl W2.heap.size))) (fun k hk => .inl hk))
                  have hxz := (Array.getElem?_eq_some_iff.1 (unhide HH).xv).1
                  obtain ⟨x0, x1, x2, x3, x4, x5⟩ := (unhide HH).cells
                  clear HH hxok
                  go_wp2_with (first
                    | (at_builtin; refine wpList_append_z rfl (.const (.slice none 0 0)) (.tmp 54) rfl _ 0 [] rfl (World.ownsRow_nil _ _ _ _) O _ xl rfl (unhide HRZ) (by omega) ?_; intro v4 w4 ho4 hg4 hl4; clear HRZ x0 x1 x2 x3 x4 x5; obtain ⟨a4, k4, rfl, hsv4, _, hsf⟩ := unhide HM w4 v4 ho4 hg4 hl4; clear HM ho4 hg4 hl4; obtain ⟨u0, u1, u2, u3, u4, u5⟩ := hsv4.cells; have PS := hide (unhide PR _ _ _ hsf); clear PR hsv4 hsf)
                    | (go_at_call 10; refine (unhide PS).mono ?_; clear u0 u1 u2 u3 u4 u5; rintro e w6 ⟨eb, rfl, hs6, hsp⟩; clear PS; obtain ⟨u0, u1, u2, u3, u4, u5⟩ := (unhide hs6).cells; clear hs6)
                    | (go_at_call 16; refine (unhide hsp).mono ?_; clear u0 u1 u2 u3 u4 u5; rintro e w7 ⟨rfl, hr7⟩; clear hsp)
                    | (go_at_call 17; refine (unhide hr7).mono ?_; rintro e w8 ⟨rfl, hr8⟩; clear hr7; have P8 := hide (unhide PT _ (unhide hr8)); clear PT; obtain ⟨z0, z1, z2, z3, z4, z5⟩ := (rst_q (unhide hr8)).cells; obtain ⟨x0, x1, x2, x3, x4, x5⟩ := obj_cells (rst_x (unhide hr8)); have hzq := (rst_q (unhide hr8)).lt; have hzx := (Array.getElem?_eq_some_iff.1 (rst_x (unhide hr8))).1; clear hr8)
                    | (go_at_call 11; refine (unhide P8).mono ?_; clear z0 z1 z2 z3 z4 z5 x0 x1 x2 x3 x4 x5 hzq hzx; rintro e w10 ⟨rfl, H10⟩; clear P8)
                    | (go_at_call 12; refine (unhide H10).mono ?_; rintro e w11 ⟨sa, sn, sk, rfl, H11⟩; clear H10; have h12 := unhide H11 _ (Below.refl _ _); obtain ⟨s1, s2, s3, hcB, hcA, hfin⟩ := h12; obtain ⟨z0, z1, z2, z3, z4, z5⟩ := s1.cells; obtain ⟨y0, y1', y2', _, _, _⟩ := s2.cells; obtain ⟨v0, v1, v2, _, _, _⟩ := s3.cells; clear s1 s2 s3)
                    | (go_at_call 18; refine (unhide hcB).mono ?_; clear hcB hcA hfin z0 z1 z2 z3 z4 z5 y0 y1' y2' v0 v1 v2; rintro e w13 ⟨rfl, hb13⟩; have h13 := unhide H11 _ hb13; have HB13 := hide hb13; clear hb13; obtain ⟨s1, s2, s3, _, _, hfin⟩ := h13; obtain ⟨z0, z1, z2, z3, z4, z5⟩ := s1.cells; obtain ⟨y0, y1', y2', _, _, _⟩ := s2.cells; obtain ⟨v0, v1, v2, _, _, _⟩ := s3.cells; clear s1 s2 s3))
                  go_roundw
                  case rel => exact ⟨k + 1, (some (y1, y2, yl)), sa, sn, sk, by omega, rfl, by go_num, by have hh := unhide hfin; rw [hmm] at hh; exact hh⟩
                  case measure => simp [intOf]; omega
                · have hsb : decide (((y1, y2, yl) : Sn) = (y1, y2, yl)) = true := decide_eq_true rfl
                  have hsn := hsb
                  have ho1 : oOk (savedO (some (y1, y2, yl)) (xi, xt, xl)) := sn_saved (unhide HH).ho ⟨hxok.i, hxok.t, hl⟩
                  have hC : nowS (savedO (some (y1, y2, yl)) (xi, xt, xl)) = (y1, y2, yl) := by rw [now_saved, if_neg (by simp [nowS]; omega)]; rfl
                  have hok : Option.isSome (savedO (some (y1, y2, yl)) (xi, xt, xl)) = true := is_saved _ _
                  have PT := hide (fun W8 (hr : RST w W8 p q bx mm (savedO (some (y1, y2, yl)) (xi, xt, xl)) (y1, y2, yl) (.slice da nn dk) (GX.obj ⟨what, halt, xi, xt, xda, xdk, xl, xka, xkk, xks⟩) (.slice xda xl.length xdk) xl (.slice xka xks.length xkk) xks) => tail_any (a1 := y1) (a2 := y2) (la := yl) (b1 := y1) (b2 := y2) (lb := yl) (c1 := y1) (c2 := y2) (lc := yl) (vb := (.slice da nn dk)) (ok := true) (sb := true) (sn := true) hr ho1 (unhide HQ) (unhide HE) (unhide HT) hkl (.inl ⟨rfl, rfl⟩) hC hok hsb hsn)
                  clear hC hok ho1 hsb hsn
                  have PR := hide (fun W5 k4 a4 (F : SF w W5 p q bx W2.heap.size mm xi xt xl.length k4 S (some (y1, y2, yl)) g O (y1, y2, yl) (.slice da nn dk) (.slice xda xl.length xdk) (.slice xka xks.length xkk) (GX.obj ⟨what, halt, xi, xt, xda, xdk, xl, xka, xkk, xks⟩) xl xks a4) => round_done F (unhide HE) (unhide HT) hq)
                  clear hq
                  have HM := hide (fun w4 v4 => sf_make (w4 := w4) (v4 := v4) (unhide HH) hxok hl)
                  have HRZ := hide ((unhide HH).dt.2.1.re (dk_below (O := O) (below_alloc (.cells #[.int .u64 (xi : Int), .int .u64 (xt : Int), .slice xda xl.length xdk] 34) (Nat.le_refl W2.heap.size))) (fun k hk => .inl hk))
                  have hxz := (Array.getElem?_eq_some_iff.1 (unhide HH).xv).1
                  obtain ⟨x0, x1, x2, x3, x4, x5⟩ := (unhide HH).cells
                  clear HH hxok
                  go_wp2_with (first
                    | (at_builtin; refine wpList_append_z rfl (.const (.slice none 0 0)) (.tmp 54) rfl _ 0 [] rfl (World.ownsRow_nil _ _ _ _) O _ xl rfl (unhide HRZ) (by omega) ?_; intro v4 w4 ho4 hg4 hl4; clear HRZ x0 x1 x2 x3 x4 x5; obtain ⟨a4, k4, rfl, hsv4, _, hsf⟩ := unhide HM w4 v4 ho4 hg4 hl4; clear HM ho4 hg4 hl4; obtain ⟨u0, u1, u2, u3, u4, u5⟩ := hsv4.cells; have PS := hide (unhide PR _ _ _ hsf); clear PR hsv4 hsf)
                    | (go_at_call 10; refine (unhide PS).mono ?_; clear u0 u1 u2 u3 u4 u5; rintro e w6 ⟨rfl, hs6, hsp⟩; clear PS; obtain ⟨u0, u1, u2, u3, u4, u5⟩ := (unhide hs6).cells; clear hs6)
                    | (go_at_call 16; refine (unhide hsp).mono ?_; clear u0 u1 u2 u3 u4 u5; rintro e w7 ⟨rfl, hr7⟩; clear hsp; have P8 := hide (unhide PT _ (unhide hr7)); clear PT; obtain ⟨z0, z1, z2, z3, z4, z5⟩ := (rst_q (unhide hr7)).cells; obtain ⟨x0, x1, x2, x3, x4, x5⟩ := obj_cells (rst_x (unhide hr7)); have hzq := (rst_q (unhide hr7)).lt; have hzx := (Array.getElem?_eq_some_iff.1 (rst_x (unhide hr7))).1; clear hr7)
                    | (go_at_call 11; refine (unhide P8).mono ?_; clear z0 z1 z2 z3 z4 z5 x0 x1 x2 x3 x4 x5 hzq hzx; rintro e w10 ⟨rfl, H10⟩; clear P8)
                    | (go_at_call 12; refine (unhide H10).mono ?_; rintro e w11 ⟨sa, sn, sk, rfl, H11⟩; clear H10; have h12 := unhide H11 _ (Below.refl _ _); obtain ⟨s1, s2, s3, hcB, hcA, hfin⟩ := h12; obtain ⟨z0, z1, z2, z3, z4, z5⟩ := s1.cells; obtain ⟨y0, y1', y2', _, _, _⟩ := s2.cells; obtain ⟨v0, v1, v2, _, _, _⟩ := s3.cells; clear s1 s2 s3)
                    | (go_at_call 18; refine (unhide hcB).mono ?_; clear hcB hcA hfin z0 z1 z2 z3 z4 z5 y0 y1' y2' v0 v1 v2; rintro e w13 ⟨rfl, hb13⟩; have h13 := unhide H11 _ hb13; have HB13 := hide hb13; clear hb13; obtain ⟨s1, s2, s3, _, _, hfin⟩ := h13; obtain ⟨z0, z1, z2, z3, z4, z5⟩ := s1.cells; obtain ⟨y0, y1', y2', _, _, _⟩ := s2.cells; obtain ⟨v0, v1, v2, _, _, _⟩ := s3.cells; clear s1 s2 s3))
                  go_roundw
                  case rel => exact ⟨k + 1, (savedO (some (y1, y2, yl)) (xi, xt, xl)), sa, sn, sk, by omega, by rw [is_saved], by go_num, by have hh := unhide hfin; rw [hmm] at hh; exact hh⟩
                  case measure => simp [intOf]; omega
              · have hyi : (y1 : Int) ≤ (xi : Int) := by omega
                by_cases hq : SaveBad S (some (y1, y2, yl)) g xi
                · have hsn : decide (((y1, y2, yl) : Sn) = (y1, y2, yl)) = true := decide_eq_true rfl
                  by_cases he : ((y1, y2, yl) : Sn) = (xi, xt, xl)
                  · have hsb := decide_eq_true he
                    clear he
                    have ho1 : oOk (some (y1, y2, yl)) := (unhide HH).ho
                    have hC : nowS (some (y1, y2, yl)) = (y1, y2, yl) := rfl
                    have hok : Option.isSome (some (y1, y2, yl)) = true := rfl
                    have PT := hide (fun W8 (hr : RST w W8 p q bx mm (some (y1, y2, yl)) (y1, y2, yl) (.slice da nn dk) (GX.obj ⟨what, halt, xi, xt, xda, xdk, xl, xka, xkk, xks⟩) (.slice xda xl.length xdk) xl (.slice xka xks.length xkk) xks) => tail_any (a1 := y1) (a2 := y2) (la := yl) (b1 := xi) (b2 := xt) (lb := xl) (c1 := y1) (c2 := y2) (lc := yl) (vb := (.slice xda xl.length xdk)) (ok := true) (sb := true) (sn := true) hr ho1 (unhide HQ) (unhide HE) (unhide HT) hkl (.inr ⟨rfl, rfl⟩) hC hok hsb hsn)
                    clear hC hok ho1 hsb hsn
                    have PR := hide (fun W5 k4 a4 (F : SF w W5 p q bx W2.heap.size mm xi xt xl.length k4 S (some (y1, y2, yl)) g O (y1, y2, yl) (.slice da nn dk) (.slice xda xl.length xdk) (.slice xka xks.length xkk) (GX.obj ⟨what, halt, xi, xt, xda, xdk, xl, xka, xkk, xks⟩) xl xks a4) => round_cut F (unhide HE) (unhide HT) hq)
                    clear hq
                    have HM := hide (fun w4 v4 => sf_make (w4 := w4) (v4 := v4) (unhide HH) hxok hl)
                    have HRZ := hide ((unhide HH).dt.2.1.re (dk_below (O := O) (below_alloc (.cells #[.int .u64 (xi : Int), .int .u64 (xt : Int), .slice xda xl.length xdk] 34) (Nat.le_refl W2.heap.size))) (fun k hk => .inl hk))
                    have hxz := (Array.getElem?_eq_some_iff.1 (unhide HH).xv).1
                    obtain ⟨x0, x1, x2, x3, x4, x5⟩ := (unhide HH).cells
                    clear HH hxok
                    go_wp2_with (first
                      | (at_builtin; refine wpList_append_z rfl (.const (.slice none 0 0)) (.tmp 54) rfl _ 0 [] rfl (World.ownsRow_nil _ _ _ _) O _ xl rfl (unhide HRZ) (by omega) ?_; intro v4 w4 ho4 hg4 hl4; clear HRZ x0 x1 x2 x3 x4 x5; obtain ⟨a4, k4, rfl, hsv4, _, hsf⟩ := unhide HM w4 v4 ho4 hg4 hl4; clear HM ho4 hg4 hl4; obtain ⟨u0, u1, u2, u3, u4, u5⟩ := hsv4.cells; have PS := hide (unhide PR _ _ _ hsf); clear PR hsv4 hsf)
                      | (go_at_call 10; refine (unhide PS).mono ?_; clear u0 u1 u2 u3 u4 u5; rintro e w6 ⟨eb, rfl, hs6, hsp⟩; clear PS; obtain ⟨u0, u1, u2, u3, u4, u5⟩ := (unhide hs6).cells; clear hs6)
                      | (go_at_call 16; refine (unhide hsp).mono ?_; clear u0 u1 u2 u3 u4 u5; rintro e w7 ⟨rfl, hr7⟩; clear hsp)
                      | (go_at_call 17; refine (unhide hr7).mono ?_; rintro e w8 ⟨rfl, hr8⟩; clear hr7; have P8 := hide (unhide PT _ (unhide hr8)); clear PT; obtain ⟨z0, z1, z2, z3, z4, z5⟩ := (rst_q (unhide hr8)).cells; obtain ⟨x0, x1, x2, x3, x4, x5⟩ := obj_cells (rst_x (unhide hr8)); have hzq := (rst_q (unhide hr8)).lt; have hzx := (Array.getElem?_eq_some_iff.1 (rst_x (unhide hr8))).1; clear hr8)
                      | (go_at_call 11; refine (unhide P8).mono ?_; clear z0 z1 z2 z3 z4 z5 x0 x1 x2 x3 x4 x5 hzq hzx; rintro e w10 ⟨rfl, H10⟩; clear P8)
                      | (go_at_call 12; refine (unhide H10).mono ?_; rintro e w11 ⟨sa, sn, sk, rfl, H11⟩; clear H10; have h12 := unhide H11 _ (Below.refl _ _); obtain ⟨s1, s2, s3, hcB, hcA, hfin⟩ := h12; obtain ⟨z0, z1, z2, z3, z4, z5⟩ := s1.cells; obtain ⟨y0, y1', y2', _, _, _⟩ := s2.cells; obtain ⟨v0, v1, v2, _, _, _⟩ := s3.cells; clear s1 s2 s3)
                      | (go_at_call 18; refine (unhide hcB).mono ?_; clear hcB hcA hfin z0 z1 z2 z3 z4 z5 y0 y1' y2' v0 v1 v2; rintro e w13 ⟨rfl, hb13⟩; have h13 := unhide H11 _ hb13; have HB13 := hide hb13; clear hb13; obtain ⟨s1, s2, s3, _, _, hfin⟩ := h13; obtain ⟨z0, z1, z2, z3, z4, z5⟩ := s1.cells; obtain ⟨y0, y1', y2', _, _, _⟩ := s2.cells; obtain ⟨v0, v1, v2, _, _, _⟩ := s3.cells; clear s1 s2 s3))
                    go_roundw
                    case rel => exact ⟨k + 1, (some (y1, y2, yl)), sa, sn, sk, by omega, rfl, by go_num, by have hh := unhide hfin; rw [hmm] at hh; exact hh⟩
                    case measure => simp [intOf]; omega
                  · have hsb := decide_eq_false he
                    clear he
                    have ho1 : oOk (some (y1, y2, yl)) := (unhide HH).ho
                    have hC : nowS (some (y1, y2, yl)) = (y1, y2, yl) := rfl
                    have hok : Option.isSome (some (y1, y2, yl)) = true := rfl
                    have PT := hide (fun W8 (hr : RST w W8 p q bx mm (some (y1, y2, yl)) (y1, y2, yl) (.slice da nn dk) (GX.obj ⟨what, halt, xi, xt, xda, xdk, xl, xka, xkk, xks⟩) (.slice xda xl.length xdk) xl (.slice xka xks.length xkk) xks) => tail_any (a1 := y1) (a2 := y2) (la := yl) (b1 := xi) (b2 := xt) (lb := xl) (c1 := y1) (c2 := y2) (lc := yl) (vb := (.slice xda xl.length xdk)) (ok := true) (sb := false) (sn := true) hr ho1 (unhide HQ) (unhide HE) (unhide HT) hkl (.inr ⟨rfl, rfl⟩) hC hok hsb hsn)
                    clear hC hok ho1 hsb hsn
                    have PR := hide (fun W5 k4 a4 (F : SF w W5 p q bx W2.heap.size mm xi xt xl.length k4 S (some (y1, y2, yl)) g O (y1, y2, yl) (.slice da nn dk) (.slice xda xl.length xdk) (.slice xka xks.length xkk) (GX.obj ⟨what, halt, xi, xt, xda, xdk, xl, xka, xkk, xks⟩) xl xks a4) => round_cut F (unhide HE) (unhide HT) hq)
                    clear hq
                    have HM := hide (fun w4 v4 => sf_make (w4 := w4) (v4 := v4) (unhide HH) hxok hl)
                    have HRZ := hide ((unhide HH).dt.2.1.re (dk_below (O := O) (below_alloc (.cells #[.int .u64 (xi : Int), .int .u64 (xt : Int), .slice xda xl.length xdk] 34) (Nat.le_refl W2.heap.size))) (fun k hk => .inl hk))
                    have hxz := (Array.getElem?_eq_some_iff.1 (unhide HH).xv).1
                    obtain ⟨x0, x1, x2, x3, x4, x5⟩ := (unhide HH).cells
                    clear HH hxok
                    go_wp2_with (first
                      | (at_builtin; refine wpList_append_z rfl (.const (.slice none 0 0)) (.tmp 54) rfl _ 0 [] rfl (World.ownsRow_nil _ _ _ _) O _ xl rfl (unhide HRZ) (by omega) ?_; intro v4 w4 ho4 hg4 hl4; clear HRZ x0 x1 x2 x3 x4 x5; obtain ⟨a4, k4, rfl, hsv4, _, hsf⟩ := unhide HM w4 v4 ho4 hg4 hl4; clear HM ho4 hg4 hl4; obtain ⟨u0, u1, u2, u3, u4, u5⟩ := hsv4.cells; have PS := hide (unhide PR _ _ _ hsf); clear PR hsv4 hsf)
                      | (go_at_call 10; refine (unhide PS).mono ?_; clear u0 u1 u2 u3 u4 u5; rintro e w6 ⟨eb, rfl, hs6, hsp⟩; clear PS; obtain ⟨u0, u1, u2, u3, u4, u5⟩ := (unhide hs6).cells; clear hs6)
                      | (go_at_call 16; refine (unhide hsp).mono ?_; clear u0 u1 u2 u3 u4 u5; rintro e w7 ⟨rfl, hr7⟩; clear hsp)
                      | (go_at_call 17; refine (unhide hr7).mono ?_; rintro e w8 ⟨rfl, hr8⟩; clear hr7; have P8 := hide (unhide PT _ (unhide hr8)); clear PT; obtain ⟨z0, z1, z2, z3, z4, z5⟩ := (rst_q (unhide hr8)).cells; obtain ⟨x0, x1, x2, x3, x4, x5⟩ := obj_cells (rst_x (unhide hr8)); have hzq := (rst_q (unhide hr8)).lt; have hzx := (Array.getElem?_eq_some_iff.1 (rst_x (unhide hr8))).1; clear hr8)
                      | (go_at_call 11; refine (unhide P8).mono ?_; clear z0 z1 z2 z3 z4 z5 x0 x1 x2 x3 x4 x5 hzq hzx; rintro e w10 ⟨rfl, H10⟩; clear P8)
                      | (go_at_call 12; refine (unhide H10).mono ?_; rintro e w11 ⟨sa, sn, sk, rfl, H11⟩; clear H10; have h12 := unhide H11 _ (Below.refl _ _); obtain ⟨s1, s2, s3, hcB, hcA, hfin⟩ := h12; obtain ⟨z0, z1, z2, z3, z4, z5⟩ := s1.cells; obtain ⟨y0, y1', y2', _, _, _⟩ := s2.cells; obtain ⟨v0, v1, v2, _, _, _⟩ := s3.cells; clear s1 s2 s3)
                      | (go_at_call 18; refine (unhide hcB).mono ?_; clear hcB hcA hfin z0 z1 z2 z3 z4 z5 y0 y1' y2' v0 v1 v2; rintro e w13 ⟨rfl, hb13⟩; have h13 := unhide H11 _ hb13; have HB13 := hide hb13; clear hb13; obtain ⟨s1, s2, s3, _, hdA, hfin⟩ := h13; obtain ⟨z0, z1, z2, z3, z4, z5⟩ := s1.cells; obtain ⟨y0, y1', y2', _, _, _⟩ := s2.cells; obtain ⟨v0, v1, v2, _, _, _⟩ := s3.cells; clear s1 s2 s3)
                      | (go_at_call 18; refine (unhide hdA).mono ?_; clear hdA hfin z0 z1 z2 z3 z4 z5 y0 y1' y2' v0 v1 v2; rintro e w14 ⟨rfl, hb14⟩; have h14 := unhide H11 _ (bt (unhide HB13) hb14); clear hb14; obtain ⟨s1, s2, s3, _, _, hfin⟩ := h14; obtain ⟨z0, z1, z2, z3, z4, z5⟩ := s1.cells; obtain ⟨y0, y1', y2', _, _, _⟩ := s2.cells; obtain ⟨v0, v1, v2, _, _, _⟩ := s3.cells; clear s1 s2 s3))
                    go_roundw
                    case rel => exact ⟨k + 1, (some (y1, y2, yl)), sa, sn, sk, by omega, rfl, by go_num, by have hh := unhide hfin; rw [hmm] at hh; exact hh⟩
                    case measure => simp [intOf]; omega
                · obtain ⟨snn, hsn⟩ : ∃ z, decide (((xi, xt, xl) : Sn) = (y1, y2, yl)) = z := ⟨_, rfl⟩
                  have hsb : decide (((xi, xt, xl) : Sn) = (xi, xt, xl)) = true := decide_eq_true rfl
                  have ho1 : oOk (savedO (some (y1, y2, yl)) (xi, xt, xl)) := sn_saved (unhide HH).ho ⟨hxok.i, hxok.t, hl⟩
                  have hC : nowS (savedO (some (y1, y2, yl)) (xi, xt, xl)) = (xi, xt, xl) := by rw [now_saved, if_pos (.inr (by simp [nowS]; omega))]
                  have hok : Option.isSome (savedO (some (y1, y2, yl)) (xi, xt, xl)) = true := is_saved _ _
                  have PT := hide (fun W8 (hr : RST w W8 p q bx mm (savedO (some (y1, y2, yl)) (xi, xt, xl)) (y1, y2, yl) (.slice da nn dk) (GX.obj ⟨what, halt, xi, xt, xda, xdk, xl, xka, xkk, xks⟩) (.slice xda xl.length xdk) xl (.slice xka xks.length xkk) xks) => tail_any (a1 := y1) (a2 := y2) (la := yl) (b1 := xi) (b2 := xt) (lb := xl) (c1 := xi) (c2 := xt) (lc := xl) (vb := (.slice xda xl.length xdk)) (ok := true) (sb := true) (sn := snn) hr ho1 (unhide HQ) (unhide HE) (unhide HT) hkl (.inr ⟨rfl, rfl⟩) hC hok hsb hsn)
                  clear hC hok ho1 hsb hsn
                  have PR := hide (fun W5 k4 a4 (F : SF w W5 p q bx W2.heap.size mm xi xt xl.length k4 S (some (y1, y2, yl)) g O (y1, y2, yl) (.slice da nn dk) (.slice xda xl.length xdk) (.slice xka xks.length xkk) (GX.obj ⟨what, halt, xi, xt, xda, xdk, xl, xka, xkk, xks⟩) xl xks a4) => round_done F (unhide HE) (unhide HT) hq)
                  clear hq
                  have HM := hide (fun w4 v4 => sf_make (w4 := w4) (v4 := v4) (unhide HH) hxok hl)
                  have HRZ := hide ((unhide HH).dt.2.1.re (dk_below (O := O) (below_alloc (.cells #[.int .u64 (xi : Int), .int .u64 (xt : Int), .slice xda xl.length xdk] 34) (Nat.le_refl W2.heap.size))) (fun k hk => .inl hk))
                  have hxz := (Array.getElem?_eq_some_iff.1 (unhide HH).xv).1
                  obtain ⟨x0, x1, x2, x3, x4, x5⟩ := (unhide HH).cells
                  clear HH hxok
                  go_wp2_with (first
                    | (at_builtin; refine wpList_append_z rfl (.const (.slice none 0 0)) (.tmp 54) rfl _ 0 [] rfl (World.ownsRow_nil _ _ _ _) O _ xl rfl (unhide HRZ) (by omega) ?_; intro v4 w4 ho4 hg4 hl4; clear HRZ x0 x1 x2 x3 x4 x5; obtain ⟨a4, k4, rfl, hsv4, _, hsf⟩ := unhide HM w4 v4 ho4 hg4 hl4; clear HM ho4 hg4 hl4; obtain ⟨u0, u1, u2, u3, u4, u5⟩ := hsv4.cells; have PS := hide (unhide PR _ _ _ hsf); clear PR hsv4 hsf)
                    | (go_at_call 10; refine (unhide PS).mono ?_; clear u0 u1 u2 u3 u4 u5; rintro e w6 ⟨rfl, hs6, hsp⟩; clear PS; obtain ⟨u0, u1, u2, u3, u4, u5⟩ := (unhide hs6).cells; clear hs6)
                    | (go_at_call 16; refine (unhide hsp).mono ?_; clear u0 u1 u2 u3 u4 u5; rintro e w7 ⟨rfl, hr7⟩; clear hsp; have P8 := hide (unhide PT _ (unhide hr7)); clear PT; obtain ⟨z0, z1, z2, z3, z4, z5⟩ := (rst_q (unhide hr7)).cells; obtain ⟨x0, x1, x2, x3, x4, x5⟩ := obj_cells (rst_x (unhide hr7)); have hzq := (rst_q (unhide hr7)).lt; have hzx := (Array.getElem?_eq_some_iff.1 (rst_x (unhide hr7))).1; clear hr7)
                    | (go_at_call 11; refine (unhide P8).mono ?_; clear z0 z1 z2 z3 z4 z5 x0 x1 x2 x3 x4 x5 hzq hzx; rintro e w10 ⟨rfl, H10⟩; clear P8)
                    | (go_at_call 12; refine (unhide H10).mono ?_; rintro e w11 ⟨sa, sn, sk, rfl, H11⟩; clear H10; have h12 := unhide H11 _ (Below.refl _ _); obtain ⟨s1, s2, s3, hcB, hcA, hfin⟩ := h12; obtain ⟨z0, z1, z2, z3, z4, z5⟩ := s1.cells; obtain ⟨y0, y1', y2', _, _, _⟩ := s2.cells; obtain ⟨v0, v1, v2, _, _, _⟩ := s3.cells; clear s1 s2 s3)
                    | (go_at_call 18; refine (unhide hcB).mono ?_; clear hcB hcA hfin z0 z1 z2 z3 z4 z5 y0 y1' y2' v0 v1 v2; rintro e w13 ⟨rfl, hb13⟩; have h13 := unhide H11 _ hb13; have HB13 := hide hb13; clear hb13; obtain ⟨s1, s2, s3, _, _, hfin⟩ := h13; obtain ⟨z0, z1, z2, z3, z4, z5⟩ := s1.cells; obtain ⟨y0, y1', y2', _, _, _⟩ := s2.cells; obtain ⟨v0, v1, v2, _, _, _⟩ := s3.cells; clear s1 s2 s3))
                  go_roundw
                  case rel => exact ⟨k + 1, (savedO (some (y1, y2, yl)) (xi, xt, xl)), sa, sn, sk, by omega, by rw [is_saved], by go_num, by have hh := unhide hfin; rw [hmm] at hh; exact hh⟩
                  case measure => simp [intOf]; omega
          · have hr30 : (r3 = 0) = False := eq_false hr0
            have PH := hide (hf_halt (unhide HH0) hxok)
            clear HH0
            go_upto_region 16 with (first
              | (go_at_call 15; refine (unhide PH).mono ?_; rintro e W2 ⟨rfl, S2, hh2⟩; clear PH x0 x1 x2 x3 x4 x5; have HH := hide hh2; clear hh2))
            clear hr30 hr0
            obtain ⟨S, hS⟩ : ∃ z, z = S2 := ⟨_, rfl⟩
            subst hS
            cases o with
            | none =>
              obtain ⟨⟨n1, n2, nl⟩, hnz⟩ : ∃ z : Sn, z = nowS none := ⟨_, rfl⟩
              have HH : Hid (HF w W2 p q bx mm S none g O (n1, n2, nl) (.slice da nn dk) ⟨what, halt, xi, xt, xda, xdk, xl, xka, xkk, xks⟩) := by rw [hnz]; exact HH
              by_cases hq : SaveBad S none g xi
              · obtain ⟨sbb, hsb⟩ : ∃ z, decide (((n1, n2, nl) : Sn) = (xi, xt, xl)) = z := ⟨_, rfl⟩
                have hsn : decide (((n1, n2, nl) : Sn) = (n1, n2, nl)) = true := decide_eq_true rfl
                have ho1 : oOk (none : Option Sn) := (unhide HH).ho
                have hC : nowS (none : Option Sn) = (n1, n2, nl) := hnz.symm
                have hok : Option.isSome (none : Option Sn) = false := rfl
                have PT := hide (fun W8 (hr : RST w W8 p q bx mm (none : Option Sn) (n1, n2, nl) (.slice da nn dk) (GX.obj ⟨what, halt, xi, xt, xda, xdk, xl, xka, xkk, xks⟩) (.slice xda xl.length xdk) xl (.slice xka xks.length xkk) xks) => tail_any (a1 := n1) (a2 := n2) (la := nl) (b1 := xi) (b2 := xt) (lb := xl) (c1 := n1) (c2 := n2) (lc := nl) (vb := (.slice xda xl.length xdk)) (ok := false) (sb := sbb) (sn := true) hr ho1 (unhide HQ) (unhide HE) (unhide HT) hkl (.inr ⟨rfl, rfl⟩) hC hok hsb hsn)
                clear hC hok ho1 hsb hsn hnz
                have PR := hide (fun W5 k4 a4 (F : SF w W5 p q bx W2.heap.size mm xi xt xl.length k4 S (none : Option Sn) g O (n1, n2, nl) (.slice da nn dk) (.slice xda xl.length xdk) (.slice xka xks.length xkk) (GX.obj ⟨what, halt, xi, xt, xda, xdk, xl, xka, xkk, xks⟩) xl xks a4) => round_cut F (unhide HE) (unhide HT) hq)
                clear hq
                have HM := hide (fun w4 v4 => sf_make (w4 := w4) (v4 := v4) (unhide HH) hxok hl)
                have HRZ := hide ((unhide HH).dt.2.1.re (dk_below (O := O) (below_alloc (.cells #[.int .u64 (xi : Int), .int .u64 (xt : Int), .slice xda xl.length xdk] 34) (Nat.le_refl W2.heap.size))) (fun k hk => .inl hk))
                have hxz := (Array.getElem?_eq_some_iff.1 (unhide HH).xv).1
                obtain ⟨x0, x1, x2, x3, x4, x5⟩ := (unhide HH).cells
                clear HH hxok
                go_wp2_with (first
                  | (at_builtin; refine wpList_append_z rfl (.const (.slice none 0 0)) (.tmp 54) rfl _ 0 [] rfl (World.ownsRow_nil _ _ _ _) O _ xl rfl (unhide HRZ) (by omega) ?_; intro v4 w4 ho4 hg4 hl4; clear HRZ x0 x1 x2 x3 x4 x5; obtain ⟨a4, k4, rfl, hsv4, _, hsf⟩ := unhide HM w4 v4 ho4 hg4 hl4; clear HM ho4 hg4 hl4; obtain ⟨u0, u1, u2, u3, u4, u5⟩ := hsv4.cells; have PS := hide (unhide PR _ _ _ hsf); clear PR hsv4 hsf)
                  | (go_at_call 10; refine (unhide PS).mono ?_; clear u0 u1 u2 u3 u4 u5; rintro e w6 ⟨eb, rfl, hs6, hsp⟩; clear PS; obtain ⟨u0, u1, u2, u3, u4, u5⟩ := (unhide hs6).cells; clear hs6)
                  | (go_at_call 16; refine (unhide hsp).mono ?_; clear u0 u1 u2 u3 u4 u5; rintro e w7 ⟨rfl, hr7⟩; clear hsp)
                  | (go_at_call 17; refine (unhide hr7).mono ?_; rintro e w8 ⟨rfl, hr8⟩; clear hr7; have P8 := hide (unhide PT _ (unhide hr8)); clear PT; obtain ⟨z0, z1, z2, z3, z4, z5⟩ := (rst_q (unhide hr8)).cells; obtain ⟨x0, x1, x2, x3, x4, x5⟩ := obj_cells (rst_x (unhide hr8)); have hzq := (rst_q (unhide hr8)).lt; have hzx := (Array.getElem?_eq_some_iff.1 (rst_x (unhide hr8))).1; clear hr8)
                  | (go_at_call 11; refine (unhide P8).mono ?_; clear z0 z1 z2 z3 z4 z5 x0 x1 x2 x3 x4 x5 hzq hzx; rintro e w10 ⟨rfl, H10⟩; clear P8)
                  | (go_at_call 12; refine (unhide H10).mono ?_; rintro e w11 ⟨sa, sn, sk, rfl, H11⟩; clear H10; have h12 := unhide H11 _ (Below.refl _ _); obtain ⟨s1, s2, s3, hcB, hcA, hfin⟩ := h12; obtain ⟨z0, z1, z2, z3, z4, z5⟩ := s1.cells; obtain ⟨y0, y1', y2', _, _, _⟩ := s2.cells; obtain ⟨v0, v1, v2, _, _, _⟩ := s3.cells; clear s1 s2 s3)
                  | (go_at_call 18; refine (unhide hcA).mono ?_; clear hcB hcA hfin z0 z1 z2 z3 z4 z5 y0 y1' y2' v0 v1 v2; rintro e w13 ⟨rfl, hb13⟩; have h13 := unhide H11 _ hb13; have HB13 := hide hb13; clear hb13; obtain ⟨s1, s2, s3, _, _, hfin⟩ := h13; obtain ⟨z0, z1, z2, z3, z4, z5⟩ := s1.cells; obtain ⟨y0, y1', y2', _, _, _⟩ := s2.cells; obtain ⟨v0, v1, v2, _, _, _⟩ := s3.cells; clear s1 s2 s3))
                go_roundw
                case rel => exact ⟨k + 1, (none : Option Sn), sa, sn, sk, by omega, rfl, by go_num, by have hh := unhide hfin; rw [hmm] at hh; exact hh⟩
                case measure => simp [intOf]; omega
              · obtain ⟨snn, hsn⟩ : ∃ z, decide (((xi, xt, xl) : Sn) = (n1, n2, nl)) = z := ⟨_, rfl⟩
                have hsb : decide (((xi, xt, xl) : Sn) = (xi, xt, xl)) = true := decide_eq_true rfl
                have ho1 : oOk (savedO none (xi, xt, xl)) := sn_saved (unhide HH).ho ⟨hxok.i, hxok.t, hl⟩
                have hC : nowS (savedO none (xi, xt, xl)) = (xi, xt, xl) := rfl
                have hok : Option.isSome (savedO none (xi, xt, xl)) = true := is_saved _ _
                have PT := hide (fun W8 (hr : RST w W8 p q bx mm (savedO none (xi, xt, xl)) (n1, n2, nl) (.slice da nn dk) (GX.obj ⟨what, halt, xi, xt, xda, xdk, xl, xka, xkk, xks⟩) (.slice xda xl.length xdk) xl (.slice xka xks.length xkk) xks) => tail_any (a1 := n1) (a2 := n2) (la := nl) (b1 := xi) (b2 := xt) (lb := xl) (c1 := xi) (c2 := xt) (lc := xl) (vb := (.slice xda xl.length xdk)) (ok := true) (sb := true) (sn := snn) hr ho1 (unhide HQ) (unhide HE) (unhide HT) hkl (.inr ⟨rfl, rfl⟩) hC hok hsb hsn)
                clear hC hok ho1 hsb hsn hnz
                have PR := hide (fun W5 k4 a4 (F : SF w W5 p q bx W2.heap.size mm xi xt xl.length k4 S (none : Option Sn) g O (n1, n2, nl) (.slice da nn dk) (.slice xda xl.length xdk) (.slice xka xks.length xkk) (GX.obj ⟨what, halt, xi, xt, xda, xdk, xl, xka, xkk, xks⟩) xl xks a4) => round_done F (unhide HE) (unhide HT) hq)
                clear hq
                have HM := hide (fun w4 v4 => sf_make (w4 := w4) (v4 := v4) (unhide HH) hxok hl)
                have HRZ := hide ((unhide HH).dt.2.1.re (dk_below (O := O) (below_alloc (.cells #[.int .u64 (xi : Int), .int .u64 (xt : Int), .slice xda xl.length xdk] 34) (Nat.le_refl W2.heap.size))) (fun k hk => .inl hk))
                have hxz := (Array.getElem?_eq_some_iff.1 (unhide HH).xv).1
                obtain ⟨x0, x1, x2, x3, x4, x5⟩ := (unhide HH).cells
                clear HH hxok
                go_wp2_with (first
                  | (at_builtin; refine wpList_append_z rfl (.const (.slice none 0 0)) (.tmp 54) rfl _ 0 [] rfl (World.ownsRow_nil _ _ _ _) O _ xl rfl (unhide HRZ) (by omega) ?_; intro v4 w4 ho4 hg4 hl4; clear HRZ x0 x1 x2 x3 x4 x5; obtain ⟨a4, k4, rfl, hsv4, _, hsf⟩ := unhide HM w4 v4 ho4 hg4 hl4; clear HM ho4 hg4 hl4; obtain ⟨u0, u1, u2, u3, u4, u5⟩ := hsv4.cells; have PS := hide (unhide PR _ _ _ hsf); clear PR hsv4 hsf)
                  | (go_at_call 10; refine (unhide PS).mono ?_; clear u0 u1 u2 u3 u4 u5; rintro e w6 ⟨rfl, hs6, hsp⟩; clear PS; obtain ⟨u0, u1, u2, u3, u4, u5⟩ := (unhide hs6).cells; clear hs6)
                  | (go_at_call 16; refine (unhide hsp).mono ?_; clear u0 u1 u2 u3 u4 u5; rintro e w7 ⟨rfl, hr7⟩; clear hsp; have P8 := hide (unhide PT _ (unhide hr7)); clear PT; obtain ⟨z0, z1, z2, z3, z4, z5⟩ := (rst_q (unhide hr7)).cells; obtain ⟨x0, x1, x2, x3, x4, x5⟩ := obj_cells (rst_x (unhide hr7)); have hzq := (rst_q (unhide hr7)).lt; have hzx := (Array.getElem?_eq_some_iff.1 (rst_x (unhide hr7))).1; clear hr7)
                  | (go_at_call 11; refine (unhide P8).mono ?_; clear z0 z1 z2 z3 z4 z5 x0 x1 x2 x3 x4 x5 hzq hzx; rintro e w10 ⟨rfl, H10⟩; clear P8)
                  | (go_at_call 12; refine (unhide H10).mono ?_; rintro e w11 ⟨sa, sn, sk, rfl, H11⟩; clear H10; have h12 := unhide H11 _ (Below.refl _ _); obtain ⟨s1, s2, s3, hcB, hcA, hfin⟩ := h12; obtain ⟨z0, z1, z2, z3, z4, z5⟩ := s1.cells; obtain ⟨y0, y1', y2', _, _, _⟩ := s2.cells; obtain ⟨v0, v1, v2, _, _, _⟩ := s3.cells; clear s1 s2 s3)
                  | (go_at_call 18; refine (unhide hcB).mono ?_; clear hcB hcA hfin z0 z1 z2 z3 z4 z5 y0 y1' y2' v0 v1 v2; rintro e w13 ⟨rfl, hb13⟩; have h13 := unhide H11 _ hb13; have HB13 := hide hb13; clear hb13; obtain ⟨s1, s2, s3, _, _, hfin⟩ := h13; obtain ⟨z0, z1, z2, z3, z4, z5⟩ := s1.cells; obtain ⟨y0, y1', y2', _, _, _⟩ := s2.cells; obtain ⟨v0, v1, v2, _, _, _⟩ := s3.cells; clear s1 s2 s3))
                go_roundw
                case rel => exact ⟨k + 1, (savedO none (xi, xt, xl)), sa, sn, sk, by omega, by rw [is_saved], by go_num, by have hh := unhide hfin; rw [hmm] at hh; exact hh⟩
                case measure => simp [intOf]; omega
            | some y =>
              obtain ⟨y1, y2, yl⟩ := y
              have HH : Hid (HF w W2 p q bx mm S (some (y1, y2, yl)) g O (y1, y2, yl) (.slice da nn dk) ⟨what, halt, xi, xt, xda, xdk, xl, xka, xkk, xks⟩) := HH
              by_cases hy : xi < y1
              · have hyi : ¬ ((y1 : Int) ≤ (xi : Int)) := by omega
                by_cases hq : SaveBad S (some (y1, y2, yl)) g xi
                · have hsb : decide (((y1, y2, yl) : Sn) = (y1, y2, yl)) = true := decide_eq_true rfl
                  have hsn := hsb
                  have ho1 : oOk (some (y1, y2, yl)) := (unhide HH).ho
                  have hC : nowS (some (y1, y2, yl)) = (y1, y2, yl) := rfl
                  have hok : Option.isSome (some (y1, y2, yl)) = true := rfl
                  have PT := hide (fun W8 (hr : RST w W8 p q bx mm (some (y1, y2, yl)) (y1, y2, yl) (.slice da nn dk) (GX.obj ⟨what, halt, xi, xt, xda, xdk, xl, xka, xkk, xks⟩) (.slice xda xl.length xdk) xl (.slice xka xks.length xkk) xks) => tail_any (a1 := y1) (a2 := y2) (la := yl) (b1 := y1) (b2 := y2) (lb := yl) (c1 := y1) (c2 := y2) (lc := yl) (vb := (.slice da nn dk)) (ok := true) (sb := true) (sn := true) hr ho1 (unhide HQ) (unhide HE) (unhide HT) hkl (.inl ⟨rfl, rfl⟩) hC hok hsb hsn)
                  clear hC hok ho1 hsb hsn
                  have PR := hide (fun W5 k4 a4 (F : SF w W5 p q bx W2.heap.size mm xi xt xl.length k4 S (some (y1, y2, yl)) g O (y1, y2, yl) (.slice da nn dk) (.slice xda xl.length xdk) (.slice xka xks.length xkk) (GX.obj ⟨what, halt, xi, xt, xda, xdk, xl, xka, xkk, xks⟩) xl xks a4) => round_cut F (unhide HE) (unhide HT) hq)
                  clear hq
                  have HM := hide (fun w4 v4 => sf_make (w4 := w4) (v4 := v4) (unhide HH) hxok hl)
                  have HRZ := hide ((unhide HH).dt.2.1.re (dk_below (O := O) (below_alloc (.cells #[.int .u64 (xi : Int), .int .u64 (xt : Int), .slice xda xl.length xdk] 34) (Nat.le_refl W2.heap.size))) (fun k hk => .inl hk))
                  have hxz := (Array.getElem?_eq_some_iff.1 (unhide HH).xv).1
                  obtain ⟨x0, x1, x2, x3, x4, x5⟩ := (unhide HH).cells
                  clear HH hxok
                  go_wp2_with (first
                    | (at_builtin; refine wpList_append_z rfl (.const (.slice none 0 0)) (.tmp 54) rfl _ 0 [] rfl (World.ownsRow_nil _ _ _ _) O _ xl rfl (unhide HRZ) (by omega) ?_; intro v4 w4 ho4 hg4 hl4; clear HRZ x0 x1 x2 x3 x4 x5; obtain ⟨a4, k4, rfl, hsv4, _, hsf⟩ := unhide HM w4 v4 ho4 hg4 hl4; clear HM ho4 hg4 hl4; obtain ⟨u0, u1, u2, u3, u4, u5⟩ := hsv4.cells; have PS := hide (unhide PR _ _ _ hsf); clear PR hsv4 hsf)
                    | (go_at_call 10; refine (unhide PS).mono ?_; clear u0 u1 u2 u3 u4 u5; rintro e w6 ⟨eb, rfl, hs6, hsp⟩; clear PS; obtain ⟨u0, u1, u2, u3, u4, u5⟩ := (unhide hs6).cells; clear hs6)
                    | (go_at_call 16; refine (unhide hsp).mono ?_; clear u0 u1 u2 u3 u4 u5; rintro e w7 ⟨rfl, hr7⟩; clear hsp)
                    | (go_at_call 17; refine (unhide hr7).mono ?_; rintro e w8 ⟨rfl, hr8⟩; clear hr7; have P8 := hide (unhide PT _ (unhide hr8)); clear PT; obtain ⟨z0, z1, z2, z3, z4, z5⟩ := (rst_q (unhide hr8)).cells; obtain ⟨x0, x1, x2, x3, x4, x5⟩ := obj_cells (rst_x (unhide hr8)); have hzq := (rst_q (unhide hr8)).lt; have hzx := (Array.getElem?_eq_some_iff.1 (rst_x (unhide hr8))).1; clear hr8)
                    | (go_at_call 11; refine (unhide P8).mono ?_; clear z0 z1 z2 z3 z4 z5 x0 x1 x2 x3 x4 x5 hzq hzx; rintro e w10 ⟨rfl, H10⟩; clear P8)
                    | (go_at_call 12; refine (unhide H10).mono ?_; rintro e w11 ⟨sa, sn, sk, rfl, H11⟩; clear H10; have h12 := unhide H11 _ (Below.refl _ _); obtain ⟨s1, s2, s3, hcB, hcA, hfin⟩ := h12; obtain ⟨z0, z1, z2, z3, z4, z5⟩ := s1.cells; obtain ⟨y0, y1', y2', _, _, _⟩ := s2.cells; obtain ⟨v0, v1, v2, _, _, _⟩ := s3.cells; clear s1 s2 s3)
                    | (go_at_call 18; refine (unhide hcB).mono ?_; clear hcB hcA hfin z0 z1 z2 z3 z4 z5 y0 y1' y2' v0 v1 v2; rintro e w13 ⟨rfl, hb13⟩; have h13 := unhide H11 _ hb13; have HB13 := hide hb13; clear hb13; obtain ⟨s1, s2, s3, _, _, hfin⟩ := h13; obtain ⟨z0, z1, z2, z3, z4, z5⟩ := s1.cells; obtain ⟨y0, y1', y2', _, _, _⟩ := s2.cells; obtain ⟨v0, v1, v2, _, _, _⟩ := s3.cells; clear s1 s2 s3))
                  go_roundw
                  case rel => exact ⟨k + 1, (some (y1, y2, yl)), sa, sn, sk, by omega, rfl, by go_num, by have hh := unhide hfin; rw [hmm] at hh; exact hh⟩
                  case measure => simp [intOf]; omega
                · have hsb : decide (((y1, y2, yl) : Sn) = (y1, y2, yl)) = true := decide_eq_true rfl
                  have hsn := hsb
                  have ho1 : oOk (savedO (some (y1, y2, yl)) (xi, xt, xl)) := sn_saved (unhide HH).ho ⟨hxok.i, hxok.t, hl⟩
                  have hC : nowS (savedO (some (y1, y2, yl)) (xi, xt, xl)) = (y1, y2, yl) := by rw [now_saved, if_neg (by simp [nowS]; omega)]; rfl
                  have hok : Option.isSome (savedO (some (y1, y2, yl)) (xi, xt, xl)) = true := is_saved _ _
                  have PT := hide (fun W8 (hr : RST w W8 p q bx mm (savedO (some (y1, y2, yl)) (xi, xt, xl)) (y1, y2, yl) (.slice da nn dk) (GX.obj ⟨what, halt, xi, xt, xda, xdk, xl, xka, xkk, xks⟩) (.slice xda xl.length xdk) xl (.slice xka xks.length xkk) xks) => tail_any (a1 := y1) (a2 := y2) (la := yl) (b1 := y1) (b2 := y2) (lb := yl) (c1 := y1) (c2 := y2) (lc := yl) (vb := (.slice da nn dk)) (ok := true) (sb := true) (sn := true) hr ho1 (unhide HQ) (unhide HE) (unhide HT) hkl (.inl ⟨rfl, rfl⟩) hC hok hsb hsn)
                  clear hC hok ho1 hsb hsn
                  have PR := hide (fun W5 k4 a4 (F : SF w W5 p q bx W2.heap.size mm xi xt xl.length k4 S (some (y1, y2, yl)) g O (y1, y2, yl) (.slice da nn dk) (.slice xda xl.length xdk) (.slice xka xks.length xkk) (GX.obj ⟨what, halt, xi, xt, xda, xdk, xl, xka, xkk, xks⟩) xl xks a4) => round_done F (unhide HE) (unhide HT) hq)
                  clear hq
                  have HM := hide (fun w4 v4 => sf_make (w4 := w4) (v4 := v4) (unhide HH) hxok hl)
                  have HRZ := hide ((unhide HH).dt.2.1.re (dk_below (O := O) (below_alloc (.cells #[.int .u64 (xi : Int), .int .u64 (xt : Int), .slice xda xl.length xdk] 34) (Nat.le_refl W2.heap.size))) (fun k hk => .inl hk))
                  have hxz := (Array.getElem?_eq_some_iff.1 (unhide HH).xv).1
                  obtain ⟨x0, x1, x2, x3, x4, x5⟩ := (unhide HH).cells
                  clear HH hxok
                  go_wp2_with (first
                    | (at_builtin; refine wpList_append_z rfl (.const (.slice none 0 0)) (.tmp 54) rfl _ 0 [] rfl (World.ownsRow_nil _ _ _ _) O _ xl rfl (unhide HRZ) (by omega) ?_; intro v4 w4 ho4 hg4 hl4; clear HRZ x0 x1 x2 x3 x4 x5; obtain ⟨a4, k4, rfl, hsv4, _, hsf⟩ := unhide HM w4 v4 ho4 hg4 hl4; clear HM ho4 hg4 hl4; obtain ⟨u0, u1, u2, u3, u4, u5⟩ := hsv4.cells; have PS := hide (unhide PR _ _ _ hsf); clear PR hsv4 hsf)
                    | (go_at_call 10; refine (unhide PS).mono ?_; clear u0 u1 u2 u3 u4 u5; rintro e w6 ⟨rfl, hs6, hsp⟩; clear PS; obtain ⟨u0, u1, u2, u3, u4, u5⟩ := (unhide hs6).cells; clear hs6)
                    | (go_at_call 16; refine (unhide hsp).mono ?_; clear u0 u1 u2 u3 u4 u5; rintro e w7 ⟨rfl, hr7⟩; clear hsp; have P8 := hide (unhide PT _ (unhide hr7)); clear PT; obtain ⟨z0, z1, z2, z3, z4, z5⟩ := (rst_q (unhide hr7)).cells; obtain ⟨x0, x1, x2, x3, x4, x5⟩ := obj_cells (rst_x (unhide hr7)); have hzq := (rst_q (unhide hr7)).lt; have hzx := (Array.getElem?_eq_some_iff.1 (rst_x (unhide hr7))).1; clear hr7)
                    | (go_at_call 11; refine (unhide P8).mono ?_; clear z0 z1 z2 z3 z4 z5 x0 x1 x2 x3 x4 x5 hzq hzx; rintro e w10 ⟨rfl, H10⟩; clear P8)
                    | (go_at_call 12; refine (unhide H10).mono ?_; rintro e w11 ⟨sa, sn, sk, rfl, H11⟩; clear H10; have h12 := unhide H11 _ (Below.refl _ _); obtain ⟨s1, s2, s3, hcB, hcA, hfin⟩ := h12; obtain ⟨z0, z1, z2, z3, z4, z5⟩ := s1.cells; obtain ⟨y0, y1', y2', _, _, _⟩ := s2.cells; obtain ⟨v0, v1, v2, _, _, _⟩ := s3.cells; clear s1 s2 s3)
                    | (go_at_call 18; refine (unhide hcB).mono ?_; clear hcB hcA hfin z0 z1 z2 z3 z4 z5 y0 y1' y2' v0 v1 v2; rintro e w13 ⟨rfl, hb13⟩; have h13 := unhide H11 _ hb13; have HB13 := hide hb13; clear hb13; obtain ⟨s1, s2, s3, _, _, hfin⟩ := h13; obtain ⟨z0, z1, z2, z3, z4, z5⟩ := s1.cells; obtain ⟨y0, y1', y2', _, _, _⟩ := s2.cells; obtain ⟨v0, v1, v2, _, _, _⟩ := s3.cells; clear s1 s2 s3))
                  go_roundw
                  case rel => exact ⟨k + 1, (savedO (some (y1, y2, yl)) (xi, xt, xl)), sa, sn, sk, by omega, by rw [is_saved], by go_num, by have hh := unhide hfin; rw [hmm] at hh; exact hh⟩
                  case measure => simp [intOf]; omega
              · have hyi : (y1 : Int) ≤ (xi : Int) := by omega
                by_cases hq : SaveBad S (some (y1, y2, yl)) g xi
                · have hsn : decide (((y1, y2, yl) : Sn) = (y1, y2, yl)) = true := decide_eq_true rfl
                  by_cases he : ((y1, y2, yl) : Sn) = (xi, xt, xl)
                  · have hsb := decide_eq_true he
                    clear he
                    have ho1 : oOk (some (y1, y2, yl)) := (unhide HH).ho
                    have hC : nowS (some (y1, y2, yl)) = (y1, y2, yl) := rfl
                    have hok : Option.isSome (some (y1, y2, yl)) = true := rfl
                    have PT := hide (fun W8 (hr : RST w W8 p q bx mm (some (y1, y2, yl)) (y1, y2, yl) (.slice da nn dk) (GX.obj ⟨what, halt, xi, xt, xda, xdk, xl, xka, xkk, xks⟩) (.slice xda xl.length xdk) xl (.slice xka xks.length xkk) xks) => tail_any (a1 := y1) (a2 := y2) (la := yl) (b1 := xi) (b2 := xt) (lb := xl) (c1 := y1) (c2 := y2) (lc := yl) (vb := (.slice xda xl.length xdk)) (ok := true) (sb := true) (sn := true) hr ho1 (unhide HQ) (unhide HE) (unhide HT) hkl (.inr ⟨rfl, rfl⟩) hC hok hsb hsn)
                    clear hC hok ho1 hsb hsn
                    have PR := hide (fun W5 k4 a4 (F : SF w W5 p q bx W2.heap.size mm xi xt xl.length k4 S (some (y1, y2, yl)) g O (y1, y2, yl) (.slice da nn dk) (.slice xda xl.length xdk) (.slice xka xks.length xkk) (GX.obj ⟨what, halt, xi, xt, xda, xdk, xl, xka, xkk, xks⟩) xl xks a4) => round_cut F (unhide HE) (unhide HT) hq)
                    clear hq
                    have HM := hide (fun w4 v4 => sf_make (w4 := w4) (v4 := v4) (unhide HH) hxok hl)
                    have HRZ := hide ((unhide HH).dt.2.1.re (dk_below (O := O) (below_alloc (.cells #[.int .u64 (xi : Int), .int .u64 (xt : Int), .slice xda xl.length xdk] 34) (Nat.le_refl W2.heap.size))) (fun k hk => .inl hk))
                    have hxz := (Array.getElem?_eq_some_iff.1 (unhide HH).xv).1
                    obtain ⟨x0, x1, x2, x3, x4, x5⟩ := (unhide HH).cells
                    clear HH hxok
                    go_wp2_with (first
                      | (at_builtin; refine wpList_append_z rfl (.const (.slice none 0 0)) (.tmp 54) rfl _ 0 [] rfl (World.ownsRow_nil _ _ _ _) O _ xl rfl (unhide HRZ) (by omega) ?_; intro v4 w4 ho4 hg4 hl4; clear HRZ x0 x1 x2 x3 x4 x5; obtain ⟨a4, k4, rfl, hsv4, _, hsf⟩ := unhide HM w4 v4 ho4 hg4 hl4; clear HM ho4 hg4 hl4; obtain ⟨u0, u1, u2, u3, u4, u5⟩ := hsv4.cells; have PS := hide (unhide PR _ _ _ hsf); clear PR hsv4 hsf)
                      | (go_at_call 10; refine (unhide PS).mono ?_; clear u0 u1 u2 u3 u4 u5; rintro e w6 ⟨eb, rfl, hs6, hsp⟩; clear PS; obtain ⟨u0, u1, u2, u3, u4, u5⟩ := (unhide hs6).cells; clear hs6)
                      | (go_at_call 16; refine (unhide hsp).mono ?_; clear u0 u1 u2 u3 u4 u5; rintro e w7 ⟨rfl, hr7⟩; clear hsp)
                      | (go_at_call 17; refine (unhide hr7).mono ?_; rintro e w8 ⟨rfl, hr8⟩; clear hr7; have P8 := hide (unhide PT _ (unhide hr8)); clear PT; obtain ⟨z0, z1, z2, z3, z4, z5⟩ := (rst_q (unhide hr8)).cells; obtain ⟨x0, x1, x2, x3, x4, x5⟩ := obj_cells (rst_x (unhide hr8)); have hzq := (rst_q (unhide hr8)).lt; have hzx := (Array.getElem?_eq_some_iff.1 (rst_x (unhide hr8))).1; clear hr8)
                      | (go_at_call 11; refine (unhide P8).mono ?_; clear z0 z1 z2 z3 z4 z5 x0 x1 x2 x3 x4 x5 hzq hzx; rintro e w10 ⟨rfl, H10⟩; clear P8)
                      | (go_at_call 12; refine (unhide H10).mono ?_; rintro e w11 ⟨sa, sn, sk, rfl, H11⟩; clear H10; have h12 := unhide H11 _ (Below.refl _ _); obtain ⟨s1, s2, s3, hcB, hcA, hfin⟩ := h12; obtain ⟨z0, z1, z2, z3, z4, z5⟩ := s1.cells; obtain ⟨y0, y1', y2', _, _, _⟩ := s2.cells; obtain ⟨v0, v1, v2, _, _, _⟩ := s3.cells; clear s1 s2 s3)
                      | (go_at_call 18; refine (unhide hcB).mono ?_; clear hcB hcA hfin z0 z1 z2 z3 z4 z5 y0 y1' y2' v0 v1 v2; rintro e w13 ⟨rfl, hb13⟩; have h13 := unhide H11 _ hb13; have HB13 := hide hb13; clear hb13; obtain ⟨s1, s2, s3, _, _, hfin⟩ := h13; obtain ⟨z0, z1, z2, z3, z4, z5⟩ := s1.cells; obtain ⟨y0, y1', y2', _, _, _⟩ := s2.cells; obtain ⟨v0, v1, v2, _, _, _⟩ := s3.cells; clear s1 s2 s3))
                    go_roundw
                    case rel => exact ⟨k + 1, (some (y1, y2, yl)), sa, sn, sk, by omega, rfl, by go_num, by have hh := unhide hfin; rw [hmm] at hh; exact hh⟩
                    case measure => simp [intOf]; omega
                  · have hsb := decide_eq_false he
                    clear he
                    have ho1 : oOk (some (y1, y2, yl)) := (unhide HH).ho
                    have hC : nowS (some (y1, y2, yl)) = (y1, y2, yl) := rfl
                    have hok : Option.isSome (some (y1, y2, yl)) = true := rfl
                    have PT := hide (fun W8 (hr : RST w W8 p q bx mm (some (y1, y2, yl)) (y1, y2, yl) (.slice da nn dk) (GX.obj ⟨what, halt, xi, xt, xda, xdk, xl, xka, xkk, xks⟩) (.slice xda xl.length xdk) xl (.slice xka xks.length xkk) xks) => tail_any (a1 := y1) (a2 := y2) (la := yl) (b1 := xi) (b2 := xt) (lb := xl) (c1 := y1) (c2 := y2) (lc := yl) (vb := (.slice xda xl.length xdk)) (ok := true) (sb := false) (sn := true) hr ho1 (unhide HQ) (unhide HE) (unhide HT) hkl (.inr ⟨rfl, rfl⟩) hC hok hsb hsn)
                    clear hC hok ho1 hsb hsn
                    have PR := hide (fun W5 k4 a4 (F : SF w W5 p q bx W2.heap.size mm xi xt xl.length k4 S (some (y1, y2, yl)) g O (y1, y2, yl) (.slice da nn dk) (.slice xda xl.length xdk) (.slice xka xks.length xkk) (GX.obj ⟨what, halt, xi, xt, xda, xdk, xl, xka, xkk, xks⟩) xl xks a4) => round_cut F (unhide HE) (unhide HT) hq)
                    clear hq
                    have HM := hide (fun w4 v4 => sf_make (w4 := w4) (v4 := v4) (unhide HH) hxok hl)
                    have HRZ := hide ((unhide HH).dt.2.1.re (dk_below (O := O) (below_alloc (.cells #[.int .u64 (xi : Int), .int .u64 (xt : Int), .slice xda xl.length xdk] 34) (Nat.le_refl W2.heap.size))) (fun k hk => .inl hk))
                    have hxz := (Array.getElem?_eq_some_iff.1 (unhide HH).xv).1
                    obtain ⟨x0, x1, x2, x3, x4, x5⟩ := (unhide HH).cells
                    clear HH hxok
                    go_wp2_with (first
                      | (at_builtin; refine wpList_append_z rfl (.const (.slice none 0 0)) (.tmp 54) rfl _ 0 [] rfl (World.ownsRow_nil _ _ _ _) O _ xl rfl (unhide HRZ) (by omega) ?_; intro v4 w4 ho4 hg4 hl4; clear HRZ x0 x1 x2 x3 x4 x5; obtain ⟨a4, k4, rfl, hsv4, _, hsf⟩ := unhide HM w4 v4 ho4 hg4 hl4; clear HM ho4 hg4 hl4; obtain ⟨u0, u1, u2, u3, u4, u5⟩ := hsv4.cells; have PS := hide (unhide PR _ _ _ hsf); clear PR hsv4 hsf)
                      | (go_at_call 10; refine (unhide PS).mono ?_; clear u0 u1 u2 u3 u4 u5; rintro e w6 ⟨eb, rfl, hs6, hsp⟩; clear PS; obtain ⟨u0, u1, u2, u3, u4, u5⟩ := (unhide hs6).cells; clear hs6)
                      | (go_at_call 16; refine (unhide hsp).mono ?_; clear u0 u1 u2 u3 u4 u5; rintro e w7 ⟨rfl, hr7⟩; clear hsp)
                      | (go_at_call 17; refine (unhide hr7).mono ?_; rintro e w8 ⟨rfl, hr8⟩; clear hr7; have P8 := hide (unhide PT _ (unhide hr8)); clear PT; obtain ⟨z0, z1, z2, z3, z4, z5⟩ := (rst_q (unhide hr8)).cells; obtain ⟨x0, x1, x2, x3, x4, x5⟩ := obj_cells (rst_x (unhide hr8)); have hzq := (rst_q (unhide hr8)).lt; have hzx := (Array.getElem?_eq_some_iff.1 (rst_x (unhide hr8))).1; clear hr8)
                      | (go_at_call 11; refine (unhide P8).mono ?_; clear z0 z1 z2 z3 z4 z5 x0 x1 x2 x3 x4 x5 hzq hzx; rintro e w10 ⟨rfl, H10⟩; clear P8)
                      | (go_at_call 12; refine (unhide H10).mono ?_; rintro e w11 ⟨sa, sn, sk, rfl, H11⟩; clear H10; have h12 := unhide H11 _ (Below.refl _ _); obtain ⟨s1, s2, s3, hcB, hcA, hfin⟩ := h12; obtain ⟨z0, z1, z2, z3, z4, z5⟩ := s1.cells; obtain ⟨y0, y1', y2', _, _, _⟩ := s2.cells; obtain ⟨v0, v1, v2, _, _, _⟩ := s3.cells; clear s1 s2 s3)
                      | (go_at_call 18; refine (unhide hcB).mono ?_; clear hcB hcA hfin z0 z1 z2 z3 z4 z5 y0 y1' y2' v0 v1 v2; rintro e w13 ⟨rfl, hb13⟩; have h13 := unhide H11 _ hb13; have HB13 := hide hb13; clear hb13; obtain ⟨s1, s2, s3, _, hdA, hfin⟩ := h13; obtain ⟨z0, z1, z2, z3, z4, z5⟩ := s1.cells; obtain ⟨y0, y1', y2', _, _, _⟩ := s2.cells; obtain ⟨v0, v1, v2, _, _, _⟩ := s3.cells; clear s1 s2 s3)
                      | (go_at_call 18; refine (unhide hdA).mono ?_; clear hdA hfin z0 z1 z2 z3 z4 z5 y0 y1' y2' v0 v1 v2; rintro e w14 ⟨rfl, hb14⟩; have h14 := unhide H11 _ (bt (unhide HB13) hb14); clear hb14; obtain ⟨s1, s2, s3, _, _, hfin⟩ := h14; obtain ⟨z0, z1, z2, z3, z4, z5⟩ := s1.cells; obtain ⟨y0, y1', y2', _, _, _⟩ := s2.cells; obtain ⟨v0, v1, v2, _, _, _⟩ := s3.cells; clear s1 s2 s3))
                    go_roundw
                    case rel => exact ⟨k + 1, (some (y1, y2, yl)), sa, sn, sk, by omega, rfl, by go_num, by have hh := unhide hfin; rw [hmm] at hh; exact hh⟩
                    case measure => simp [intOf]; omega
                · obtain ⟨snn, hsn⟩ : ∃ z, decide (((xi, xt, xl) : Sn) = (y1, y2, yl)) = z := ⟨_, rfl⟩
                  have hsb : decide (((xi, xt, xl) : Sn) = (xi, xt, xl)) = true := decide_eq_true rfl
                  have ho1 : oOk (savedO (some (y1, y2, yl)) (xi, xt, xl)) := sn_saved (unhide HH).ho ⟨hxok.i, hxok.t, hl⟩
                  have hC : nowS (savedO (some (y1, y2, yl)) (xi, xt, xl)) = (xi, xt, xl) := by rw [now_saved, if_pos (.inr (by simp [nowS]; omega))]
                  have hok : Option.isSome (savedO (some (y1, y2, yl)) (xi, xt, xl)) = true := is_saved _ _
                  have PT := hide (fun W8 (hr : RST w W8 p q bx mm (savedO (some (y1, y2, yl)) (xi, xt, xl)) (y1, y2, yl) (.slice da nn dk) (GX.obj ⟨what, halt, xi, xt, xda, xdk, xl, xka, xkk, xks⟩) (.slice xda xl.length xdk) xl (.slice xka xks.length xkk) xks) => tail_any (a1 := y1) (a2 := y2) (la := yl) (b1 := xi) (b2 := xt) (lb := xl) (c1 := xi) (c2 := xt) (lc := xl) (vb := (.slice xda xl.length xdk)) (ok := true) (sb := true) (sn := snn) hr ho1 (unhide HQ) (unhide HE) (unhide HT) hkl (.inr ⟨rfl, rfl⟩) hC hok hsb hsn)
                  clear hC hok ho1 hsb hsn
                  have PR := hide (fun W5 k4 a4 (F : SF w W5 p q bx W2.heap.size mm xi xt xl.length k4 S (some (y1, y2, yl)) g O (y1, y2, yl) (.slice da nn dk) (.slice xda xl.length xdk) (.slice xka xks.length xkk) (GX.obj ⟨what, halt, xi, xt, xda, xdk, xl, xka, xkk, xks⟩) xl xks a4) => round_done F (unhide HE) (unhide HT) hq)
                  clear hq
                  have HM := hide (fun w4 v4 => sf_make (w4 := w4) (v4 := v4) (unhide HH) hxok hl)
                  have HRZ := hide ((unhide HH).dt.2.1.re (dk_below (O := O) (below_alloc (.cells #[.int .u64 (xi : Int), .int .u64 (xt : Int), .slice xda xl.length xdk] 34) (Nat.le_refl W2.heap.size))) (fun k hk => .inl hk))
                  have hxz := (Array.getElem?_eq_some_iff.1 (unhide HH).xv).1
                  obtain ⟨x0, x1, x2, x3, x4, x5⟩ := (unhide HH).cells
                  clear HH hxok
                  go_wp2_with (first
                    | (at_builtin; refine wpList_append_z rfl (.const (.slice none 0 0)) (.tmp 54) rfl _ 0 [] rfl (World.ownsRow_nil _ _ _ _) O _ xl rfl (unhide HRZ) (by omega) ?_; intro v4 w4 ho4 hg4 hl4; clear HRZ x0 x1 x2 x3 x4 x5; obtain ⟨a4, k4, rfl, hsv4, _, hsf⟩ := unhide HM w4 v4 ho4 hg4 hl4; clear HM ho4 hg4 hl4; obtain ⟨u0, u1, u2, u3, u4, u5⟩ := hsv4.cells; have PS := hide (unhide PR _ _ _ hsf); clear PR hsv4 hsf)
                    | (go_at_call 10; refine (unhide PS).mono ?_; clear u0 u1 u2 u3 u4 u5; rintro e w6 ⟨rfl, hs6, hsp⟩; clear PS; obtain ⟨u0, u1, u2, u3, u4, u5⟩ := (unhide hs6).cells; clear hs6)
                    | (go_at_call 16; refine (unhide hsp).mono ?_; clear u0 u1 u2 u3 u4 u5; rintro e w7 ⟨rfl, hr7⟩; clear hsp; have P8 := hide (unhide PT _ (unhide hr7)); clear PT; obtain ⟨z0, z1, z2, z3, z4, z5⟩ := (rst_q (unhide hr7)).cells; obtain ⟨x0, x1, x2, x3, x4, x5⟩ := obj_cells (rst_x (unhide hr7)); have hzq := (rst_q (unhide hr7)).lt; have hzx := (Array.getElem?_eq_some_iff.1 (rst_x (unhide hr7))).1; clear hr7)
                    | (go_at_call 11; refine (unhide P8).mono ?_; clear z0 z1 z2 z3 z4 z5 x0 x1 x2 x3 x4 x5 hzq hzx; rintro e w10 ⟨rfl, H10⟩; clear P8)
                    | (go_at_call 12; refine (unhide H10).mono ?_; rintro e w11 ⟨sa, sn, sk, rfl, H11⟩; clear H10; have h12 := unhide H11 _ (Below.refl _ _); obtain ⟨s1, s2, s3, hcB, hcA, hfin⟩ := h12; obtain ⟨z0, z1, z2, z3, z4, z5⟩ := s1.cells; obtain ⟨y0, y1', y2', _, _, _⟩ := s2.cells; obtain ⟨v0, v1, v2, _, _, _⟩ := s3.cells; clear s1 s2 s3)
                    | (go_at_call 18; refine (unhide hcB).mono ?_; clear hcB hcA hfin z0 z1 z2 z3 z4 z5 y0 y1' y2' v0 v1 v2; rintro e w13 ⟨rfl, hb13⟩; have h13 := unhide H11 _ hb13; have HB13 := hide hb13; clear hb13; obtain ⟨s1, s2, s3, _, _, hfin⟩ := h13; obtain ⟨z0, z1, z2, z3, z4, z5⟩ := s1.cells; obtain ⟨y0, y1', y2', _, _, _⟩ := s2.cells; obtain ⟨v0, v1, v2, _, _, _⟩ := s3.cells; clear s1 s2 s3))
                  go_roundw
                  case rel => exact ⟨k + 1, (savedO (some (y1, y2, yl)) (xi, xt, xl)), sa, sn, sk, by omega, by rw [is_saved], by go_num, by have hh := unhide hfin; rw [hmm] at hh; exact hh⟩
                  case measure => simp [intOf]; omega
        · have hl1 : ¬ ((1500 : Int) < (xl.length : Int)) := by omega
          have hl2 : (80 : Int) < (xks.length : Int) := by omega
          clear hxok hrl
          go_wp2
          go_ret
          exact ⟨rfl, unhide HBX⟩
      · have hl1 : (1500 : Int) < (xl.length : Int) := by omega
        clear hxok hrl
        go_wp2
        go_ret
        exact ⟨rfl, unhide HBX⟩
    · have hki : ¬ ((k : Int) < (n : Int)) := by omega
      have HB := hide (hd_bel (unhide hrl))
      go_wp2
      go_ret
      exact ⟨rfl, unhide HB⟩

set_option maxHeartbeats 1600000 in
theorem plays_any (n ck : Nat) (aa : Option Addr) (gs : List GX) (w : World) (hn : n = gs.length) (hin : InX w aa gs) (hE : ET w) (hT : ST w) :
    Calls Tryz.prog 4 #[.slice aa n ck] w fun e w' => e = .returned (.bool true) ∧ Below w.heap.size w w' := by
  by_cases h24 : n ≤ 24
  · exact plays_small n ck aa gs w hn h24 hin hE hT
  · have HK := hide (known4_any w hE hT)
    have hg1 : (24 : Int) < (n : Int) := by omega
    clear hE hT hin hn
    go_enter Tryz.func4, Tryz.ntmps4
    go_wp2_with (go_at_call 6; refine (unhide HK).mono ?_; rintro e w1 ⟨rfl, b1⟩; clear HK)
    go_ret
    exact ⟨rfl, b1⟩
end Go.Proofs.YtpminalccnhkjaaGreatDoor
