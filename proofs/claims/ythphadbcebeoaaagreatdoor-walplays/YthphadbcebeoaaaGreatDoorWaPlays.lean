/- WalPlays: its walk. -/
import Derived.Test.YthphadbcebeoaaaGreatDoorWaPl6
import Derived.Test.YthphadbcebeoaaaGreatDoorJWaSetWaApE
import Derived.Deep.CutBlock
namespace Go.Proofs.YthphadbcebeoaaaGreatDoor
open Go.RowKit Go.Lib Go.Maps

set_option maxHeartbeats 51200000 in
set_option maxRecDepth 100000 in
theorem wplays_law (w : World) (hE : ET w) (hT : ST w) (la : Option Addr) (lc : Nat) (xs : List GStp) (hl : SRow w w.heap.size (.slice la xs.length lc) xs) (hok : ∀ x ∈ xs, XOk x) :
    Calls Tryz.prog 5 #[.slice la xs.length lc] w fun e w' => e = .returned (.bool true) ∧ Below w.heap.size w w' := by
  have hxm : (xs.length : Int) ≤ 9223372036854775807 := by have := hl.1; unfold maxLen at this; omega
  have HK := hide (wknown_any w hE hT)
  have HF : Hid (∀ w1 : World, Below w.heap.size w w1 → Calls Tryz.prog 20 #[.slice la xs.length lc] w1 fun e w' => ∃ m, e = .returned (.bool m) ∧ w' = w1 ∧ Hid (m = true → xs.length ≤ 50 ∧ (∀ x ∈ xs, StpOk x) ∧ sumX xs ≤ 12000)) := fun w1 hb => (wfew_any w1 w.heap.size _ xs (hl.below hb)).mono fun e w' ⟨⟨m, h1, h2⟩, h3⟩ => ⟨m, h1, h3, h2⟩
  have HN := hide (fun (w1 : World) (hb : Below w.heap.size w w1) => kb_new (w := w1) (room := 65536) (by decide) (hE.below hb hE.lt) (hT.below hb hT.lt))
  have HX : Hid (∀ (i : Nat) (x : GStp), xs[i]? = some x → ∃ b off, la = some ⟨b, off, none⟩ ∧ XOk x ∧ b < w.heap.size ∧ (∃ ka kc, x.k = .slice ka x.ks.length kc) ∧ ∀ wr : World, Below w.heap.size w wr → (∀ j u, x.cells[j]? = some u → wr.cell? ⟨b, off + i * 7 + j, none⟩ = some u) ∧ SlE wr wr.heap.size x.l x.es ∧ ∀ B, w.heap.size ≤ B → Dk.KeepAt wr (fun k => B ≤ k) x.k x.ks) := fun i x hx => by
    have hm := List.mem_of_getElem? hx
    obtain ⟨_, h2, a, cap, e, hc⟩ := hl
    cases e
    obtain ⟨b, off, rfl, hbl, hcc⟩ := hc (fun e => by rw [e] at hm; cases hm)
    obtain ⟨q1, q2, q3⟩ := h2 _ hm
    exact ⟨b, off, rfl, hok _ hm, hbl, q3, fun wr hb => ⟨fun j u hu => (hb.cell (p := ⟨b, _, none⟩) hbl).trans (hcc i _ hx j u hu), q1.later hb hb.size, fun B hB => keep_low q2 hb hB⟩⟩
  clear hl hok hE hT
  go_enter Tryz.func5, Tryz.ntmps5
  go_wp2_with (first
    | (go_at_call 7; refine (unhide HK).mono ?_; rintro e w1 ⟨rfl, hb1⟩; have HB1 := hide hb1; have HF1 := hide (unhide HF w1 hb1); clear HK HF hb1)
    | (go_at_call 20; refine (unhide HF1).mono ?_; rintro e w2 ⟨m, rfl, rfl, hm⟩; clear HF1; cases m; rotate_left; have HSZ := hide (unhide hm rfl); clear hm; rotate_left; focus (go_wp2_with fail; go_ret; exact ⟨rfl, unhide HB1⟩))
    | (go_at_call 8; refine (unhide HN _ (unhide HB1)).mono ?_; rintro e w2b ⟨rfl, _, HO⟩; clear HN)
    | (go_at_call 9; refine (unhide HO).mono ?_; rintro e w3 ⟨p, rfl, K3⟩; clear HO))
  have HPI := hide (pi_start (xs := xs) (unhide K3))
  clear K3
  go_loopw [4, 5, 7, 8, 9, 10, 11, 12, 13] (fun s4 s5 s7 s8 s9 s10 s11 s12 s13 wr => s5 = s5 ∧ s9 = s9 ∧ s10 = s10 ∧ s11 = s11 ∧ s12 = s12 ∧ s13 = s13 ∧ ∃ (p i mn mk : Nat) (ma : Option Addr) (vn : Value) (M : List (Sta × Value)), i ≤ xs.length ∧ s4 = .pointer (some ⟨p, 0, none⟩) ∧ s7 = .slice ma mn mk ∧ s8 = .int .i64 (i : Int) ∧ Hid (mn = M.length ∧ PI w2 wr p w3.heap.size i vn (.slice ma mn mk) M xs)) (fun _ _ _ s8 _ _ _ _ _ _ => xs.length - (RowKit.intOf s8).toNat)
  case atStart => exact ⟨rfl, rfl, rfl, rfl, rfl, rfl, p, 0, 1, 1, _, _, _, Nat.zero_le _, rfl, rfl, rfl, rfl, unhide HPI⟩
  case round =>
    obtain ⟨-, -, -, -, -, -, p, i, mn, mk, ma, vn, M, hi, rfl, rfl, rfl, hr⟩ := hrel
    clear HPI
    by_cases hlt : i < xs.length
    · obtain ⟨x, hx⟩ : ∃ x, xs[i]? = some x := ⟨xs[i], List.getElem?_eq_getElem hlt⟩
      obtain ⟨xlb, xof, rfl, hxo, hxbl, ⟨kka, kkc, hke⟩, hxw⟩ := unhide HX i x hx
      have hBr : Below w.heap.size w wr := by obtain ⟨_, _, _, _, _, _, _, _, _, h3, _⟩ := unhide hr; exact (unhide HB1).trans (h3.mono (unhide HB1).size)
      obtain ⟨hxc, hsl, _⟩ := hxw wr hBr
      obtain ⟨rs, ns, pr, s, S, hpj, hon, hmay, heok, hsz⟩ := (unhide hr).2.enter x
      have hmn := (unhide hr).1
      have hxb3 : w3.heap.size < wr.heap.size := by obtain ⟨_, _, _, _, _, _, _, _, _, h4, _⟩ := (unhide hr).2; exact (Array.getElem?_eq_some_iff.1 h4.now).1
      have hii : (i : Int) < (xs.length : Int) := by omega
      have hi0 : (0 : Int) ≤ (i : Int) := by omega
      have d0 := hxc 0 _ rfl
      have d1 := hxc 1 _ rfl
      have d2 := hxc 2 _ rfl
      have d3 := hxc 3 _ rfl
      have d4 := hxc 4 _ rfl
      have d5 := hxc 5 _ rfl
      have d6 := hxc 6 _ rfl
      have hstp : StpOk x := (unhide HSZ).2.1 x (List.mem_of_getElem? hx)
      have hi50 : i < 50 := by have := (unhide HSZ).1; omega
      obtain ⟨lla, llc, hle, hl0⟩ := hxo.l
      have HSL : Hid (∀ W, Below w2.heap.size w2 W → SlE W W.heap.size x.l x.es) := fun W hb => (hxw W ((unhide HB1).trans (hb.mono (unhide HB1).size))).2.1
      have HKP : Hid (∀ W, Below w2.heap.size w2 W → Dk.KeepAt W (fun k => w2.heap.size ≤ k) x.k x.ks) := fun W hb => (hxw W ((unhide HB1).trans (hb.mono (unhide HB1).size))).2.2 _ (unhide HB1).size
      have hok : ∀ g ∈ x.es, g.ok := hsl.2.1
      have HPJ := hide hpj
      have HI := hide (And.intro hon (And.intro hmay (And.intro heok (And.intro hsz (And.intro hxo (And.intro hstp (And.intro hok (And.intro hx hmn))))))))
      obtain ⟨wh, nu, ix, te, vo, l, es, kv, ks⟩ := x
      dsimp only at hle hke d0 d1 d2 d3 d4 d5 d6
      subst hle hke
      clear hpj hon hmay heok hsz hxo hstp hok hx hr hxc hsl hxw hBr HX hmn
      simp only [Nat.add_zero] at d0
      go_upto_block 2 with fail
      generalize hWg : wr.alloc (.cells #[.int .i64 wh, .int .i64 nu, .int .u64 (ix : Int), .int .u64 (te : Int), .int .i64 vo, .slice lla es.length llc, .slice kka ks.length kkc] 59) = W at HPJ ⊢
      have HWB : Hid (Below wr.heap.size wr W) := by rw [← hWg]; exact box_below _ _
      generalize wr.heap.size = xb at HPJ hxb3 HWB ⊢
      clear hWg d0 d1 d2 d3 d4 d5 d6
      go_cut [5, 7, 10, 11] from 47 to 144 (fun s5 s7 s10 s11 wx => s10 = s10 ∧ s11 = s11 ∧ ∃ (ma' : Option Addr) (mn' mk' : Nat) (vn' : Value) (M' : List (Sta × Value)) (fl : Bool), s7 = .slice ma' mn' mk' ∧ Hid (mn' = M'.length ∧ PK w2 wx p w3.heap.size xb ⟨wh, nu, ix, te, vo, .slice lla es.length llc, es, .slice kka ks.length kkc, ks⟩ vn' (.slice ma' mn' mk') M' i xs fl s5))
      case first =>
        by_cases hin : 0 ≤ wh ∧ wh ≤ 5
        · obtain ⟨⟨n0, n1, n2, n3, n4⟩, x0, x1, x2, x3, x4, x5, x6⟩ := (unhide HPJ).cells
          dsimp only at x0 x1 x2 x3 x4 x5 x6
          go_step
          go_step
          go_cut [47] from 48 to 53 (fun s47 wx => s47 = .bool true ∧ wx = W)
          case first =>
            rcases (show wh = 0 ∨ wh = 1 ∨ wh = 2 ∨ wh = 3 ∨ wh = 4 ∨ wh = 5 by omega) with rfl | rfl | rfl | rfl | rfl | rfl
            all_goals
              go_wp2_with fail
              go_meet
              exact ⟨rfl, rfl⟩
          case rest =>
            obtain ⟨rfl, rfl⟩ := hcut
            obtain ⟨hz1, hz2, hz3, hz4, hz5⟩ := (unhide HI).2.2.2.1.bound (unhide HI).2.2.2.2.2.2.2.1 (unhide HSZ).2.2 hi50
            dsimp only at hz2
            have hsl0 : s.es.length + es.length ≤ 900000 := by have h2 := (unhide HI).2.2.2.2.2.1.1; dsimp only at h2; omega
            obtain ⟨vna, vnk, hvn⟩ := (unhide HPJ).ev.2.2.2
            subst hvn
            have HD : Hid (Calls Tryz.prog 21 #[stA s (.slice vna s.es.length vnk), spA ⟨wh, nu, ix, te, vo, .slice lla es.length llc, es, .slice kka ks.length kkc, ks⟩] wc fun e w' => ∃ (ms : List (Sta × Value)) (na : Option Addr) (nn nk : Nat) (c : Int), e = .returned (.tuple #[.slice na nn nk, .int .i64 c]) ∧ Hid (nn = ms.length ∧ PJ w2 w' p w3.heap.size xb ⟨wh, nu, ix, te, vo, .slice lla es.length llc, es, .slice kka ks.length kkc, ks⟩ (.slice vna s.es.length vnk) (.slice ma mn mk) (.slice na nn nk) M ms (9000 - 10 * i) rs ns pr s s S ∧ DoR s ⟨wh, nu, ix, te, vo, .slice lla es.length llc, es, .slice kka ks.length kkc, ks⟩ ms c)) := by
              refine (pj_does (unhide HPJ) hin (unhide HI).2.2.2.2.1 (unhide HSL wc (unhide HPJ).ev.1) hsl0).mono ?_
              rintro e w' ⟨ms, na, nk, c, e1, e2, e3⟩
              exact ⟨ms, na, ms.length, nk, c, e1, rfl, e2, e3⟩
            go_upto_block 3 with (first
              | (go_at_call 21; refine (unhide HD).mono ?_; rintro e w5 ⟨ms, na, nn, nk, c, rfl, H5⟩; obtain ⟨⟨n0, n1, n2, n3, n4⟩, x0, x1, x2, x3, x4, x5, x6⟩ := (unhide H5).2.1.cells; dsimp only at x0 x1 x2 x3 x4 x5 x6; clear HD))
            go_cut [5] from 62 to 89 (fun s5 wy => ∃ ve, s5 = ve ∧ Hid (OutC w2 wy p w3.heap.size xb ⟨wh, nu, ix, te, vo, .slice lla es.length llc, es, .slice kka ks.length kkc, ks⟩ (.slice vna s.es.length vnk) (.slice ma mn mk) (.slice na nn nk) M ms (9000 - 10 * i - 1) rs ns pr s c ve))
            case first =>
              have h5 := (unhide H5).2.1
              rw [show 9000 - 10 * i = 9000 - 10 * i - 1 + 1 by omega] at h5
              have HJ5 := hide h5
              have hdr := (unhide H5).2.2
              have HDR := hide hdr
              clear h5 hdr H5
              rcases (show wh = 0 ∨ wh = 4 ∨ wh = 5 ∨ (wh = 1 ∨ wh = 2 ∨ wh = 3) by omega) with rfl | rfl | rfl | hw123
              · have HC : Hid (Calls Tryz.prog 16 #[.pointer (some ⟨p, 0, none⟩), .agg #[.int .u64 (te : Int), .int .i64 vo]] w5 fun e w' => ∃ ve, e = .returned ve ∧ Hid (OutC w2 w' p w3.heap.size xb ⟨0, nu, ix, te, vo, .slice lla es.length llc, es, .slice kka ks.length kkc, ks⟩ (.slice vna s.es.length vnk) (.slice ma mn mk) (.slice na nn nk) M ms (9000 - 10 * i - 1) rs ns pr s c ve)) := pj_one set_of (unhide HJ5) (unhide HI).1 (by simp) (unhide HDR) (unhide HI).2.2.2.2.1 (unhide HI).2.1 hz1 hz3
                go_wp2_with (first
                  | (go_at_call 16; refine (unhide HC).mono ?_; rintro e w6 ⟨ve, rfl, H6⟩; clear HC))
                go_meet
                exact ⟨_, rfl, unhide H6⟩
              · have HC : Hid (Calls Tryz.prog 10 #[.pointer (some ⟨p, 0, none⟩), .int .u64 (ix : Int)] w5 fun e w' => ∃ ve, e = .returned ve ∧ Hid (OutC w2 w' p w3.heap.size xb ⟨4, nu, ix, te, vo, .slice lla es.length llc, es, .slice kka ks.length kkc, ks⟩ (.slice vna s.es.length vnk) (.slice ma mn mk) (.slice na nn nk) M ms (9000 - 10 * i - 1) rs ns pr s c ve)) := pj_one cut_of (unhide HJ5) (unhide HI).1 (by simp) (unhide HDR) (unhide HI).2.2.2.2.1 (unhide HI).2.1 hz1 hz3
                go_wp2_with (first
                  | (go_at_call 10; refine (unhide HC).mono ?_; rintro e w6 ⟨ve, rfl, H6⟩; clear HC))
                go_meet
                exact ⟨_, rfl, unhide H6⟩
              · have HC : Hid (Calls Tryz.prog 17 #[.pointer (some ⟨p, 0, none⟩), .int .u64 (ix : Int), .int .u64 (te : Int)] w5 fun e w' => ∃ ve, e = .returned ve ∧ Hid (OutC w2 w' p w3.heap.size xb ⟨5, nu, ix, te, vo, .slice lla es.length llc, es, .slice kka ks.length kkc, ks⟩ (.slice vna s.es.length vnk) (.slice ma mn mk) (.slice na nn nk) M ms (9000 - 10 * i - 1) rs ns pr s c ve)) := pj_one drop_of (unhide HJ5) (unhide HI).1 (by simp) (unhide HDR) (unhide HI).2.2.2.2.1 (unhide HI).2.1 hz1 hz3
                go_wp2_with (first
                  | (go_at_call 17; refine (unhide HC).mono ?_; rintro e w6 ⟨ve, rfl, H6⟩; clear HC))
                go_meet
                exact ⟨_, rfl, unhide H6⟩
              · have HLL := hide ((unhide HSL w5 (unhide HJ5).ev.1))
                cases lla with
                | none =>
                  obtain rfl := hl0 rfl
                  obtain rfl : es = [] := by
                    obtain ⟨_, _, a', cap', e', hcc⟩ := unhide HLL
                    cases e'
                    cases es with
                    | nil => rfl
                    | cons g es =>
                      obtain ⟨_, _, e, _⟩ := hcc (by simp)
                      cases e
                  have HC : Hid (Calls Tryz.prog 11 #[.pointer (some ⟨p, 0, none⟩), .slice none 0 0] w5 fun e w' => ∃ ve, e = .returned ve ∧ Hid (OutC w2 w' p w3.heap.size xb ⟨wh, nu, ix, te, vo, .slice none ([] : List GE).length 0, [], .slice kka ks.length kkc, ks⟩ (.slice vna s.es.length vnk) (.slice ma mn mk) (.slice na nn nk) M ms (9000 - 10 * i - 1) rs ns pr s c ve)) := pj_app (unhide HJ5) (unhide HI).1 hw123 (unhide HDR) (EL.nil _).re (unhide HI).2.2.2.2.2.2.1 (unhide HI).2.2.2.2.2.1 (unhide HI).2.1 hz2 hz3
                  rcases hw123 with rfl | rfl | rfl
                  all_goals
                    go_wp2_with (first
                      | (go_at_call 11; refine (unhide HC).mono ?_; rintro e w6 ⟨ve, rfl, H6⟩; clear HC))
                    go_meet
                    exact ⟨_, rfl, unhide H6⟩
                | some ad =>
                  have HC : Hid (∀ (w6 : World) (v6 : Value), Below w5.heap.size w5 w6 → EL w6 v6 es → Calls Tryz.prog 11 #[.pointer (some ⟨p, 0, none⟩), v6] w6 fun e w' => ∃ ve, e = .returned ve ∧ Hid (OutC w2 w' p w3.heap.size xb ⟨wh, nu, ix, te, vo, .slice (some ad) es.length llc, es, .slice kka ks.length kkc, ks⟩ (.slice vna s.es.length vnk) (.slice ma mn mk) (.slice na nn nk) M ms (9000 - 10 * i - 1) rs ns pr s c ve)) := fun w6 v6 hb he => pj_app ((unhide HJ5).below hb) (unhide HI).1 hw123 (unhide HDR) he.re (unhide HI).2.2.2.2.2.2.1 (unhide HI).2.2.2.2.2.1 (unhide HI).2.1 hz2 hz3
                  have h12 : es.length ≤ 1000 := by have := (unhide HI).2.2.2.2.2.1.1; dsimp only at this; omega
                  rcases hw123 with rfl | rfl | rfl
                  all_goals
                    go_wp2_with (first
                      | (at_builtin; refine wpList_append_sle rfl _ _ rfl rfl (some ad) llc es _ rfl rfl (unhide HLL) hl0 h12 ?_; intro v6 w6 e6 b6; have HC6 := hide (unhide HC w6 v6 b6 e6); clear HC e6 b6)
                      | (go_at_call 11; refine (unhide HC6).mono ?_; rintro e w7 ⟨ve, rfl, H6⟩; clear HC6))
                    go_meet
                    exact ⟨_, rfl, unhide H6⟩
            case rest =>
              obtain ⟨ve, rfl, H6⟩ := hcut
              have hnn := (unhide H5).1
              have HNN := hide hnn
              have hdok := dor_ok (unhide H5).2.2 (unhide HPJ).ev.2.2.1 (by omega) (unhide HI).2.2.2.2.1 (unhide HI).2.2.2.2.2.2.1
              have hm13 : ms.length ≤ 13 := by have h2 := (unhide HI).2.2.2.2.2.1.1; have := hdok.2; dsimp only at h2 this; omega
              have HEO := hide ((unhide HI).2.2.1.app hdok.1)
              have hnn13 : (nn : Int) ≤ 13 := by omega
              have hml : M.length + ms.length ≤ 100000 := by omega
              have hMne : M ≠ [] := by obtain ⟨O, hwz, _⟩ := unhide HPJ; exact may_some (unhide HI).2.1 hwz.info.1 hwz.info.2.2.1
              have HMN := hide hMne
              clear hdok hMne H5 n0 n1 n2 n3 n4 x0 x1 x2 x3 x4 x5 x6 hnn
              rcases unhide H6 with ⟨rfl, rfl, rs', s', S', hof, hpj6, hmy6, hlast, hl1, hl2, hl3⟩ | ⟨rfl, T6, b6, S', rfl, he6, hpj6⟩ | ⟨hc0, hc32, T6, b6, S', rfl, he6, hof, hpj6⟩
              · have HPJ6 := hide hpj6
                have HSZ6 := hide ((unhide HI).2.2.2.1.step (M := M) (ms := ms) (unhide HI).2.2.2.2.2.2.2.1 hl1 hl2 hl3 hm13)
                have HMY := hide hmy6
                have hex := (unhide HPJ6).ev.2.1
                clear hpj6 hl1 hl2 hl3 hmy6 H6
                rcases hlast with ⟨hms0, rfl⟩ | ⟨y, hy0, hy, hys⟩
                · have hnn0 : nn = 0 := by rw [unhide HNN, hms0]; rfl
                  have HMS := hide hms0
                  subst hnn0
                  clear hms0
                  go_wp2_with (first
                    | (go_at_call 22; refine (class_nil _).mono ?_; rintro e w7 ⟨rfl, rfl⟩)
                    | (at_builtin; refine wpList_append_st (mv := .slice ma mn mk) (nv := .slice na 0 nk) rfl _ _ rfl rfl rfl (unhide HPJ6) hxb3 hml ?_; rintro mv9 w9 ⟨ma9, mk9, rfl⟩ q9 e9; have HQ9 := hide q9; have HE9 := hide (fun ve c => e9 ve c (unhide HMN)); clear q9 e9))
                  go_meet
                  have hq := (unhide HQ9).less (m := 9000 - 10 * i - 5) (by omega)
                  exact ⟨trivial, trivial, ma9, _, mk9, _, M ++ ms, false, rfl, by rw [List.length_append], rs', ns, true, s', S', _, ms, hq, unhide HMY, unhide HEO, unhide HSZ6, .inl ⟨rfl, hof, .inl rfl⟩⟩
                · obtain ⟨yt, yv⟩ := y
                  obtain ⟨hnnm, bq, hna, -, hyel, -⟩ := ((unhide HPJ6).pq hxb3).next hy
                  subst hna
                  obtain ⟨yva, yvk, hyv, _, _⟩ := hyel.slice
                  dsimp only at hyv hys hyel
                  subst hyv hys
                  clear hyel
                  obtain ⟨N, hN⟩ : ∃ N, ms.length - 1 = N := ⟨_, rfl⟩
                  rw [hN] at hy
                  have hnp : (0 : Int) < (nn : Int) := by omega
                  have hnw : IntKind.i64.wrap ((nn : Int) - 1) = (N : Int) := by rw [IntKind.wrap_i64] <;> omega
                  have hN0 : (0 : Int) ≤ (N : Int) := by omega
                  have hNn : (N : Int) < (nn : Int) := by omega
                  have HY := hide hy
                  clear hy hy0 hnnm hN
                  go_wp2_with (first
                    | (go_at_call 22; refine (class_nil _).mono ?_; rintro e w7 ⟨rfl, rfl⟩)
                    | (at_builtin; refine wpList_append_st (mv := .slice ma mn mk) (nv := .slice (some ⟨bq, 0, none⟩) nn nk) rfl _ _ rfl rfl rfl (unhide HPJ6) hxb3 hml ?_; rintro mv9 w9 ⟨ma9, mk9, rfl⟩ q9 e9; have HQ9 := hide q9; obtain ⟨-, bq', hb', ⟨g0, g1, g2, g3, g4⟩, -⟩ := q9.next (unhide HY); cases hb'; obtain ⟨⟨n0, n1, n2, n3, n4⟩, -⟩ := q9.cells; have f0 := q9.frz 0; have f1 := q9.frz 1; have f2 := q9.frz 2; have f3 := q9.frz 3; have f4 := q9.frz 4; clear q9 e9))
                  go_meet
                  have hq := ((unhide HQ9).turn (y := (yt, .slice yva yt.es.length yvk)) ((unhide HQ9).next (unhide HY)).2.choose_spec.2.2.1 ((unhide HQ9).next (unhide HY)).2.choose_spec.2.2.2 rfl ⟨rfl, rfl, rfl⟩).less (m := 9000 - 10 * i - 5) (by omega)
                  exact ⟨trivial, trivial, ma9, _, mk9, _, M ++ ms, false, rfl, by rw [List.length_append], rs', ns, true, yt, S', _, ms, hq, unhide HMY, unhide HEO, unhide HSZ6, .inl ⟨rfl, hof, .inl rfl⟩⟩
              · have HPJ6 := hide hpj6
                have hex := (unhide HPJ6).ev.2.1
                have HC1 : Hid (∀ W, Below wc.heap.size wc W → Calls Tryz.prog 22 #[.iface T6 (.pointer (some ⟨b6, 0, none⟩))] W fun e w' => e = .returned (.int .i64 32) ∧ Below W.heap.size W w') := fun W hb => class_x (hex.below hb hex.lt) (he6.below hb)
                have HE6 := hide he6
                clear hpj6 H6 he6
                go_wp2_with (first
                  | (go_at_call 22; refine (unhide HC1 _ (unhide HB7)).mono ?_; rintro e w8 ⟨rfl, b8⟩; have HB8 := hide (below_trans0 (unhide HB7) b8); clear HC1 HB7 b8)
                  | (go_at_call 22; refine (unhide HC1 _ (Below.refl _ _)).mono ?_; rintro e w7 ⟨rfl, b7⟩; have HB7 := hide b7; clear b7)
                  | (at_builtin; refine wpList_append_st (mv := .slice ma mn mk) (nv := .slice na nn nk) rfl _ _ rfl rfl rfl ((unhide HPJ6).below (unhide HB8)) hxb3 hml ?_; rintro mv9 w9 ⟨ma9, mk9, rfl⟩ q9 e9; have HQ9 := hide q9; have HE9 := hide (fun ve c => e9 ve c (unhide HMN)); clear q9 e9))
                go_meet
                have hq := (unhide HQ9).less (m := 9000 - 10 * i - 5) (by omega)
                exact ⟨trivial, trivial, ma9, _, mk9, _, M ++ ms, true, rfl, by rw [List.length_append], rs, ns, pr, s, S', _, ms, hq, mayI_same (unhide HI).2.1, unhide HEO, (unhide HI).2.2.2.1.step (unhide HI).2.2.2.2.2.2.2.1 (by omega) (by omega) (by omega) hm13, .inr ⟨rfl, T6, b6, rfl, unhide HE9 _ _ ((unhide HE6).below (unhide HB8))⟩⟩
              · have HPJ6 := hide hpj6
                have hex := (unhide HPJ6).ev.2.1
                have HC1 : Hid (∀ W, Below wc.heap.size wc W → Calls Tryz.prog 22 #[.iface T6 (.pointer (some ⟨b6, 0, none⟩))] W fun e w' => e = .returned (.int .i64 c) ∧ Below W.heap.size W w') := fun W hb => class_x (hex.below hb hex.lt) (he6.below hb)
                have HE6 := hide he6
                clear hpj6 H6 he6
                go_wp2_with (first
                  | (go_at_call 22; refine (unhide HC1 _ (Below.refl _ _)).mono ?_; rintro e w7 ⟨rfl, b7⟩; have HB7 := hide b7; clear b7)
                  | (at_builtin; refine wpList_append_st (mv := .slice ma mn mk) (nv := .slice na nn nk) rfl _ _ rfl rfl rfl ((unhide HPJ6).below (unhide HB7)) hxb3 hml ?_; rintro mv9 w9 ⟨ma9, mk9, rfl⟩ q9 e9; have HQ9 := hide q9; have HE9 := hide (fun ve c => e9 ve c (unhide HMN)); clear q9 e9))
                go_meet
                have hq := (unhide HQ9).less (m := 9000 - 10 * i - 5) (by omega)
                exact ⟨trivial, trivial, ma9, _, mk9, _, M ++ ms, false, rfl, by rw [List.length_append], rs, ns, pr, s, S', _, ms, hq, mayI_same (unhide HI).2.1, unhide HEO, (unhide HI).2.2.2.1.step (unhide HI).2.2.2.2.2.2.2.1 (by omega) (by omega) (by omega) hm13, .inl ⟨rfl, hof, .inr ⟨T6, b6, c, rfl, hc32, unhide HE9 _ _ ((unhide HE6).below (unhide HB7))⟩⟩⟩
        · skip
          obtain ⟨⟨n0, n1, n2, n3, n4⟩, x0, x1, x2, x3, x4, x5, x6⟩ := (unhide HPJ).cells
          dsimp only at x0 x1 x2 x3 x4 x5 x6
          obtain ⟨hz1, hz2, hz3, hz4, hz5⟩ := (unhide HI).2.2.2.1.bound (unhide HI).2.2.2.2.2.2.2.1 (unhide HSZ).2.2 hi50
          obtain ⟨vna, vnk, hvn⟩ := (unhide HPJ).ev.2.2.2
          subst hvn
          have h5 := unhide HPJ
          rw [show 9000 - 10 * i = 9000 - 10 * i - 1 + 1 by omega] at h5
          have HJ5 := hide h5
          clear h5
          have HSN : Hid (SzI xs (i + 1) rs s M) := (unhide HI).2.2.2.1.next (unhide HI).2.2.2.2.2.2.2.1 (unhide HI).2.2.2.1.many
          rcases (show wh = 6 ∨ wh = 7 ∨ wh = 8 ∨ (¬ (wh = 0) ∧ ¬ (wh = 1) ∧ ¬ (wh = 2) ∧ ¬ (wh = 3) ∧ ¬ (wh = 4) ∧ ¬ (wh = 5) ∧ ¬ (wh = 6) ∧ ¬ (wh = 7) ∧ ¬ (wh = 8)) by omega) with rfl | rfl | rfl | ⟨hn0, hn1, hn2, hn3, hn4, hn5, hn6, hn7, hn8⟩
          · have HC : Hid (Calls Tryz.prog 12 #[.pointer (some ⟨p, 0, none⟩)] W fun e w' => ∃ ve, e = .returned ve ∧ Hid ((ve = .nilIface ∧ ∃ S', S'.off = false ∧ PQ w2 w' p w3.heap.size xb ⟨6, nu, ix, te, vo, .slice lla es.length llc, es, .slice kka ks.length kkc, ks⟩ (.slice vna s.es.length vnk) (.slice ma mn mk) (.slice none 0 0) M [] (9000 - 10 * i - 1) rs rs.length pr s s S') ∨ (∃ T b, ve = .iface T (.pointer (some ⟨b, 0, none⟩)) ∧ ErrX w' ve 32 ∧ PQ w2 w' p w3.heap.size xb ⟨6, nu, ix, te, vo, .slice lla es.length llc, es, .slice kka ks.length kkc, ks⟩ (.slice vna s.es.length vnk) (.slice ma mn mk) (.slice none 0 0) M [] (9000 - 10 * i - 1) rs ns pr s s (dn S)))) := (pj_sync (unhide HJ5) hxb3 (unhide HI).1).mono fun e w' h => by
              rcases h with ⟨rfl, S', h1, h2⟩ | ⟨T, b, rfl, h1, h2⟩
              · exact ⟨_, rfl, .inl ⟨rfl, S', h1, h2⟩⟩
              · exact ⟨_, rfl, .inr ⟨T, b, rfl, h1, h2⟩⟩
            go_upto_region 40 with (first
              | (go_at_call 12; refine (unhide HC).mono ?_; rintro e w6 ⟨ve, rfl, H6⟩; clear HC))
            rcases unhide H6 with ⟨rfl, S', hof, hq6⟩ | ⟨T6, b6, rfl, he6, hq6⟩
            · obtain ⟨⟨m0, m1, m2, m3, m4⟩, -⟩ := hq6.cells
              have HQ6 := hide hq6
              have HRUN : Hid (runS sta0 rs = .ok s) := by obtain ⟨O, hwz, _⟩ := hq6; exact hwz.info.1
              clear hq6 H6 n0 n1 n2 n3 n4
              go_wp2_with fail
              go_meet
              have hq := ((unhide HQ6).alone).less (m := 9000 - 10 * i - 5) (by omega)
              exact ⟨trivial, trivial, _, 1, 1, _, [(s, _)], false, rfl, rfl, rs, rs.length, pr, s, S', _, [], hq, mayI_alone (unhide HRUN), fun y hy g hg => (by rw [List.mem_singleton.1 hy] at hg; exact ((unhide HPJ).ev.2.2.1.2.2.2.2.2 g hg).1), (unhide HI).2.2.2.1.next (unhide HI).2.2.2.2.2.2.2.1 (by simp), .inl ⟨rfl, hof, .inl rfl⟩⟩
            · have hex : ET w6 := by obtain ⟨O, hwz, _⟩ := hq6; exact hwz.info.2.2.2.2.1.et
              have HC1 := hide (class_x hex he6)
              have HE6 := hide he6
              have HQ6 := hide hq6
              clear hq6 H6 he6
              go_wp2_with (first
                | (go_at_call 22; refine (unhide HC1).mono ?_; rintro e w7 ⟨rfl, b7⟩; have HB7 := hide b7; clear b7 HC1))
              go_meet
              have hq := ((unhide HQ6).below (unhide HB7)).less (m := 9000 - 10 * i - 5) (by omega)
              exact ⟨trivial, trivial, ma, mn, mk, _, M, true, rfl, (unhide HI).2.2.2.2.2.2.2.2, rs, ns, pr, s, dn S, _, [], hq, (unhide HI).2.1, (unhide HI).2.2.1, unhide HSN, .inr ⟨rfl, T6, b6, rfl, (unhide HE6).below (unhide HB7)⟩⟩
          · have HC : Hid (Calls Tryz.prog 12 #[.pointer (some ⟨p, 0, none⟩)] W fun e w' => ∃ ve, e = .returned ve ∧ Hid ((ve = .nilIface ∧ ∃ S', S'.off = false ∧ PQ w2 w' p w3.heap.size xb ⟨7, nu, ix, te, vo, .slice lla es.length llc, es, .slice kka ks.length kkc, ks⟩ (.slice vna s.es.length vnk) (.slice ma mn mk) (.slice none 0 0) M [] (9000 - 10 * i - 1) rs rs.length pr s s S') ∨ (∃ T b, ve = .iface T (.pointer (some ⟨b, 0, none⟩)) ∧ ErrX w' ve 32 ∧ PQ w2 w' p w3.heap.size xb ⟨7, nu, ix, te, vo, .slice lla es.length llc, es, .slice kka ks.length kkc, ks⟩ (.slice vna s.es.length vnk) (.slice ma mn mk) (.slice none 0 0) M [] (9000 - 10 * i - 1) rs ns pr s s (dn S)))) := (pj_sync (unhide HJ5) hxb3 (unhide HI).1).mono fun e w' h => by
              rcases h with ⟨rfl, S', h1, h2⟩ | ⟨T, b, rfl, h1, h2⟩
              · exact ⟨_, rfl, .inl ⟨rfl, S', h1, h2⟩⟩
              · exact ⟨_, rfl, .inr ⟨T, b, rfl, h1, h2⟩⟩
            go_upto_region 40 with (first
              | (go_at_call 12; refine (unhide HC).mono ?_; rintro e w6 ⟨ve, rfl, H6⟩; clear HC))
            rcases unhide H6 with ⟨rfl, S', hof, hq6⟩ | ⟨T6, b6, rfl, he6, hq6⟩
            · obtain ⟨⟨m0, m1, m2, m3, m4⟩, -⟩ := hq6.cells
              have HQ6 := hide hq6
              have HRUN : Hid (runS sta0 rs = .ok s) := by obtain ⟨O, hwz, _⟩ := hq6; exact hwz.info.1
              clear hq6 H6 n0 n1 n2 n3 n4
              go_wp2_with fail
              go_meet
              have hq := ((unhide HQ6).alone).less (m := 9000 - 10 * i - 5) (by omega)
              exact ⟨trivial, trivial, _, 1, 1, _, [(s, _)], false, rfl, rfl, rs, rs.length, pr, s, S', _, [], hq, mayI_alone (unhide HRUN), fun y hy g hg => (by rw [List.mem_singleton.1 hy] at hg; exact ((unhide HPJ).ev.2.2.1.2.2.2.2.2 g hg).1), (unhide HI).2.2.2.1.next (unhide HI).2.2.2.2.2.2.2.1 (by simp), .inl ⟨rfl, hof, .inl rfl⟩⟩
            · have hex : ET w6 := by obtain ⟨O, hwz, _⟩ := hq6; exact hwz.info.2.2.2.2.1.et
              have HC1 := hide (class_x hex he6)
              have HE6 := hide he6
              have HQ6 := hide hq6
              clear hq6 H6 he6
              go_wp2_with (first
                | (go_at_call 22; refine (unhide HC1).mono ?_; rintro e w7 ⟨rfl, b7⟩; have HB7 := hide b7; clear b7 HC1))
              go_meet
              have hq := ((unhide HQ6).below (unhide HB7)).less (m := 9000 - 10 * i - 5) (by omega)
              exact ⟨trivial, trivial, ma, mn, mk, _, M, true, rfl, (unhide HI).2.2.2.2.2.2.2.2, rs, ns, pr, s, dn S, _, [], hq, (unhide HI).2.1, (unhide HI).2.2.1, unhide HSN, .inr ⟨rfl, T6, b6, rfl, (unhide HE6).below (unhide HB7)⟩⟩
          · have HC : Hid (Calls Tryz.prog 23 #[.pointer (some ⟨w2.heap.size, 0, none⟩), .int .i64 nu] W fun e w' => e = .returned (.tuple #[]) ∧ Hid (PQ w2 w' p w3.heap.size xb ⟨8, nu, ix, te, vo, .slice lla es.length llc, es, .slice kka ks.length kkc, ks⟩ (.slice vna s.es.length vnk) (.slice ma mn mk) (.slice none 0 0) M [] (9000 - 10 * i) rs ns pr s s { S with halting := decide (0 ≤ nu), left := nu })) := pj_halt (unhide HPJ) hxb3 (unhide HI).2.2.2.2.1.num
            go_wp2_with (first
              | (go_at_call 23; refine (unhide HC).mono ?_; rintro e w6 ⟨rfl, HQ6⟩; clear HC))
            go_meet
            have hq := (unhide HQ6).less (m := 9000 - 10 * i - 5) (by omega)
            exact ⟨trivial, trivial, ma, mn, mk, _, M, false, rfl, (unhide HI).2.2.2.2.2.2.2.2, rs, ns, pr, s, _, _, [], hq, (unhide HI).2.1, (unhide HI).2.2.1, unhide HSN, .inl ⟨rfl, (unhide HI).1, .inl rfl⟩⟩
          · have hq := ((unhide HPJ).pq hxb3).less (m := 9000 - 10 * i - 5) (by omega)
            have HQ := hide hq
            clear hq
            go_wp2_with fail
            go_meet
            exact ⟨trivial, trivial, ma, mn, mk, _, M, false, rfl, (unhide HI).2.2.2.2.2.2.2.2, rs, ns, pr, s, S, _, [], unhide HQ, (unhide HI).2.1, (unhide HI).2.2.1, unhide HSN, .inl ⟨rfl, (unhide HI).1, .inl rfl⟩⟩
      case rest =>
        obtain ⟨-, -, ma', mn', mk', vn', M', fl, rfl, HK⟩ := hcut
        obtain ⟨hmn', rs', ns', pr', s', S', nv', ms', hq, hmy, heo, hsz', hfl⟩ := unhide HK
        obtain ⟨⟨n0, n1, n2, n3, n4⟩, x0, x1, x2, x3, x4, x5, x6⟩ := hq.cells
        dsimp only at x0 x1 x2 x3 x4 x5 x6
        have hex : ET wc := by obtain ⟨O, hwz, _⟩ := hq; exact hwz.info.2.2.2.2.1.et
        have hinf : runS sta0 rs' = .ok s' ∧ ns' ≤ rs'.length := by obtain ⟨O, hwz, _⟩ := hq; exact ⟨hwz.info.1, hwz.info.2.2.1⟩
        have hbel : Below w2.heap.size w2 wc := by obtain ⟨O, _, hb, _⟩ := hq; exact hb
        obtain ⟨vna, vnk, hvn⟩ : ∃ a k, vn' = .slice a s'.es.length k := by obtain ⟨O, _, _, hp, _⟩ := hq; obtain ⟨a, k, e, _⟩ := hp.el.slice; exact ⟨a, k, e⟩
        subst hvn
        have hb1 : (recsB rs').length ≤ 32768 ∧ rs'.length ≤ 650 ∧ mn' ≤ 651 := by
          have k1 := hsz'.bytes
          have k2 := hsz'.recs
          have k3 := hsz'.many
          have k4 := sumX_take (xs := xs) (i + 1)
          have k5 := (unhide HSZ).2.2
          omega
        have HQ := hide hq
        have HR := hide (And.intro hmy (And.intro heo (And.intro hsz' (And.intro hinf (And.intro hb1 (And.intro hmn' hbel))))))
        have hmnz : (mn' : Int) ≤ 651 := by have := hb1.2.2; omega
        clear hq hmy heo hsz' hinf hb1 hmn' hbel HK
        refine (‹∀ (a : Act) (w : World), Code.wp Tryz.prog (((Code.region 46 _ _).seq _).seq _) _ a w → _›) _ _ ?_
        go_step
        go_cut [4, 5, 7, 12, 13] from 145 to 192 (fun s4 s5 s7 s12 s13 wx => s5 = s5 ∧ s12 = s12 ∧ s13 = s13 ∧ ∃ (p'' mn'' mk'' : Nat) (ma'' : Option Addr) (vn'' : Value) (M'' : List (Sta × Value)), s4 = .pointer (some ⟨p'', 0, none⟩) ∧ s7 = .slice ma'' mn'' mk'' ∧ Hid (mn'' = M''.length ∧ PZ w2 wx p'' w3.heap.size xb ⟨wh, nu, ix, te, vo, .slice lla es.length llc, es, .slice kka ks.length kkc, ks⟩ vn'' (.slice ma'' mn'' mk'') M'' i xs))
        case first =>
          by_cases hcr : wh = 9 ∨ fl = true
          rotate_left
          · have h9 : ¬ (wh = 9) := fun h => hcr (.inl h)
            rcases hfl with ⟨rfl, hof, hve⟩ | ⟨rfl, _⟩
            · rcases hve with rfl | ⟨T6, b6, c6, rfl, hc32, he6⟩
              · go_wp2_with (first | (go_at_call 22; refine (class_nil _).mono ?_; rintro e w7 ⟨rfl, rfl⟩))
                go_meet
                exact ⟨trivial, trivial, trivial, p, mn', mk', ma', _, M', rfl, rfl, (unhide HR).2.2.2.2.2.1, rs', ns', pr', s', S', nv', ms', (unhide HQ).less (by omega), hof, (unhide HR).1, (unhide HR).2.1, (unhide HR).2.2.1⟩
              · have HC1 := hide (class_x hex he6)
                have hcb : (c6 == 32) = false := by simpa using hc32
                have hcp : (c6 = 32) = False := by simpa using hc32
                go_wp2_with (first | (go_at_call 22; refine (unhide HC1).mono ?_; rintro e w7 ⟨rfl, b7⟩; have HB7 := hide b7; clear b7 HC1))
                go_meet
                exact ⟨trivial, trivial, trivial, p, mn', mk', ma', _, M', rfl, rfl, (unhide HR).2.2.2.2.2.1, rs', ns', pr', s', S', nv', ms', ((unhide HQ).below (unhide HB7)).less (by omega), hof, (unhide HR).1, (unhide HR).2.1, (unhide HR).2.2.1⟩
            · exact absurd (.inr rfl) hcr
          · have HFALL : Hid (∀ W, Below wc.heap.size wc W → (W.cell? ⟨xb, 6, none⟩ = some (.slice kka ks.length kkc)) ∧ Hid (Calls Tryz.prog 13 #[.pointer (some ⟨w2.heap.size, 0, none⟩), .agg #[.slice kka ks.length kkc]] W fun e w1 => e = .returned (.tuple #[]) ∧ Hid (Calls Tryz.prog 9 #[.pointer (some ⟨w2.heap.size, 0, none⟩)] w1 fun e w' => ∃ p', e = .returned (.tuple #[.pointer (some ⟨p', 0, none⟩), .nilIface]) ∧ Hid (∃ k sk S'', ns' ≤ k ∧ k ≤ rs'.length ∧ runS sta0 (rs'.take k) = .ok sk ∧ S''.off = false ∧ PQ w2 w' p' w3.heap.size xb ⟨wh, nu, ix, te, vo, .slice lla es.length llc, es, .slice kka ks.length kkc, ks⟩ (.slice vna s'.es.length vnk) (.slice ma' mn' mk') nv' M' ms' (9000 - 10 * i - 7) (rs'.take k) (rs'.take k).length pr' sk s' S'')))) := fun W hb => by
              have hq' := (unhide HQ).below hb
              rw [show 9000 - 10 * i - 5 = 9000 - 10 * i - 7 + 2 by omega] at hq'
              refine ⟨hq'.cells.2.2.2.2.2.2.2, pq_fall hq' (unhide HKP W ((unhide HR).2.2.2.2.2.2.trans (hb.mono (unhide HR).2.2.2.2.2.2.size))) ?_ (unhide HR).2.2.2.2.1.1 (unhide HR).2.2.2.2.1.2.1⟩
              have := (unhide HI).2.2.2.2.2.1.2.2
              exact this
            have HPRE : Hid (wh = 9 ∨ (¬ wh = 9 ∧ ∃ T b, u5 = .iface T (.pointer (some ⟨b, 0, none⟩)) ∧ ErrX wc u5 32)) := by
              by_cases h9 : wh = 9
              · exact .inl h9
              · rcases hfl with ⟨rfl, _⟩ | ⟨_, T, b, h1, h2⟩
                · rcases hcr with h | h
                  · exact absurd h h9
                  · cases h
                · exact .inr ⟨h9, T, b, h1, h2⟩
            go_step
            go_cut [152] from 145 to 151 (fun s152 wx => s152 = .bool true ∧ Hid (Below wc.heap.size wc wx))
            case first =>
              rcases unhide HPRE with rfl | ⟨h9, T6, b6, rfl, he6⟩
              · go_wp2_with fail
                go_meet
                exact ⟨rfl, Below.refl _ _⟩
              · have HC1 := hide (class_x hex he6)
                go_wp2_with (first | (go_at_call 22; refine (unhide HC1).mono ?_; rintro e w7 ⟨rfl, b7⟩; have HB7 := hide b7; clear b7 HC1))
                go_meet
                exact ⟨rfl, unhide HB7⟩
            case rest =>
              obtain ⟨rfl, HB7⟩ := hcut
              obtain ⟨y6, HCR⟩ := unhide HFALL wc (unhide HB7)
              have hmw : IntKind.i64.wrap ((mn' : Int) - 1) = (mn' : Int) - 1 := by rw [IntKind.wrap_i64] <;> omega
              clear HFALL HPRE hfl n0 n1 n2 n3 n4 x0 x1 x2 x3 x4 x5 x6
              go_wp2_with (first
                | (go_at_call 13; refine (unhide HCR).mono ?_; rintro e w8 ⟨rfl, HO8⟩; clear HCR)
                | (go_at_call 9; refine (unhide HO8).mono ?_; rintro e w9 ⟨p9, rfl, H9⟩; clear HO8))
              obtain ⟨k9, sk, S9, hk1, hk2, hsk, hof9, hq9⟩ := unhide H9
              have HSK := hide (And.intro hk1 (And.intro hk2 (And.intro hsk hof9)))
              have HQ9 := hide hq9
              clear hk1 hk2 hsk hof9 hq9 H9
              go_loopw [12, 13] (fun s12 s13 wr => ∃ (fd : Bool) (kk : Int) (t : Sta) (va : Option Addr) (vk : Nat), s12 = .bool fd ∧ s13 = .int .i64 kk ∧ Hid (-1 ≤ kk ∧ kk < (mn' : Int) ∧ PQ w2 wr p9 w3.heap.size xb ⟨wh, nu, ix, te, vo, .slice lla es.length llc, es, .slice kka ks.length kkc, ks⟩ (.slice va t.es.length vk) (.slice ma' mn' mk') nv' M' ms' (9000 - 10 * i - 7) (rs'.take k9) (rs'.take k9).length pr' sk t S9 ∧ (fd = true → t = sk) ∧ (fd = false → ∀ (j : Nat) (y : Sta × Value), M'[j]? = some y → kk < (j : Int) → y.1 ≠ sk))) (fun _ s13 _ => (RowKit.intOf s13 + 1).toNat)
              case atStart => exact ⟨false, _, s', vna, vnk, rfl, rfl, by omega, by omega, unhide HQ9, fun h => (by cases h), fun _ j y hj hlt => by have := (List.getElem?_eq_some_iff.1 hj).1; have := (unhide HR).2.2.2.2.2.1; omega⟩
              case round =>
                obtain ⟨fd, kk, t, va, vk, rfl, rfl, HL⟩ := hrel
                obtain ⟨hl1, hl2, hql, hlt1, hlt2⟩ := unhide HL
                by_cases hgo : 0 ≤ kk ∧ fd = false
                · obtain ⟨hk0, rfl⟩ := hgo
                  obtain ⟨J, rfl⟩ := Int.eq_ofNat_of_zero_le hk0
                  have hmm := (unhide HR).2.2.2.2.2.1
                  obtain ⟨⟨yt, yv⟩, hy⟩ : ∃ y, M'[J]? = some y := ⟨M'[J]'(by omega), List.getElem?_eq_getElem _⟩
                  obtain ⟨-, bq, hma, ⟨g0, g1, g2, g3, g4⟩, hyel⟩ := hql.may hy
                  obtain ⟨yva, yvk, hyv, _, _⟩ := hyel.slice
                  dsimp only at hyv hyel g0 g1 g2 g3 g4
                  subst hyv hma
                  have hJw : IntKind.i64.wrap ((J : Int) - 1) = (J : Int) - 1 := by rw [IntKind.wrap_i64] <;> omega
                  have hJn : (J : Int) < (mn' : Int) := by omega
                  have HIS := hide (pq_is (y := (yt, .slice yva yt.es.length yvk)) hql hyel ((unhide HR).2.1 _ (List.mem_of_getElem? hy)))
                  have HAF : Hid (∀ W, Below wr.heap.size wr W → (W.cell? ⟨bq, J * 5, none⟩ = some (.int .u64 (yt.term : Int)) ∧ W.cell? ⟨bq, J * 5 + 1, none⟩ = some (.int .i64 ((yt.vote : Int) - 1)) ∧ W.cell? ⟨bq, J * 5 + 2, none⟩ = some (.int .u64 (yt.base : Int)) ∧ W.cell? ⟨bq, J * 5 + 3, none⟩ = some (.int .u64 (yt.bt : Int)) ∧ W.cell? ⟨bq, J * 5 + 4, none⟩ = some (.slice yva yt.es.length yvk)) ∧ PQ w2 W p9 w3.heap.size xb ⟨wh, nu, ix, te, vo, .slice lla es.length llc, es, .slice kka ks.length kkc, ks⟩ (.slice va t.es.length vk) (.slice (some ⟨bq, 0, none⟩) mn' mk') nv' M' ms' (9000 - 10 * i - 7) (rs'.take k9) (rs'.take k9).length pr' sk t S9) := fun W hb => by
                    have hq' := hql.below hb
                    obtain ⟨-, bq', hb', hg, _⟩ := hq'.may hy
                    cases hb'
                    exact ⟨hg, hq'⟩
                  have HYM := hide hy
                  clear hql hyel hy hlt1 HL hmm
                  go_wp2_with (first
                    | (go_at_call 24; refine (unhide HIS).mono ?_; rintro e w10 ⟨⟨bf, rfl, hbf⟩, b10⟩; obtain ⟨⟨r0, r1, r2, r3, r4⟩, hq10⟩ := unhide HAF w10 b10; obtain ⟨⟨q0, q1, q2, q3, q4⟩, -⟩ := hq10.cells; have f0 := hq10.frz 0; have f1 := hq10.frz 1; have f2 := hq10.frz 2; have f3 := hq10.frz 3; have f4 := hq10.frz 4; have HQ10 := hide hq10; have HBF := hide hbf; clear HIS HAF hq10 hbf b10 g0 g1 g2 g3 g4))
                  go_roundw
                  case rel =>
                    refine ⟨bf, (J : Int) - 1, yt, yva, yvk, rfl, rfl, by omega, by omega, (unhide HQ10).turn_may (y := (yt, .slice yva yt.es.length yvk)) (unhide HYM) rfl ⟨rfl, rfl, rfl⟩, fun h => ((unhide HBF).1 h).symm, fun hf j y hj hlt3 e => ?_⟩
                    rcases Nat.lt_or_ge J j with h' | h'
                    · exact hlt2 (by first | rfl | trivial) j y hj (by omega) e
                    · obtain rfl : j = J := by omega
                      have hy := unhide HYM
                      rw [hj] at hy
                      cases hy
                      rw [(unhide HBF).2 e.symm] at hf
                      cases hf
                  case measure => simp [RowKit.intOf] <;> omega
                · have hfd : fd = true := by
                    cases fd with
                    | true => rfl
                    | false =>
                      obtain ⟨y, hy, e⟩ := (unhide HR).1 k9 sk (unhide HSK).1 (unhide HSK).2.1 (unhide HSK).2.2.1
                      obtain ⟨j, hj⟩ := List.mem_iff_getElem?.1 hy
                      exact absurd e (hlt2 rfl j y hj (by have : ¬ 0 ≤ kk := fun h => hgo ⟨h, rfl⟩; omega))
                  subst hfd
                  obtain rfl := hlt1 rfl
                  obtain ⟨⟨q0, q1, q2, q3, q4⟩, -⟩ := hql.cells
                  have HFD := hide (pq_found hql (unhide HSK).2.2.2 (unhide HR).2.2.1 (unhide HSK).2.2.1)
                  clear hql hlt1 hlt2 HL hgo
                  rcases Int.lt_or_le kk 0 with hkn | hkn
                  · have hkf : (0 ≤ kk) = False := by simp; omega
                    clear hkn
                    go_wp2_with fail
                    go_meet
                    exact ⟨trivial, trivial, trivial, p9, 1, 1, _, _, _, rfl, rfl, rfl, unhide HFD⟩
                  · go_wp2_with fail
                    go_meet
                    exact ⟨trivial, trivial, trivial, p9, 1, 1, _, _, _, rfl, rfl, rfl, unhide HFD⟩
        case rest =>
          obtain ⟨-, -, -, p'', mn'', mk'', ma'', vn'', M'', rfl, rfl, HZ⟩ := hcut
          obtain ⟨sz, ⟨za, zk, hze⟩, ⟨m0, m1, m2, m3, m4⟩, hz⟩ := (unhide HZ).2.is
          subst hze
          have HZI := hide hz
          clear hz n0 n1 n2 n3 n4 x0 x1 x2 x3 x4 x5 x6
          go_wp2_with (first | (go_at_call 24; refine (unhide HZI).mono ?_; rintro e w8 ⟨rfl, hz8⟩; have HZ8 := hide hz8; clear HZI hz8))
          go_roundw
          case rel => exact ⟨trivial, trivial, trivial, trivial, trivial, trivial, p'', i + 1, mn'', mk'', ma'', _, M'', by omega, rfl, rfl, by go_num, (unhide HZ).1, (unhide HZ8).head⟩
          case measure => simp [RowKit.intOf]; omega
    · have hii : ¬ ((i : Int) < (xs.length : Int)) := by omega
      have HBE : Hid (Below w.heap.size w wr) := by
        obtain ⟨_, _, _, _, _, _, _, _, _, h3, _⟩ := unhide hr
        exact (unhide HB1).trans (h3.mono (unhide HB1).size)
      clear hr
      go_wp2_with fail
      go_ret
      exact ⟨rfl, unhide HBE⟩
end Go.Proofs.YthphadbcebeoaaaGreatDoor
