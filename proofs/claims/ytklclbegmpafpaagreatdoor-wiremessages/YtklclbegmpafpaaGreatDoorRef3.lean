/- Contracts of the document's own writer of rows. -/
import Derived.Test.YtklclbegmpafpaaGreatDoorJCrcMathFrameRef2
namespace Go.Proofs.YtklclbegmpafpaaGreatDoor
open Go.RowKit Go.Lib

theorem putVals_step {gs : List GV} {s0 : Option (List UInt8)} {k : Nat} {g : GV} {l : List UInt8} (h : gs[k]? = some g) (hm : g.may = true) (hl : putVals (gs.take k) s0 = some l) : putVals (gs.take (k + 1)) s0 = some (l ++ g.bytes) := by
  rw [putVals_snoc gs s0 k g h, hl, putVal, if_pos hm]; rfl
theorem putVals_stop {gs : List GV} {s0 : Option (List UInt8)} {k : Nat} {g : GV} (h : gs[k]? = some g) (hm : g.may = false) : putVals gs s0 = none := by
  rw [putVals_split gs s0 (k + 1), putVals_snoc gs s0 k g h, putVal, if_neg (by simp [hm]), putVals_none]
/-- What the document's writers of rows and entries tell. -/
def RefPost (s : Option (List UInt8)) (w : World) (e : Ending) (w' : World) : Prop :=
  match s with
  | some l => ∃ a k, e = .returned (.tuple #[.slice a l.length k, .int .i64 0]) ∧ RBp w' w'.heap.size (.slice a l.length k) l ∧ Below w.heap.size w w'
  | none => e = .returned (.tuple #[.slice none 0 0, .int .i64 20]) ∧ Below w.heap.size w w'

theorem rb_one (w : World) (k : Nat) (hk : k < 128) : RBp (w.alloc (.cells #[.int .u8 (k : Int)] 5)) (w.heap.size + 1) (.slice (some ⟨w.heap.size, 0, none⟩) 1 1) (uvarint k) := by
  rw [uvarint_small hk]
  refine ⟨by simp, .inr ⟨w.heap.size, 0, 1, by omega, by simp, by unfold maxLen; omega, by simp, ?_⟩⟩
  intro i hi
  have h0 : i = 0 := by simp at hi; exact hi
  subst h0
  simp
  have : k % 256 = k := by omega
  omega
theorem refIs_below (g : GV) (w : World) (hg : g.ok) (m : Bool) (hm : g.may = m) :
    Calls Tryz.prog 48 #[.agg #[.int .i64 g.kind, .int .i64 g.int, .string g.text]] w fun e w' => e = .returned (.bool m) ∧ Below w.heap.size w w' := by
  subst hm
  refine (refIs_any g w hg).mono ?_
  rintro e w' ⟨rfl, rfl⟩
  exact ⟨rfl, (Below.refl _ _).alloc (Nat.le_refl _) _⟩
theorem own_join {w' : World} {v : Value} {B n : Nat} {x : List UInt8} {ys : List Value} (ho : w'.ownsRow B 5 1 v n ys) (hn : n = x.length) (hy : ys = byteCells x) : w'.ownsRow B 5 1 v x.length (byteCells x) := by
  subst hn; subst hy; exact ho

set_option maxHeartbeats 6400000 in
set_option maxRecDepth 100000 in
theorem refPutRow_row (b off cap : Nat) (gs : List GV) (w : World) (hb : b < w.heap.size) (hlen : gs.length ≤ 64) (hok : ∀ g ∈ gs, g.ok)
    (hc : ∀ i g, gs[i]? = some g → w.cell? ⟨b, off + i * 3, none⟩ = some (.int .i64 g.kind) ∧ w.cell? ⟨b, off + i * 3 + 1, none⟩ = some (.int .i64 g.int) ∧ w.cell? ⟨b, off + i * 3 + 2, none⟩ = some (.string g.text)) :
    Calls Tryz.prog 28 #[.slice (some ⟨b, off, none⟩) gs.length cap] w fun e w' => RefPost (putVals gs (some (uvarint gs.length))) w e w' := by
  obtain ⟨i0, hi, hz0, hz1, hz2⟩ := info_parts Tryz.infoB
  have hl' : ¬ ((64 : Int) < (gs.length : Int)) := by omega
  have lU := uvarint_length64 (x := gs.length) (by omega)
  have HP := hide (refPutUint_any gs.length w (by omega))
  have HC := hide hc
  have HLn := hide (show ∀ (k : Nat) l, putVals (gs.take k) (some (uvarint gs.length)) = some l → l.length ≤ 10000 by
    intro k l h
    have h1 := putVals_len (gs := gs.take k) (fun g hg => hok g (List.mem_of_mem_take hg)) l h
    have h2 : (gs.take k).length ≤ gs.length := by simp; omega
    omega)
  clear hc
  generalize hs0 : some (uvarint gs.length) = s0 at *
  have HS0 := hide hs0
  clear hs0
  go_enter Tryz.func28, Tryz.ntmps28
  go_wp2_with (first | (go_at_call 46; refine (unhide HP).mono ?_; rintro e w1 ⟨v1, rfl, ho1, hb1⟩))
  clear HP
  go_loopw [4, 5] (fun v i wr => ∃ (k : Nat) (l : List UInt8), k ≤ gs.length ∧ i = .int .i64 k ∧ putVals (gs.take k) s0 = some l ∧ wr.ownsRow w.heap.size 5 1 v l.length (byteCells l) ∧ Below w.heap.size w wr) (fun _ i _ => gs.length - (intOf i).toNat)
  case atStart => exact ⟨0, _, Nat.zero_le _, rfl, (unhide HS0).symm, ho1, hb1⟩
  case round =>
    obtain ⟨k, l, hk, rfl, hst, hown, hbw⟩ := hrel
    have hll := unhide HLn k l hst
    have zw := hbw.size
    by_cases hlt : k < gs.length
    · obtain ⟨g, hgk⟩ : ∃ g, gs[k]? = some g := ⟨gs[k], List.getElem?_eq_getElem hlt⟩
      obtain ⟨c0, c1, c2⟩ := unhide HC k g hgk
      have cc : ∀ wx, Below w.heap.size w wx → wx.cell? ⟨b, off + k * 3, none⟩ = some (.int .i64 g.kind) ∧ wx.cell? ⟨b, off + k * 3 + 1, none⟩ = some (.int .i64 g.int) ∧ wx.cell? ⟨b, off + k * 3 + 2, none⟩ = some (.string g.text) := fun wx hx =>
        ⟨(hx.cell (p := ⟨b, off + k * 3, none⟩) hb).trans c0, (hx.cell (p := ⟨b, off + k * 3 + 1, none⟩) hb).trans c1, (hx.cell (p := ⟨b, off + k * 3 + 2, none⟩) hb).trans c2⟩
      have HCC := hide cc
      obtain ⟨q0, q1, q2⟩ := cc wr hbw
      have hgo := hok g (List.mem_of_getElem? hgk)
      clear c0 c1 c2 cc HC HLn
      cases hmay : g.may with
      | false =>
        have HF := hide (putVals_stop (s0 := s0) hgk hmay)
        have HI := hide (fun w => refIs_below g w hgo false hmay)
        clear hst hgk hmay
        go_wp2_with (first | (go_at_call 48; refine (unhide HI _).mono ?_; rintro e w2 ⟨rfl, hb2⟩))
        go_ret2
        rw [unhide HF]
        exact ⟨rfl, hbw.trans (hb2.mono zw)⟩
      | true =>
        have HF := hide (putVals_step hgk hmay hst)
        have HI := hide (fun w => refIs_below g w hgo true hmay)
        have q00 := q0; have q01 := q1; have q02 := q2
        clear hst hgk
        obtain ⟨gk, gn, gt⟩ := g
        obtain ⟨n1, n2, n3⟩ := hgo
        dsimp only at *
        by_cases hk0 : gk = 0
        · subst hk0
          have l0 : (uvarint 0).length = 1 := by rw [uvarint_small (by decide)]; rfl
          go_wp2_with (first
            | (go_at_call 48; refine (unhide HI _).mono ?_; rintro e w2 ⟨rfl, hb2⟩; have ho2 := own_later hown hb2; have c2 := hbw.trans (hb2.mono zw); have z2 := c2.size; obtain ⟨p0, p1, p2⟩ := unhide HCC _ c2; clear hown)
            | (at_builtin; refine wpList_append_rb rfl (.tmp 25) (.tmp 32) rfl w.heap.size _ _ _ rfl (ho2.alloc _) _ _ (uvarint 0) rfl (rb_one w2 0 (by decide)) (by omega) (by omega) (by simp; omega) ?_; intro v4 w4 ho4 _ hb4; have c4 := (c2.alloc (by omega) _).trans hb4; have z4 := c4.size; obtain ⟨r0, r1, r2⟩ := unhide HCC _ c4; clear ho2))
          go_roundw
          case rel => exact ⟨k + 1, _, by omega, by go_num, unhide HF, own_join ho4 (by simp [GV.bytes]) (by simp [GV.bytes, byteCells_append]), c4⟩
          case measure => simp [intOf]; omega
        · by_cases hk1 : gk = 1
          · subst hk1
            have hb : gn = 0 ∨ gn = 1 := by simp [GV.may] at hmay; exact hmay.1
            have l1 : (uvarint 1).length = 1 := by rw [uvarint_small (by decide)]; rfl
            have l0 : (uvarint 0).length = 1 := by rw [uvarint_small (by decide)]; rfl
            rcases hb with rfl | rfl
            · go_wp2_with (first
                | (go_at_call 48; refine (unhide HI _).mono ?_; rintro e w2 ⟨rfl, hb2⟩; have ho2 := own_later hown hb2; have c2 := hbw.trans (hb2.mono zw); have z2 := c2.size; obtain ⟨p0, p1, p2⟩ := unhide HCC _ c2; clear hown)
                | (at_builtin; refine wpList_append_rb rfl (.tmp 25) (.tmp 32) rfl w.heap.size _ _ _ rfl (ho2.alloc _) _ _ (uvarint 1) rfl (rb_one w2 1 (by decide)) (by omega) (by omega) (by simp; omega) ?_; intro v4 w4 ho4 _ hb4; have c4 := (c2.alloc (by omega) _).trans hb4; have z4 := c4.size; obtain ⟨r0, r1, r2⟩ := unhide HCC _ c4; clear ho2)
                | (at_builtin; refine wpList_append_rb rfl (.tmp 41) (.tmp 48) rfl w.heap.size _ _ _ rfl (ho4.alloc _) _ _ (uvarint 0) rfl (rb_one w4 0 (by decide)) (by omega) (by omega) (by simp; omega) ?_; intro v6 w6 ho6 _ hb6; have c6 := (c4.alloc (by omega) _).trans hb6; have z6 := c6.size; clear ho4))
              go_roundw
              case rel => exact ⟨k + 1, _, by omega, by go_num, unhide HF, own_join ho6 (by simp [GV.bytes]; omega) (by simp [GV.bytes, byteCells_append]), c6⟩
              case measure => simp [intOf]; omega
            · go_wp2_with (first
                | (go_at_call 48; refine (unhide HI _).mono ?_; rintro e w2 ⟨rfl, hb2⟩; have ho2 := own_later hown hb2; have c2 := hbw.trans (hb2.mono zw); have z2 := c2.size; obtain ⟨p0, p1, p2⟩ := unhide HCC _ c2; clear hown)
                | (at_builtin; refine wpList_append_rb rfl (.tmp 25) (.tmp 32) rfl w.heap.size _ _ _ rfl (ho2.alloc _) _ _ (uvarint 1) rfl (rb_one w2 1 (by decide)) (by omega) (by omega) (by simp; omega) ?_; intro v4 w4 ho4 _ hb4; have c4 := (c2.alloc (by omega) _).trans hb4; have z4 := c4.size; obtain ⟨r0, r1, r2⟩ := unhide HCC _ c4; clear ho2)
                | (at_builtin; refine wpList_append_rb rfl (.tmp 41) (.tmp 48) rfl w.heap.size _ _ _ rfl (ho4.alloc _) _ _ (uvarint 1) rfl (rb_one w4 1 (by decide)) (by omega) (by omega) (by simp; omega) ?_; intro v6 w6 ho6 _ hb6; have c6 := (c4.alloc (by omega) _).trans hb6; have z6 := c6.size; clear ho4))
              go_roundw
              case rel => exact ⟨k + 1, _, by omega, by go_num, unhide HF, own_join ho6 (by simp [GV.bytes]; omega) (by simp [GV.bytes, byteCells_append]), c6⟩
              case measure => simp [intOf]; omega
          · by_cases hk2 : gk = 2
            · subst hk2
              have l2 : (uvarint 2).length = 1 := by rw [uvarint_small (by decide)]; rfl
              have hz := zigzag_lt n1 (by omega : gn ≤ 9223372036854775807)
              have hzl := uvarint_length64 hz
              have HN := hide (fun w => refPutInt_any gn w n1 n2)
              go_wp2_with (first
                | (go_at_call 48; refine (unhide HI _).mono ?_; rintro e w2 ⟨rfl, hb2⟩; have ho2 := own_later hown hb2; have c2 := hbw.trans (hb2.mono zw); have z2 := c2.size; obtain ⟨p0, p1, p2⟩ := unhide HCC _ c2; clear hown)
                | (at_builtin; refine wpList_append_rb rfl (.tmp 25) (.tmp 32) rfl w.heap.size _ _ _ rfl (ho2.alloc _) _ _ (uvarint 2) rfl (rb_one w2 2 (by decide)) (by omega) (by omega) (by simp; omega) ?_; intro v4 w4 ho4 _ hb4; have c4 := (c2.alloc (by omega) _).trans hb4; have z4 := c4.size; obtain ⟨r0, r1, r2⟩ := unhide HCC _ c4; clear ho2)
                | (go_at_call 49; refine (unhide HN _).mono ?_; rintro e w5 ⟨v5, rfl, ho5, hb5⟩; have ho45 := own_later ho4 hb5; have c5 := c4.trans (hb5.mono z4); have z5 := c5.size; have r5 := rb_own ho5 (by omega); clear ho5 ho4)
                | (at_builtin; refine wpList_append_rb rfl (.tmp 52) (.tmp 58) rfl w.heap.size _ _ _ rfl ho45 _ _ (uvarint (zigzag gn)) rfl r5 (by omega) (by omega) (by omega) ?_; intro v6 w6 ho6 _ hb6; have c6 := c5.trans hb6; have z6 := c6.size; clear ho45))
              go_roundw
              case rel => exact ⟨k + 1, _, by omega, by go_num, unhide HF, own_join ho6 (by simp [GV.bytes]; omega) (by simp [GV.bytes, byteCells_append]), c6⟩
              case measure => simp [intOf]; omega
            · have hk3 : gk = 3 := by
                have b0 : (gk == 0) = false := by simp [hk0]
                have b1 : (gk == 1) = false := by simp [hk1]
                have b2 : (gk == 2) = false := by simp [hk2]
                simp [GV.may, b0, b1, b2] at hmay; exact hmay.1.1.1
              subst hk3
              have h40 : gt.size ≤ 40 := by simp [GV.may] at hmay; exact hmay.1.2
              have l3 : (uvarint 3).length = 1 := by rw [uvarint_small (by decide)]; rfl
              have htl := textBytes_length gt
              have hul := uvarint_length64 (x := gt.size) (by omega)
              have HN := hide (fun w => refPutText_any gt w (by omega))
              go_wp2_with (first
                | (go_at_call 48; refine (unhide HI _).mono ?_; rintro e w2 ⟨rfl, hb2⟩; have ho2 := own_later hown hb2; have c2 := hbw.trans (hb2.mono zw); have z2 := c2.size; obtain ⟨p0, p1, p2⟩ := unhide HCC _ c2; clear hown)
                | (at_builtin; refine wpList_append_rb rfl (.tmp 25) (.tmp 32) rfl w.heap.size _ _ _ rfl (ho2.alloc _) _ _ (uvarint 3) rfl (rb_one w2 3 (by decide)) (by omega) (by omega) (by simp; omega) ?_; intro v4 w4 ho4 _ hb4; have c4 := (c2.alloc (by omega) _).trans hb4; have z4 := c4.size; obtain ⟨r0, r1, r2⟩ := unhide HCC _ c4; clear ho2)
                | (go_at_call 47; refine (unhide HN _).mono ?_; rintro e w5 ⟨v5, rfl, ho5, hb5⟩; have ho45 := own_later ho4 hb5; have c5 := c4.trans (hb5.mono z4); have z5 := c5.size; have r5 := rb_own ho5 (by omega); clear ho5 ho4)
                | (at_builtin; refine wpList_append_rb rfl (.tmp 62) (.tmp 68) rfl w.heap.size _ _ _ rfl ho45 _ _ (textBytes gt) rfl r5 (by omega) (by omega) (by omega) ?_; intro v6 w6 ho6 _ hb6; have c6 := c5.trans hb6; have z6 := c6.size; clear ho45))
              go_roundw
              case rel => exact ⟨k + 1, _, by omega, by go_num, unhide HF, own_join ho6 (by simp [GV.bytes, textBytes]; omega) (by simp [GV.bytes, byteCells_append, textBytes]), c6⟩
              case measure => simp [intOf]; omega
    · have e : gs.take k = gs := List.take_of_length_le (by omega)
      rw [e] at hst
      have HO := hide hown
      have HS := hide hst
      clear hown hst HC HLn
      go_wp2
      obtain ⟨a, kk, hv⟩ := own_slice (unhide HO)
      subst hv
      go_ret2
      rw [unhide HS]
      exact ⟨a, kk, rfl, rb_own (unhide HO) (by omega), hbw⟩
end Go.Proofs.YtklclbegmpafpaaGreatDoor
