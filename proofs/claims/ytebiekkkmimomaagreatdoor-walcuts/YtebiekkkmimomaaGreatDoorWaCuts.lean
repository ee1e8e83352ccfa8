/- WalCuts: its walk. -/
import Derived.Test.YtebiekkkmimomaaGreatDoorJWaKnown3WaCuts0WaStepWaIn
import Derived.Deep.CutBlock
namespace Go.Proofs.YtebiekkkmimomaaGreatDoor
open Go.RowKit Go.Lib Go.Maps

theorem keep_below {w w' : World} {B : Nat} {v : Value} {ks : List Int} (h : Dk.KeepAt w (fun _ => False) v ks) (hb : Below w.heap.size w w') (hB : w.heap.size ≤ B) : Dk.KeepAt w' (fun k => B ≤ k) v ks := by
  obtain ⟨h1, h2 | ⟨b, off, cap, hbl, hn, h3, h4, h5, h6⟩⟩ := h
  · exact ⟨h1, .inl h2⟩
  · exact ⟨h1, .inr ⟨b, off, cap, Nat.lt_of_lt_of_le hbl hb.size, fun hh => by dsimp only at hh; omega, h3, h4, h5, fun i x hi => (hb.cell (p := ⟨b, off + i, none⟩) hbl).trans (h6 i x hi)⟩⟩
theorem app2_len {hs : List GE} {m i : Nat} (h : m ≤ hs.length) : (hs.take m ++ [gx i, gx i]).length = m + 2 := by simp; omega
/-- What stands at the loop's head. -/
def CH (w0 w : World) (p q i : Nat) (vh : Value) (hs : List GE) : Prop :=
  ∃ rs pr, CW w0 w p q rs rs.length pr hs (9000 - 20 * i) [(vh, hs)] ∧ rs.length ≤ 5 * i ∧ hs.length ≤ 2 * i ∧ runS sta0 rs = .ok ⟨0, 0, 0, 0, hs⟩ ∧ ∀ g ∈ hs, g.ok

set_option maxHeartbeats 25600000 in
set_option maxRecDepth 100000 in
theorem cuts_law (w : World) (hE : ET w) (hT : ST w) (la : Option Addr) (n lc : Nat) (hl : ∀ j, j < n → ∃ (b off c : Nat), la = some ⟨b, off, none⟩ ∧ b < w.heap.size ∧ c < 256 ∧ w.cell? ⟨b, off + j, none⟩ = some (.int .u8 (c : Int))) (ka : Option Addr) (kn kc : Nat) (ks : List Int) (hkn : ks.length = kn) (hk : Dk.KeepAt w (fun _ => False) (.slice ka kn kc) ks) (hnm : n ≤ maxLen) (hkm : kn ≤ maxLen) :
    Calls Tryz.prog 3 #[.slice la n lc, .agg #[.slice ka kn kc]] w fun e w' => e = .returned (.bool true) ∧ Below w.heap.size w w' := by
  have b0 := box_below w (.cells #[.slice ka kn kc] 25)
  have HK := hide (wknown_any (w.alloc (.cells #[.slice ka kn kc] 25)) (hE.below b0 hE.lt) (hT.below b0 hT.lt))
  have hnm' : (n : Int) ≤ 9223372036854775807 := by unfold maxLen at hnm; omega
  have hkm' : (kn : Int) ≤ 9223372036854775807 := by unfold maxLen at hkm; omega
  have HK1 : Hid (∀ w1 : World, Below (w.alloc (.cells #[.slice ka kn kc] 25)).heap.size (w.alloc (.cells #[.slice ka kn kc] 25)) w1 → w1.cell? ⟨w.heap.size, 0, none⟩ = some (.slice ka kn kc) ∧ Hid (Below w.heap.size w w1 ∧ ET w1 ∧ ST w1 ∧ w.heap.size < w1.heap.size)) := by
    intro w1 hb
    have hbb := below_trans0 b0 hb
    have hz := hb.size
    rw [World.size_alloc] at hz
    exact ⟨(hb.cell (p := ⟨w.heap.size, 0, none⟩) (by simp)).trans (by simp), hbb, hE.below hbb hE.lt, hT.below hbb hT.lt, by omega⟩
  by_cases hbig : (25 : Int) < (n : Int) ∨ (60 : Int) < (kn : Int)
  · clear hl hk hE hT b0
    by_cases h25 : (25 : Int) < (n : Int)
    · go_enter Tryz.func3, Tryz.ntmps3
      go_wp2_with (first
        | (go_at_call 7; refine (unhide HK).mono ?_; rintro e w1 ⟨rfl, hb1⟩; obtain ⟨c0, HB⟩ := unhide HK1 w1 hb1; clear HK HK1 hb1))
      go_ret
      exact ⟨rfl, (unhide HB).1⟩
    · have h60 : (60 : Int) < (kn : Int) := by omega
      go_enter Tryz.func3, Tryz.ntmps3
      go_wp2_with (first
        | (go_at_call 7; refine (unhide HK).mono ?_; rintro e w1 ⟨rfl, hb1⟩; obtain ⟨c0, HB⟩ := unhide HK1 w1 hb1; clear HK HK1 hb1))
      go_ret
      exact ⟨rfl, (unhide HB).1⟩
  have h25 : ¬ ((25 : Int) < (n : Int)) := fun h => hbig (.inl h)
  have h60 : ¬ ((60 : Int) < (kn : Int)) := fun h => hbig (.inr h)
  have HIN : Hid (∀ w1 : World, Below w.heap.size w w1 → w.heap.size < w1.heap.size → ∀ wr, Below w1.heap.size w1 wr → Dk.KeepAt wr (fun k => w1.heap.size ≤ k) (.slice ka kn kc) ks ∧ ∀ j, j < n → ∃ (b off c : Nat), la = some ⟨b, off, none⟩ ∧ c < 256 ∧ wr.cell? ⟨b, off + j, none⟩ = some (.int .u8 (c : Int))) := by
    intro w1 hb hz wr hb2
    have hb3 : Below w.heap.size w wr := hb.trans (hb2.mono hb.size)
    refine ⟨keep_below hk hb3 hb.size, fun j hj => ?_⟩
    obtain ⟨b, off, c, h1, h2, h3, h4⟩ := hl j hj
    exact ⟨b, off, c, h1, h3, (hb3.cell (p := ⟨b, off + j, none⟩) h2).trans h4⟩
  have hks : ks.length ≤ 60 := by omega
  have Hks := hide hks
  have hn25 : n ≤ 25 := by omega
  clear hl hk hE hT b0 hbig hks hkn
  go_enter Tryz.func3, Tryz.ntmps3
  go_wp2_with (first
    | (go_at_call 7; refine (unhide HK).mono ?_; rintro e w1 ⟨rfl, hb1⟩; obtain ⟨c0, HB⟩ := unhide HK1 w1 hb1; clear HK HK1 hb1; have HN := hide (kb_new (w := w1) (room := 65536) (by decide) (unhide HB).2.1 (unhide HB).2.2.1))
    | (go_at_call 8; refine (unhide HN).mono ?_; rintro e w2 ⟨rfl, _, HO⟩; clear HN)
    | (go_at_call 9; refine (unhide HO).mono ?_; rintro e w3 ⟨p, rfl, K3⟩; clear HO))
  have HI := hide (unhide HIN w1 (unhide HB).1 (unhide HB).2.2.2)
  have HC0 : Hid (∀ wr, Below w1.heap.size w1 wr → wr.cell? ⟨w.heap.size, 0, none⟩ = some (.slice ka kn kc)) := fun wr hb => (hb.cell (p := ⟨w.heap.size, 0, none⟩) (unhide HB).2.2.2).trans c0
  have H0 : Hid (CH w1 w3 p w1.heap.size 0 (.slice none 0 0) []) := ⟨[], false, ⟨(unhide K3).rows (Below.refl _ _) (fun x hx => .inr (by rw [List.mem_singleton.1 hx]; exact ⟨EL.nil _, fun g ⟨_, _, _, e⟩ => by cases e⟩)), fun r hr => by cases hr⟩, by simp, by simp, rfl, fun g hg => by cases hg⟩
  have HBf : Hid (∀ wr, Below w1.heap.size w1 wr → Below w.heap.size w wr) := fun wr hb => (unhide HB).1.trans (hb.mono (unhide HB).1.size)
  clear HIN K3 HB c0
  go_loopw [6, 7, 8, 9, 10, 11, 12] (fun s6 s7 s8 s9 s10 s11 s12 wr => s7 = s7 ∧ s10 = s10 ∧ s11 = s11 ∧ s12 = s12 ∧ ∃ (p i hn hc : Nat) (ha : Option Addr) (hs : List GE), i ≤ n ∧ s6 = .pointer (some ⟨p, 0, none⟩) ∧ s8 = .slice ha hn hc ∧ s9 = .int .i64 (i : Int) ∧ Hid (hn = hs.length ∧ CH w1 wr p w1.heap.size i (.slice ha hn hc) hs)) (fun _ _ _ s9 _ _ _ _ => n - (RowKit.intOf s9).toNat)
  case atStart => exact ⟨rfl, rfl, rfl, rfl, p, 0, 0, 0, none, [], Nat.zero_le _, rfl, rfl, rfl, rfl, unhide H0⟩
  case round =>
    obtain ⟨-, -, -, -, p, i, hn, hc, ha, hs, hi, rfl, rfl, rfl, hr⟩ := hrel
    clear H0
    by_cases hlt : i < n
    · have hii : (i : Int) < (n : Int) := by omega
      have hi0 : (0 : Int) ≤ (i : Int) := by omega
      obtain ⟨hnl, rs, pr, hcw, hrl, hhl, hrun, hok⟩ := unhide hr
      obtain ⟨hKp, hlj⟩ := unhide HI wr hcw.1.ev.2.2
      obtain ⟨b, off, c, rfl, hc256, hcl⟩ := hlj i hlt
      have HCW := hide hcw
      have Hinf := hide (And.intro hnl (And.intro hrl (And.intro hhl (And.intro hrun hok))))
      clear hr hKp hlj hcw hrl hrun hok
      have hn2 : (hn : Int) ≤ 50 := by omega
      obtain ⟨m, hm⟩ : ∃ m, m = c % (hn + 1) := ⟨_, rfl⟩
      have hmn : m ≤ hn := by have := Nat.mod_lt c (show 0 < hn + 1 by omega); omega
      have hrem : Int.tmod (c : Int) ((hn : Int) + 1) = (m : Int) := by
        rw [hm, show ((hn : Int) + 1) = ((hn + 1 : Nat) : Int) by omega]; rfl
      clear hm hnl hhl
      have hwh : IntKind.i64.wrap ((hn : Int) + 1) = (hn : Int) + 1 := by rw [IntKind.wrap_i64] <;> omega
      have hwi : IntKind.u64.wrap (i : Int) = (i : Int) := by rw [IntKind.wrap_u64] <;> omega
      have hwc : IntKind.i64.wrap (c : Int) = (c : Int) := by rw [IntKind.wrap_i64] <;> omega
      have hwm : IntKind.u64.wrap (m : Int) = (m : Int) := by rw [IntKind.wrap_u64] <;> omega
      have hwm1 : IntKind.u64.wrap ((m : Int) + 1) = (m : Int) + 1 := by rw [IntKind.wrap_u64] <;> omega
      have hz : ¬ ((hn : Int) + 1 = 0) := by omega
      have hbx := box_below wr (.cells #[.int .u64 (i : Int), .int .i64 1, .int .u64 0, .int .u64 (i : Int), .string ⟨#[]⟩] 37)
      have hxn : (wr.alloc (.cells #[.int .u64 (i : Int), .int .i64 1, .int .u64 0, .int .u64 (i : Int), .string ⟨#[]⟩] 37)).heap[wr.heap.size]? = some (.cells #[.int .u64 (i : Int), .int .i64 1, .int .u64 0, .int .u64 (i : Int), .string ⟨#[]⟩] 37 (0, 0)) := heap_alloc_new _ _
      have hcx : (wr.alloc (.cells #[.int .u64 (i : Int), .int .i64 1, .int .u64 0, .int .u64 (i : Int), .string ⟨#[]⟩] 37)).cell? ⟨b, off + i, none⟩ = some (.int .u8 (c : Int)) := (hbx.cell (p := ⟨b, off + i, none⟩) (lt_of_cell hcl)).trans hcl
      have HCX := hide ((unhide HCW).rows (L' := [(.slice ha hn hc, hs), (.slice (some ⟨wr.heap.size, 0, none⟩) 1 1, [gx i])]) hbx (fun y hy => by
        simp only [List.mem_cons, List.not_mem_nil, or_false] at hy
        rcases hy with rfl | rfl
        · exact .inl (List.mem_singleton.2 rfl)
        · exact .inr ⟨el_x hxn, fun g ⟨_, _, _, e⟩ => by cases e; exact .inl (Nat.le_refl _)⟩))
      clear hcl HCW hbx
      go_upto_region 14 with fail
      generalize hW : wr.alloc (.cells #[.int .u64 (i : Int), .int .i64 1, .int .u64 0, .int .u64 (i : Int), .string ⟨#[]⟩] 37) = W at HCX hcx ⊢
      clear hW hxn
      generalize wr.heap.size = xb at HCX ⊢
      obtain ⟨LL, hLL⟩ : ∃ LL, LL = [(Value.slice ha hn hc, hs), (Value.slice (some ⟨xb, 0, none⟩) 1 1, [gx i])] := ⟨_, rfl⟩
      rw [← hLL] at HCX
      have HXC : Hid (∀ (W : World) (p : Nat) (rs : List Rc) (ns : Nat) (pr : Bool) (es : List GE) (n : Nat), CW w1 W p w1.heap.size rs ns pr es n LL → EL W (.slice ha hn hc) hs ∧ EL W (.slice (some ⟨xb, 0, none⟩) 1 1) [gx i] ∧ xb < W.heap.size) := fun W p rs ns pr es n h => by
        have h1 := h.el (.slice ha hn hc, hs) (by rw [hLL]; simp)
        have h2 := h.el (.slice (some ⟨xb, 0, none⟩) 1 1, [gx i]) (by rw [hLL]; simp)
        exact ⟨h1, h2, h2.lt ⟨_, _, _, rfl⟩⟩
      have hrl : rs.length ≤ 125 := by have := (unhide Hinf).2.1; omega
      have hhl : hs.length ≤ 50 := by have := (unhide Hinf).2.2.1; omega
      have hmh : m ≤ hs.length := by have := (unhide Hinf).1; omega
      have hxok : ∀ g ∈ [gx i, gx i], (g.ok ∧ g.may = true) ∧ g.sql.size = 0 := fun g hg => by
        simp at hg
        subst hg
        exact ⟨gx_ok (by omega), rfl⟩
      have HA1 := hide (cw_cut (m := m) (n := 8999 - 20 * i) (by have := unhide HCX; rw [show 9000 - 20 * i = 8999 - 20 * i + 1 by omega] at this; exact this) (by omega) hmh (by omega))
      have HA2 : Hid (∀ W : World, CW w1 W p w1.heap.size (rs ++ [rcC (m + 1)]) rs.length true (hs.take m) (8999 - 20 * i) LL → Calls Tryz.prog 11 #[.pointer (some ⟨p, 0, none⟩), .slice (some ⟨W.heap.size, 0, none⟩) 2 2] (W.alloc (.cells #[.int .u64 (i : Int), .int .i64 1, .int .u64 0, .int .u64 (i : Int), .string ⟨#[]⟩, .int .u64 (i : Int), .int .i64 1, .int .u64 0, .int .u64 (i : Int), .string ⟨#[]⟩] 37)) fun e w' => e = .returned .nilIface ∧ Hid (CW w1 w' p w1.heap.size (rs ++ [rcC (m + 1)] ++ [gx i, gx i].map rcE) rs.length true (hs.take m ++ [gx i, gx i]) (8998 - 20 * i) LL)) := fun W h =>
        cw_app (n := 8998 - 20 * i) (by have := h.below (box_below W (.cells (two (gx i) (gx i)) 37)); rw [show 8999 - 20 * i = 8998 - 20 * i + 1 by omega] at this; exact this) (by simp; omega) (el_two W (gx i) (gx i)).1.re hxok (by simp) (by simp; omega)
      have HA3 : Hid (∀ W : World, Hid (CW w1 W p w1.heap.size (rs ++ [rcC (m + 1)] ++ [gx i, gx i].map rcE) rs.length true (hs.take m ++ [gx i, gx i]) (8998 - 20 * i) LL) → Calls Tryz.prog 12 #[.pointer (some ⟨p, 0, none⟩)] W fun e w' => e = .returned .nilIface ∧ Hid (CW w1 w' p w1.heap.size (rs ++ [rcC (m + 1)] ++ [gx i, gx i].map rcE) (rs ++ [rcC (m + 1)] ++ [gx i, gx i].map rcE).length true (hs.take m ++ [gx i, gx i]) (8997 - 20 * i) LL)) := fun W h => cw_sync (n := 8997 - 20 * i) (by have := unhide h; rw [show 8998 - 20 * i = 8997 - 20 * i + 1 by omega] at this; exact this)
      have HLL := hide hLL
      clear hLL hxok
      go_upto_region 17 with (first
        | (go_at_call 10; refine (unhide HA1).mono ?_; rintro e w4 ⟨rfl, h4⟩; obtain ⟨x0, x1, x2, x3, x4⟩ := x_cells (unhide HXC _ _ _ _ _ _ _ h4).2.1; have H4 := hide h4; clear h4 HA1)
        | (go_at_call 11; refine (unhide HA2 _ (unhide H4)).mono ?_; rintro e w5 ⟨rfl, H5⟩; clear HA2 H4 x0 x1 x2 x3 x4)
        | (go_at_call 12; refine (unhide HA3 _ H5).mono ?_; rintro e w6 ⟨rfl, H6⟩; clear HA3 H5))
      obtain ⟨hEh, hEx, hxl⟩ := unhide HXC _ _ _ _ _ _ _ (unhide H6)
      have hx6 : EL w6.drew (.slice (some ⟨xb, 0, none⟩) 1 1) [gx i] := hEx.below (drew_below w6 1)
      have hEt : EL w6.drew (.slice ha m hc) (hs.take m) := (hEh.below (drew_below w6 1)).take m hmh
      obtain ⟨_, kx, hslc, hhc, _⟩ := hEh.slice
      have hhc2 : hs.length ≤ hc := by injection hslc with _ _ e3; omega
      clear hslc hhc
      have m0 : (0 : Int) ≤ (m : Int) := by omega
      have hmc : (m : Int) ≤ (hc : Int) := by omega
      go_cut [8] from 75 to 83 (fun s8 wx => ∃ (hn2 hc2 : Nat) (ha2 : Option Addr), s8 = .slice ha2 hn2 hc2 ∧ Hid (hn2 = (hs.take m ++ [gx i, gx i]).length ∧ CW w1 wx p w1.heap.size (rs ++ [rcC (m + 1)] ++ [gx i, gx i].map rcE) (rs ++ [rcC (m + 1)] ++ [gx i, gx i].map rcE).length true (hs.take m ++ [gx i, gx i]) (8997 - 20 * i) [(.slice ha2 hn2 hc2, hs.take m ++ [gx i, gx i])]))
      case first =>
        refine wp_region_held_drew (S := fun w' => w'.cell? ⟨xb, 0, none⟩ = some (.int .u64 (i : Int)) ∧ w'.cell? ⟨xb, 1, none⟩ = some (.int .i64 1) ∧ w'.cell? ⟨xb, 2, none⟩ = some (.int .u64 0) ∧ w'.cell? ⟨xb, 3, none⟩ = some (.int .u64 (i : Int)) ∧ w'.cell? ⟨xb, 4, none⟩ = some (.string ⟨#[]⟩)) (by kernel_rfl) (x_cells hx6) (fun hHeld => ?_)
        refine hand_to (i := 0) (d := 75) (v := (.slice ha hn hc)) rfl rfl (by kernel_rfl) (by kernel_rfl) (by kernel_rfl) (fun _ _ _ h => h) (Or.inl ⟨by rfl, ?_⟩) hHeld ?_
        · (intro w' hSw; obtain ⟨y0, y1, y2, y3, y4⟩ := hSw; go_simp)
        simp only [Act.put, List.setIfInBounds_toArray, List.set_cons_zero, List.set_cons_succ]
        refine hand_to (i := 1) (d := 76) (v := (.int .u64 ((m : Int) + 1))) rfl rfl (by kernel_rfl) (by kernel_rfl) (by kernel_rfl) (fun _ _ _ h => h) (Or.inl ⟨by rfl, ?_⟩) hHeld ?_
        · (intro w' hSw; obtain ⟨y0, y1, y2, y3, y4⟩ := hSw; go_simp)
        simp only [Act.put, List.setIfInBounds_toArray, List.set_cons_zero, List.set_cons_succ]
        refine hand_to (i := 2) (d := 77) (v := (.int .u64 (m : Int))) rfl rfl (by kernel_rfl) (by kernel_rfl) (by kernel_rfl) (fun _ _ _ h => h) (Or.inl ⟨by rfl, ?_⟩) hHeld ?_
        · (intro w' hSw; obtain ⟨y0, y1, y2, y3, y4⟩ := hSw; go_simp)
        simp only [Act.put, List.setIfInBounds_toArray, List.set_cons_zero, List.set_cons_succ]
        refine hand_to (i := 3) (d := 78) (v := (.slice ha m hc)) rfl rfl (by kernel_rfl) (by kernel_rfl) (by kernel_rfl) (fun _ _ _ h => h) (Or.inl ⟨by rfl, ?_⟩) hHeld ?_
        · (intro w' hSw; obtain ⟨y0, y1, y2, y3, y4⟩ := hSw; go_simp)
        simp only [Act.put, List.setIfInBounds_toArray, List.set_cons_zero, List.set_cons_succ]
        refine hand_to (i := 5) (d := 80) (v := (.agg #[.int .u64 (i : Int), .int .i64 1, .int .u64 0, .int .u64 (i : Int), .string ⟨#[]⟩])) rfl rfl (by kernel_rfl) (by kernel_rfl) (by kernel_rfl) (fun _ _ _ h => h) (Or.inl ⟨by rfl, ?_⟩) hHeld ?_
        · (intro w' hSw; obtain ⟨y0, y1, y2, y3, y4⟩ := hSw; go_simp)
        simp only [Act.put, List.setIfInBounds_toArray, List.set_cons_zero, List.set_cons_succ]
        refine hand_to (i := 6) (d := 81) (v := (.agg #[.int .u64 (i : Int), .int .i64 1, .int .u64 0, .int .u64 (i : Int), .string ⟨#[]⟩])) rfl rfl (by kernel_rfl) (by kernel_rfl) (by kernel_rfl) (fun _ _ _ h => h) (Or.inl ⟨by rfl, ?_⟩) hHeld ?_
        · (intro w' hSw; obtain ⟨y0, y1, y2, y3, y4⟩ := hSw; go_simp)
        simp only [Act.put, List.setIfInBounds_toArray, List.set_cons_zero, List.set_cons_succ]
        refine wpAnyH_ready (rs := [4, 7]) (by kernel_rfl) (by simp) ?_
        refine AllReadyH.cons rfl (fun K hK => ?_) (AllReadyH.cons rfl (fun K hK => ?_) AllReadyH.nil)
        · refine step_own (d := 79) rfl rfl (.const (.slice none 0 0)) (.tmp 78) rfl (base := w6.heap.size) (v := .slice none 0 0) (u := .slice ha m hc) (xs := []) (bs := hs.take m) rfl (World.ownsRow_nil _ _ _ _) rfl hEt (by simp; omega) (Nat.le_refl _) (fun v7 w7 o7 k7 z7 e7 => ?_)
          have hb7 : Below w6.heap.size w6 w7 := ⟨e7.1, e7.2.1, e7.2.2, z7, fun k hk => k7 k hk (.inr rfl)⟩
          refine hK.out _ _ (x_cells (hEx.below hb7)) (fun hHeld2 => ?_)
          clear hK K hHeld
          have hHeld := hHeld2
          clear hHeld2
          try simp only [Act.put, List.setIfInBounds_toArray, List.set_cons_zero, List.set_cons_succ]
          have HA7 := hide (And.intro o7 (And.intro hb7 z7))
          clear o7 k7 z7 e7 hb7
          refine wpAnyH_ready (rs := [7]) (by kernel_rfl) (by simp) ?_
          refine AllReadyH.cons rfl (fun K hK => ?_) AllReadyH.nil
          go_simp
          obtain ⟨o7, hb7, z7⟩ := unhide HA7
          clear HA7
          refine hK.out _ _ (x_cells ((hEx.below hb7).below (box_below w7 (.cells #[.int .u64 (i : Int), .int .i64 1, .int .u64 0, .int .u64 (i : Int), .string ⟨#[]⟩, .int .u64 (i : Int), .int .i64 1, .int .u64 0, .int .u64 (i : Int), .string ⟨#[]⟩] 37)))) (fun hHeld2 => ?_)
          clear hK K hHeld
          have hHeld := hHeld2
          clear hHeld2
          try simp only [Act.put, List.setIfInBounds_toArray, List.set_cons_zero, List.set_cons_succ]
          refine wpAnyH_ready (rs := [8]) (by kernel_rfl) (by simp) ?_
          refine AllReadyH.cons rfl (fun K hK => ?_) AllReadyH.nil
          have hbb := box_below w7 (.cells #[.int .u64 (i : Int), .int .i64 1, .int .u64 0, .int .u64 (i : Int), .string ⟨#[]⟩, .int .u64 (i : Int), .int .i64 1, .int .u64 0, .int .u64 (i : Int), .string ⟨#[]⟩] 37)
          refine step_own (d := 83) rfl rfl (.tmp 79) (.tmp 82) rfl (base := w6.heap.size) (v := v7) (xs := hs.take m) (bs := [gx i, gx i]) rfl (own_later o7 hbb) rfl (el_two w7 (gx i) (gx i)).1 (by simp; omega) (Nat.le_trans z7 hbb.size) (fun v9 w9 o9 k9 z9 e9 => ?_)
          have hB9 : Below w6.heap.size w6 w9 := ⟨e9.1.trans (hbb.os.trans hb7.os), e9.2.1.trans (hbb.tape.trans hb7.tape), e9.2.2.trans (hbb.output.trans hb7.output), by have := hbb.size; have := hb7.size; omega, fun k hk => (k9 k (by have := hbb.size; have := hb7.size; omega) (.inl hk)).trans ((hbb.block k (by have := hb7.size; omega)).trans (hb7.block k hk))⟩
          have hx9 := hEx.below hB9
          obtain ⟨q9, r9⟩ := EL.own (es := hs.take m ++ [gx i, gx i]) o9 rfl
          obtain ⟨a9, c9, rfl, _, _⟩ := q9.slice
          have Q9 : Hid (EL w9 (.slice a9 (m + 2) c9) (hs.take m ++ [gx i, gx i]) ∧ ∀ g, inB (.slice a9 (m + 2) c9) g → w6.heap.size ≤ g) := (by rw [← app2_len hmh (i := i)]; exact ⟨q9, r9⟩)
          refine hK.out _ _ (x_cells (hx9)) (fun hHeld2 => ?_)
          clear hK K hHeld
          have hHeld := hHeld2
          clear hHeld2
          try simp only [Act.put, List.setIfInBounds_toArray, List.set_cons_zero, List.set_cons_succ]
          have HB9 := hide hB9
          clear q9 r9 o9 k9 z9 e9 hB9 hx9 o7 hbb hb7
          try clear z7
          try clear k7
          try clear e7
          refine hand_to (i := 9) (d := 8) (v := .slice a9 (hs.take m ++ [gx i, gx i]).length c9) rfl rfl (by kernel_rfl) (by kernel_rfl) (by kernel_rfl) (fun _ _ _ h => h) (Or.inl ⟨by rfl, ?_⟩) hHeld ?_
          · (intro w' hSw; go_simp)
          try simp only [Act.put, List.setIfInBounds_toArray, List.set_cons_zero, List.set_cons_succ]
          refine wpAnyH_done (by kernel_rfl) ?_ _
          go_wp2_with fail
          go_meet
          exact ⟨m + 2, c9, a9, by rw [app2_len hmh], (app2_len hmh).symm, (unhide H6).rows (unhide HB9) (fun y hy => .inr (by rw [List.mem_singleton.1 hy]; exact ⟨(unhide Q9).1, fun g hg => .inl ((unhide Q9).2 g hg)⟩))⟩
        · go_simp
          have hbb := box_below w6.drew (.cells #[.int .u64 (i : Int), .int .i64 1, .int .u64 0, .int .u64 (i : Int), .string ⟨#[]⟩, .int .u64 (i : Int), .int .i64 1, .int .u64 0, .int .u64 (i : Int), .string ⟨#[]⟩] 37)
          refine hK.out _ _ (x_cells (hx6.below hbb)) (fun hHeld2 => ?_)
          clear hK K hHeld
          have hHeld := hHeld2
          clear hHeld2
          try simp only [Act.put, List.setIfInBounds_toArray, List.set_cons_zero, List.set_cons_succ]
          refine wpAnyH_ready (rs := [4]) (by kernel_rfl) (by simp) ?_
          refine AllReadyH.cons rfl (fun K hK => ?_) AllReadyH.nil
          refine step_own (d := 79) rfl rfl (.const (.slice none 0 0)) (.tmp 78) rfl (base := w6.heap.size) (v := .slice none 0 0) (u := .slice ha m hc) (xs := []) (bs := hs.take m) rfl (World.ownsRow_nil _ _ _ _) rfl (hEt.below hbb) (by simp; omega) (by simp) (fun v7 w7 o7 k7 z7 e7 => ?_)
          have hb7 : Below (w6.drew.alloc (.cells #[.int .u64 (i : Int), .int .i64 1, .int .u64 0, .int .u64 (i : Int), .string ⟨#[]⟩, .int .u64 (i : Int), .int .i64 1, .int .u64 0, .int .u64 (i : Int), .string ⟨#[]⟩] 37)).heap.size (w6.drew.alloc (.cells #[.int .u64 (i : Int), .int .i64 1, .int .u64 0, .int .u64 (i : Int), .string ⟨#[]⟩, .int .u64 (i : Int), .int .i64 1, .int .u64 0, .int .u64 (i : Int), .string ⟨#[]⟩] 37)) w7 := ⟨e7.1, e7.2.1, e7.2.2, z7, fun k hk => k7 k hk (.inr rfl)⟩
          refine hK.out _ _ (x_cells ((hx6.below hbb).below hb7)) (fun hHeld2 => ?_)
          clear hK K hHeld
          have hHeld := hHeld2
          clear hHeld2
          try simp only [Act.put, List.setIfInBounds_toArray, List.set_cons_zero, List.set_cons_succ]
          refine wpAnyH_ready (rs := [8]) (by kernel_rfl) (by simp) ?_
          refine AllReadyH.cons rfl (fun K hK => ?_) AllReadyH.nil
          refine step_own (d := 83) rfl rfl (.tmp 79) (.tmp 82) rfl (base := w6.heap.size) (v := v7) (xs := hs.take m) (bs := [gx i, gx i]) rfl o7 rfl ((el_two w6.drew (gx i) (gx i)).1.below hb7) (by simp; omega) (Nat.le_trans hbb.size hb7.size) (fun v9 w9 o9 k9 z9 e9 => ?_)
          have hB9 : Below w6.heap.size w6 w9 := ⟨e9.1.trans (hb7.os.trans hbb.os), e9.2.1.trans (hb7.tape.trans hbb.tape), e9.2.2.trans (hb7.output.trans hbb.output), by have := hbb.size; have := hb7.size; have e : w6.drew.heap.size = w6.heap.size := rfl; omega, fun k hk => (k9 k (by have := hbb.size; have := hb7.size; have e : w6.drew.heap.size = w6.heap.size := rfl; omega) (.inl hk)).trans ((hb7.block k (by have := hbb.size; have e : w6.drew.heap.size = w6.heap.size := rfl; omega)).trans (hbb.block k hk))⟩
          have hx9 := hEx.below hB9
          obtain ⟨q9, r9⟩ := EL.own (es := hs.take m ++ [gx i, gx i]) o9 rfl
          obtain ⟨a9, c9, rfl, _, _⟩ := q9.slice
          have Q9 : Hid (EL w9 (.slice a9 (m + 2) c9) (hs.take m ++ [gx i, gx i]) ∧ ∀ g, inB (.slice a9 (m + 2) c9) g → w6.heap.size ≤ g) := (by rw [← app2_len hmh (i := i)]; exact ⟨q9, r9⟩)
          refine hK.out _ _ (x_cells (hx9)) (fun hHeld2 => ?_)
          clear hK K hHeld
          have hHeld := hHeld2
          clear hHeld2
          try simp only [Act.put, List.setIfInBounds_toArray, List.set_cons_zero, List.set_cons_succ]
          have HB9 := hide hB9
          clear q9 r9 o9 k9 z9 e9 hB9 hx9 o7 hbb hb7
          try clear z7
          try clear k7
          try clear e7
          refine hand_to (i := 9) (d := 8) (v := .slice a9 (hs.take m ++ [gx i, gx i]).length c9) rfl rfl (by kernel_rfl) (by kernel_rfl) (by kernel_rfl) (fun _ _ _ h => h) (Or.inl ⟨by rfl, ?_⟩) hHeld ?_
          · (intro w' hSw; go_simp)
          try simp only [Act.put, List.setIfInBounds_toArray, List.set_cons_zero, List.set_cons_succ]
          refine wpAnyH_done (by kernel_rfl) ?_ _
          go_wp2_with fail
          go_meet
          exact ⟨m + 2, c9, a9, by rw [app2_len hmh], (app2_len hmh).symm, (unhide H6).rows (unhide HB9) (fun y hy => .inr (by rw [List.mem_singleton.1 hy]; exact ⟨(unhide Q9).1, fun g hg => .inl ((unhide Q9).2 g hg)⟩))⟩
      case rest =>
        obtain ⟨hn2, hc2, ha2, rfl, H7⟩ := hcut
        have hok2 : ∀ g ∈ hs.take m ++ [gx i, gx i], g.ok := fun g hg => by
          rcases List.mem_append.1 hg with h' | h'
          · exact (unhide Hinf).2.2.2.2 g (List.mem_of_mem_take h')
          · simp at h'; rw [h']; exact (gx_ok (by omega)).1
        have hRl : (rs ++ [rcC (m + 1)] ++ [gx i, gx i].map rcE).length = rs.length + 3 := by simp
        have hRun : runS sta0 (rs ++ [rcC (m + 1)] ++ [gx i, gx i].map rcE) = .ok ⟨0, 0, 0, 0, hs.take m ++ [gx i, gx i]⟩ := (unhide H7).2.1.info.1
        obtain ⟨R3, hR3⟩ : ∃ R3, R3 = rs ++ [rcC (m + 1)] ++ [gx i, gx i].map rcE := ⟨_, rfl⟩
        rw [← hR3] at H7 hRl hRun
        have hH2l := app2_len (i := i) hmh
        obtain ⟨HS2, hHS2⟩ : ∃ HS2, HS2 = hs.take m ++ [gx i, gx i] := ⟨_, rfl⟩
        rw [← hHS2] at H7 hRun hok2 hH2l
        obtain ⟨hKp, hlj⟩ := unhide HI wc (unhide H7).2.1.ev.2.2
        obtain ⟨b', off', c', hbe, hc256', hcl'⟩ := hlj i hlt
        cases hbe
        have hcc := unhide HC0 wc (unhide H7).2.1.ev.2.2
        have HRest := hide (And.intro hok2 (And.intro hRl (And.intro hRun (And.intro hH2l (And.intro hrl hmh)))))
        have hm50 : m ≤ 50 := by omega
        clear hok2 hRl hRun hR3 hHS2 hlj hKp hEh hEx hxl hx6 hEt H6 hH2l HXC HLL HCX
        clear hhc2 m0 hmc hwh hwi hwc hwm hwm1 hz hrem hcx
        have hq0 : Int.tdiv (c' : Int) 32 = ((c' / 32 : Nat) : Int) := rfl
        have hq1 : Int.tmod ((c' / 32 : Nat) : Int) 2 = ((c' / 32 % 2 : Nat) : Int) := rfl
        have hw8 : IntKind.u8.wrap ((c' / 32 : Nat) : Int) = ((c' / 32 : Nat) : Int) := by rw [IntKind.wrap_u8] <;> omega
        have hw9 : IntKind.u8.wrap ((c' / 32 % 2 : Nat) : Int) = ((c' / 32 % 2 : Nat) : Int) := by rw [IntKind.wrap_u8] <;> omega
        generalize c' / 32 % 2 = c2 at *
        generalize c' / 32 = c1 at *
        have hn52 : (hn2 : Int) ≤ 52 := by have := unhide H7; have := (unhide HRest).2.2.2.1; have := (unhide HRest).2.2.2.2.2; omega
        clear hlt hmn hmh hhl hrl
        go_upto_if 90 with fail
        generalize ((c2 : Int) == 0) = bq
        go_cut [6, 7, 12] from 91 to 137 (fun s6 s7 s12 wx => s7 = s7 ∧ s12 = s12 ∧ ∃ (p2 : Nat) (R4 : List Rc), s6 = .pointer (some ⟨p2, 0, none⟩) ∧ Hid (CW w1 wx p2 w1.heap.size R4 R4.length true HS2 (8980 - 20 * i) [(.slice ha2 hn2 hc2, HS2)] ∧ R4.length ≤ rs.length + 5 ∧ runS sta0 R4 = .ok ⟨0, 0, 0, 0, HS2⟩))
        case first =>
          obtain ⟨hn2e, hC7⟩ := unhide H7
          obtain ⟨hok2, hRl, hRun, hH2l, hrl, hmh⟩ := unhide HRest
          cases bq
          rotate_left
          · skip
            have hr3 : R3.length ≤ 200 := by omega
            have HA := hide (cw_app (e2 := [nE 99]) (n := 8996 - 20 * i) (vl := .slice (some ⟨wc.heap.size, 0, none⟩) 1 1) (by have := hC7.below (box_below wc (.cells #[.int .u64 99, .int .i64 0, .int .u64 0, .int .u64 0, .string ⟨#[]⟩] 37)); rw [show 8997 - 20 * i = 8996 - 20 * i + 1 by omega] at this; exact this) hr3 (re_one wc (nE 99)) (fun g hg => by simp at hg; subst hg; exact ⟨nE_ok (by decide), rfl⟩) (by simp) (by omega))
            have HF : Hid (∀ W : World, CW w1 W p w1.heap.size (R3 ++ [nE 99].map rcE) R3.length true (HS2 ++ [nE 99]) (8996 - 20 * i) [(.slice ha2 hn2 hc2, HS2)] → W.cell? ⟨w.heap.size, 0, none⟩ = some (.slice ka kn kc) ∧ Hid (Calls Tryz.prog 13 #[.pointer (some ⟨w1.heap.size, 0, none⟩), .agg #[.slice ka kn kc]] W fun e w2 => e = .returned (.tuple #[]) ∧ Hid (Calls Tryz.prog 9 #[.pointer (some ⟨w1.heap.size, 0, none⟩)] w2 fun e w' => ∃ p2, e = .returned (.tuple #[.pointer (some ⟨p2, 0, none⟩), .nilIface]) ∧ Hid (CW w1 w' p2 w1.heap.size R3 R3.length true HS2 (8994 - 20 * i) [(.slice ha2 hn2 hc2, HS2)] ∨ CW w1 w' p2 w1.heap.size (R3 ++ [rcE (nE 99)]) (R3.length + 1) true (HS2 ++ [nE 99]) (8994 - 20 * i) [(.slice ha2 hn2 hc2, HS2)])))) := fun W h =>
              ⟨unhide HC0 W h.1.ev.2.2, cw_fall (n := 8994 - 20 * i) (by rw [show 8996 - 20 * i = 8994 - 20 * i + 2 by omega] at h; exact h) hr3 hRun (unhide HI W h.1.ev.2.2).1 (unhide Hks)⟩
            have HEnt := hide (fun (W : World) (p2 : Nat) (R4 : List Rc) (ns : Nat) (es : List GE) (h : CW w1 W p2 w1.heap.size R4 ns true es (8994 - 20 * i) [(.slice ha2 hn2 hc2, HS2)]) => cw_entries h)
            have Hinf2 := hide (And.intro hn2e (And.intro hRl (And.intro hRun hH2l)))
            clear hok2 hRl hRun hH2l hn2e hC7 HC0 HI hrl hmh
            go_upto_region 24 with (first
              | (go_at_call 11; refine (unhide HA).mono ?_; rintro e w4 ⟨rfl, h4⟩; obtain ⟨y0, HF4⟩ := unhide HF w4 h4; clear HA HF h4)
              | (go_at_call 13; refine (unhide HF4).mono ?_; rintro e w5 ⟨rfl, HO5⟩; clear HF4 y0)
              | (go_at_call 9; refine (unhide HO5).mono ?_; rintro e w6' ⟨p6, rfl, H66⟩; clear HO5))
            obtain ⟨hn2e, hRl, hRun, hH2l⟩ := unhide Hinf2
            have hw21 : IntKind.i64.wrap ((hn2 : Int) + 1) = (hn2 : Int) + 1 := by rw [IntKind.wrap_i64] <;> omega
            rcases unhide H66 with hA | hB
            · have HE7 : Hid (Calls Tryz.prog 14 #[.pointer (some ⟨p6, 0, none⟩)] w6' fun e w7 => ∃ ya yk, e = .returned (.slice ya hn2 yk) ∧ Hid (CW w1 w7 p6 w1.heap.size R3 R3.length true HS2 (8980 - 20 * i) [(.slice ha2 hn2 hc2, HS2)] ∧ R3.length ≤ rs.length + 5 ∧ runS sta0 R3 = .ok ⟨0, 0, 0, 0, HS2⟩)) := (cw_entries hA).mono fun e w7 ⟨v7, q1, q2, q3⟩ => by
                obtain ⟨ya, yk, rfl, _, _⟩ := q3.slice
                exact ⟨ya, yk, by rw [q1, hn2e], q2.less (by omega), by omega, hRun⟩
              have hnb : ((hn2 : Int) == (hn2 : Int) + 1) = false := by simp; omega
              clear hA H66 HEnt hn2e hRl hRun hH2l Hinf2
              go_wp2_with (first
                | (go_at_call 14; refine (unhide HE7).mono ?_; rintro e w7 ⟨ya, yk, rfl, H77⟩; clear HE7))
              go_meet
              exact ⟨trivial, trivial, p6, R3, rfl, unhide H77⟩
            · have hr4 : (R3 ++ [rcE (nE 99)]).length ≤ 200 := by rw [List.length_append, List.length_singleton]; have := (unhide HRest).2.2.2.2.1; omega
              have HE7 : Hid (Calls Tryz.prog 14 #[.pointer (some ⟨p6, 0, none⟩)] w6' fun e w7 => ∃ yb yo yk, e = .returned (.slice (some ⟨yb, yo, none⟩) (hn2 + 1) yk) ∧ (w7.cell? ⟨yb, yo + hn2 * 5, none⟩ = some (.int .u64 99) ∧ w7.cell? ⟨yb, yo + hn2 * 5 + 1, none⟩ = some (.int .i64 0) ∧ w7.cell? ⟨yb, yo + hn2 * 5 + 2, none⟩ = some (.int .u64 0) ∧ w7.cell? ⟨yb, yo + hn2 * 5 + 3, none⟩ = some (.int .u64 0) ∧ w7.cell? ⟨yb, yo + hn2 * 5 + 4, none⟩ = some (.string ⟨#[]⟩)) ∧ Hid (Calls Tryz.prog 10 #[.pointer (some ⟨p6, 0, none⟩), .int .u64 ((hn2 : Int) + 1)] w7 fun e w8 => e = .returned .nilIface ∧ Hid (Calls Tryz.prog 12 #[.pointer (some ⟨p6, 0, none⟩)] w8 fun e w9 => e = .returned .nilIface ∧ Hid (CW w1 w9 p6 w1.heap.size (R3 ++ [rcE (nE 99)] ++ [rcC (hn2 + 1)]) (R3 ++ [rcE (nE 99)] ++ [rcC (hn2 + 1)]).length true HS2 (8980 - 20 * i) [(.slice ha2 hn2 hc2, HS2)] ∧ (R3 ++ [rcE (nE 99)] ++ [rcC (hn2 + 1)]).length ≤ rs.length + 5 ∧ runS sta0 (R3 ++ [rcE (nE 99)] ++ [rcC (hn2 + 1)]) = .ok ⟨0, 0, 0, 0, HS2⟩)))) := (cw_entries hB).mono fun e w7 ⟨v7, q1, q2, q3⟩ => by
                have hg : (HS2 ++ [nE 99])[hn2]? = some (nE 99) := by rw [hn2e, List.getElem?_append_right (Nat.le_refl _)]; simp
                obtain ⟨yb, yo, yk, rfl, _, _, hc⟩ := q3.cells hg
                rw [show 8994 - 20 * i = 8993 - 20 * i + 1 by omega] at q2
                refine ⟨yb, yo, yk, by rw [q1, List.length_append, List.length_singleton, hn2e], ⟨hc 0 _ rfl, hc 1 _ rfl, hc 2 _ rfl, hc 3 _ rfl, hc 4 _ rfl⟩, (cw_cut (m := hn2) (n := 8993 - 20 * i) q2 hr4 (by rw [List.length_append]; omega) (by rw [List.length_append, List.length_singleton]; omega)).mono fun e w8 ⟨r1, r2⟩ => ⟨r1, ?_⟩⟩
                have et : (HS2 ++ [nE 99]).take hn2 = HS2 := by rw [hn2e]; exact List.take_left
                rw [et] at r2
                rw [show 8993 - 20 * i = 8992 - 20 * i + 1 by omega] at r2
                refine (cw_sync (n := 8992 - 20 * i) r2).mono fun e w9 ⟨t1, t2⟩ => ⟨t1, t2.less (by omega), ?_, t2.1.info.1⟩
                rw [List.length_append, List.length_append, List.length_singleton, List.length_singleton]
                omega
              have hnb : (((hn2 + 1 : Nat) : Int) == (hn2 : Int) + 1) = true := by simp
              have hle1 : (hn2 : Int) < ((hn2 + 1 : Nat) : Int) := by omega
              have h0n : (0 : Int) ≤ (hn2 : Int) := by omega
              have hwu : IntKind.u64.wrap (hn2 : Int) = (hn2 : Int) := by rw [IntKind.wrap_u64] <;> omega
              have hwu1 : IntKind.u64.wrap ((hn2 : Int) + 1) = (hn2 : Int) + 1 := by rw [IntKind.wrap_u64] <;> omega
              clear hB H66 HEnt hn2e hRl hRun hH2l Hinf2 hr4
              go_wp2_with (first
                | (go_at_call 14; refine (unhide HE7).mono ?_; rintro e w7 ⟨yb, yo, yk, rfl, ⟨e0, e1, e2, e3, e4⟩, HC7⟩; clear HE7)
                | (go_at_call 10; refine (unhide HC7).mono ?_; rintro e w8 ⟨rfl, HY8⟩; clear HC7)
                | (go_at_call 12; refine (unhide HY8).mono ?_; rintro e w9 ⟨rfl, H99⟩; clear HY8))
              go_meet
              exact ⟨trivial, trivial, p6, _, rfl, unhide H99⟩
          · skip
            have Hx : Hid (CW w1 wc p w1.heap.size R3 R3.length true HS2 (8980 - 20 * i) [(.slice ha2 hn2 hc2, HS2)] ∧ R3.length ≤ rs.length + 5 ∧ runS sta0 R3 = .ok ⟨0, 0, 0, 0, HS2⟩) := ⟨hC7.less (by omega), by omega, hRun⟩
            clear hn2e hC7 hok2 hRl hRun hH2l hrl hmh
            go_wp2_with fail
            go_meet
            exact ⟨trivial, trivial, p, R3, rfl, unhide Hx⟩
        case rest =>
          obtain ⟨-, -, p2, R4, rfl, H8⟩ := hcut
          have HE8 := hide (cw_entries (unhide H8).1)
          have HS8 : Hid (∀ (W : World) (v : Value), EL W v HS2 → EL W (.slice ha2 hn2 hc2) HS2 → Calls Tryz.prog 15 #[v, .slice ha2 hn2 hc2] W fun e w' => e = .returned (.bool true) ∧ Below W.heap.size W w') := fun W v h1 h2 => (ents_same _ _ _ _ _ _ (h1.sle (unhide HRest).1) (h2.sle (unhide HRest).1)).mono fun e w' ⟨q1, k, q2⟩ => ⟨q1, by rw [q2]; exact drew_below _ k⟩
          have HCH : Hid (∀ W : World, CW w1 W p2 w1.heap.size R4 R4.length true HS2 (8980 - 20 * i) [(.slice ha2 hn2 hc2, HS2)] → hn2 = HS2.length ∧ CH w1 W p2 w1.heap.size (i + 1) (.slice ha2 hn2 hc2) HS2) := fun W h => by
            obtain ⟨q0, q1, q2, q3, q4, q5⟩ := unhide HRest
            obtain ⟨z0, z1, z2, z3, z4⟩ := unhide Hinf
            refine ⟨(unhide H7).1, R4, true, ?_, by have := (unhide H8).2.1; omega, by omega, (unhide H8).2.2, q0⟩
            rw [show 9000 - 20 * (i + 1) = 8980 - 20 * i by omega]
            exact h
          clear hcl' hcc hq0 hq1 hw8 hw9 HC0 HI
          go_wp2_with (first
            | (go_at_call 14; refine (unhide HE8).mono ?_; rintro e w8 ⟨v8, rfl, h8, h9⟩; have H9 := hide (And.intro h8 h9); have HS9 := hide (unhide HS8 w8 v8 h9 (h8.el _ (List.mem_singleton.2 rfl))); clear HE8 h8 h9)
            | (go_at_call 15; refine (unhide HS9).mono ?_; rintro e w10 ⟨rfl, hb10⟩; have H10 := hide ((unhide H9).1.below hb10); clear HS9 hb10))
          go_roundw
          case rel => exact ⟨trivial, trivial, trivial, trivial, p2, i + 1, hn2, hc2, ha2, HS2, by omega, rfl, rfl, by go_num, unhide HCH _ (unhide H10)⟩
          case measure => simp [RowKit.intOf]; omega
    · have hii : ¬ ((i : Int) < (n : Int)) := by omega
      obtain ⟨_, rs, pr, hcw, _⟩ := unhide hr
      have HF := hide (unhide HBf wr hcw.1.ev.2.2)
      clear hr HI HC0 hcw
      go_wp2_with fail
      go_ret
      exact ⟨rfl, unhide HF⟩
end Go.Proofs.YtebiekkkmimomaaGreatDoor
