/- WalOpens: its walk. -/
import Derived.Test.YtmonlmidlghfdaaGreatDoorJWaOpen3WaOpns0
import Derived.Test.YtmonlmidlghfdaaGreatDoorJWaFewWaStepWaInWaIn2
import Derived.Test.YtmonlmidlghfdaaGreatDoorJWaSetWaApE
namespace Go.Proofs.YtmonlmidlghfdaaGreatDoor
open Go.RowKit Go.Lib Go.Maps

theorem okeep {w w' : World} {B : Nat} {v : Value} {ks : List Int} (h : Dk.KeepAt w (fun _ => False) v ks) (hb : Below w.heap.size w w') (hB : w.heap.size ≤ B) : Dk.KeepAt w' (fun k => B ≤ k) v ks := by
  obtain ⟨h1, h2 | ⟨b, off, cap, hbl, hn, h3, h4, h5, h6⟩⟩ := h
  · exact ⟨h1, .inl h2⟩
  · exact ⟨h1, .inr ⟨b, off, cap, Nat.lt_of_lt_of_le hbl hb.size, fun hh => by dsimp only at hh; omega, h3, h4, h5, fun i x hi => (hb.cell (p := ⟨b, off + i, none⟩) hbl).trans (h6 i x hi)⟩⟩
theorem kp_rbo (w3 : World) (D : Nat → Prop) (hD : ∀ k, D k → k < w3.heap.size) : Dk.RBo (w3.alloc (.cells #[.int .u8 107, .int .u8 101, .int .u8 112, .int .u8 116] 5 (4, 4 + 1))) D (.slice (some ⟨w3.heap.size, 0, none⟩) 4 4) kpB := by
  refine ⟨by decide, .inr ⟨w3.heap.size, 0, 4, by simp, fun h => by have := hD _ h; omega, by decide, by decide, rfl, fun i hi => ?_⟩⟩
  have hi' : i < 4 := hi
  have hn : (w3.alloc (.cells #[.int .u8 107, .int .u8 101, .int .u8 112, .int .u8 116] 5 (4, 4 + 1))).heap[w3.heap.size]? = some (.cells #[.int .u8 107, .int .u8 101, .int .u8 112, .int .u8 116] 5 (4, 4 + 1)) := heap_alloc_new _ _
  unfold World.cell?
  match i, hi' with
  | 0, _ => rw [hn]; rfl
  | 1, _ => rw [hn]; rfl
  | 2, _ => rw [hn]; rfl
  | 3, _ => rw [hn]; rfl
set_option maxHeartbeats 25600000 in
set_option maxRecDepth 100000 in
theorem opens_law (w : World) (hE : ET w) (hT : ST w) (la : Option Addr) (lc : Nat) (es : List GE) (hl : SlE w w.heap.size (.slice la es.length lc) es) (hl0 : la = none → lc = 0) (t : Nat) (x : Int) (ht : t < 18446744073709551616) (ha : Option Addr) (hn hc : Nat) (hh : ∀ j, j < hn → ∃ (b off c : Nat), ha = some ⟨b, off, none⟩ ∧ b < w.heap.size ∧ c < 256 ∧ w.cell? ⟨b, off + j, none⟩ = some (.int .u8 (c : Int))) (ka : Option Addr) (kn kc0 : Nat) (ks : List Int) (hkn : ks.length = kn) (hk : Dk.KeepAt w (fun _ => False) (.slice ka kn kc0) ks) (hnm : hn ≤ maxLen) (hkm : kn ≤ maxLen) :
    Calls Tryz.prog 6 #[.slice la es.length lc, .agg #[.int .u64 (t : Int), .int .i64 x], .slice ha hn hc, .agg #[.slice ka kn kc0]] w fun e w' => e = .returned (.bool true) ∧ Below w.heap.size w w' := by
  have hl1 := hl
  obtain ⟨W0, hW0⟩ : ∃ W0, W0 = (w.alloc (.cells #[.int .u64 (t : Int), .int .i64 x] 47)).alloc (.cells #[.slice ka kn kc0] 25) := ⟨_, rfl⟩
  have b0 : Below w.heap.size w W0 := by rw [hW0]; exact ((Below.refl _ _).alloc (Nat.le_refl _) _).alloc (by simp) _
  have z0 : W0.heap.size = w.heap.size + 2 := by rw [hW0]; simp
  have c00 : W0.cell? ⟨w.heap.size, 0, none⟩ = some (.int .u64 (t : Int)) ∧ W0.cell? ⟨w.heap.size, 1, none⟩ = some (.int .i64 x) ∧ W0.cell? ⟨w.heap.size + 1, 0, none⟩ = some (.slice ka kn kc0) := by
    subst hW0
    go_simp
  have HK := hide (wknown_any W0 (hE.below b0 hE.lt) (hT.below b0 hT.lt))
  have hnm' : (hn : Int) ≤ 9223372036854775807 := by unfold maxLen at hnm; omega
  have hkm' : (kn : Int) ≤ 9223372036854775807 := by unfold maxLen at hkm; omega
  have HK1 : Hid (∀ w1 : World, Below W0.heap.size W0 w1 → w1.cell? ⟨w.heap.size, 0, none⟩ = some (.int .u64 (t : Int)) ∧ w1.cell? ⟨w.heap.size, 1, none⟩ = some (.int .i64 x) ∧ w1.cell? ⟨w.heap.size + 1, 0, none⟩ = some (.slice ka kn kc0) ∧ Hid (Below w.heap.size w w1 ∧ ET w1 ∧ ST w1 ∧ w.heap.size + 2 ≤ w1.heap.size)) := by
    intro w1 hb
    have hbb := below_trans0 b0 hb
    have hz := hb.size
    exact ⟨(hb.cell (p := ⟨w.heap.size, 0, none⟩) (by simp; omega)).trans c00.1, (hb.cell (p := ⟨w.heap.size, 1, none⟩) (by simp; omega)).trans c00.2.1, (hb.cell (p := ⟨w.heap.size + 1, 0, none⟩) (by simp; omega)).trans c00.2.2, hbb, hE.below hbb hE.lt, hT.below hbb hT.lt, by omega⟩
  have HF : Hid (∀ w1 : World, Below W0.heap.size W0 w1 → Calls Tryz.prog 20 #[.slice (some ⟨w1.heap.size, 0, none⟩) 1 1] (w1.alloc (.cells #[.int .i64 0, .int .i64 0, .int .u64 0, .int .u64 0, .int .i64 0, .slice la es.length lc, .slice none 0 0] 59)) fun e w' => ∃ m, e = .returned (.bool m) ∧ Below W0.heap.size W0 w' ∧ Hid (m = true → es.length ≤ 12 ∧ ∀ g ∈ es, g.sql.size ≤ 2100)) := by
    intro w1 hb0
    have hb := below_trans0 b0 hb0
    have hb1 := box_below w1 (.cells #[.int .i64 0, .int .i64 0, .int .u64 0, .int .u64 0, .int .i64 0, .slice la es.length lc, .slice none 0 0] 59)
    have hn1 : (w1.alloc (.cells #[.int .i64 0, .int .i64 0, .int .u64 0, .int .u64 0, .int .i64 0, .slice la es.length lc, .slice none 0 0] 59)).heap[w1.heap.size]? = some (.cells #[.int .i64 0, .int .i64 0, .int .u64 0, .int .u64 0, .int .i64 0, .slice la es.length lc, .slice none 0 0] 59 (0, 0)) := heap_alloc_new _ _
    refine (wfew_any _ (w1.heap.size + 1) _ [⟨0, 0, 0, 0, 0, .slice la es.length lc, es, .slice none 0 0, []⟩] ⟨by simp [maxLen], fun y hy => ?_, some ⟨w1.heap.size, 0, none⟩, 1, rfl, fun _ => ⟨w1.heap.size, 0, rfl, by omega, fun i y hi j u hu => ?_⟩⟩).mono ?_
    · rw [List.mem_singleton.1 hy]
      exact ⟨hl.later (below_trans0 hb hb1) (by have := hb.size; omega), ⟨fun x hx => (by cases hx), .inl ⟨⟨none, 0, rfl⟩, rfl⟩⟩, none, 0, rfl⟩
    · cases i with
      | zero =>
        simp at hi
        subst hi
        rw [(Dk.cellB hn1 _).1, ← Array.getElem?_toList]
        simpa [GStp.cells] using hu
      | succ i => simp at hi
    · rintro e w' ⟨⟨m, rfl, hm⟩, rfl⟩
      exact ⟨m, rfl, below_trans0 hb0 hb1, fun hh => by have := (hm hh).2.1 _ (List.mem_singleton.2 rfl); exact ⟨this.1, this.2.1⟩⟩
  rw [hW0] at HK HK1 HF
  clear c00 b0 z0 hW0
  by_cases hbig : (10 : Int) < (hn : Int) ∨ (100 : Int) < (kn : Int) ∨ x < -1 ∨ 1000 < x
  · clear hl hl1 hh hk hE hT
    by_cases h10 : (10 : Int) < (hn : Int)
    · go_enter Tryz.func6, Tryz.ntmps6
      go_wp2_with (first
        | (go_at_call 7; refine (unhide HK).mono ?_; rintro e w1 ⟨rfl, hb1⟩; have HF1 := hide (unhide HF w1 hb1); clear HK hb1 HF)
        | (go_at_call 20; refine (unhide HF1).mono ?_; rintro e w2 ⟨m, rfl, hb2, hm⟩; obtain ⟨c0, c1, c2, HB⟩ := unhide HK1 w2 hb2; clear HF1 HK1 hb2; cases m; rotate_left; have HSZ := hide (unhide hm rfl); clear hm; rotate_left; focus (go_wp2_with fail; go_ret; exact ⟨rfl, (unhide HB).1⟩)))
      go_ret
      exact ⟨rfl, (unhide HB).1⟩
    by_cases h100 : (100 : Int) < (kn : Int)
    · go_enter Tryz.func6, Tryz.ntmps6
      go_wp2_with (first
        | (go_at_call 7; refine (unhide HK).mono ?_; rintro e w1 ⟨rfl, hb1⟩; have HF1 := hide (unhide HF w1 hb1); clear HK hb1 HF)
        | (go_at_call 20; refine (unhide HF1).mono ?_; rintro e w2 ⟨m, rfl, hb2, hm⟩; obtain ⟨c0, c1, c2, HB⟩ := unhide HK1 w2 hb2; clear HF1 HK1 hb2; cases m; rotate_left; have HSZ := hide (unhide hm rfl); clear hm; rotate_left; focus (go_wp2_with fail; go_ret; exact ⟨rfl, (unhide HB).1⟩)))
      go_ret
      exact ⟨rfl, (unhide HB).1⟩
    by_cases hx1 : x < -1
    · go_enter Tryz.func6, Tryz.ntmps6
      go_wp2_with (first
        | (go_at_call 7; refine (unhide HK).mono ?_; rintro e w1 ⟨rfl, hb1⟩; have HF1 := hide (unhide HF w1 hb1); clear HK hb1 HF)
        | (go_at_call 20; refine (unhide HF1).mono ?_; rintro e w2 ⟨m, rfl, hb2, hm⟩; obtain ⟨c0, c1, c2, HB⟩ := unhide HK1 w2 hb2; clear HF1 HK1 hb2; cases m; rotate_left; have HSZ := hide (unhide hm rfl); clear hm; rotate_left; focus (go_wp2_with fail; go_ret; exact ⟨rfl, (unhide HB).1⟩)))
      go_ret
      exact ⟨rfl, (unhide HB).1⟩
    have hx2 : 1000 < x := by omega
    go_enter Tryz.func6, Tryz.ntmps6
    go_wp2_with (first
      | (go_at_call 7; refine (unhide HK).mono ?_; rintro e w1 ⟨rfl, hb1⟩; have HF1 := hide (unhide HF w1 hb1); clear HK hb1 HF)
      | (go_at_call 20; refine (unhide HF1).mono ?_; rintro e w2 ⟨m, rfl, hb2, hm⟩; obtain ⟨c0, c1, c2, HB⟩ := unhide HK1 w2 hb2; clear HF1 HK1 hb2; cases m; rotate_left; have HSZ := hide (unhide hm rfl); clear hm; rotate_left; focus (go_wp2_with fail; go_ret; exact ⟨rfl, (unhide HB).1⟩)))
    go_ret
    exact ⟨rfl, (unhide HB).1⟩
  have h10 : ¬ ((10 : Int) < (hn : Int)) := fun h => hbig (.inl h)
  have h100 : ¬ ((100 : Int) < (kn : Int)) := fun h => hbig (.inr (.inl h))
  have hx1 : ¬ (x < -1) := fun h => hbig (.inr (.inr (.inl h)))
  have hx2 : ¬ (1000 < x) := fun h => hbig (.inr (.inr (.inr h)))
  have hks : ks.length ≤ 100 := by omega
  have hn10 : hn ≤ 10 := by omega
  have HIN : Hid (∀ w1 : World, Below w.heap.size w w1 → w.heap.size + 2 ≤ w1.heap.size → ∀ wr, Below w1.heap.size w1 wr → Dk.KeepAt wr (fun k => w1.heap.size ≤ k) (.slice ka kn kc0) ks ∧ SlE wr wr.heap.size (.slice la es.length lc) es ∧ ∀ j, j < hn → ∃ (b off c : Nat), ha = some ⟨b, off, none⟩ ∧ c < 256 ∧ wr.cell? ⟨b, off + j, none⟩ = some (.int .u8 (c : Int))) := by
    intro w1 hb hz wr hb2
    have hb3 : Below w.heap.size w wr := hb.trans (hb2.mono hb.size)
    refine ⟨okeep hk hb3 hb.size, hl1.later hb3 hb3.size, fun j hj => ?_⟩
    obtain ⟨b, off, c, h1, h2, h3, h4⟩ := hh j hj
    exact ⟨b, off, c, h1, h3, (hb3.cell (p := ⟨b, off + j, none⟩) h2).trans h4⟩
  have Hks := hide hks
  have HOK := hide hl.2.1
  have HX : Hid (t < 18446744073709551616 ∧ -1 ≤ x ∧ x ≤ 1000) := ⟨ht, by omega, by omega⟩
  have HNW := hide (fun (W : World) (hE : ET W) (hT : ST W) => ds_new (w := W) (room := 80000) (by decide) hE hT)
  have HDA : Hid (∀ W w3 : World, DS W w3 W.heap.size W.heap.size 80000 [] 9100 Hale → Calls Tryz.prog 25 #[.pointer (some ⟨W.heap.size, 0, none⟩), .string ⟨#[111, 116, 104, 101, 114]⟩, .slice (some ⟨w3.heap.size, 0, none⟩) 4 4] (w3.alloc (.cells #[.int .u8 107, .int .u8 101, .int .u8 112, .int .u8 116] 5 (4, 4 + 1))) fun e w' => e = .returned .nilIface ∧ Hid (DS W w' W.heap.size W.heap.size 80000 (FX (some (kpB, 0)) none) 9099 Hale)) := fun W w3 h =>
    ds_append (lb := kpB) (n := 9099) h (box_below _ _) (kp_rbo w3) (by decide) (by decide)
  have HDS : Hid (∀ W w3 : World, Hid (DS W w3 W.heap.size W.heap.size 80000 (FX (some (kpB, 0)) none) 9099 Hale) → Calls Tryz.prog 26 #[.pointer (some ⟨W.heap.size, 0, none⟩), .string ⟨#[111, 116, 104, 101, 114]⟩] w3 fun e w' => e = .returned .nilIface ∧ Hid (DS W w' W.heap.size W.heap.size 80000 (FX aK none) 9098 Hale)) := fun W w3 h => ds_sync (n := 9098) (unhide h)
  have HDO : Hid (∀ W w3 : World, Hid (DS W w3 W.heap.size W.heap.size 80000 (FX aK none) 9098 Hale) → Calls Tryz.prog 9 #[.pointer (some ⟨W.heap.size, 0, none⟩)] w3 fun e w' => ∃ p, e = .returned (.tuple #[.pointer (some ⟨p, 0, none⟩), .nilIface]) ∧ Hid (OK0 W w' p [] 0 false sta0 9096)) := fun W w3 h => ds_open0 (n := 9096) (unhide h)
  have kc := fun (w : World) (C : Array Value) (n c : Nat) => run_convert_bytes_const (P := Tryz.prog) w 22 5 C n c Tryz.underlying22 Tryz.underlying5
  have HNE : Hid (la = none → es = []) := fun e => by
    subst e
    obtain ⟨_, _, a', cap', e', hcc⟩ := hl1
    cases e'
    cases es with
    | nil => rfl
    | cons g es =>
      obtain ⟨_, _, e, _⟩ := hcc (by simp)
      cases e
  clear hl hl1 hh hk hE hT hbig hks hkn
  by_cases hmay : ∀ g ∈ es, g.may = true
  rotate_left
  · obtain ⟨ad, rfl⟩ : ∃ ad, la = some ad := by
      cases la with
      | some ad => exact ⟨ad, rfl⟩
      | none => exact absurd (fun g hg => by rw [unhide HNE rfl] at hg; cases hg) hmay
    have HAB : Hid (∀ (W w3 : World) (p : Nat) (v : Value), es.length ≤ 12 ∧ (∀ g ∈ es, g.sql.size ≤ 2100) → OK0 W w3 p [] 0 false sta0 9096 → EL w3 v es → Calls Tryz.prog 11 #[.pointer (some ⟨p, 0, none⟩), v] w3 fun e w' => ∃ T b, e = .returned (.iface T (.pointer (some ⟨b, 0, none⟩))) ∧ Hid (Below W.heap.size W w') ∧ Hid (Calls Tryz.prog 22 #[.iface T (.pointer (some ⟨b, 0, none⟩))] w' fun e w2 => e = .returned (.int .i64 20) ∧ Below w'.heap.size w' w2)) := fun W w3 p v hs h hl =>
      (kb_app_bad h hl.re (unhide HOK) hs (by show (0 : Nat) ≤ 800000; omega) hmay).mono fun e w' ⟨T, b, h1, h2, h3, h4⟩ => ⟨T, b, h1, h3, class_x (unhide h4) (unhide h2)⟩
    go_enter Tryz.func6, Tryz.ntmps6
    go_wp2_with (first
      | (go_at_call 7; refine (unhide HK).mono ?_; rintro e w1 ⟨rfl, hb1⟩; have HF1 := hide (unhide HF w1 hb1); clear HK hb1 HF)
      | (go_at_call 20; refine (unhide HF1).mono ?_; rintro e w2 ⟨m, rfl, hb2, hm⟩; obtain ⟨c0, c1, c2, HB⟩ := unhide HK1 w2 hb2; clear HF1 HK1 hb2; cases m; rotate_left; have HSZ := hide (unhide hm rfl); clear hm; rotate_left; focus (go_wp2_with fail; go_ret; exact ⟨rfl, (unhide HB).1⟩))
      | (go_at_call 8; refine (unhide HNW w2 (unhide HB).2.1 (unhide HB).2.2.1).mono ?_; rintro e w3 ⟨rfl, K3⟩; have HDA1 := hide (unhide HDA w2 w3 K3); clear HNW HDA K3)
      | (go_at_call 25; refine (unhide HDA1).mono ?_; rintro e w4 ⟨rfl, K4⟩; clear HDA1)
      | (go_at_call 26; refine (unhide HDS w2 w4 K4).mono ?_; rintro e w5 ⟨rfl, K5⟩; clear HDS K4)
      | (go_at_call 9; refine (unhide HDO w2 w5 K5).mono ?_; rintro e w6 ⟨p, rfl, K6⟩; have HSL := hide (unhide HIN w2 (unhide HB).1 (unhide HB).2.2.2 w6 (unhide K6).ev.2.2).2.1; clear HDO K5)
      | (at_builtin; refine wpList_append_sle rfl _ _ rfl rfl (some ad) lc es _ rfl rfl (unhide HSL) hl0 (by have := (unhide HSZ).1; omega) ?_; intro v7 w7 e7 b7; have HAB7 := hide (unhide HAB w2 w7 p v7 (unhide HSZ) ((unhide K6).below b7) e7); clear HAB K6 e7 b7)
      | (go_at_call 11; refine (unhide HAB7).mono ?_; rintro e w8 ⟨T8, b8, rfl, B8, HC8⟩; clear HAB7)
      | (go_at_call 22; refine (unhide HC8).mono ?_; rintro e w9 ⟨rfl, b9⟩))
    go_ret
    exact ⟨rfl, (unhide HB).1.trans ((below_trans0 (unhide B8) b9).mono (unhide HB).1.size)⟩
  have HOA : Hid ((es.length ≤ 12 ∧ ∀ g ∈ es, g.sql.size ≤ 2100) → OA es t x) := fun h => ⟨h.1, fun g hg => ⟨unhide HOK g hg, hmay g hg⟩, h.2, (unhide HX).1, (unhide HX).2⟩
  have HG1 : Hid (∀ (W w3 : World) (p : Nat) (v : Value), OA es t x → OK0 W w3 p [] 0 false sta0 9096 → RE w3 v es → Calls Tryz.prog 11 #[.pointer (some ⟨p, 0, none⟩), v] w3 fun e w' => e = .returned .nilIface ∧ Hid (OK0 W w' p (es.map rcE) 0 true ⟨0, 0, 0, 0, es⟩ 9095)) := fun W w3 p v ha h hl => o_app (n := 9095) ha h hl
  have HG2 : Hid (∀ (W w3 : World) (p : Nat), OA es t x → Hid (OK0 W w3 p (es.map rcE) 0 true ⟨0, 0, 0, 0, es⟩ 9095) → Calls Tryz.prog 16 #[.pointer (some ⟨p, 0, none⟩), .agg #[.int .u64 (t : Int), .int .i64 x]] w3 fun e w' => e = .returned .nilIface ∧ Hid (OK0 W w' p (oR es t x) 0 true (oS es t x) 9094)) := fun W w3 p ha h => o_set (n := 9094) ha (unhide h)
  have HG3 : Hid (∀ (W w3 : World) (p : Nat), Hid (OK0 W w3 p (oR es t x) 0 true (oS es t x) 9094) → Calls Tryz.prog 12 #[.pointer (some ⟨p, 0, none⟩)] w3 fun e w' => e = .returned .nilIface ∧ Hid (OD W w' es t x 9093 Hale)) := fun W w3 p h => o_sync (n := 9093) (unhide h)
  clear hmay HOK HX
  cases la with
  | none =>
    obtain rfl := unhide HNE rfl
    obtain rfl := hl0 rfl
    go_enter Tryz.func6, Tryz.ntmps6
    go_wp2_with (first
      | (go_at_call 7; refine (unhide HK).mono ?_; rintro e w1 ⟨rfl, hb1⟩; have HF1 := hide (unhide HF w1 hb1); clear HK hb1 HF)
      | (go_at_call 20; refine (unhide HF1).mono ?_; rintro e w2 ⟨m, rfl, hb2, hm⟩; obtain ⟨c0, c1, c2, HB⟩ := unhide HK1 w2 hb2; clear HF1 HK1 hb2; cases m; rotate_left; have HSZ := hide (unhide hm rfl); clear hm; rotate_left; focus (go_wp2_with fail; go_ret; exact ⟨rfl, (unhide HB).1⟩))
      | (go_at_call 8; refine (unhide HNW w2 (unhide HB).2.1 (unhide HB).2.2.1).mono ?_; rintro e w3 ⟨rfl, K3⟩; have HDA1 := hide (unhide HDA w2 w3 K3); clear HNW HDA K3)
      | (go_at_call 25; refine (unhide HDA1).mono ?_; rintro e w4 ⟨rfl, K4⟩; clear HDA1)
      | (go_at_call 26; refine (unhide HDS w2 w4 K4).mono ?_; rintro e w5 ⟨rfl, K5⟩; clear HDS K4)
      | (go_at_call 9; refine (unhide HDO w2 w5 K5).mono ?_; rintro e w6 ⟨p, rfl, K6⟩; have HCL : Hid (∀ wr, Below w2.heap.size w2 wr → wr.cell? ⟨w.heap.size, 0, none⟩ = some (.int .u64 (t : Int)) ∧ wr.cell? ⟨w.heap.size, 1, none⟩ = some (.int .i64 x) ∧ wr.cell? ⟨w.heap.size + 1, 0, none⟩ = some (.slice ka kn kc0)) := (fun wr hb => ⟨(hb.cell (p := ⟨w.heap.size, 0, none⟩) (by have := (unhide HB).2.2.2; show w.heap.size < w2.heap.size; omega)).trans c0, (hb.cell (p := ⟨w.heap.size, 1, none⟩) (by have := (unhide HB).2.2.2; show w.heap.size < w2.heap.size; omega)).trans c1, (hb.cell (p := ⟨w.heap.size + 1, 0, none⟩) (by have := (unhide HB).2.2.2; show w.heap.size + 1 < w2.heap.size; omega)).trans c2⟩); have HOA1 := hide (unhide HOA (unhide HSZ)); have HG17 := hide (unhide HG1 w2 w6 p (.slice none 0 0) (unhide HOA1) (unhide K6) (EL.nil _).re); clear HG1 K6; clear HDO K5)
      | (go_at_call 11; refine (unhide HG17).mono ?_; rintro e w8 ⟨rfl, K8⟩; have c08 := unhide HCL w8 (unhide K8).ev.2.2; have HG28 := hide (unhide HG2 w2 w8 p (unhide HOA1) K8); clear HG17 HG2 K8; obtain ⟨d0, d1, -⟩ := c08)
      | (go_at_call 16; refine (unhide HG28).mono ?_; rintro e w9 ⟨rfl, K9⟩; clear HG28 d0 d1)
      | (go_at_call 12; refine (unhide HG3 w2 w9 p K9).mono ?_; rintro e w10 ⟨rfl, K10⟩; clear HG3 K9))
    have HI := hide (unhide HIN w2 (unhide HB).1 (unhide HB).2.2.2)
    have HBf : Hid (∀ wr, Below w2.heap.size w2 wr → Below w.heap.size w wr) := fun wr hb => (unhide HB).1.trans (hb.mono (unhide HB).1.size)
    clear HIN HB c0 c1 c2 h10 h100 hx1 hx2
    go_loopw [12] (fun s12 wr => ∃ i, i ≤ hn ∧ s12 = .int .i64 (i : Int) ∧ Hid (OD w2 wr [] t x (9093 - i) Hale)) (fun s12 _ => hn - (RowKit.intOf s12).toNat)
    case atStart => exact ⟨0, Nat.zero_le _, rfl, unhide K10⟩
    case round =>
      obtain ⟨i, hi, rfl, hr⟩ := hrel
      clear K10
      by_cases hlt : i < hn
      · have hii : (i : Int) < (hn : Int) := by omega
        have hi0 : (0 : Int) ≤ (i : Int) := by omega
        obtain ⟨hKp, _, hlj⟩ := unhide HI wr (unhide hr).ev.2.2
        obtain ⟨b, off, c, rfl, hc256, hcl⟩ := hlj i hlt
        have hrem : Int.tmod (c : Int) 10 = ((c % 10 : Nat) : Int) := rfl
        have hm10 : c % 10 < 10 := Nat.mod_lt _ (by decide)
        have HRd := hide (o_round (n := 9092 - i) (k := ((c % 10 : Nat) : Int)) (kv := .slice ka kn kc0) (ks := ks) (unhide HOA1) (by have := unhide hr; rw [show 9093 - i = 9092 - i + 1 by omega] at this; exact this) (by omega) (fun W hb => (unhide HI W hb).1) (unhide Hks))
        generalize c % 10 = c1 at *
        have hw8 : IntKind.u8.wrap (c1 : Int) = (c1 : Int) := by rw [IntKind.wrap_u8] <;> omega
        have hw64 : IntKind.i64.wrap (c1 : Int) = (c1 : Int) := by rw [IntKind.wrap_i64] <;> omega
        clear hr hKp hlj
        go_wp2_with (first
          | (go_at_call 23; refine (unhide HRd).mono ?_; rintro e w11 ⟨rfl, HO11⟩; clear HRd)
          | (go_at_call 9; refine (unhide HO11).mono ?_; rintro e w12 ⟨u12, v12, rfl, B12, HC12⟩; obtain ⟨d0, d1, d2⟩ := unhide HCL w12 (unhide B12); clear HO11)
          | (go_at_call 13; refine (unhide HC12).mono ?_; rintro e w13 ⟨rfl, K13⟩; clear HC12))
        go_roundw
        case rel => exact ⟨i + 1, by omega, by go_num, by rw [show 9093 - (i + 1) = 9092 - i by omega]; exact unhide K13⟩
        case measure => simp [RowKit.intOf]; omega
      · have hii : ¬ ((i : Int) < (hn : Int)) := by omega
        have HL := hide (o_last (n := 9080) (kv := .slice ka kn kc0) (ks := ks) (unhide HOA1) ((unhide hr).less (by omega)) (fun W hb => (unhide HI W hb).1) (unhide Hks))
        obtain ⟨d0, d1, d2⟩ := unhide HCL wr (unhide hr).ev.2.2
        clear hr
        have HEND : Hid (∀ (W : World) (p : Nat), Hid (OK0 w2 W p (oR [] t x) (oR [] t x).length true (oS [] t x) 9080) → Calls Tryz.prog 27 #[.pointer (some ⟨w2.heap.size, 0, none⟩), .string ⟨#[111, 116, 104, 101, 114]⟩] W fun e w' => ∃ v, e = .returned (.tuple #[v, .nilIface]) ∧ Hid (OEND w2 w' p [] t x v)) := fun W p h => (kb_read (unhide h)).mono fun e w' ⟨v, q1, q2, q3⟩ => ⟨v, q1, (unhide h).below q3, rb_own q2 (by decide)⟩
        have HS3 : Hid (∀ (W : World) (p : Nat) (v : Value), OEND w2 W p [] t x v → W.cell? ⟨w.heap.size, 0, none⟩ = some (.int .u64 (t : Int)) ∧ W.cell? ⟨w.heap.size, 1, none⟩ = some (.int .i64 x) ∧ (convert 22 9 v).run Tryz.prog W = .ok (.string ⟨#[107, 101, 112, 116]⟩) W) := fun W p v h => ⟨(unhide HCL W h.1.ev.2.2).1, (unhide HCL W h.1.ev.2.2).2.1, oend_conv h⟩
        have HHD : Hid (∀ (W : World) (p : Nat) (v : Value), OEND w2 W p [] t x v → Calls Tryz.prog 19 #[.pointer (some ⟨p, 0, none⟩)] W fun e w' => e = .returned (.agg #[.int .u64 (t : Int), .int .i64 x]) ∧ Hid (OEND w2 w' p [] t x v)) := fun W p v h => oend_hard (unhide HOA1) h
        have HEN : Hid (∀ (W : World) (p : Nat) (v : Value), OEND w2 W p [] t x v → Calls Tryz.prog 14 #[.pointer (some ⟨p, 0, none⟩)] W fun e w' => ∃ v', e = .returned v' ∧ Hid (OEND w2 w' p [] t x v ∧ EL w' v' [])) := fun W p v h => oend_entries h
        have HSM : Hid (∀ (W : World) (p : Nat) (v v' : Value), OEND w2 W p [] t x v ∧ EL W v' [] → Calls Tryz.prog 15 #[v', .slice none 0 0] W fun e w' => e = .returned (.bool true) ∧ Hid (OEND w2 w' p [] t x v)) := fun W p v v' h => oend_same (unhide HOA1) h.1 h.2 (unhide HI W h.1.1.ev.2.2).2.1
        clear HI HCL
        go_wp2_with (first
          | (go_at_call 13; refine (unhide HL).mono ?_; rintro e w11 ⟨rfl, HO11⟩; clear HL)
          | (go_at_call 9; refine (unhide HO11).mono ?_; rintro e w12 ⟨p12, rfl, K12⟩; clear HO11)
          | (go_at_call 27; refine (unhide HEND w12 p12 K12).mono ?_; rintro e w13 ⟨v13, rfl, K13⟩; clear HEND K12))
        have K13d := hide ((unhide K13).below (drew_below w13 1))
        clear K13
        refine wp_region_held_drew (S := fun w' => w'.cell? ⟨w.heap.size, 0, none⟩ = some (.int .u64 (t : Int)) ∧ w'.cell? ⟨w.heap.size, 1, none⟩ = some (.int .i64 x) ∧ (convert 22 9 v13).run Tryz.prog w' = .ok (.string ⟨#[107, 101, 112, 116]⟩) w') (by kernel_rfl) (unhide HS3 _ p12 v13 (unhide K13d)) (fun hHeld => ?_)
        refine hand_to (i := 0) (d := 115) (v := .nilIface) rfl rfl (by kernel_rfl) (by kernel_rfl) (by kernel_rfl) (fun _ _ _ h => h) (Or.inl ⟨by rfl, ?_⟩) hHeld ?_
        · (intro w' hSw; obtain ⟨y0, y1, y2⟩ := hSw; go_simp)
        simp only [Act.put, List.setIfInBounds_toArray, List.set_cons_zero, List.set_cons_succ]
        refine hand_to (i := 1) (d := 116) (v := (.bool true)) rfl rfl (by kernel_rfl) (by kernel_rfl) (by kernel_rfl) (fun _ _ _ h => h) (Or.inl ⟨by rfl, ?_⟩) hHeld ?_
        · (intro w' hSw; obtain ⟨y0, y1, y2⟩ := hSw; go_simp)
        simp only [Act.put, List.setIfInBounds_toArray, List.set_cons_zero, List.set_cons_succ]
        refine hand_to (i := 2) (d := 117) (v := (.bool true)) rfl rfl (by kernel_rfl) (by kernel_rfl) (by kernel_rfl) (fun _ _ _ h => h) (Or.inl ⟨by rfl, ?_⟩) hHeld ?_
        · (intro w' hSw; obtain ⟨y0, y1, y2⟩ := hSw; go_simp)
        simp only [Act.put, List.setIfInBounds_toArray, List.set_cons_zero, List.set_cons_succ]
        refine hand_to (i := 3) (d := 118) (v := (.pointer (some ⟨p12, 0, none⟩))) rfl rfl (by kernel_rfl) (by kernel_rfl) (by kernel_rfl) (fun _ _ _ h => h) (Or.inl ⟨by rfl, ?_⟩) hHeld ?_
        · (intro w' hSw; obtain ⟨y0, y1, y2⟩ := hSw; go_simp)
        simp only [Act.put, List.setIfInBounds_toArray, List.set_cons_zero, List.set_cons_succ]
        refine hand_to (i := 4) (d := 119) (v := (.bool true)) rfl rfl (by kernel_rfl) (by kernel_rfl) (by kernel_rfl) (fun _ _ _ h => h) (Or.inl ⟨by rfl, ?_⟩) hHeld ?_
        · (intro w' hSw; obtain ⟨y0, y1, y2⟩ := hSw; go_simp)
        simp only [Act.put, List.setIfInBounds_toArray, List.set_cons_zero, List.set_cons_succ]
        refine hand_to (i := 5) (d := 120) (v := (.bool true)) rfl rfl (by kernel_rfl) (by kernel_rfl) (by kernel_rfl) (fun _ _ _ h => h) (Or.inl ⟨by rfl, ?_⟩) hHeld ?_
        · (intro w' hSw; obtain ⟨y0, y1, y2⟩ := hSw; go_simp)
        simp only [Act.put, List.setIfInBounds_toArray, List.set_cons_zero, List.set_cons_succ]
        refine hand_to (i := 6) (d := 121) (v := (.bool true)) rfl rfl (by kernel_rfl) (by kernel_rfl) (by kernel_rfl) (fun _ _ _ h => h) (Or.inl ⟨by rfl, ?_⟩) hHeld ?_
        · (intro w' hSw; obtain ⟨y0, y1, y2⟩ := hSw; go_simp)
        simp only [Act.put, List.setIfInBounds_toArray, List.set_cons_zero, List.set_cons_succ]
        refine hand_to (i := 7) (d := 122) (v := (.pointer (some ⟨p12, 0, none⟩))) rfl rfl (by kernel_rfl) (by kernel_rfl) (by kernel_rfl) (fun _ _ _ h => h) (Or.inl ⟨by rfl, ?_⟩) hHeld ?_
        · (intro w' hSw; obtain ⟨y0, y1, y2⟩ := hSw; go_simp)
        simp only [Act.put, List.setIfInBounds_toArray, List.set_cons_zero, List.set_cons_succ]
        refine hand_to (i := 9) (d := 124) (v := (.agg #[.int .u64 (t : Int), .int .i64 x])) rfl rfl (by kernel_rfl) (by kernel_rfl) (by kernel_rfl) (fun _ _ _ h => h) (Or.inl ⟨by rfl, ?_⟩) hHeld ?_
        · (intro w' hSw; obtain ⟨y0, y1, y2⟩ := hSw; go_simp)
        simp only [Act.put, List.setIfInBounds_toArray, List.set_cons_zero, List.set_cons_succ]
        refine wpAnyH_ready (rs := [8]) (by kernel_rfl) (by simp) ?_
        refine AllReadyH.cons rfl (fun K hK => ?_) AllReadyH.nil
        go_simp
        (go_at_call 19; refine (unhide HHD _ p12 v13 (unhide K13d)).mono ?_; rintro e w14 ⟨rfl, K14⟩; clear HHD K13d)
        (go_wp2_with fail)
        refine hK.out _ _ (unhide HS3 w14 p12 v13 (unhide K14)) (fun hHeld2 => ?_)
        clear hK K hHeld
        have hHeld := hHeld2
        clear hHeld2
        refine hand_to (i := 10) (d := 125) (v := (.bool true)) rfl rfl (by kernel_rfl) (by kernel_rfl) (by kernel_rfl) (fun _ _ _ h => h) (Or.inl ⟨by rfl, ?_⟩) hHeld ?_
        · (intro w' hSw; obtain ⟨y0, y1, y2⟩ := hSw; go_simp)
        simp only [Act.put, List.setIfInBounds_toArray, List.set_cons_zero, List.set_cons_succ]
        refine hand_to (i := 11) (d := 126) (v := (.bool true)) rfl rfl (by kernel_rfl) (by kernel_rfl) (by kernel_rfl) (fun _ _ _ h => h) (Or.inl ⟨by rfl, ?_⟩) hHeld ?_
        · (intro w' hSw; obtain ⟨y0, y1, y2⟩ := hSw; go_simp)
        simp only [Act.put, List.setIfInBounds_toArray, List.set_cons_zero, List.set_cons_succ]
        refine hand_to (i := 12) (d := 127) (v := (.bool true)) rfl rfl (by kernel_rfl) (by kernel_rfl) (by kernel_rfl) (fun _ _ _ h => h) (Or.inl ⟨by rfl, ?_⟩) hHeld ?_
        · (intro w' hSw; obtain ⟨y0, y1, y2⟩ := hSw; go_simp)
        simp only [Act.put, List.setIfInBounds_toArray, List.set_cons_zero, List.set_cons_succ]
        refine hand_to (i := 13) (d := 128) (v := (.pointer (some ⟨p12, 0, none⟩))) rfl rfl (by kernel_rfl) (by kernel_rfl) (by kernel_rfl) (fun _ _ _ h => h) (Or.inl ⟨by rfl, ?_⟩) hHeld ?_
        · (intro w' hSw; obtain ⟨y0, y1, y2⟩ := hSw; go_simp)
        simp only [Act.put, List.setIfInBounds_toArray, List.set_cons_zero, List.set_cons_succ]
        refine hand_to (i := 15) (d := 130) (v := (.slice none 0 0)) rfl rfl (by kernel_rfl) (by kernel_rfl) (by kernel_rfl) (fun _ _ _ h => h) (Or.inl ⟨by rfl, ?_⟩) hHeld ?_
        · (intro w' hSw; obtain ⟨y0, y1, y2⟩ := hSw; go_simp)
        simp only [Act.put, List.setIfInBounds_toArray, List.set_cons_zero, List.set_cons_succ]
        refine wpAnyH_ready (rs := [14]) (by kernel_rfl) (by simp) ?_
        refine AllReadyH.cons rfl (fun K hK => ?_) AllReadyH.nil
        go_simp
        (go_at_call 14; refine (unhide HEN _ p12 v13 (unhide K14)).mono ?_; rintro e w15 ⟨v15, rfl, K15⟩; clear HEN K14)
        (go_wp2_with fail)
        refine hK.out _ _ (unhide HS3 w15 p12 v13 (unhide K15).1) (fun hHeld2 => ?_)
        clear hK K hHeld
        have hHeld := hHeld2
        clear hHeld2
        refine wpAnyH_ready (rs := [16]) (by kernel_rfl) (by simp) ?_
        refine AllReadyH.cons rfl (fun K hK => ?_) AllReadyH.nil
        go_simp
        (go_at_call 15; refine (unhide HSM _ p12 v13 v15 (unhide K15)).mono ?_; rintro e w16 ⟨rfl, K16⟩; clear HSM K15)
        (go_wp2_with fail)
        refine hK.out _ _ (unhide HS3 w16 p12 v13 (unhide K16)) (fun hHeld2 => ?_)
        clear hK K hHeld
        have hHeld := hHeld2
        clear hHeld2
        refine hand_to (i := 17) (d := 132) (v := (.bool true)) rfl rfl (by kernel_rfl) (by kernel_rfl) (by kernel_rfl) (fun _ _ _ h => h) (Or.inl ⟨by rfl, ?_⟩) hHeld ?_
        · (intro w' hSw; obtain ⟨y0, y1, y2⟩ := hSw; go_simp)
        simp only [Act.put, List.setIfInBounds_toArray, List.set_cons_zero, List.set_cons_succ]
        refine hand_to (i := 18) (d := 133) (v := (.bool true)) rfl rfl (by kernel_rfl) (by kernel_rfl) (by kernel_rfl) (fun _ _ _ h => h) (Or.inl ⟨by rfl, ?_⟩) hHeld ?_
        · (intro w' hSw; obtain ⟨y0, y1, y2⟩ := hSw; go_simp)
        simp only [Act.put, List.setIfInBounds_toArray, List.set_cons_zero, List.set_cons_succ]
        refine hand_to (i := 19) (d := 134) (v := .nilIface) rfl rfl (by kernel_rfl) (by kernel_rfl) (by kernel_rfl) (fun _ _ _ h => h) (Or.inl ⟨by rfl, ?_⟩) hHeld ?_
        · (intro w' hSw; obtain ⟨y0, y1, y2⟩ := hSw; go_simp)
        simp only [Act.put, List.setIfInBounds_toArray, List.set_cons_zero, List.set_cons_succ]
        refine hand_to (i := 20) (d := 135) (v := (.bool true)) rfl rfl (by kernel_rfl) (by kernel_rfl) (by kernel_rfl) (fun _ _ _ h => h) (Or.inl ⟨by rfl, ?_⟩) hHeld ?_
        · (intro w' hSw; obtain ⟨y0, y1, y2⟩ := hSw; go_simp)
        simp only [Act.put, List.setIfInBounds_toArray, List.set_cons_zero, List.set_cons_succ]
        refine hand_to (i := 21) (d := 136) (v := (.bool true)) rfl rfl (by kernel_rfl) (by kernel_rfl) (by kernel_rfl) (fun _ _ _ h => h) (Or.inl ⟨by rfl, ?_⟩) hHeld ?_
        · (intro w' hSw; obtain ⟨y0, y1, y2⟩ := hSw; go_simp)
        simp only [Act.put, List.setIfInBounds_toArray, List.set_cons_zero, List.set_cons_succ]
        refine hand_to (i := 22) (d := 137) (v := (.bool true)) rfl rfl (by kernel_rfl) (by kernel_rfl) (by kernel_rfl) (fun _ _ _ h => h) (Or.inl ⟨by rfl, ?_⟩) hHeld ?_
        · (intro w' hSw; obtain ⟨y0, y1, y2⟩ := hSw; go_simp)
        simp only [Act.put, List.setIfInBounds_toArray, List.set_cons_zero, List.set_cons_succ]
        refine hand_to (i := 23) (d := 138) (v := v13) rfl rfl (by kernel_rfl) (by kernel_rfl) (by kernel_rfl) (fun _ _ _ h => h) (Or.inl ⟨by rfl, ?_⟩) hHeld ?_
        · (intro w' hSw; obtain ⟨y0, y1, y2⟩ := hSw; go_simp)
        simp only [Act.put, List.setIfInBounds_toArray, List.set_cons_zero, List.set_cons_succ]
        refine hand_to (i := 24) (d := 139) (v := (.string ⟨#[107, 101, 112, 116]⟩)) rfl rfl (by kernel_rfl) (by kernel_rfl) (by kernel_rfl) (fun _ _ _ h => h) (Or.inl ⟨by rfl, ?_⟩) hHeld ?_
        · (intro w' hSw; obtain ⟨y0, y1, y2⟩ := hSw; go_simp)
        simp only [Act.put, List.setIfInBounds_toArray, List.set_cons_zero, List.set_cons_succ]
        refine hand_to (i := 25) (d := 140) (v := (.bool true)) rfl rfl (by kernel_rfl) (by kernel_rfl) (by kernel_rfl) (fun _ _ _ h => h) (Or.inl ⟨by rfl, ?_⟩) hHeld ?_
        · (intro w' hSw; obtain ⟨y0, y1, y2⟩ := hSw; go_simp)
        simp only [Act.put, List.setIfInBounds_toArray, List.set_cons_zero, List.set_cons_succ]
        refine hand_to (i := 26) (d := 141) (v := (.bool true)) rfl rfl (by kernel_rfl) (by kernel_rfl) (by kernel_rfl) (fun _ _ _ h => h) (Or.inl ⟨by rfl, ?_⟩) hHeld ?_
        · (intro w' hSw; obtain ⟨y0, y1, y2⟩ := hSw; go_simp)
        simp only [Act.put, List.setIfInBounds_toArray, List.set_cons_zero, List.set_cons_succ]
        refine hand_to (i := 27) (d := 8) (v := (.bool true)) rfl rfl (by kernel_rfl) (by kernel_rfl) (by kernel_rfl) (fun _ _ _ h => h) (Or.inl ⟨by rfl, ?_⟩) hHeld ?_
        · (intro w' hSw; obtain ⟨y0, y1, y2⟩ := hSw; go_simp)
        simp only [Act.put, List.setIfInBounds_toArray, List.set_cons_zero, List.set_cons_succ]
        refine wpAnyH_done (by kernel_rfl) ?_ _
        go_wp2_with fail
        go_ret
        exact ⟨rfl, unhide HBf _ (unhide K16).1.ev.2.2⟩
  | some ad =>
    go_enter Tryz.func6, Tryz.ntmps6
    go_wp2_with (first
      | (go_at_call 7; refine (unhide HK).mono ?_; rintro e w1 ⟨rfl, hb1⟩; have HF1 := hide (unhide HF w1 hb1); clear HK hb1 HF)
      | (go_at_call 20; refine (unhide HF1).mono ?_; rintro e w2 ⟨m, rfl, hb2, hm⟩; obtain ⟨c0, c1, c2, HB⟩ := unhide HK1 w2 hb2; clear HF1 HK1 hb2; cases m; rotate_left; have HSZ := hide (unhide hm rfl); clear hm; rotate_left; focus (go_wp2_with fail; go_ret; exact ⟨rfl, (unhide HB).1⟩))
      | (go_at_call 8; refine (unhide HNW w2 (unhide HB).2.1 (unhide HB).2.2.1).mono ?_; rintro e w3 ⟨rfl, K3⟩; have HDA1 := hide (unhide HDA w2 w3 K3); clear HNW HDA K3)
      | (go_at_call 25; refine (unhide HDA1).mono ?_; rintro e w4 ⟨rfl, K4⟩; clear HDA1)
      | (go_at_call 26; refine (unhide HDS w2 w4 K4).mono ?_; rintro e w5 ⟨rfl, K5⟩; clear HDS K4)
      | (go_at_call 9; refine (unhide HDO w2 w5 K5).mono ?_; rintro e w6 ⟨p, rfl, K6⟩; have HCL : Hid (∀ wr, Below w2.heap.size w2 wr → wr.cell? ⟨w.heap.size, 0, none⟩ = some (.int .u64 (t : Int)) ∧ wr.cell? ⟨w.heap.size, 1, none⟩ = some (.int .i64 x) ∧ wr.cell? ⟨w.heap.size + 1, 0, none⟩ = some (.slice ka kn kc0)) := (fun wr hb => ⟨(hb.cell (p := ⟨w.heap.size, 0, none⟩) (by have := (unhide HB).2.2.2; show w.heap.size < w2.heap.size; omega)).trans c0, (hb.cell (p := ⟨w.heap.size, 1, none⟩) (by have := (unhide HB).2.2.2; show w.heap.size < w2.heap.size; omega)).trans c1, (hb.cell (p := ⟨w.heap.size + 1, 0, none⟩) (by have := (unhide HB).2.2.2; show w.heap.size + 1 < w2.heap.size; omega)).trans c2⟩); have HOA1 := hide (unhide HOA (unhide HSZ)); have HSL := hide (unhide HIN w2 (unhide HB).1 (unhide HB).2.2.2 w6 (unhide K6).ev.2.2).2.1; clear HDO K5)
      | (at_builtin; refine wpList_append_sle rfl _ _ rfl rfl (some ad) lc es _ rfl rfl (unhide HSL) hl0 (by have := (unhide HSZ).1; omega) ?_; intro v7 w7 e7 b7; have HG17 := hide (unhide HG1 w2 w7 p v7 (unhide HOA1) ((unhide K6).below b7) e7.re); clear HG1 K6 e7 b7)
      | (go_at_call 11; refine (unhide HG17).mono ?_; rintro e w8 ⟨rfl, K8⟩; have c08 := unhide HCL w8 (unhide K8).ev.2.2; have HG28 := hide (unhide HG2 w2 w8 p (unhide HOA1) K8); clear HG17 HG2 K8; obtain ⟨d0, d1, -⟩ := c08)
      | (go_at_call 16; refine (unhide HG28).mono ?_; rintro e w9 ⟨rfl, K9⟩; clear HG28 d0 d1)
      | (go_at_call 12; refine (unhide HG3 w2 w9 p K9).mono ?_; rintro e w10 ⟨rfl, K10⟩; clear HG3 K9))
    have HI := hide (unhide HIN w2 (unhide HB).1 (unhide HB).2.2.2)
    have HBf : Hid (∀ wr, Below w2.heap.size w2 wr → Below w.heap.size w wr) := fun wr hb => (unhide HB).1.trans (hb.mono (unhide HB).1.size)
    clear HIN HB c0 c1 c2 h10 h100 hx1 hx2
    go_loopw [12] (fun s12 wr => ∃ i, i ≤ hn ∧ s12 = .int .i64 (i : Int) ∧ Hid (OD w2 wr es t x (9093 - i) Hale)) (fun s12 _ => hn - (RowKit.intOf s12).toNat)
    case atStart => exact ⟨0, Nat.zero_le _, rfl, unhide K10⟩
    case round =>
      obtain ⟨i, hi, rfl, hr⟩ := hrel
      clear K10
      by_cases hlt : i < hn
      · have hii : (i : Int) < (hn : Int) := by omega
        have hi0 : (0 : Int) ≤ (i : Int) := by omega
        obtain ⟨hKp, _, hlj⟩ := unhide HI wr (unhide hr).ev.2.2
        obtain ⟨b, off, c, rfl, hc256, hcl⟩ := hlj i hlt
        have hrem : Int.tmod (c : Int) 10 = ((c % 10 : Nat) : Int) := rfl
        have hm10 : c % 10 < 10 := Nat.mod_lt _ (by decide)
        have HRd := hide (o_round (n := 9092 - i) (k := ((c % 10 : Nat) : Int)) (kv := .slice ka kn kc0) (ks := ks) (unhide HOA1) (by have := unhide hr; rw [show 9093 - i = 9092 - i + 1 by omega] at this; exact this) (by omega) (fun W hb => (unhide HI W hb).1) (unhide Hks))
        generalize c % 10 = c1 at *
        have hw8 : IntKind.u8.wrap (c1 : Int) = (c1 : Int) := by rw [IntKind.wrap_u8] <;> omega
        have hw64 : IntKind.i64.wrap (c1 : Int) = (c1 : Int) := by rw [IntKind.wrap_i64] <;> omega
        clear hr hKp hlj
        go_wp2_with (first
          | (go_at_call 23; refine (unhide HRd).mono ?_; rintro e w11 ⟨rfl, HO11⟩; clear HRd)
          | (go_at_call 9; refine (unhide HO11).mono ?_; rintro e w12 ⟨u12, v12, rfl, B12, HC12⟩; obtain ⟨d0, d1, d2⟩ := unhide HCL w12 (unhide B12); clear HO11)
          | (go_at_call 13; refine (unhide HC12).mono ?_; rintro e w13 ⟨rfl, K13⟩; clear HC12))
        go_roundw
        case rel => exact ⟨i + 1, by omega, by go_num, by rw [show 9093 - (i + 1) = 9092 - i by omega]; exact unhide K13⟩
        case measure => simp [RowKit.intOf]; omega
      · have hii : ¬ ((i : Int) < (hn : Int)) := by omega
        have HL := hide (o_last (n := 9080) (kv := .slice ka kn kc0) (ks := ks) (unhide HOA1) ((unhide hr).less (by omega)) (fun W hb => (unhide HI W hb).1) (unhide Hks))
        obtain ⟨d0, d1, d2⟩ := unhide HCL wr (unhide hr).ev.2.2
        clear hr
        have HEND : Hid (∀ (W : World) (p : Nat), Hid (OK0 w2 W p (oR es t x) (oR es t x).length true (oS es t x) 9080) → Calls Tryz.prog 27 #[.pointer (some ⟨w2.heap.size, 0, none⟩), .string ⟨#[111, 116, 104, 101, 114]⟩] W fun e w' => ∃ v, e = .returned (.tuple #[v, .nilIface]) ∧ Hid (OEND w2 w' p es t x v)) := fun W p h => (kb_read (unhide h)).mono fun e w' ⟨v, q1, q2, q3⟩ => ⟨v, q1, (unhide h).below q3, rb_own q2 (by decide)⟩
        have HS3 : Hid (∀ (W : World) (p : Nat) (v : Value), OEND w2 W p es t x v → W.cell? ⟨w.heap.size, 0, none⟩ = some (.int .u64 (t : Int)) ∧ W.cell? ⟨w.heap.size, 1, none⟩ = some (.int .i64 x) ∧ (convert 22 9 v).run Tryz.prog W = .ok (.string ⟨#[107, 101, 112, 116]⟩) W) := fun W p v h => ⟨(unhide HCL W h.1.ev.2.2).1, (unhide HCL W h.1.ev.2.2).2.1, oend_conv h⟩
        have HHD : Hid (∀ (W : World) (p : Nat) (v : Value), OEND w2 W p es t x v → Calls Tryz.prog 19 #[.pointer (some ⟨p, 0, none⟩)] W fun e w' => e = .returned (.agg #[.int .u64 (t : Int), .int .i64 x]) ∧ Hid (OEND w2 w' p es t x v)) := fun W p v h => oend_hard (unhide HOA1) h
        have HEN : Hid (∀ (W : World) (p : Nat) (v : Value), OEND w2 W p es t x v → Calls Tryz.prog 14 #[.pointer (some ⟨p, 0, none⟩)] W fun e w' => ∃ v', e = .returned v' ∧ Hid (OEND w2 w' p es t x v ∧ EL w' v' es)) := fun W p v h => oend_entries h
        have HSM : Hid (∀ (W : World) (p : Nat) (v v' : Value), OEND w2 W p es t x v ∧ EL W v' es → Calls Tryz.prog 15 #[v', .slice (some ad) es.length lc] W fun e w' => e = .returned (.bool true) ∧ Hid (OEND w2 w' p es t x v)) := fun W p v v' h => oend_same (unhide HOA1) h.1 h.2 (unhide HI W h.1.1.ev.2.2).2.1
        clear HI HCL
        go_wp2_with (first
          | (go_at_call 13; refine (unhide HL).mono ?_; rintro e w11 ⟨rfl, HO11⟩; clear HL)
          | (go_at_call 9; refine (unhide HO11).mono ?_; rintro e w12 ⟨p12, rfl, K12⟩; clear HO11)
          | (go_at_call 27; refine (unhide HEND w12 p12 K12).mono ?_; rintro e w13 ⟨v13, rfl, K13⟩; clear HEND K12))
        have K13d := hide ((unhide K13).below (drew_below w13 1))
        clear K13
        refine wp_region_held_drew (S := fun w' => w'.cell? ⟨w.heap.size, 0, none⟩ = some (.int .u64 (t : Int)) ∧ w'.cell? ⟨w.heap.size, 1, none⟩ = some (.int .i64 x) ∧ (convert 22 9 v13).run Tryz.prog w' = .ok (.string ⟨#[107, 101, 112, 116]⟩) w') (by kernel_rfl) (unhide HS3 _ p12 v13 (unhide K13d)) (fun hHeld => ?_)
        refine hand_to (i := 0) (d := 115) (v := .nilIface) rfl rfl (by kernel_rfl) (by kernel_rfl) (by kernel_rfl) (fun _ _ _ h => h) (Or.inl ⟨by rfl, ?_⟩) hHeld ?_
        · (intro w' hSw; obtain ⟨y0, y1, y2⟩ := hSw; go_simp)
        simp only [Act.put, List.setIfInBounds_toArray, List.set_cons_zero, List.set_cons_succ]
        refine hand_to (i := 1) (d := 116) (v := (.bool true)) rfl rfl (by kernel_rfl) (by kernel_rfl) (by kernel_rfl) (fun _ _ _ h => h) (Or.inl ⟨by rfl, ?_⟩) hHeld ?_
        · (intro w' hSw; obtain ⟨y0, y1, y2⟩ := hSw; go_simp)
        simp only [Act.put, List.setIfInBounds_toArray, List.set_cons_zero, List.set_cons_succ]
        refine hand_to (i := 2) (d := 117) (v := (.bool true)) rfl rfl (by kernel_rfl) (by kernel_rfl) (by kernel_rfl) (fun _ _ _ h => h) (Or.inl ⟨by rfl, ?_⟩) hHeld ?_
        · (intro w' hSw; obtain ⟨y0, y1, y2⟩ := hSw; go_simp)
        simp only [Act.put, List.setIfInBounds_toArray, List.set_cons_zero, List.set_cons_succ]
        refine hand_to (i := 3) (d := 118) (v := (.pointer (some ⟨p12, 0, none⟩))) rfl rfl (by kernel_rfl) (by kernel_rfl) (by kernel_rfl) (fun _ _ _ h => h) (Or.inl ⟨by rfl, ?_⟩) hHeld ?_
        · (intro w' hSw; obtain ⟨y0, y1, y2⟩ := hSw; go_simp)
        simp only [Act.put, List.setIfInBounds_toArray, List.set_cons_zero, List.set_cons_succ]
        refine hand_to (i := 4) (d := 119) (v := (.bool true)) rfl rfl (by kernel_rfl) (by kernel_rfl) (by kernel_rfl) (fun _ _ _ h => h) (Or.inl ⟨by rfl, ?_⟩) hHeld ?_
        · (intro w' hSw; obtain ⟨y0, y1, y2⟩ := hSw; go_simp)
        simp only [Act.put, List.setIfInBounds_toArray, List.set_cons_zero, List.set_cons_succ]
        refine hand_to (i := 5) (d := 120) (v := (.bool true)) rfl rfl (by kernel_rfl) (by kernel_rfl) (by kernel_rfl) (fun _ _ _ h => h) (Or.inl ⟨by rfl, ?_⟩) hHeld ?_
        · (intro w' hSw; obtain ⟨y0, y1, y2⟩ := hSw; go_simp)
        simp only [Act.put, List.setIfInBounds_toArray, List.set_cons_zero, List.set_cons_succ]
        refine hand_to (i := 6) (d := 121) (v := (.bool true)) rfl rfl (by kernel_rfl) (by kernel_rfl) (by kernel_rfl) (fun _ _ _ h => h) (Or.inl ⟨by rfl, ?_⟩) hHeld ?_
        · (intro w' hSw; obtain ⟨y0, y1, y2⟩ := hSw; go_simp)
        simp only [Act.put, List.setIfInBounds_toArray, List.set_cons_zero, List.set_cons_succ]
        refine hand_to (i := 7) (d := 122) (v := (.pointer (some ⟨p12, 0, none⟩))) rfl rfl (by kernel_rfl) (by kernel_rfl) (by kernel_rfl) (fun _ _ _ h => h) (Or.inl ⟨by rfl, ?_⟩) hHeld ?_
        · (intro w' hSw; obtain ⟨y0, y1, y2⟩ := hSw; go_simp)
        simp only [Act.put, List.setIfInBounds_toArray, List.set_cons_zero, List.set_cons_succ]
        refine hand_to (i := 9) (d := 124) (v := (.agg #[.int .u64 (t : Int), .int .i64 x])) rfl rfl (by kernel_rfl) (by kernel_rfl) (by kernel_rfl) (fun _ _ _ h => h) (Or.inl ⟨by rfl, ?_⟩) hHeld ?_
        · (intro w' hSw; obtain ⟨y0, y1, y2⟩ := hSw; go_simp)
        simp only [Act.put, List.setIfInBounds_toArray, List.set_cons_zero, List.set_cons_succ]
        refine wpAnyH_ready (rs := [8]) (by kernel_rfl) (by simp) ?_
        refine AllReadyH.cons rfl (fun K hK => ?_) AllReadyH.nil
        go_simp
        (go_at_call 19; refine (unhide HHD _ p12 v13 (unhide K13d)).mono ?_; rintro e w14 ⟨rfl, K14⟩; clear HHD K13d)
        (go_wp2_with fail)
        refine hK.out _ _ (unhide HS3 w14 p12 v13 (unhide K14)) (fun hHeld2 => ?_)
        clear hK K hHeld
        have hHeld := hHeld2
        clear hHeld2
        refine hand_to (i := 10) (d := 125) (v := (.bool true)) rfl rfl (by kernel_rfl) (by kernel_rfl) (by kernel_rfl) (fun _ _ _ h => h) (Or.inl ⟨by rfl, ?_⟩) hHeld ?_
        · (intro w' hSw; obtain ⟨y0, y1, y2⟩ := hSw; go_simp)
        simp only [Act.put, List.setIfInBounds_toArray, List.set_cons_zero, List.set_cons_succ]
        refine hand_to (i := 11) (d := 126) (v := (.bool true)) rfl rfl (by kernel_rfl) (by kernel_rfl) (by kernel_rfl) (fun _ _ _ h => h) (Or.inl ⟨by rfl, ?_⟩) hHeld ?_
        · (intro w' hSw; obtain ⟨y0, y1, y2⟩ := hSw; go_simp)
        simp only [Act.put, List.setIfInBounds_toArray, List.set_cons_zero, List.set_cons_succ]
        refine hand_to (i := 12) (d := 127) (v := (.bool true)) rfl rfl (by kernel_rfl) (by kernel_rfl) (by kernel_rfl) (fun _ _ _ h => h) (Or.inl ⟨by rfl, ?_⟩) hHeld ?_
        · (intro w' hSw; obtain ⟨y0, y1, y2⟩ := hSw; go_simp)
        simp only [Act.put, List.setIfInBounds_toArray, List.set_cons_zero, List.set_cons_succ]
        refine hand_to (i := 13) (d := 128) (v := (.pointer (some ⟨p12, 0, none⟩))) rfl rfl (by kernel_rfl) (by kernel_rfl) (by kernel_rfl) (fun _ _ _ h => h) (Or.inl ⟨by rfl, ?_⟩) hHeld ?_
        · (intro w' hSw; obtain ⟨y0, y1, y2⟩ := hSw; go_simp)
        simp only [Act.put, List.setIfInBounds_toArray, List.set_cons_zero, List.set_cons_succ]
        refine hand_to (i := 15) (d := 130) (v := (.slice (some ad) es.length lc)) rfl rfl (by kernel_rfl) (by kernel_rfl) (by kernel_rfl) (fun _ _ _ h => h) (Or.inl ⟨by rfl, ?_⟩) hHeld ?_
        · (intro w' hSw; obtain ⟨y0, y1, y2⟩ := hSw; go_simp)
        simp only [Act.put, List.setIfInBounds_toArray, List.set_cons_zero, List.set_cons_succ]
        refine wpAnyH_ready (rs := [14]) (by kernel_rfl) (by simp) ?_
        refine AllReadyH.cons rfl (fun K hK => ?_) AllReadyH.nil
        go_simp
        (go_at_call 14; refine (unhide HEN _ p12 v13 (unhide K14)).mono ?_; rintro e w15 ⟨v15, rfl, K15⟩; clear HEN K14)
        (go_wp2_with fail)
        refine hK.out _ _ (unhide HS3 w15 p12 v13 (unhide K15).1) (fun hHeld2 => ?_)
        clear hK K hHeld
        have hHeld := hHeld2
        clear hHeld2
        refine wpAnyH_ready (rs := [16]) (by kernel_rfl) (by simp) ?_
        refine AllReadyH.cons rfl (fun K hK => ?_) AllReadyH.nil
        go_simp
        (go_at_call 15; refine (unhide HSM _ p12 v13 v15 (unhide K15)).mono ?_; rintro e w16 ⟨rfl, K16⟩; clear HSM K15)
        (go_wp2_with fail)
        refine hK.out _ _ (unhide HS3 w16 p12 v13 (unhide K16)) (fun hHeld2 => ?_)
        clear hK K hHeld
        have hHeld := hHeld2
        clear hHeld2
        refine hand_to (i := 17) (d := 132) (v := (.bool true)) rfl rfl (by kernel_rfl) (by kernel_rfl) (by kernel_rfl) (fun _ _ _ h => h) (Or.inl ⟨by rfl, ?_⟩) hHeld ?_
        · (intro w' hSw; obtain ⟨y0, y1, y2⟩ := hSw; go_simp)
        simp only [Act.put, List.setIfInBounds_toArray, List.set_cons_zero, List.set_cons_succ]
        refine hand_to (i := 18) (d := 133) (v := (.bool true)) rfl rfl (by kernel_rfl) (by kernel_rfl) (by kernel_rfl) (fun _ _ _ h => h) (Or.inl ⟨by rfl, ?_⟩) hHeld ?_
        · (intro w' hSw; obtain ⟨y0, y1, y2⟩ := hSw; go_simp)
        simp only [Act.put, List.setIfInBounds_toArray, List.set_cons_zero, List.set_cons_succ]
        refine hand_to (i := 19) (d := 134) (v := .nilIface) rfl rfl (by kernel_rfl) (by kernel_rfl) (by kernel_rfl) (fun _ _ _ h => h) (Or.inl ⟨by rfl, ?_⟩) hHeld ?_
        · (intro w' hSw; obtain ⟨y0, y1, y2⟩ := hSw; go_simp)
        simp only [Act.put, List.setIfInBounds_toArray, List.set_cons_zero, List.set_cons_succ]
        refine hand_to (i := 20) (d := 135) (v := (.bool true)) rfl rfl (by kernel_rfl) (by kernel_rfl) (by kernel_rfl) (fun _ _ _ h => h) (Or.inl ⟨by rfl, ?_⟩) hHeld ?_
        · (intro w' hSw; obtain ⟨y0, y1, y2⟩ := hSw; go_simp)
        simp only [Act.put, List.setIfInBounds_toArray, List.set_cons_zero, List.set_cons_succ]
        refine hand_to (i := 21) (d := 136) (v := (.bool true)) rfl rfl (by kernel_rfl) (by kernel_rfl) (by kernel_rfl) (fun _ _ _ h => h) (Or.inl ⟨by rfl, ?_⟩) hHeld ?_
        · (intro w' hSw; obtain ⟨y0, y1, y2⟩ := hSw; go_simp)
        simp only [Act.put, List.setIfInBounds_toArray, List.set_cons_zero, List.set_cons_succ]
        refine hand_to (i := 22) (d := 137) (v := (.bool true)) rfl rfl (by kernel_rfl) (by kernel_rfl) (by kernel_rfl) (fun _ _ _ h => h) (Or.inl ⟨by rfl, ?_⟩) hHeld ?_
        · (intro w' hSw; obtain ⟨y0, y1, y2⟩ := hSw; go_simp)
        simp only [Act.put, List.setIfInBounds_toArray, List.set_cons_zero, List.set_cons_succ]
        refine hand_to (i := 23) (d := 138) (v := v13) rfl rfl (by kernel_rfl) (by kernel_rfl) (by kernel_rfl) (fun _ _ _ h => h) (Or.inl ⟨by rfl, ?_⟩) hHeld ?_
        · (intro w' hSw; obtain ⟨y0, y1, y2⟩ := hSw; go_simp)
        simp only [Act.put, List.setIfInBounds_toArray, List.set_cons_zero, List.set_cons_succ]
        refine hand_to (i := 24) (d := 139) (v := (.string ⟨#[107, 101, 112, 116]⟩)) rfl rfl (by kernel_rfl) (by kernel_rfl) (by kernel_rfl) (fun _ _ _ h => h) (Or.inl ⟨by rfl, ?_⟩) hHeld ?_
        · (intro w' hSw; obtain ⟨y0, y1, y2⟩ := hSw; go_simp)
        simp only [Act.put, List.setIfInBounds_toArray, List.set_cons_zero, List.set_cons_succ]
        refine hand_to (i := 25) (d := 140) (v := (.bool true)) rfl rfl (by kernel_rfl) (by kernel_rfl) (by kernel_rfl) (fun _ _ _ h => h) (Or.inl ⟨by rfl, ?_⟩) hHeld ?_
        · (intro w' hSw; obtain ⟨y0, y1, y2⟩ := hSw; go_simp)
        simp only [Act.put, List.setIfInBounds_toArray, List.set_cons_zero, List.set_cons_succ]
        refine hand_to (i := 26) (d := 141) (v := (.bool true)) rfl rfl (by kernel_rfl) (by kernel_rfl) (by kernel_rfl) (fun _ _ _ h => h) (Or.inl ⟨by rfl, ?_⟩) hHeld ?_
        · (intro w' hSw; obtain ⟨y0, y1, y2⟩ := hSw; go_simp)
        simp only [Act.put, List.setIfInBounds_toArray, List.set_cons_zero, List.set_cons_succ]
        refine hand_to (i := 27) (d := 8) (v := (.bool true)) rfl rfl (by kernel_rfl) (by kernel_rfl) (by kernel_rfl) (fun _ _ _ h => h) (Or.inl ⟨by rfl, ?_⟩) hHeld ?_
        · (intro w' hSw; obtain ⟨y0, y1, y2⟩ := hSw; go_simp)
        simp only [Act.put, List.setIfInBounds_toArray, List.set_cons_zero, List.set_cons_succ]
        refine wpAnyH_done (by kernel_rfl) ?_ _
        go_wp2_with fail
        go_ret
        exact ⟨rfl, unhide HBf _ (unhide K16).1.ev.2.2⟩
end Go.Proofs.YtmonlmidlghfdaaGreatDoor
