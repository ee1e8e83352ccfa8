/- A wal: do, where the disk is cut off, and where a record may not be: its walks. -/
import Derived.Test.YthphadbcebeoaaaGreatDoorJWaOpsWaBad
namespace Go.Proofs.YthphadbcebeoaaaGreatDoor
open Go.RowKit Go.Lib Go.Maps

section
variable {w : World} {B p q sz n jb cn : Nat} {S : Dk.St} {R : Int} {a x : Fx} {F : List Dk.Ent} {s s2 : Sta} {v vr : Value} {D : Nat → Prop} {rs : List Rc} {rb : Rc}
set_option maxHeartbeats 25600000 in
set_option maxRecDepth 100000 in
theorem do_cut (hi : DI w B p q S (FX a x) s v sz D rs vr) (hlenB : (recsB rs).length ≤ 1000000) (hrs : ∀ r ∈ rs, r.ok) (hrun : runS s rs = .ok s2) (hS : OkS S R n) (hm : Roomy R a x (recsB rs).length) (hz : sz + (recsB rs).length ≤ 32768) (hf : Fails S) :
    Calls Tryz.prog 32 #[.pointer (some ⟨p, 0, none⟩), vr] w fun e w' => WBad w B p q (dn S) (FX a x) s sz v D (WO p v D) 32 e w' := by
  obtain ⟨va, vc, hvr, _⟩ := id hi.rl
  subst hvr
  obtain ⟨ea, ek, hev, _, _⟩ := hi.wx.el.slice
  have hfew := hi.few
  obtain ⟨c0, c1, c2, c3, c4, c5, c6, c7⟩ := hi.wx.cells
  have hpl := hi.wx.lt p (.inl rfl)
  have H0 := hide hi.start
  have HR : Hid (∀ (j : Nat) (wr : World), j < rs.length → DJ w wr B p q S (FX a x) s v sz D rs (.slice va rs.length vc) j → ∃ (r : Rc) (b off : Nat), va = some ⟨b, off, none⟩ ∧ rs[j]? = some r ∧ (wr.cell? ⟨b, off + j * 8, none⟩ = some (.int .u8 (r.kind : Int)) ∧ wr.cell? ⟨b, off + j * 8 + 1, none⟩ = some (.int .u64 (r.term : Int)) ∧ wr.cell? ⟨b, off + j * 8 + 2, none⟩ = some (.int .u64 (r.place : Int)) ∧ wr.cell? ⟨b, off + j * 8 + 3, none⟩ = some (.int .u64 (r.ent.term : Int)) ∧ wr.cell? ⟨b, off + j * 8 + 4, none⟩ = some (.int .i64 r.ent.kind) ∧ wr.cell? ⟨b, off + j * 8 + 5, none⟩ = some (.int .u64 (r.ent.client : Int)) ∧ wr.cell? ⟨b, off + j * 8 + 6, none⟩ = some (.int .u64 (r.ent.seq : Int)) ∧ wr.cell? ⟨b, off + j * 8 + 7, none⟩ = some (.string r.ent.sql))) := by
    intro j wr hj h
    have hr : rs[j]? = some rs[j] := List.getElem?_eq_getElem hj
    obtain ⟨b, off, cap, e, hb, hc⟩ := h.rec hi hr
    cases e
    exact ⟨rs[j], b, off, rfl, hr, hc 0 _ rfl, hc 1 _ rfl, hc 2 _ rfl, hc 3 _ rfl, hc 4 _ rfl, hc 5 _ rfl, hc 6 _ rfl, hc 7 _ rfl⟩
  have HF : Hid (∀ (j : Nat) (r : Rc) (wr : World), rs[j]? = some r → DJ w wr B p q S (FX a x) s v sz D rs (.slice va rs.length vc) j → Calls Tryz.prog 59 #[.agg r.cells] wr fun e w' => ∃ v', e = .returned (.tuple #[v', .nilIface]) ∧ w'.ownsRow wr.heap.size 5 1 v' r.bytes.length (byteCells r.bytes) ∧ Below wr.heap.size wr w') := by
    intro j r wr hj h
    have hr := hrs r (List.mem_of_getElem? hj)
    obtain ⟨k1, k2, k3, k4⟩ := rec_ok hr
    exact (frame_any r wr k1 k2 k3 k4 (h.ev hi).st).mono fun e w' hp => frame_good hp hr
  have HK : Hid (∀ (j : Nat) (r : Rc) (wr : World), rs[j]? = some r → DJ w wr B p q S (FX a x) s v sz D rs (.slice va rs.length vc) j → Calls Tryz.prog 58 #[.pointer (some ⟨w.heap.size, 0, none⟩), .agg r.cells] wr fun e w' => e = .returned .nilIface ∧ DJ w w' B p q S (FX a x) s v sz D rs (.slice va rs.length vc) (j + 1) ∧ KeepU wr w') := fun j r wr hj h => dj_next hi hj (hrs r (List.mem_of_getElem? hj)) hrun h
  have HAPP : Hid (∀ (j : Nat) (wr w1 : World), DJ w wr B p q S (FX a x) s v sz D rs (.slice va rs.length vc) (j + 1) → KeepT 5 wr w1 → Below (w.heap.size + 1) wr w1 → DJ w w1 B p q S (FX a x) s v sz D rs (.slice va rs.length vc) (j + 1)) := fun j wr w1 h hk hb => h.app hi hk hb
  have HL : Hid (∀ r ∈ rs, r.bytes.length ≤ 100009) := fun r hr => rc_len (hrs r hr)
  have HW := hide (fun (wr : World) (vb : Value) (h : DJ w wr B p q S (FX a x) s v sz D rs (.slice va rs.length vc) rs.length) (ho : wr.ownsRow (w.heap.size + 1) 5 1 vb (recsB rs).length (byteCells (recsB rs))) => dj_end_cut hi hlenB hrun hS hm hz hf h ho)
  have hrl : (rs.length : Int) ≤ 900000 := by omega
  have HLB := hide hlenB
  clear hi hrs hrun hS hm hz hfew hlenB c0 c6 c7
  rw [hev] at c5
  unfold sC at H0
  have H0' : Hid (DJ w (w.alloc (.cells #[.int .u64 (s.term : Int), .int .u64 (s.vote : Int), .int .u64 (s.base : Int), .int .u64 (s.bt : Int), .slice ea s.es.length ek] 77)) B p q S (FX a x) s v sz D rs (.slice va rs.length vc) 0) := (by rw [← hev]; exact unhide H0)
  clear H0
  have Hev := hide hev
  clear hev
  unfold Rc.cells at HF HK
  go_enter Tryz.func32, Tryz.ntmps32
  go_wp2_with fail
  go_loopw [6, 8, 9, 10, 18] (fun s6 s8 s9 s10 s18 wr => s8 = s8 ∧ s9 = s9 ∧ s10 = s10 ∧ ∃ j vb, j ≤ rs.length ∧ s18 = .int .i64 (j : Int) ∧ s6 = vb ∧ Hid (DJ w wr B p q S (FX a x) s v sz D rs (.slice va rs.length vc) j ∧ wr.ownsRow (w.heap.size + 1) 5 1 vb (recsB (rs.take j)).length (byteCells (recsB (rs.take j))))) (fun _ _ _ _ s18 _ => rs.length - (RowKit.intOf s18).toNat)
  case atStart => exact ⟨rfl, rfl, rfl, 0, _, Nat.zero_le _, rfl, rfl, unhide H0', World.ownsRow_nil _ _ _ _⟩
  case round =>
    obtain ⟨-, -, -, j, vb, hj, rfl, rfl, hr⟩ := hrel
    clear H0'
    by_cases hlt : j < rs.length
    · obtain ⟨r, b, off, rfl, ha, d0, d1, d2, d3, d4, d5, d6, d7⟩ := unhide HR j wr hlt (unhide hr).1
      have hji : (j : Int) < (rs.length : Int) := by omega
      have hj0 : (0 : Int) ≤ (j : Int) := by omega
      have hb1 := box_below wr (.cells #[.int .u8 (r.kind : Int), .int .u64 (r.term : Int), .int .u64 (r.place : Int), .int .u64 (r.ent.term : Int), .int .i64 r.ent.kind, .int .u64 (r.ent.client : Int), .int .u64 (r.ent.seq : Int), .string r.ent.sql] 84)
      have V1 : Rv (wr.alloc (.cells #[.int .u8 (r.kind : Int), .int .u64 (r.term : Int), .int .u64 (r.place : Int), .int .u64 (r.ent.term : Int), .int .i64 r.ent.kind, .int .u64 (r.ent.client : Int), .int .u64 (r.ent.seq : Int), .string r.ent.sql] 84)) wr.heap.size #[.int .u8 (r.kind : Int), .int .u64 (r.term : Int), .int .u64 (r.place : Int), .int .u64 (r.ent.term : Int), .int .i64 r.ent.kind, .int .u64 (r.ent.client : Int), .int .u64 (r.ent.seq : Int), .string r.ent.sql] := heap_alloc_new _ _
      have HD1 := hide (And.intro ((unhide hr).1.below hb1) (own_later (unhide hr).2 hb1))
      have HV1 := hide V1
      have HF1 := hide (unhide HF j r _ ha (unhide HD1).1)
      have HK1 := hide (fun W h => unhide HK j r W ha h)
      have hrl2 := unhide HL r (List.mem_of_getElem? ha)
      have hst := recsB_len rs j r ha
      have Hst := hide hst
      have hrb : recsB (rs.take (j + 1)) = recsB (rs.take j) ++ r.bytes := by rw [List.take_add_one, ha, recsB_app]; simp [recsB]
      have Hrb := hide hrb
      have hle : (recsB (rs.take j)).length ≤ 1000000 := by
        have h1 := atJ_le rs [] j
        rw [List.append_nil] at h1
        exact Nat.le_trans h1 (unhide HLB)
      clear hb1 V1 hr hst hrb ha
      go_wp2_with (first
        | (go_at_call 59; refine (unhide HF1).mono ?_; rintro e w2 ⟨v2, rfl, o2, b2⟩; have r0 : Rv w2 wr.heap.size _ := (b2.block _ (Array.getElem?_eq_some_iff.1 (unhide HV1)).1).trans (unhide HV1); obtain ⟨x0, x1, x2, x3, x4, x5, x6, x7⟩ := r0.cells; have HD2 := hide (And.intro ((unhide HD1).1.below b2) (And.intro (own_later (unhide HD1).2 b2) o2)); have hz2 := hide (And.intro b2.size ((unhide HD1).1)); clear o2 b2 r0 HD1 HV1 HF1)
        | (go_at_call 58; refine (unhide HK1 _ (unhide HD2).1).mono ?_; rintro e w3 ⟨rfl, h3, hku⟩; have HD3 := hide (And.intro h3 (And.intro (hku.own (unhide HD2).2.1) (hku.own (unhide HD2).2.2))); clear h3 hku HD2 HK1)
        | (at_builtin; refine wpList_append_rb rfl (.tmp 34) (.tmp 35) rfl (w.heap.size + 1) _ _ _ rfl (unhide HD3).2.1 _ _ r.bytes rfl (rb_own (unhide HD3).2.2 (by omega)) (by omega) (by omega) (by obtain ⟨sj, cj, vj, q1, q2, q3, q4, q5, q6, q7, q8, q9, q10⟩ := (unhide HD3).1; omega) ?_; intro v4 w4 o4 k4 b4))
      refine ⟨⟨trivial, trivial, trivial, j + 1, v4, by omega, by simp, rfl, ?_, ?_⟩, ?_⟩
      · exact unhide HAPP j w3 w4 (unhide HD3).1 k4 b4
      · rw [unhide Hrb, List.length_append]
        exact own_cast2 o4 rfl (by simp [byteCells_append])
      · simp [RowKit.intOf]; omega
    · obtain rfl : j = rs.length := by omega
      have hji : ¬ ((rs.length : Int) < (rs.length : Int)) := by omega
      obtain ⟨h1, h2⟩ := unhide hr
      rw [List.take_length] at h2
      obtain ⟨a3, k3, n5, hw⟩ := unhide HW wr _ h1 h2
      have HWr := hide hw
      obtain ⟨y0, y1, y2, y3, y4⟩ := n5
      clear hr h1 h2 hw HR HF HK hlt
      unfold sC at HWr
      go_wp2_with (first
        | (go_at_call 60; refine (unhide HWr).mono ?_; rintro e w5 ⟨b5, rfl, HE⟩; clear HWr))
      go_ret
      exact unhide HE
set_option maxHeartbeats 25600000 in
set_option maxRecDepth 100000 in
theorem do_bad (hi : DI w B p q S F s v sz D rs vr) (hlenB : (recsB (rs.take jb)).length ≤ 1000000) (hrs : ∀ r ∈ rs.take jb, r.ok) (hrun : runS s (rs.take jb) = .ok s2) (hb : rs[jb]? = some rb) (hbad : (rb.kind = 4 ∧ rb.term = 0 ∧ rb.place = 0 ∧ rb.ent.ok ∧ rb.ent.may = false ∧ cn = 20) ∨ (rb.ok ∧ takeS s2 rb = .error cn)) :
    Calls Tryz.prog 32 #[.pointer (some ⟨p, 0, none⟩), vr] w fun e w' => WBad w B p q S F s sz v D (WO p v D) (cn : Int) e w' := by
  obtain ⟨va, vc, hvr, _⟩ := id hi.rl
  subst hvr
  obtain ⟨ea, ek, hev, _, _⟩ := hi.wx.el.slice
  have hfew := hi.few
  obtain ⟨c0, c1, c2, c3, c4, c5, c6, c7⟩ := hi.wx.cells
  have hpl := hi.wx.lt p (.inl rfl)
  have H0 := hide hi.start
  have HR : Hid (∀ (j : Nat) (wr : World), j < rs.length → DJ w wr B p q S F s v sz D rs (.slice va rs.length vc) j → ∃ (r : Rc) (b off : Nat), va = some ⟨b, off, none⟩ ∧ rs[j]? = some r ∧ (wr.cell? ⟨b, off + j * 8, none⟩ = some (.int .u8 (r.kind : Int)) ∧ wr.cell? ⟨b, off + j * 8 + 1, none⟩ = some (.int .u64 (r.term : Int)) ∧ wr.cell? ⟨b, off + j * 8 + 2, none⟩ = some (.int .u64 (r.place : Int)) ∧ wr.cell? ⟨b, off + j * 8 + 3, none⟩ = some (.int .u64 (r.ent.term : Int)) ∧ wr.cell? ⟨b, off + j * 8 + 4, none⟩ = some (.int .i64 r.ent.kind) ∧ wr.cell? ⟨b, off + j * 8 + 5, none⟩ = some (.int .u64 (r.ent.client : Int)) ∧ wr.cell? ⟨b, off + j * 8 + 6, none⟩ = some (.int .u64 (r.ent.seq : Int)) ∧ wr.cell? ⟨b, off + j * 8 + 7, none⟩ = some (.string r.ent.sql))) := by
    intro j wr hj h
    have hr : rs[j]? = some rs[j] := List.getElem?_eq_getElem hj
    obtain ⟨b, off, cap, e, hb, hc⟩ := h.rec hi hr
    cases e
    exact ⟨rs[j], b, off, rfl, hr, hc 0 _ rfl, hc 1 _ rfl, hc 2 _ rfl, hc 3 _ rfl, hc 4 _ rfl, hc 5 _ rfl, hc 6 _ rfl, hc 7 _ rfl⟩
  have HF : Hid (∀ (j : Nat) (r : Rc) (wr : World), j < jb → rs[j]? = some r → DJ w wr B p q S F s v sz D rs (.slice va rs.length vc) j → Calls Tryz.prog 59 #[.agg r.cells] wr fun e w' => ∃ v', e = .returned (.tuple #[v', .nilIface]) ∧ w'.ownsRow wr.heap.size 5 1 v' r.bytes.length (byteCells r.bytes) ∧ Below wr.heap.size wr w') := by
    intro j r wr hjb hj h
    have hr := hrs r (List.mem_of_getElem? (by rw [List.getElem?_take_of_lt hjb]; exact hj))
    obtain ⟨k1, k2, k3, k4⟩ := rec_ok hr
    exact (frame_any r wr k1 k2 k3 k4 (h.ev hi).st).mono fun e w' hp => frame_good hp hr
  have HK : Hid (∀ (j : Nat) (r : Rc) (wr : World), j < jb → rs[j]? = some r → DJ w wr B p q S F s v sz D rs (.slice va rs.length vc) j → Calls Tryz.prog 58 #[.pointer (some ⟨w.heap.size, 0, none⟩), .agg r.cells] wr fun e w' => e = .returned .nilIface ∧ DJ w w' B p q S F s v sz D rs (.slice va rs.length vc) (j + 1) ∧ KeepU wr w') := fun j r wr hjb hj h => dj_next_part hi hjb hj (hrs r (List.mem_of_getElem? (by rw [List.getElem?_take_of_lt hjb]; exact hj))) hrun h
  have HAPP : Hid (∀ (j : Nat) (wr w1 : World), DJ w wr B p q S F s v sz D rs (.slice va rs.length vc) (j + 1) → KeepT 5 wr w1 → Below (w.heap.size + 1) wr w1 → DJ w w1 B p q S F s v sz D rs (.slice va rs.length vc) (j + 1)) := fun j wr w1 h hk hb => h.app hi hk hb
  have HL : Hid (∀ r ∈ rs.take jb, r.bytes.length ≤ 100009) := fun r hr => rc_len (hrs r hr)
  have HB : Hid (∀ (wr : World), DJ w wr B p q S F s v sz D rs (.slice va rs.length vc) jb → (Calls Tryz.prog 59 #[.agg rb.cells] wr fun e w' => ∃ b, e = .returned (.tuple #[.slice none 0 0, ev b]) ∧ Hid (WBad w B p q S F s sz v D (WO p v D) (cn : Int) (.returned (ev b)) w')) ∨ ((Calls Tryz.prog 59 #[.agg rb.cells] wr fun e w' => ∃ v', e = .returned (.tuple #[v', .nilIface]) ∧ Below wr.heap.size wr w') ∧ ∀ (wk : World), Below wr.heap.size wr wk → Calls Tryz.prog 58 #[.pointer (some ⟨w.heap.size, 0, none⟩), .agg rb.cells] wk fun e w' => ∃ b, e = .returned (Dk.evW b) ∧ Hid (WBad w B p q S F s sz v D (WO p v D) (cn : Int) (.returned (Dk.evW b)) w'))) := by
    intro wr h
    rcases hbad with ⟨k1, k2, k3, k4, k5, k6⟩ | ⟨k1, k2⟩
    · refine .inl ((frame_any rb wr (by omega) (by omega) (by omega) k4 (h.ev hi).st).mono ?_)
      rintro e w' ⟨hbl, ⟨hno, _⟩ | ⟨_, _, b, pl, rfl, _, he⟩⟩
      · rw [hno k1] at k5; cases k5
      · exact ⟨b, rfl, (h.below hbl).bad (.inl ⟨b, pl, rfl, by rw [k6]; exact he⟩)⟩
    · obtain ⟨m1, m2, m3, m4⟩ := rec_ok k1
      refine .inr ⟨(frame_any rb wr m1 m2 m3 m4 (h.ev hi).st).mono fun e w' hp => ?_, fun wk hbl => (dj_last hi hb k1 hrun k2 (h.below hbl)).mono ?_⟩
      · obtain ⟨v', q1, q2, q3⟩ := frame_good hp k1
        exact ⟨v', q1, q3⟩
      · rintro e w' ⟨b, rfl, he, _, hb2⟩
        exact ⟨b, rfl, ((h.below hbl).below hb2).bad (.inr ⟨b, rfl, he⟩)⟩
  have hrl : (rs.length : Int) ≤ 900000 := by omega
  have HLB := hide hlenB
  have hjb : jb < rs.length := (List.getElem?_eq_some_iff.1 hb).1
  have HRb := hide hb
  clear hi hrs hrun hfew hlenB c0 c6 c7 hbad hb
  rw [hev] at c5
  unfold sC at H0
  have H0' : Hid (DJ w (w.alloc (.cells #[.int .u64 (s.term : Int), .int .u64 (s.vote : Int), .int .u64 (s.base : Int), .int .u64 (s.bt : Int), .slice ea s.es.length ek] 77)) B p q S F s v sz D rs (.slice va rs.length vc) 0) := (by rw [← hev]; exact unhide H0)
  clear H0
  have Hev := hide hev
  clear hev
  unfold Rc.cells at HF HK HB
  go_enter Tryz.func32, Tryz.ntmps32
  go_wp2_with fail
  go_loopw [6, 8, 9, 10, 18] (fun s6 s8 s9 s10 s18 wr => s8 = s8 ∧ s9 = s9 ∧ s10 = s10 ∧ ∃ j vb, j ≤ jb ∧ s18 = .int .i64 (j : Int) ∧ s6 = vb ∧ Hid (DJ w wr B p q S F s v sz D rs (.slice va rs.length vc) j ∧ wr.ownsRow (w.heap.size + 1) 5 1 vb (recsB (rs.take j)).length (byteCells (recsB (rs.take j))))) (fun _ _ _ _ s18 _ => rs.length - (RowKit.intOf s18).toNat)
  case atStart => exact ⟨rfl, rfl, rfl, 0, _, Nat.zero_le _, rfl, rfl, unhide H0', World.ownsRow_nil _ _ _ _⟩
  case round =>
    obtain ⟨-, -, -, j, vb, hj, rfl, rfl, hr⟩ := hrel
    clear H0'
    by_cases hlt : j < jb
    · obtain ⟨r, b, off, rfl, ha, d0, d1, d2, d3, d4, d5, d6, d7⟩ := unhide HR j wr (by omega) (unhide hr).1
      have hji : (j : Int) < (rs.length : Int) := by omega
      have hj0 : (0 : Int) ≤ (j : Int) := by omega
      have hb1 := box_below wr (.cells #[.int .u8 (r.kind : Int), .int .u64 (r.term : Int), .int .u64 (r.place : Int), .int .u64 (r.ent.term : Int), .int .i64 r.ent.kind, .int .u64 (r.ent.client : Int), .int .u64 (r.ent.seq : Int), .string r.ent.sql] 84)
      have V1 : Rv (wr.alloc (.cells #[.int .u8 (r.kind : Int), .int .u64 (r.term : Int), .int .u64 (r.place : Int), .int .u64 (r.ent.term : Int), .int .i64 r.ent.kind, .int .u64 (r.ent.client : Int), .int .u64 (r.ent.seq : Int), .string r.ent.sql] 84)) wr.heap.size #[.int .u8 (r.kind : Int), .int .u64 (r.term : Int), .int .u64 (r.place : Int), .int .u64 (r.ent.term : Int), .int .i64 r.ent.kind, .int .u64 (r.ent.client : Int), .int .u64 (r.ent.seq : Int), .string r.ent.sql] := heap_alloc_new _ _
      have HD1 := hide (And.intro ((unhide hr).1.below hb1) (own_later (unhide hr).2 hb1))
      have HV1 := hide V1
      have HF1 := hide (unhide HF j r _ hlt ha (unhide HD1).1)
      have HK1 := hide (fun W h => unhide HK j r W hlt ha h)
      have hrl2 := unhide HL r (List.mem_of_getElem? (by rw [List.getElem?_take_of_lt hlt]; exact ha))
      have hst := recsB_len rs j r ha
      have Hst := hide hst
      have hrb : recsB (rs.take (j + 1)) = recsB (rs.take j) ++ r.bytes := by rw [List.take_add_one, ha, recsB_app]; simp [recsB]
      have Hrb := hide hrb
      have hle : (recsB (rs.take j)).length ≤ 1000000 := by
        have h1 := atJ_le (rs.take jb) [] j
        rw [List.append_nil] at h1
        unfold atJ at h1
        rw [List.take_take, Nat.min_eq_left (by omega)] at h1
        exact Nat.le_trans h1 (unhide HLB)
      clear hb1 V1 hr hst hrb ha
      go_wp2_with (first
        | (go_at_call 59; refine (unhide HF1).mono ?_; rintro e w2 ⟨v2, rfl, o2, b2⟩; have r0 : Rv w2 wr.heap.size _ := (b2.block _ (Array.getElem?_eq_some_iff.1 (unhide HV1)).1).trans (unhide HV1); obtain ⟨x0, x1, x2, x3, x4, x5, x6, x7⟩ := r0.cells; have HD2 := hide (And.intro ((unhide HD1).1.below b2) (And.intro (own_later (unhide HD1).2 b2) o2)); have hz2 := hide (And.intro b2.size ((unhide HD1).1)); clear o2 b2 r0 HD1 HV1 HF1)
        | (go_at_call 58; refine (unhide HK1 _ (unhide HD2).1).mono ?_; rintro e w3 ⟨rfl, h3, hku⟩; have HD3 := hide (And.intro h3 (And.intro (hku.own (unhide HD2).2.1) (hku.own (unhide HD2).2.2))); clear h3 hku HD2 HK1)
        | (at_builtin; refine wpList_append_rb rfl (.tmp 34) (.tmp 35) rfl (w.heap.size + 1) _ _ _ rfl (unhide HD3).2.1 _ _ r.bytes rfl (rb_own (unhide HD3).2.2 (by omega)) (by omega) (by omega) (by obtain ⟨sj, cj, vj, q1, q2, q3, q4, q5, q6, q7, q8, q9, q10⟩ := (unhide HD3).1; omega) ?_; intro v4 w4 o4 k4 b4))
      refine ⟨⟨trivial, trivial, trivial, j + 1, v4, by omega, by simp, rfl, ?_, ?_⟩, ?_⟩
      · exact unhide HAPP j w3 w4 (unhide HD3).1 k4 b4
      · rw [unhide Hrb, List.length_append]
        exact own_cast2 o4 rfl (by simp [byteCells_append])
      · simp [RowKit.intOf]; omega
    · obtain rfl : j = jb := by omega
      obtain ⟨r, b, off, rfl, ha, d0, d1, d2, d3, d4, d5, d6, d7⟩ := unhide HR j wr hjb (unhide hr).1
      obtain rfl : r = rb := by have := unhide HRb; rw [ha] at this; cases this; rfl
      have hji : (j : Int) < (rs.length : Int) := by omega
      have hj0 : (0 : Int) ≤ (j : Int) := by omega
      have hb1 := box_below wr (.cells #[.int .u8 (r.kind : Int), .int .u64 (r.term : Int), .int .u64 (r.place : Int), .int .u64 (r.ent.term : Int), .int .i64 r.ent.kind, .int .u64 (r.ent.client : Int), .int .u64 (r.ent.seq : Int), .string r.ent.sql] 84)
      have V1 : Rv (wr.alloc (.cells #[.int .u8 (r.kind : Int), .int .u64 (r.term : Int), .int .u64 (r.place : Int), .int .u64 (r.ent.term : Int), .int .i64 r.ent.kind, .int .u64 (r.ent.client : Int), .int .u64 (r.ent.seq : Int), .string r.ent.sql] 84)) wr.heap.size #[.int .u8 (r.kind : Int), .int .u64 (r.term : Int), .int .u64 (r.place : Int), .int .u64 (r.ent.term : Int), .int .i64 r.ent.kind, .int .u64 (r.ent.client : Int), .int .u64 (r.ent.seq : Int), .string r.ent.sql] := heap_alloc_new _ _
      have HV1 := hide V1
      rcases unhide HB _ ((unhide hr).1.below hb1) with hA | ⟨hA, hT⟩
      · have HA := hide hA
        clear hb1 V1 hr ha hA HB HF HK HR HL HAPP
        go_wp2_with (first
          | (go_at_call 59; refine (unhide HA).mono ?_; rintro e w2 ⟨b2, rfl, HE⟩; clear HA))
        go_ret
        exact unhide HE
      · have HA := hide hA
        have HT := hide hT
        clear hb1 V1 hr ha hA hT HB HF HK HR HL HAPP
        go_wp2_with (first
          | (go_at_call 59; refine (unhide HA).mono ?_; rintro e w2 ⟨v2, rfl, b2⟩; have r0 : Rv w2 wr.heap.size _ := (b2.block _ (Array.getElem?_eq_some_iff.1 (unhide HV1)).1).trans (unhide HV1); obtain ⟨x0, x1, x2, x3, x4, x5, x6, x7⟩ := r0.cells; have HB2 := hide b2; clear b2 r0 HA)
          | (go_at_call 58; refine (unhide HT _ (unhide HB2)).mono ?_; rintro e w3 ⟨b3, rfl, HE⟩; clear HT))
        go_ret
        exact unhide HE
end
end Go.Proofs.YthphadbcebeoaaaGreatDoor
