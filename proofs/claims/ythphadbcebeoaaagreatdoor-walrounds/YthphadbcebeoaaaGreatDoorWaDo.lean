/- A wal: do: the records of one call. -/
import Derived.Test.YthphadbcebeoaaaGreatDoorJWaWriteWaDo0
namespace Go.Proofs.YthphadbcebeoaaaGreatDoor
open Go.RowKit Go.Lib Go.Maps

theorem rec_ok {r : Rc} (h : r.ok) : (1 ≤ r.kind ∧ r.kind ≤ 4) ∧ r.term < 18446744073709551616 ∧ r.place < 18446744073709551616 ∧ r.ent.ok := ⟨⟨h.1, h.2.1⟩, h.2.2.1, h.2.2.2.1, h.2.2.2.2.1⟩
theorem frame_good {r : Rc} {w w' : World} {e : Ending} (h : FramePost r w e w') (hr : r.ok) : ∃ v', e = .returned (.tuple #[v', .nilIface]) ∧ w'.ownsRow w.heap.size 5 1 v' r.bytes.length (byteCells r.bytes) ∧ Below w.heap.size w w' := by
  obtain ⟨hb, ⟨_, v', h1, h2⟩ | ⟨h1, h2, _⟩⟩ := h
  · exact ⟨v', h1, h2, hb⟩
  · have := (hr.2.2.2.2.2.1 h1).1
    rw [h2] at this; cases this
theorem rc_len {r : Rc} (h : r.ok) : r.bytes.length ≤ 100009 := by have := r.pay_len h; have := r.len; omega
theorem EL.keepT {w w' : World} {v : Value} {es : List GE} (h : EL w v es) (hk : KeepT 5 w w') : EL w' v es := by
  rcases h with h | ⟨g, off, k, cur, h1, h2, h3⟩
  · exact .inl h
  · refine .inr ⟨g, off, k, cur, h1, (hk.2 g (Array.getElem?_eq_some_iff.1 h2).1 (fun cur' hc => ?_)).trans h2, h3⟩
    have := (Obj.cells.inj (Option.some.inj (h2.symm.trans hc))).2.1
    exact absurd this (by decide)
theorem DJ.app {w wr w1 : World} {B p q sz j : Nat} {S : Dk.St} {F : List Dk.Ent} {s : Sta} {v vr : Value} {D : Nat → Prop} {rs : List Rc} (h : DJ w wr B p q S F s v sz D rs vr j) (hi : DI w B p q S F s v sz D rs vr) (hk : KeepT 5 wr w1) (hb : Below (w.heap.size + 1) wr w1) : DJ w w1 B p q S F s v sz D rs vr j := by
  obtain ⟨sj, cj, vj, h1, h2, h3, h4, h5, h6, h7, h8, h9, h10, h11⟩ := h
  exact ⟨sj, cj, vj, h1, h2, h3, ⟨h4.sb.keep (hb.block _ (Nat.lt_succ_self _)), h4.el.keepT hk, h4.apart⟩, h5, h6, h7.keep hb.size (fun k hk' => hb.block k (Nat.lt_succ_of_lt (hi.wx.lt k hk'))), fun k hk' hn => (hb.block k (Nat.lt_succ_of_lt hk')).trans (h8 k hk' hn), Nat.lt_of_lt_of_le h9 hb.size, h10.trans ⟨hb.os, hb.tape, hb.output⟩, h11⟩
theorem rbo_own {w : World} {D : Nat → Prop} {Q : Nat} {v : Value} {l : List UInt8} (h : w.ownsRow Q 5 1 v l.length (byteCells l)) (hl : l.length ≤ 1000000) (hD : ∀ k, D k → k < Q) : Dk.RBo w D v l := by
  by_cases hne : l = []
  · subst hne
    obtain ⟨_, ⟨rfl, _⟩ | ⟨g, cap, cur, rfl, hB, hc, h1, h2, h3, h4⟩⟩ := h
    · exact ⟨by simp, .inl ⟨rfl, rfl⟩⟩
    · exact ⟨by simp, .inr ⟨g, 0, cap, (Array.getElem?_eq_some_iff.1 hc).1, fun hd => by have := hD g hd; omega, h1, h2, rfl, fun i hi => by simp at hi⟩⟩
  · obtain ⟨g, cap, rfl, hB, hz, h1, h2, hc⟩ := own_open h hne
    exact ⟨by omega, .inr ⟨g, 0, cap, hz, fun hd => by have := hD g hd; omega, h1, h2, rfl, hc⟩⟩
/-- What the state's variable tells. -/
def N5 (w : World) (nb : Nat) (s : Sta) (a : Option Addr) (k : Nat) : Prop := w.cell? ⟨nb, 0, none⟩ = some (.int .u64 (s.term : Int)) ∧ w.cell? ⟨nb, 1, none⟩ = some (.int .u64 (s.vote : Int)) ∧ w.cell? ⟨nb, 2, none⟩ = some (.int .u64 (s.base : Int)) ∧ w.cell? ⟨nb, 3, none⟩ = some (.int .u64 (s.bt : Int)) ∧ w.cell? ⟨nb, 4, none⟩ = some (.slice a s.es.length k)
theorem SB.n5 {w : World} {p : Nat} {T : TypeId} {cur : Array Value} {s : Sta} {a : Option Addr} {k : Nat} (h : SB w p 0 T cur s (.slice a s.es.length k)) : N5 w p s a k := by
  obtain ⟨h0, h1, h2, h3, h4, _⟩ := h.at
  exact ⟨h0, by simpa using h1, by simpa using h2, by simpa using h3, by simpa using h4⟩
section
variable {w : World} {B p q sz n : Nat} {S : Dk.St} {R : Int} {a x : Fx} {s s2 : Sta} {v vr : Value} {D : Nat → Prop} {rs : List Rc}
/-- The end of a call that is done: write, then the state. -/
theorem dj_end {wr : World} {vb : Value} (hi : DI w B p q S (FX a x) s v sz D rs vr) (hlen : (recsB rs).length ≤ 1000000) (hrun : runS s rs = .ok s2) (hS : OkS S R n) (hm : Roomy R a x (recsB rs).length) (hz : sz + (recsB rs).length ≤ 32768) (hf : ¬ Fails S) (h : DJ w wr B p q S (FX a x) s v sz D rs vr rs.length) (ho : wr.ownsRow (w.heap.size + 1) 5 1 vb (recsB rs).length (byteCells (recsB rs))) :
    ∃ a3 k3, N5 wr w.heap.size s2 a3 k3 ∧ Calls Tryz.prog 60 #[.pointer (some ⟨p, 0, none⟩), .agg (sC s2 (.slice a3 s2.es.length k3)), vb] wr fun e w5 => e = .returned .nilIface ∧ N5 w5 w.heap.size s2 a3 k3 ∧ (∃ (a5 : Option Addr) (k5 : Nat) (s5 : Sta), w5.cell? ⟨p, 1, none⟩ = some (.int .u64 (s5.term : Int)) ∧ w5.cell? ⟨p, 2, none⟩ = some (.int .u64 (s5.vote : Int)) ∧ w5.cell? ⟨p, 3, none⟩ = some (.int .u64 (s5.base : Int)) ∧ w5.cell? ⟨p, 4, none⟩ = some (.int .u64 (s5.bt : Int)) ∧ w5.cell? ⟨p, 5, none⟩ = some (.slice a5 s5.es.length k5)) ∧ (∀ i, w5.frozen? ⟨p, i, none⟩ = false) ∧
      Hid (WDone w B p q (nx S) (FX a (some (dB x ++ recsB rs, dS x))) s2 (sz + (recsB rs).length) v D (WO p v D) (.returned .nilIface) (((((w5.setCell ⟨p, 1, none⟩ (.int .u64 (s2.term : Int))).setCell ⟨p, 2, none⟩ (.int .u64 (s2.vote : Int))).setCell ⟨p, 3, none⟩ (.int .u64 (s2.base : Int))).setCell ⟨p, 4, none⟩ (.int .u64 (s2.bt : Int))).setCell ⟨p, 5, none⟩ (.slice a3 s2.es.length k3))) := by
  have hev := h.ev hi
  obtain ⟨sj, cj, vj, h1, h2, h3, h4, h5, h6, h7, h8, h9, h10, h11⟩ := h
  rw [List.take_length, hrun] at h1
  cases h1
  obtain ⟨a3, k3, rfl, _, _⟩ := h4.el.slice
  have hlt := hi.wx.lt
  refine ⟨a3, k3, h4.sb.n5, (write_go s2 (.slice a3 s2.es.length k3) vb (recsB rs) h7 (by have := hi.bz; omega) hev hS hm (rbo_own ho hlen (fun k hk => Nat.lt_succ_of_lt (hlt k (.inr (.inr hk))))) hf hz).mono ?_⟩
  rintro e w5 ⟨v', D', rfl, q1, q2, _, hD'⟩
  have hpd : ∀ k, PD p D k → k < w.heap.size := fun k hk => hlt k (hk.elim .inl (fun hh => .inr (.inr hh)))
  have hsame : ∀ k, k < wr.heap.size → ¬ PD p D k → w5.heap[k]? = wr.heap[k]? := q2.blk
  have hinv : ∀ g, inB (.slice a3 s2.es.length k3) g → g < wr.heap.size ∧ ¬ PD p D g := fun g hg => ⟨h4.el.lt hg, fun hh => by
    rcases h6 g hg with h' | h'
    · rcases hh with rfl | hh
      · exact hi.wx.ap h'
      · exact hi.wx.dv g h' hh
    · have := hpd g hh; omega⟩
  have hn5 : w5.heap[w.heap.size]? = wr.heap[w.heap.size]? := hsame _ h9 (fun hh => by have := hpd _ hh; omega)
  obtain ⟨a5, k5, rfl, _, _⟩ := q1.el.slice
  obtain ⟨_, d1, d2, d3, d4, d5, _⟩ := q1.cells
  refine ⟨rfl, (h4.sb.keep hn5).n5, ⟨a5, k5, s, d1, d2, d3, d4, d5⟩, q1.frz, .slice a3 s2.es.length k3, D', rfl, ?_, ?_, ?_⟩
  · refine q1.setState (h4.el.keep (fun g hg => hsame g (hinv g hg).1 (hinv g hg).2)) (fun hh => (hinv p hh).2 (.inl rfl)) (fun g hg hh => ?_) (fun g hg => ?_)
    · rcases hD' g hh with h' | h'
      · exact (hinv g hg).2 (.inr h')
      · have := (hinv g hg).1; omega
    · rcases h6 g hg with h' | h'
      · exact hi.wx.bv g h'
      · have := hi.bz; omega
  · have hf0 : Dk.FrO (WO p v D) w w5 := ⟨by have := q2.size; omega, fun k hk hn => (hsame k (by omega) (fun hh => hn (hh.elim .inl (fun h' => .inr (.inr h'))))).trans (h8 k hk (fun hh => hn (.inr (.inl hh)))), h10.trans q2.env⟩
    exact ((((hf0.set (.inl rfl) 1 _).set (.inl rfl) 2 _).set (.inl rfl) 3 _).set (.inl rfl) 4 _).set (.inl rfl) 5 _
  · exact ⟨fun g hg => (h6 g hg).imp id (fun hh => by omega), fun k hk => (hD' k hk).imp id (fun hh => by omega)⟩
theorem dj_next {wr : World} {j : Nat} {r : Rc} (hi : DI w B p q S (FX a x) s v sz D rs vr) (hj : rs[j]? = some r) (hr : r.ok) (hrun : runS s rs = .ok s2) (h : DJ w wr B p q S (FX a x) s v sz D rs vr j) :
    Calls Tryz.prog 58 #[.pointer (some ⟨w.heap.size, 0, none⟩), .agg r.cells] wr fun e w' => e = .returned .nilIface ∧ DJ w w' B p q S (FX a x) s v sz D rs vr (j + 1) ∧ KeepU wr w' := by
  obtain ⟨sj, h1, h2⟩ := dj_take hi hj hr h
  obtain ⟨s1, s3, q1, q2, q3⟩ := runS_step hrun hj
  obtain rfl : sj = s1 := by rw [h1] at q1; cases q1; rfl
  rw [q2] at h2
  exact h2

set_option maxHeartbeats 25600000 in
set_option maxRecDepth 100000 in
theorem do_go (hi : DI w B p q S (FX a x) s v sz D rs vr) (hlenB : (recsB rs).length ≤ 1000000) (hrs : ∀ r ∈ rs, r.ok) (hrun : runS s rs = .ok s2) (hS : OkS S R n) (hm : Roomy R a x (recsB rs).length) (hz : sz + (recsB rs).length ≤ 32768) (hf : ¬ Fails S) :
    Calls Tryz.prog 32 #[.pointer (some ⟨p, 0, none⟩), vr] w fun e w' => WDone w B p q (nx S) (FX a (some (dB x ++ recsB rs, dS x))) s2 (sz + (recsB rs).length) v D (WO p v D) e w' := by
  obtain ⟨va, vc, hvr, _⟩ := id hi.rl
  subst hvr
  obtain ⟨ea, ek, hev, _, _⟩ := hi.wx.el.slice
  have hfew := hi.few
  obtain ⟨c0, c1, c2, c3, c4, c5, c6, c7⟩ := hi.wx.cells
  have hpl := hi.wx.lt p (.inl rfl)
  have H0 := hide hi.start
  have HR : Hid (∀ (j : Nat) (wr : World), j < rs.length → DJ w wr B p q S (FX a x) s v sz D rs (.slice va rs.length vc) j → ∃ (r : Rc) (b off : Nat), va = some ⟨b, off, none⟩ ∧ rs[j]? = some r ∧ (wr.cell? ⟨b, off + j * 8, none⟩ = some (.int .u8 (r.kind : Int)) ∧ wr.cell? ⟨b, off + j * 8 + 1, none⟩ = some (.int .u64 (r.term : Int)) ∧ wr.cell? ⟨b, off + j * 8 + 2, none⟩ = some (.int .u64 (r.place : Int)) ∧ wr.cell? ⟨b, off + j * 8 + 3, none⟩ = some (.int .u64 (r.ent.term : Int)) ∧ wr.cell? ⟨b, off + j * 8 + 4, none⟩ = some (.int .i64 r.ent.kind) ∧ wr.cell? ⟨b, off + j * 8 + 5, none⟩ = some (.int .u64 (r.ent.client : Int)) ∧ wr.cell? ⟨b, off + j * 8 + 6, none⟩ = some (.int .u64 (r.ent.seq : Int)) ∧ wr.cell? ⟨b, off + j * 8 + 7, none⟩ = some (.string r.ent.sql))) := by
    intro j wr hj h
    have hr : rs[j]? = some rs[j] := List.getElem?_eq_getElem hj
    obtain ⟨b, off, cap, e, hb, hc⟩ := h.rec hi hr
    cases e
    exact ⟨rs[j], b, off, rfl, hr, hc 0 _ rfl, hc 1 _ rfl, hc 2 _ rfl, hc 3 _ rfl, hc 4 _ rfl, hc 5 _ rfl, hc 6 _ rfl, hc 7 _ rfl⟩
  have HF : Hid (∀ (j : Nat) (r : Rc) (wr : World), rs[j]? = some r → DJ w wr B p q S (FX a x) s v sz D rs (.slice va rs.length vc) j → Calls Tryz.prog 59 #[.agg r.cells] wr fun e w' => ∃ v', e = .returned (.tuple #[v', .nilIface]) ∧ w'.ownsRow wr.heap.size 5 1 v' r.bytes.length (byteCells r.bytes) ∧ Below wr.heap.size wr w') := by
    intro j r wr hj h
    have hr := hrs r (List.mem_of_getElem? hj)
    obtain ⟨k1, k2, k3, k4⟩ := rec_ok hr
    exact (frame_any r wr k1 k2 k3 k4 (h.ev hi).st).mono fun e w' hp => frame_good hp hr
  have HK : Hid (∀ (j : Nat) (r : Rc) (wr : World), rs[j]? = some r → DJ w wr B p q S (FX a x) s v sz D rs (.slice va rs.length vc) j → Calls Tryz.prog 58 #[.pointer (some ⟨w.heap.size, 0, none⟩), .agg r.cells] wr fun e w' => e = .returned .nilIface ∧ DJ w w' B p q S (FX a x) s v sz D rs (.slice va rs.length vc) (j + 1) ∧ KeepU wr w') := fun j r wr hj h => dj_next hi hj (hrs r (List.mem_of_getElem? hj)) hrun h
  have HAPP : Hid (∀ (j : Nat) (wr w1 : World), DJ w wr B p q S (FX a x) s v sz D rs (.slice va rs.length vc) (j + 1) → KeepT 5 wr w1 → Below (w.heap.size + 1) wr w1 → DJ w w1 B p q S (FX a x) s v sz D rs (.slice va rs.length vc) (j + 1)) := fun j wr w1 h hk hb => h.app hi hk hb
  have HL : Hid (∀ r ∈ rs, r.bytes.length ≤ 100009) := fun r hr => rc_len (hrs r hr)
  have HW := hide (fun (wr : World) (vb : Value) (h : DJ w wr B p q S (FX a x) s v sz D rs (.slice va rs.length vc) rs.length) (ho : wr.ownsRow (w.heap.size + 1) 5 1 vb (recsB rs).length (byteCells (recsB rs))) => dj_end hi hlenB hrun hS hm hz hf h ho)
  have hrl : (rs.length : Int) ≤ 900000 := by omega
  have HLB := hide hlenB
  clear hi hrs hrun hS hm hz hfew hlenB c0 c6 c7
  rw [hev] at c5
  unfold sC at H0
  have H0' : Hid (DJ w (w.alloc (.cells #[.int .u64 (s.term : Int), .int .u64 (s.vote : Int), .int .u64 (s.base : Int), .int .u64 (s.bt : Int), .slice ea s.es.length ek] 77)) B p q S (FX a x) s v sz D rs (.slice va rs.length vc) 0) := (by rw [← hev]; exact unhide H0)
  clear H0
  have Hev := hide hev
  clear hev
  unfold Rc.cells at HF HK
  go_enter Tryz.func32, Tryz.ntmps32
  go_wp2_with fail
  go_loopw [6, 8, 9, 10, 18] (fun s6 s8 s9 s10 s18 wr => s8 = s8 ∧ s9 = s9 ∧ s10 = s10 ∧ ∃ j vb, j ≤ rs.length ∧ s18 = .int .i64 (j : Int) ∧ s6 = vb ∧ Hid (DJ w wr B p q S (FX a x) s v sz D rs (.slice va rs.length vc) j ∧ wr.ownsRow (w.heap.size + 1) 5 1 vb (recsB (rs.take j)).length (byteCells (recsB (rs.take j))))) (fun _ _ _ _ s18 _ => rs.length - (RowKit.intOf s18).toNat)
  case atStart => exact ⟨rfl, rfl, rfl, 0, _, Nat.zero_le _, rfl, rfl, unhide H0', World.ownsRow_nil _ _ _ _⟩
  case round =>
    obtain ⟨-, -, -, j, vb, hj, rfl, rfl, hr⟩ := hrel
    clear H0'
    by_cases hlt : j < rs.length
    · obtain ⟨r, b, off, rfl, ha, d0, d1, d2, d3, d4, d5, d6, d7⟩ := unhide HR j wr hlt (unhide hr).1
      have hji : (j : Int) < (rs.length : Int) := by omega
      have hj0 : (0 : Int) ≤ (j : Int) := by omega
      have hb1 := box_below wr (.cells #[.int .u8 (r.kind : Int), .int .u64 (r.term : Int), .int .u64 (r.place : Int), .int .u64 (r.ent.term : Int), .int .i64 r.ent.kind, .int .u64 (r.ent.client : Int), .int .u64 (r.ent.seq : Int), .string r.ent.sql] 84)
      have V1 : Rv (wr.alloc (.cells #[.int .u8 (r.kind : Int), .int .u64 (r.term : Int), .int .u64 (r.place : Int), .int .u64 (r.ent.term : Int), .int .i64 r.ent.kind, .int .u64 (r.ent.client : Int), .int .u64 (r.ent.seq : Int), .string r.ent.sql] 84)) wr.heap.size #[.int .u8 (r.kind : Int), .int .u64 (r.term : Int), .int .u64 (r.place : Int), .int .u64 (r.ent.term : Int), .int .i64 r.ent.kind, .int .u64 (r.ent.client : Int), .int .u64 (r.ent.seq : Int), .string r.ent.sql] := heap_alloc_new _ _
      have HD1 := hide (And.intro ((unhide hr).1.below hb1) (own_later (unhide hr).2 hb1))
      have HV1 := hide V1
      have HF1 := hide (unhide HF j r _ ha (unhide HD1).1)
      have HK1 := hide (fun W h => unhide HK j r W ha h)
      have hrl2 := unhide HL r (List.mem_of_getElem? ha)
      have hst := recsB_len rs j r ha
      have Hst := hide hst
      have hrb : recsB (rs.take (j + 1)) = recsB (rs.take j) ++ r.bytes := by rw [List.take_add_one, ha, recsB_app]; simp [recsB]
      have Hrb := hide hrb
      have hle : (recsB (rs.take j)).length ≤ 1000000 := by
        have h1 := atJ_le rs [] j
        rw [List.append_nil] at h1
        exact Nat.le_trans h1 (unhide HLB)
      clear hb1 V1 hr hst hrb ha
      go_wp2_with (first
        | (go_at_call 59; refine (unhide HF1).mono ?_; rintro e w2 ⟨v2, rfl, o2, b2⟩; have r0 : Rv w2 wr.heap.size _ := (b2.block _ (Array.getElem?_eq_some_iff.1 (unhide HV1)).1).trans (unhide HV1); obtain ⟨x0, x1, x2, x3, x4, x5, x6, x7⟩ := r0.cells; have HD2 := hide (And.intro ((unhide HD1).1.below b2) (And.intro (own_later (unhide HD1).2 b2) o2)); have hz2 := hide (And.intro b2.size ((unhide HD1).1)); clear o2 b2 r0 HD1 HV1 HF1)
        | (go_at_call 58; refine (unhide HK1 _ (unhide HD2).1).mono ?_; rintro e w3 ⟨rfl, h3, hku⟩; have HD3 := hide (And.intro h3 (And.intro (hku.own (unhide HD2).2.1) (hku.own (unhide HD2).2.2))); clear h3 hku HD2 HK1)
        | (at_builtin; refine wpList_append_rb rfl (.tmp 34) (.tmp 35) rfl (w.heap.size + 1) _ _ _ rfl (unhide HD3).2.1 _ _ r.bytes rfl (rb_own (unhide HD3).2.2 (by omega)) (by omega) (by omega) (by obtain ⟨sj, cj, vj, q1, q2, q3, q4, q5, q6, q7, q8, q9, q10⟩ := (unhide HD3).1; omega) ?_; intro v4 w4 o4 k4 b4))
      refine ⟨⟨trivial, trivial, trivial, j + 1, v4, by omega, by simp, rfl, ?_, ?_⟩, ?_⟩
      · exact unhide HAPP j w3 w4 (unhide HD3).1 k4 b4
      · rw [unhide Hrb, List.length_append]
        exact own_cast2 o4 rfl (by simp [byteCells_append])
      · simp [RowKit.intOf]; omega
    · obtain rfl : j = rs.length := by omega
      have hji : ¬ ((rs.length : Int) < (rs.length : Int)) := by omega
      obtain ⟨h1, h2⟩ := unhide hr
      rw [List.take_length] at h2
      obtain ⟨a3, k3, n5, hw⟩ := unhide HW wr _ h1 h2
      have HWr := hide hw
      obtain ⟨y0, y1, y2, y3, y4⟩ := n5
      clear hr h1 h2 hw HR HF HK hlt
      unfold sC at HWr
      go_wp2_with (first
        | (go_at_call 60; refine (unhide HWr).mono ?_; rintro e w5 ⟨rfl, n5, ⟨a5, k5, s5, z1, z2, z3, z4, z5⟩, fz, HE⟩; obtain ⟨x0, x1, x2, x3, x4⟩ := n5; have f1 := fz 1; have f2 := fz 2; have f3 := fz 3; have f4 := fz 4; have f5 := fz 5; clear HWr fz))
      go_ret
      exact unhide HE
end
end Go.Proofs.YthphadbcebeoaaaGreatDoor
