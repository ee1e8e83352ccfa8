/- The wal written anew: rewrite, write. -/
import Derived.Test.YthphadbcebeoaaaGreatDoorWaRw1
namespace Go.Proofs.YthphadbcebeoaaaGreatDoor
open Go.RowKit Go.Lib Go.Maps

set_option maxHeartbeats 1600000 in
theorem limit_any (w : World) (a : Option Addr) (n k : Nat) (hn : n ≤ 16384) : Calls Tryz.prog 103 #[.slice a n k] w fun e w' => e = .returned (.int .i64 32768) ∧ w' = w := by
  have hw : IntKind.i64.wrap (2 * (n : Int)) = 2 * (n : Int) := by rw [IntKind.wrap_i64] <;> omega
  have hx : max 32768 (2 * (n : Int)) = 32768 := by omega
  go_enter Tryz.func103, Tryz.ntmps103
  go_wp2
  go_ret
  exact ⟨rfl, rfl⟩
section
variable {w w1 w' : World} {B p q sz n : Nat} {S : Dk.St} {R : Int} {x : Fx} {s s2 : Sta} {v : Value} {D : Nat → Prop} {F : List Dk.Ent}
/-- Its own block written. -/
theorem WX.own {sz2 : Nat} (h : WX w B p q S F s v sz D) (hf : Dk.FrO (fun k => k = p) w w') (hb : w'.heap[p]? = some (.cells (wC q s v sz2) 79 (0, 0))) : WX w' B p q S F s v sz2 D := by
  have hl := h.lt
  exact ⟨hb, h.el.keep (fun g hg => hf.blk g (hl g (.inr (.inl hg))) (fun e => h.ap (e ▸ hg))), h.dx.fr hf.size (fun k hk => hf.blk k (hl k (.inr (.inr hk))) (fun e => h.dp (e ▸ hk))), h.ap, h.dp, h.dv, h.bp, h.bv, h.bd⟩
/-- What the disk's three calls do. -/
theorem rw_chain (lb : List UInt8) (vb : Value) (hbel : Below w.heap.size w w1) (h : WX w B p q S (FX none x) s v sz D) (hB : B ≤ w.heap.size) (hE : EV w B) (hS : OkS S R (n + 3)) (hh : Hale S) (hm : Roomy R none x lb.length) (hv : w1.ownsRow w.heap.size 5 1 vb lb.length (byteCells lb)) :
    Calls Tryz.prog 25 #[.pointer (some ⟨q, 0, none⟩), .string nwN, vb] w1 fun e w2 => e = .returned .nilIface ∧ Hid (Calls Tryz.prog 26 #[.pointer (some ⟨q, 0, none⟩), .string nwN] w2 fun e w3 => e = .returned .nilIface ∧ Hid (Calls Tryz.prog 102 #[.pointer (some ⟨q, 0, none⟩), .string nwN, .string waN] w3 fun e w4 => e = .returned .nilIface ∧ (w4.cell? ⟨p, 6, none⟩ = some (.int .i64 (sz : Int)) ∧ w4.cell? ⟨p, 7, none⟩ = some (.int .i64 32768) ∧ w4.frozen? ⟨p, 6, none⟩ = false ∧ w4.frozen? ⟨p, 7, none⟩ = false ∧ p < w4.heap.size) ∧
      Hid (∀ w5, Below w4.heap.size w4 w5 → WDone w B p q (nx (nx (nx S))) (FX none (some (lb, lb.length))) s lb.length v D (PD p D) (.returned .nilIface) ((w5.setCell ⟨p, 6, none⟩ (.int .i64 (lb.length : Int))).setCell ⟨p, 7, none⟩ (.int .i64 32768))))) := by
  have h1 := h.below hbel
  have hB1 : B ≤ w1.heap.size := Nat.le_trans hB hbel.size
  have hE1 := hE.below (hbel.mono hB)
  have hlb : lb.length ≤ 1000000 := by have := hm.1; have := hm.2; omega
  refine (nw_app vb lb h1.dx hE1.et hS hm (rbo_own hv hlb (fun k hk => h.lt k (.inr (.inr hk)))) hh.go).mono ?_
  rintro e w2 ⟨D2, rfl, d2, f2, o2⟩
  have h2 := h1.disk hB1 d2 f2 o2
  have hB2 : B ≤ w2.heap.size := Nat.le_trans hB1 f2.size
  have hE2 := hE1.below (fro_below f2 h1.bd hB1)
  refine ⟨rfl, (nw_sync (lb, 0) h2.dx hE2.et (hS.nx hh.go) hh.nx.go).mono ?_⟩
  rintro e w3 ⟨D3, rfl, d3, f3, o3⟩
  have h3 := h2.disk hB2 d3 f3 o3
  have hB3 : B ≤ w3.heap.size := Nat.le_trans hB2 f3.size
  have hE3 := hE2.below (fro_below f3 h2.bd hB2)
  refine ⟨rfl, (nw_ren (lb, lb.length) h3.dx hE3.et ((hS.nx hh.go).nx hh.nx.go) hh.nx.nx.go).mono ?_⟩
  rintro e w4 ⟨D4, rfl, d4, f4, o4⟩
  have h4 := h3.disk hB3 d4 f4 o4
  have hpl := h4.lt p (.inl rfl)
  refine ⟨rfl, ⟨h4.cells.2.2.2.2.2.2.1, h4.cells.2.2.2.2.2.2.2, h4.frz 6, h4.frz 7, hpl⟩, ?_⟩
  intro w5 h5
  have g4 : Dk.FrO (PD p D) w w4 := by
    have g1 : Dk.FrO (PD p D) w w1 := Dk.FrO.of_below hbel
    have g2 : Dk.FrO (PD p D) w w2 := g1.trans f2 (fun k _ hk => .inr hk)
    have hz2 : w.heap.size ≤ w2.heap.size := g2.size
    have g3 : Dk.FrO (PD p D) w w3 := g2.trans f3 (fun k hk hk' => by
      rcases o2 k hk' with h' | h'
      · exact .inr h'
      · have := hbel.size; omega)
    exact g3.trans f4 (fun k hk hk' => by
      rcases o3 k hk' with h' | h'
      · rcases o2 k h' with h'' | h''
        · exact .inr h''
        · have := hbel.size; omega
      · omega)
  have g5 : Dk.FrO (PD p D) w w5 := g4.trans (Dk.FrO.of_below (O := PD p D) h5) (fun k _ hk => hk)
  have h5' := h4.below h5
  refine ⟨v, D4, rfl, ?_, (g5.set (.inl rfl) 6 _).set (.inl rfl) 7 _, fun g hg => .inl hg, fun k hk => ?_⟩
  · refine h5'.own (((Dk.FrO.refl (fun k => k = p) w5).set (p := p) rfl 6 _).set (p := p) rfl 7 _) ?_
    exact (Dk.heap_setCell_at (Dk.heap_setCell_at h5'.blk _ _) _ _).trans rfl
  · have := hbel.size
    have := f2.size
    have := f3.size
    rcases o4 k hk with h' | h'
    · rcases o3 k h' with h'' | h''
      · rcases o2 k h'' with h3' | h3'
        · exact .inl h3'
        · exact .inr (by omega)
      · exact .inr (by omega)
    · exact .inr (by omega)
set_option maxHeartbeats 6400000 in
set_option maxRecDepth 100000 in
theorem rewrite_go (va : Option Addr) (vk : Nat) (h : WX w B p q S (FX none x) s v sz D) (hB : B ≤ w.heap.size) (hE : EV w B) (hS : OkS S R (n + 3)) (hh : Hale S) (he : EL w (.slice va s2.es.length vk) s2.es) (hs2 : s2.ok) (hn2 : s2.es.length ≤ 1000) (hl : (recsB (stR s2)).length ≤ 16384) (hm : Roomy R none x (recsB (stR s2)).length) :
    Calls Tryz.prog 81 #[.pointer (some ⟨p, 0, none⟩), .agg (sC s2 (.slice va s2.es.length vk))] w fun e w' => WDone w B p q (nx (nx (nx S))) (FX none (some (recsB (stR s2), (recsB (stR s2)).length))) s (recsB (stR s2)).length v D (PD p D) e w' := by
  have b1 := box_below w (.cells (sC s2 (.slice va s2.es.length vk)) 77)
  have HB := hide (bytes_any (heap_alloc_new w (.cells (sC s2 (.slice va s2.es.length vk)) 77)) (he.below b1) hs2 hn2 (hE.st.below b1 hE.st.lt) (by omega))
  have HC : Hid (∀ (w1 : World) (vb : Value), Below (w.alloc (.cells (sC s2 (.slice va s2.es.length vk)) 77)).heap.size (w.alloc (.cells (sC s2 (.slice va s2.es.length vk)) 77)) w1 → w1.ownsRow (w.alloc (.cells (sC s2 (.slice va s2.es.length vk)) 77)).heap.size 5 1 vb (recsB (stR s2)).length (byteCells (recsB (stR s2))) → Hid (Calls Tryz.prog 34 #[.pointer (some ⟨p, 0, none⟩)] w1 fun e w' => e = .returned (.pointer (some ⟨q, 0, none⟩)) ∧ w' = w1) ∧ Hid (Calls Tryz.prog 25 #[.pointer (some ⟨q, 0, none⟩), .string nwN, vb] w1 fun e w2 => e = .returned .nilIface ∧ Hid (Calls Tryz.prog 26 #[.pointer (some ⟨q, 0, none⟩), .string nwN] w2 fun e w3 => e = .returned .nilIface ∧ Hid (Calls Tryz.prog 102 #[.pointer (some ⟨q, 0, none⟩), .string nwN, .string waN] w3 fun e w4 => e = .returned .nilIface ∧ (w4.cell? ⟨p, 6, none⟩ = some (.int .i64 (sz : Int)) ∧ w4.cell? ⟨p, 7, none⟩ = some (.int .i64 32768) ∧ w4.frozen? ⟨p, 6, none⟩ = false ∧ w4.frozen? ⟨p, 7, none⟩ = false ∧ p < w4.heap.size) ∧
      Hid (∀ w5, Below w4.heap.size w4 w5 → WDone w B p q (nx (nx (nx S))) (FX none (some (recsB (stR s2), (recsB (stR s2)).length))) s (recsB (stR s2)).length v D (PD p D) (.returned .nilIface) ((w5.setCell ⟨p, 6, none⟩ (.int .i64 ((recsB (stR s2)).length : Int))).setCell ⟨p, 7, none⟩ (.int .i64 32768))))))) := by
    intro w1 vb hb ho
    have hbb := below_trans0 b1 hb
    have ho2 : w1.ownsRow w.heap.size 5 1 vb (recsB (stR s2)).length (byteCells (recsB (stR s2))) := by
      obtain ⟨h1, h2 | ⟨g, cap, cur, q3, q4, q5⟩⟩ := ho
      · exact ⟨h1, .inl h2⟩
      · exact ⟨h1, .inr ⟨g, cap, cur, q3, by rw [World.size_alloc] at q4; omega, q5⟩⟩
    exact ⟨home_any (h.below hbb), rw_chain (recsB (stR s2)) vb hbb h hB hE hS hh hm ho2⟩
  have HLM := hide (fun (W : World) (a : Option Addr) (k : Nat) => limit_any W a (recsB (stR s2)).length k hl)
  have hpl := h.lt p (.inl rfl)
  generalize hN : (recsB (stR s2)).length = N at *
  generalize recsB (stR s2) = lb at *
  have HN := hide hN
  clear h hB hE hS hh he hs2 hn2 hm b1 hN
  unfold sC at *
  unfold waN nwN at HC
  go_enter Tryz.func81, Tryz.ntmps81
  go_wp2_with (first
    | (go_at_call 101; refine (unhide HB).mono ?_; rintro e w1 ⟨vb, rfl, o1, b1⟩; obtain ⟨HM, HA⟩ := unhide HC w1 vb b1 o1; obtain ⟨ba, bk, rfl⟩ := own_slice o1; clear HC HB o1 b1)
    | (go_at_call 34; refine (unhide HM).mono ?_; rintro e w1 ⟨rfl, rfl⟩; clear HM)
    | (go_at_call 25; refine (unhide HA).mono ?_; rintro e w2 ⟨rfl, HS⟩; clear HA)
    | (go_at_call 26; refine (unhide HS).mono ?_; rintro e w3 ⟨rfl, HR⟩; clear HS)
    | (go_at_call 102; refine (unhide HR).mono ?_; rintro e w4 ⟨rfl, ⟨c6, c7, f6, f7, hp4⟩, HW⟩; clear HR)
    | (go_at_call 103; refine (unhide HLM _ _ _).mono ?_; rintro e w5 ⟨rfl, rfl⟩; clear HLM))
  go_ret
  exact unhide HW _ (Below.refl _ _)
set_option maxHeartbeats 6400000 in
set_option maxRecDepth 100000 in
/-- write, by a new file. -/
theorem write_rw (va : Option Addr) (vk : Nat) (vb : Value) (lb : List UInt8) (h : WX w B p q S (FX none x) s v sz D) (hB : B ≤ w.heap.size) (hE : EV w B) (hS : OkS S R (n + 3)) (hh : Hale S) (hv : Dk.RBo w D vb lb) (he : EL w (.slice va s2.es.length vk) s2.es) (hs2 : s2.ok) (hn2 : s2.es.length ≤ 1000) (hl : (recsB (stR s2)).length ≤ 16384) (hm : Roomy R none x (recsB (stR s2)).length) (hz : 32768 < sz + lb.length) (hz2 : sz ≤ 1000000) :
    Calls Tryz.prog 60 #[.pointer (some ⟨p, 0, none⟩), .agg (sC s2 (.slice va s2.es.length vk)), vb] w fun e w' => WDone w B p q (nx (nx (nx S))) (FX none (some (recsB (stR s2), (recsB (stR s2)).length))) s (recsB (stR s2)).length v D (PD p D) e w' := by
  obtain ⟨ba, bk, rfl⟩ := hv.slice
  have hlb := hv.1
  have b1 := box_below w (.cells (sC s2 (.slice va s2.es.length vk)) 77)
  have b2 : Below w.heap.size w (w.alloc (.cells (sC s2 (.slice va s2.es.length vk)) 77)).drew := below_trans0 b1 (drew_below _ 1)
  have hz3 : w.heap.size ≤ (w.alloc (.cells (sC s2 (.slice va s2.es.length vk)) 77)).drew.heap.size := b2.size
  have HL := hide (rewrite_go va vk (h.below b2) (Nat.le_trans hB hz3) (hE.below (b2.mono hB)) hS hh (he.below b2) hs2 hn2 hl hm)
  have HB := hide b2
  obtain ⟨_, _, _, _, _, _, c6, c7⟩ := h.cells
  have hpl := h.lt p (.inl rfl)
  have hn1 : ¬ p = w.heap.size := by omega
  have hn2 : ¬ w.heap.size = p := by omega
  have hlt : (32768 : Int) < (sz : Int) + (lb.length : Int) := by omega
  have hw : IntKind.i64.wrap ((sz : Int) + (lb.length : Int)) = (sz : Int) + (lb.length : Int) := by rw [IntKind.wrap_i64] <;> omega
  clear h hE hS hm hv hh hB b1 b2 hz hz2 hz3 he hs2 hl
  unfold sC at *
  go_enter Tryz.func60, Tryz.ntmps60
  go_wp2_with fail
  go_region
  all_goals
    go_wp2_with (first
      | (go_at_call 81; refine (unhide HL).mono ?_; rintro e w1 h1; clear HL; obtain ⟨v', D', rfl, h1'⟩ := id h1; have H1 := hide (h1.pre (unhide HB)); clear h1 h1')
      | (go_at_call 29; refine (is_nil _ _).mono ?_; rintro e w2 ⟨rfl, rfl⟩))
    go_ret
    exact unhide H1
end
end Go.Proofs.YthphadbcebeoaaaGreatDoor
/- A wal's do, whichever way it is written: behind the file, or anew. -/
namespace Go.Proofs.YthphadbcebeoaaaGreatDoor
open Go.RowKit Go.Lib Go.Maps

section
variable {w : World} {B p q sz sz2 : Nat} {S S2 : Dk.St} {F F2 : List Dk.Ent} {s s2 : Sta} {v vr : Value} {D : Nat → Prop} {rs : List Rc}
/-- What write does of the next state. -/
def WrP (B p q : Nat) (S : Dk.St) (F : List Dk.Ent) (s : Sta) (v : Value) (sz : Nat) (D : Nat → Prop) (lb : List UInt8) (s2 : Sta) (S2 : Dk.St) (F2 : List Dk.Ent) (sz2 : Nat) : Prop :=
  ∀ (wr : World) (a3 : Option Addr) (k3 : Nat) (vb : Value), WX wr B p q S F s v sz D → B ≤ wr.heap.size → EV wr B → Dk.RBo wr D vb lb → EL wr (.slice a3 s2.es.length k3) s2.es → Calls Tryz.prog 60 #[.pointer (some ⟨p, 0, none⟩), .agg (sC s2 (.slice a3 s2.es.length k3)), vb] wr fun e w' => WDone wr B p q S2 F2 s sz2 v D (PD p D) e w'
/-- The end of a call that is done: write, then the state. -/
theorem dj_endG {wr : World} {vb : Value} (hi : DI w B p q S F s v sz D rs vr) (hlen : (recsB rs).length ≤ 1000000) (hrun : runS s rs = .ok s2) (hW : WrP B p q S F s v sz D (recsB rs) s2 S2 F2 sz2) (h : DJ w wr B p q S F s v sz D rs vr rs.length) (ho : wr.ownsRow (w.heap.size + 1) 5 1 vb (recsB rs).length (byteCells (recsB rs))) :
    ∃ a3 k3, N5 wr w.heap.size s2 a3 k3 ∧ Calls Tryz.prog 60 #[.pointer (some ⟨p, 0, none⟩), .agg (sC s2 (.slice a3 s2.es.length k3)), vb] wr fun e w5 => e = .returned .nilIface ∧ N5 w5 w.heap.size s2 a3 k3 ∧ (∃ (a5 : Option Addr) (k5 : Nat) (s5 : Sta), w5.cell? ⟨p, 1, none⟩ = some (.int .u64 (s5.term : Int)) ∧ w5.cell? ⟨p, 2, none⟩ = some (.int .u64 (s5.vote : Int)) ∧ w5.cell? ⟨p, 3, none⟩ = some (.int .u64 (s5.base : Int)) ∧ w5.cell? ⟨p, 4, none⟩ = some (.int .u64 (s5.bt : Int)) ∧ w5.cell? ⟨p, 5, none⟩ = some (.slice a5 s5.es.length k5)) ∧ (∀ i, w5.frozen? ⟨p, i, none⟩ = false) ∧
      Hid (WDone w B p q S2 F2 s2 sz2 v D (WO p v D) (.returned .nilIface) (((((w5.setCell ⟨p, 1, none⟩ (.int .u64 (s2.term : Int))).setCell ⟨p, 2, none⟩ (.int .u64 (s2.vote : Int))).setCell ⟨p, 3, none⟩ (.int .u64 (s2.base : Int))).setCell ⟨p, 4, none⟩ (.int .u64 (s2.bt : Int))).setCell ⟨p, 5, none⟩ (.slice a3 s2.es.length k3))) := by
  have hev := h.ev hi
  obtain ⟨sj, cj, vj, h1, h2, h3, h4, h5, h6, h7, h8, h9, h10, h11⟩ := h
  rw [List.take_length, hrun] at h1
  cases h1
  obtain ⟨a3, k3, rfl, _, _⟩ := h4.el.slice
  have hlt := hi.wx.lt
  refine ⟨a3, k3, h4.sb.n5, (hW wr a3 k3 vb h7 (by have := hi.bz; omega) hev (rbo_own ho hlen (fun k hk => Nat.lt_succ_of_lt (hlt k (.inr (.inr hk))))) h4.el).mono ?_⟩
  rintro e w5 ⟨v', D', rfl, q1, q2, _, hD'⟩
  have hpd : ∀ k, PD p D k → k < w.heap.size := fun k hk => hlt k (hk.elim .inl (fun hh => .inr (.inr hh)))
  have hsame : ∀ k, k < wr.heap.size → ¬ PD p D k → w5.heap[k]? = wr.heap[k]? := q2.blk
  have hinv : ∀ g, inB (.slice a3 s2.es.length k3) g → g < wr.heap.size ∧ ¬ PD p D g := fun g hg => ⟨h4.el.lt hg, fun hh => by
    rcases h6 g hg with h' | h'
    · rcases hh with rfl | hh
      · exact hi.wx.ap h'
      · exact hi.wx.dv g h' hh
    · have := hpd g hh; omega⟩
  have hn5 : w5.heap[w.heap.size]? = wr.heap[w.heap.size]? := hsame _ h9 (fun hh => by have := hpd _ hh; omega)
  obtain ⟨a5, k5, rfl, _, _⟩ := q1.el.slice
  obtain ⟨_, d1, d2, d3, d4, d5, _⟩ := q1.cells
  refine ⟨rfl, (h4.sb.keep hn5).n5, ⟨a5, k5, s, d1, d2, d3, d4, d5⟩, q1.frz, .slice a3 s2.es.length k3, D', rfl, ?_, ?_, ?_⟩
  · refine q1.setState (h4.el.keep (fun g hg => hsame g (hinv g hg).1 (hinv g hg).2)) (fun hh => (hinv p hh).2 (.inl rfl)) (fun g hg hh => ?_) (fun g hg => ?_)
    · rcases hD' g hh with h' | h'
      · exact (hinv g hg).2 (.inr h')
      · have := (hinv g hg).1; omega
    · rcases h6 g hg with h' | h'
      · exact hi.wx.bv g h'
      · have := hi.bz; omega
  · have hf0 : Dk.FrO (WO p v D) w w5 := ⟨by have := q2.size; omega, fun k hk hn => (hsame k (by omega) (fun hh => hn (hh.elim .inl (fun h' => .inr (.inr h'))))).trans (h8 k hk (fun hh => hn (.inr (.inl hh)))), h10.trans q2.env⟩
    exact ((((hf0.set (.inl rfl) 1 _).set (.inl rfl) 2 _).set (.inl rfl) 3 _).set (.inl rfl) 4 _).set (.inl rfl) 5 _
  · exact ⟨fun g hg => (h6 g hg).imp id (fun hh => by omega), fun k hk => (hD' k hk).imp id (fun hh => by omega)⟩
theorem dj_nextG {wr : World} {j : Nat} {r : Rc} (hi : DI w B p q S F s v sz D rs vr) (hj : rs[j]? = some r) (hr : r.ok) (hrun : runS s rs = .ok s2) (h : DJ w wr B p q S F s v sz D rs vr j) :
    Calls Tryz.prog 58 #[.pointer (some ⟨w.heap.size, 0, none⟩), .agg r.cells] wr fun e w' => e = .returned .nilIface ∧ DJ w w' B p q S F s v sz D rs vr (j + 1) ∧ KeepU wr w' := by
  obtain ⟨sj, h1, h2⟩ := dj_take hi hj hr h
  obtain ⟨s1, s3, q1, q2, q3⟩ := runS_step hrun hj
  obtain rfl : sj = s1 := by rw [h1] at q1; cases q1; rfl
  rw [q2] at h2
  exact h2

set_option maxHeartbeats 25600000 in
set_option maxRecDepth 100000 in
theorem do_gen (hi : DI w B p q S F s v sz D rs vr) (hlenB : (recsB rs).length ≤ 1000000) (hrs : ∀ r ∈ rs, r.ok) (hrun : runS s rs = .ok s2) (hW : WrP B p q S F s v sz D (recsB rs) s2 S2 F2 sz2) :
    Calls Tryz.prog 32 #[.pointer (some ⟨p, 0, none⟩), vr] w fun e w' => WDone w B p q S2 F2 s2 sz2 v D (WO p v D) e w' := by
  obtain ⟨va, vc, hvr, _⟩ := id hi.rl
  subst hvr
  obtain ⟨ea, ek, hev, _, _⟩ := hi.wx.el.slice
  have hfew := hi.few
  obtain ⟨c0, c1, c2, c3, c4, c5, c6, c7⟩ := hi.wx.cells
  have hpl := hi.wx.lt p (.inl rfl)
  have H0 := hide hi.start
  have HR : Hid (∀ (j : Nat) (wr : World), j < rs.length → DJ w wr B p q S F s v sz D rs (.slice va rs.length vc) j → ∃ (r : Rc) (b off : Nat), va = some ⟨b, off, none⟩ ∧ rs[j]? = some r ∧ (wr.cell? ⟨b, off + j * 8, none⟩ = some (.int .u8 (r.kind : Int)) ∧ wr.cell? ⟨b, off + j * 8 + 1, none⟩ = some (.int .u64 (r.term : Int)) ∧ wr.cell? ⟨b, off + j * 8 + 2, none⟩ = some (.int .u64 (r.place : Int)) ∧ wr.cell? ⟨b, off + j * 8 + 3, none⟩ = some (.int .u64 (r.ent.term : Int)) ∧ wr.cell? ⟨b, off + j * 8 + 4, none⟩ = some (.int .i64 r.ent.kind) ∧ wr.cell? ⟨b, off + j * 8 + 5, none⟩ = some (.int .u64 (r.ent.client : Int)) ∧ wr.cell? ⟨b, off + j * 8 + 6, none⟩ = some (.int .u64 (r.ent.seq : Int)) ∧ wr.cell? ⟨b, off + j * 8 + 7, none⟩ = some (.string r.ent.sql))) := by
    intro j wr hj h
    have hr : rs[j]? = some rs[j] := List.getElem?_eq_getElem hj
    obtain ⟨b, off, cap, e, hb, hc⟩ := h.rec hi hr
    cases e
    exact ⟨rs[j], b, off, rfl, hr, hc 0 _ rfl, hc 1 _ rfl, hc 2 _ rfl, hc 3 _ rfl, hc 4 _ rfl, hc 5 _ rfl, hc 6 _ rfl, hc 7 _ rfl⟩
  have HF : Hid (∀ (j : Nat) (r : Rc) (wr : World), rs[j]? = some r → DJ w wr B p q S F s v sz D rs (.slice va rs.length vc) j → Calls Tryz.prog 59 #[.agg r.cells] wr fun e w' => ∃ v', e = .returned (.tuple #[v', .nilIface]) ∧ w'.ownsRow wr.heap.size 5 1 v' r.bytes.length (byteCells r.bytes) ∧ Below wr.heap.size wr w') := by
    intro j r wr hj h
    have hr := hrs r (List.mem_of_getElem? hj)
    obtain ⟨k1, k2, k3, k4⟩ := rec_ok hr
    exact (frame_any r wr k1 k2 k3 k4 (h.ev hi).st).mono fun e w' hp => frame_good hp hr
  have HK : Hid (∀ (j : Nat) (r : Rc) (wr : World), rs[j]? = some r → DJ w wr B p q S F s v sz D rs (.slice va rs.length vc) j → Calls Tryz.prog 58 #[.pointer (some ⟨w.heap.size, 0, none⟩), .agg r.cells] wr fun e w' => e = .returned .nilIface ∧ DJ w w' B p q S F s v sz D rs (.slice va rs.length vc) (j + 1) ∧ KeepU wr w') := fun j r wr hj h => dj_nextG hi hj (hrs r (List.mem_of_getElem? hj)) hrun h
  have HAPP : Hid (∀ (j : Nat) (wr w1 : World), DJ w wr B p q S F s v sz D rs (.slice va rs.length vc) (j + 1) → KeepT 5 wr w1 → Below (w.heap.size + 1) wr w1 → DJ w w1 B p q S F s v sz D rs (.slice va rs.length vc) (j + 1)) := fun j wr w1 h hk hb => h.app hi hk hb
  have HL : Hid (∀ r ∈ rs, r.bytes.length ≤ 100009) := fun r hr => rc_len (hrs r hr)
  have HW := hide (fun (wr : World) (vb : Value) (h : DJ w wr B p q S F s v sz D rs (.slice va rs.length vc) rs.length) (ho : wr.ownsRow (w.heap.size + 1) 5 1 vb (recsB rs).length (byteCells (recsB rs))) => dj_endG hi hlenB hrun hW h ho)
  have hrl : (rs.length : Int) ≤ 900000 := by omega
  have HLB := hide hlenB
  clear hi hrs hrun hW hfew hlenB c0 c6 c7
  rw [hev] at c5
  unfold sC at H0
  have H0' : Hid (DJ w (w.alloc (.cells #[.int .u64 (s.term : Int), .int .u64 (s.vote : Int), .int .u64 (s.base : Int), .int .u64 (s.bt : Int), .slice ea s.es.length ek] 77)) B p q S F s v sz D rs (.slice va rs.length vc) 0) := (by rw [← hev]; exact unhide H0)
  clear H0
  have Hev := hide hev
  clear hev
  unfold Rc.cells at HF HK
  go_enter Tryz.func32, Tryz.ntmps32
  go_wp2_with fail
  go_loopw [6, 8, 9, 10, 18] (fun s6 s8 s9 s10 s18 wr => s8 = s8 ∧ s9 = s9 ∧ s10 = s10 ∧ ∃ j vb, j ≤ rs.length ∧ s18 = .int .i64 (j : Int) ∧ s6 = vb ∧ Hid (DJ w wr B p q S F s v sz D rs (.slice va rs.length vc) j ∧ wr.ownsRow (w.heap.size + 1) 5 1 vb (recsB (rs.take j)).length (byteCells (recsB (rs.take j))))) (fun _ _ _ _ s18 _ => rs.length - (RowKit.intOf s18).toNat)
  case atStart => exact ⟨rfl, rfl, rfl, 0, _, Nat.zero_le _, rfl, rfl, unhide H0', World.ownsRow_nil _ _ _ _⟩
  case round =>
    obtain ⟨-, -, -, j, vb, hj, rfl, rfl, hr⟩ := hrel
    clear H0'
    by_cases hlt : j < rs.length
    · obtain ⟨r, b, off, rfl, ha, d0, d1, d2, d3, d4, d5, d6, d7⟩ := unhide HR j wr hlt (unhide hr).1
      have hji : (j : Int) < (rs.length : Int) := by omega
      have hj0 : (0 : Int) ≤ (j : Int) := by omega
      have hb1 := box_below wr (.cells #[.int .u8 (r.kind : Int), .int .u64 (r.term : Int), .int .u64 (r.place : Int), .int .u64 (r.ent.term : Int), .int .i64 r.ent.kind, .int .u64 (r.ent.client : Int), .int .u64 (r.ent.seq : Int), .string r.ent.sql] 84)
      have V1 : Rv (wr.alloc (.cells #[.int .u8 (r.kind : Int), .int .u64 (r.term : Int), .int .u64 (r.place : Int), .int .u64 (r.ent.term : Int), .int .i64 r.ent.kind, .int .u64 (r.ent.client : Int), .int .u64 (r.ent.seq : Int), .string r.ent.sql] 84)) wr.heap.size #[.int .u8 (r.kind : Int), .int .u64 (r.term : Int), .int .u64 (r.place : Int), .int .u64 (r.ent.term : Int), .int .i64 r.ent.kind, .int .u64 (r.ent.client : Int), .int .u64 (r.ent.seq : Int), .string r.ent.sql] := heap_alloc_new _ _
      have HD1 := hide (And.intro ((unhide hr).1.below hb1) (own_later (unhide hr).2 hb1))
      have HV1 := hide V1
      have HF1 := hide (unhide HF j r _ ha (unhide HD1).1)
      have HK1 := hide (fun W h => unhide HK j r W ha h)
      have hrl2 := unhide HL r (List.mem_of_getElem? ha)
      have hst := recsB_len rs j r ha
      have Hst := hide hst
      have hrb : recsB (rs.take (j + 1)) = recsB (rs.take j) ++ r.bytes := by rw [List.take_add_one, ha, recsB_app]; simp [recsB]
      have Hrb := hide hrb
      have hle : (recsB (rs.take j)).length ≤ 1000000 := by
        have h1 := atJ_le rs [] j
        rw [List.append_nil] at h1
        exact Nat.le_trans h1 (unhide HLB)
      clear hb1 V1 hr hst hrb ha
      go_wp2_with (first
        | (go_at_call 59; refine (unhide HF1).mono ?_; rintro e w2 ⟨v2, rfl, o2, b2⟩; have r0 : Rv w2 wr.heap.size _ := (b2.block _ (Array.getElem?_eq_some_iff.1 (unhide HV1)).1).trans (unhide HV1); obtain ⟨x0, x1, x2, x3, x4, x5, x6, x7⟩ := r0.cells; have HD2 := hide (And.intro ((unhide HD1).1.below b2) (And.intro (own_later (unhide HD1).2 b2) o2)); have hz2 := hide (And.intro b2.size ((unhide HD1).1)); clear o2 b2 r0 HD1 HV1 HF1)
        | (go_at_call 58; refine (unhide HK1 _ (unhide HD2).1).mono ?_; rintro e w3 ⟨rfl, h3, hku⟩; have HD3 := hide (And.intro h3 (And.intro (hku.own (unhide HD2).2.1) (hku.own (unhide HD2).2.2))); clear h3 hku HD2 HK1)
        | (at_builtin; refine wpList_append_rb rfl (.tmp 34) (.tmp 35) rfl (w.heap.size + 1) _ _ _ rfl (unhide HD3).2.1 _ _ r.bytes rfl (rb_own (unhide HD3).2.2 (by omega)) (by omega) (by omega) (by obtain ⟨sj, cj, vj, q1, q2, q3, q4, q5, q6, q7, q8, q9, q10⟩ := (unhide HD3).1; omega) ?_; intro v4 w4 o4 k4 b4))
      refine ⟨⟨trivial, trivial, trivial, j + 1, v4, by omega, by simp, rfl, ?_, ?_⟩, ?_⟩
      · exact unhide HAPP j w3 w4 (unhide HD3).1 k4 b4
      · rw [unhide Hrb, List.length_append]
        exact own_cast2 o4 rfl (by simp [byteCells_append])
      · simp [RowKit.intOf]; omega
    · obtain rfl : j = rs.length := by omega
      have hji : ¬ ((rs.length : Int) < (rs.length : Int)) := by omega
      obtain ⟨h1, h2⟩ := unhide hr
      rw [List.take_length] at h2
      obtain ⟨a3, k3, n5, hw⟩ := unhide HW wr _ h1 h2
      have HWr := hide hw
      obtain ⟨y0, y1, y2, y3, y4⟩ := n5
      clear hr h1 h2 hw HR HF HK hlt
      unfold sC at HWr
      go_wp2_with (first
        | (go_at_call 60; refine (unhide HWr).mono ?_; rintro e w5 ⟨rfl, n5, ⟨a5, k5, s5, z1, z2, z3, z4, z5⟩, fz, HE⟩; obtain ⟨x0, x1, x2, x3, x4⟩ := n5; have f1 := fz 1; have f2 := fz 2; have f3 := fz 3; have f4 := fz 4; have f5 := fz 5; clear HWr fz))
      go_ret
      exact unhide HE
end
end Go.Proofs.YthphadbcebeoaaaGreatDoor
