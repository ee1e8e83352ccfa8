/- A wal: write. -/
import Derived.Test.YthphadbcebeoaaaGreatDoorJWaDiskWaW
import Derived.Test.YthphadbcebeoaaaGreatDoorJDErrsDState
import Derived.Deep.LoopGhost
namespace Go.Proofs.YthphadbcebeoaaaGreatDoor
open Go.RowKit Go.Lib Go.Maps

section
variable {w w1 w' : World} {B p q sz n : Nat} {S : Dk.St} {R : Int} {a x : Fx} {s : Sta} {v : Value} {D : Nat → Prop} {F : List Dk.Ent} {e : Ending} {c : Int}
theorem fro_pre {O : Nat → Prop} (h : Dk.FrO O w1 w') (hb : Below w.heap.size w w1) : Dk.FrO O w w' := ⟨Nat.le_trans hb.size h.size, fun k hk hn => (h.blk k (Nat.lt_of_lt_of_le hk hb.size) hn).trans (hb.block k hk), Dk.Env.trans ⟨hb.os, hb.tape, hb.output⟩ h.env⟩
theorem WDone.pre {O : Nat → Prop} (h : WDone w1 B p q S F s sz v D O e w') (hb : Below w.heap.size w w1) : WDone w B p q S F s sz v D O e w' := by
  obtain ⟨v', D', h1, h2, h3, h4, h5⟩ := h
  exact ⟨v', D', h1, h2, fro_pre h3 hb, fun k hk => (h4 k hk).imp id (fun hh => Nat.le_trans hb.size hh), fun k hk => (h5 k hk).imp id (fun hh => Nat.le_trans hb.size hh)⟩
theorem WCut.pre {O : Nat → Prop} (h : WCut w1 B p q S F s sz v D O c e w') (hb : Below w.heap.size w w1) : WCut w B p q S F s sz v D O c e w' := by
  obtain ⟨b, D', h1, h2, h3, h4, h5, h6⟩ := h
  exact ⟨b, D', h1, h2, Nat.le_trans hb.size h3, h4, fro_pre h5 hb, fun k hk => (h6 k hk).imp id (fun hh => Nat.le_trans hb.size hh)⟩
def sC (s : Sta) (v : Value) : Array Value := #[.int .u64 (s.term : Int), .int .u64 (s.vote : Int), .int .u64 (s.base : Int), .int .u64 (s.bt : Int), v]
theorem rbo_below {O : Nat → Prop} {vb : Value} {lb : List UInt8} (h : Dk.RBo w O vb lb) (hb : Below w.heap.size w w1) : Dk.RBo w1 O vb lb := by
  obtain ⟨h1, h2 | ⟨b, off, cap, hbl, hn, h3, h4, rfl, hc⟩⟩ := h
  · exact ⟨h1, .inl h2⟩
  · exact ⟨h1, .inr ⟨b, off, cap, Nat.lt_of_lt_of_le hbl hb.size, hn, h3, h4, rfl, fun i hi => (hb.cell (p := ⟨b, off + i, none⟩) hbl).trans (hc i hi)⟩⟩
set_option maxHeartbeats 6400000 in
set_option maxRecDepth 100000 in
theorem write_go (s2 : Sta) (v2 vb : Value) (lb : List UInt8) (h : WX w B p q S (FX a x) s v sz D) (hB : B ≤ w.heap.size) (hE : EV w B) (hS : OkS S R n) (hm : Roomy R a x lb.length) (hv : Dk.RBo w D vb lb) (hf : ¬ Fails S) (hz : sz + lb.length ≤ 32768) :
    Calls Tryz.prog 60 #[.pointer (some ⟨p, 0, none⟩), .agg (sC s2 v2), vb] w fun e w' => WDone w B p q (nx S) (FX a (some (dB x ++ lb, dS x))) s (sz + lb.length) v D (PD p D) e w' := by
  obtain ⟨ba, bk, rfl⟩ := hv.slice
  have b1 := box_below w (.cells (sC s2 v2) 77)
  have b2 : Below w.heap.size w (w.alloc (.cells (sC s2 v2) 77)).drew := below_trans0 b1 (drew_below _ 1)
  have hz2 : w.heap.size ≤ (w.alloc (.cells (sC s2 v2) 77)).drew.heap.size := b2.size
  have HL := hide (leng_go (.slice ba lb.length bk) lb (h.below b2) (Nat.le_trans hB hz2) (hE.below (b2.mono hB)) hS hm (rbo_below hv b2) hf (by omega))
  have HB := hide b2
  obtain ⟨_, _, _, _, _, _, c6, c7⟩ := h.cells
  have hpl := h.lt p (.inl rfl)
  have hn1 : ¬ p = w.heap.size := by omega
  have hn2 : ¬ w.heap.size = p := by omega
  have hlt : ¬ ((32768 : Int) < (sz : Int) + (lb.length : Int)) := by omega
  have hw : IntKind.i64.wrap ((sz : Int) + (lb.length : Int)) = (sz : Int) + (lb.length : Int) := by rw [IntKind.wrap_i64] <;> omega
  clear h hE hS hm hv hf hB b1 b2 hz hz2
  unfold sC at *
  go_enter Tryz.func60, Tryz.ntmps60
  go_wp2_with fail
  go_region
  all_goals
    go_wp2_with (first
      | (go_at_call 82; refine (unhide HL).mono ?_; rintro e w1 h1; clear HL; obtain ⟨v', D', rfl, h1'⟩ := id h1; have H1 := hide (h1.pre (unhide HB)); clear h1 h1')
      | (go_at_call 29; refine (is_nil _ _).mono ?_; rintro e w2 ⟨rfl, rfl⟩))
    go_ret
    exact unhide H1
set_option maxHeartbeats 6400000 in
set_option maxRecDepth 100000 in
theorem write_cut (s2 : Sta) (v2 vb : Value) (lb : List UInt8) (h : WX w B p q S (FX a x) s v sz D) (hB : B ≤ w.heap.size) (hE : EV w B) (hS : OkS S R n) (hm : Roomy R a x lb.length) (hv : Dk.RBo w D vb lb) (hf : Fails S) (hz : sz + lb.length ≤ 32768) :
    Calls Tryz.prog 60 #[.pointer (some ⟨p, 0, none⟩), .agg (sC s2 v2), vb] w fun e w' => WCut w B p q (dn S) (FX a x) s sz v D (PD p D) 32 e w' := by
  obtain ⟨ba, bk, rfl⟩ := hv.slice
  have b1 := box_below w (.cells (sC s2 v2) 77)
  have b2 : Below w.heap.size w (w.alloc (.cells (sC s2 v2) 77)).drew := below_trans0 b1 (drew_below _ 1)
  have hz2 : w.heap.size ≤ (w.alloc (.cells (sC s2 v2) 77)).drew.heap.size := b2.size
  have HL := hide (leng_cut (.slice ba lb.length bk) lb (h.below b2) (Nat.le_trans hB hz2) (hE.below (b2.mono hB)) hS hm (rbo_below hv b2) hf)
  have HB := hide b2
  obtain ⟨_, _, _, _, _, _, c6, c7⟩ := h.cells
  have hpl := h.lt p (.inl rfl)
  have hn1 : ¬ p = w.heap.size := by omega
  have hn2 : ¬ w.heap.size = p := by omega
  have hlt : ¬ ((32768 : Int) < (sz : Int) + (lb.length : Int)) := by omega
  have hw : IntKind.i64.wrap ((sz : Int) + (lb.length : Int)) = (sz : Int) + (lb.length : Int) := by rw [IntKind.wrap_i64] <;> omega
  clear h hE hS hm hv hf hB b1 b2 hz hz2
  unfold sC at *
  go_enter Tryz.func60, Tryz.ntmps60
  go_wp2_with fail
  go_region
  all_goals
    go_wp2_with (first
      | (go_at_call 82; refine (unhide HL).mono ?_; rintro e w1 h1; clear HL; obtain ⟨b, D', rfl, he, _⟩ := id h1; have H1 := hide (h1.pre (unhide HB)); have HI := hide (Dk.is_placed b 32 31 w1 he); clear h1 he)
      | (go_at_call 29; refine (unhide HI).mono ?_; rintro e w2 ⟨rfl, rfl⟩))
    go_ret
    exact unhide H1
end
end Go.Proofs.YthphadbcebeoaaaGreatDoor
/- A wal: what stands between two records of a call. -/
namespace Go.Proofs.YthphadbcebeoaaaGreatDoor
open Go.RowKit Go.Lib Go.Maps

/-- A row of records. -/
def RL (w : World) (v : Value) (rs : List Rc) : Prop :=
  ∃ a cap, v = .slice a rs.length cap ∧ ∀ i r, rs[i]? = some r → ∃ b off, a = some ⟨b, off, none⟩ ∧ b < w.heap.size ∧ ∀ j u, r.cells[j]? = some u → w.cell? ⟨b, off + i * 8 + j, none⟩ = some u
theorem WX.setState {w : World} {B p q sz : Nat} {S : Dk.St} {F : List Dk.Ent} {s s2 : Sta} {v v2 : Value} {D : Nat → Prop} (h : WX w B p q S F s v sz D) (he : EL w v2 s2.es) (ha : ¬ inB v2 p) (hd : ∀ g, inB v2 g → ¬ D g) (hb : ∀ g, inB v2 g → B ≤ g) :
    WX (((((w.setCell ⟨p, 1, none⟩ (.int .u64 (s2.term : Int))).setCell ⟨p, 2, none⟩ (.int .u64 (s2.vote : Int))).setCell ⟨p, 3, none⟩ (.int .u64 (s2.base : Int))).setCell ⟨p, 4, none⟩ (.int .u64 (s2.bt : Int))).setCell ⟨p, 5, none⟩ v2) B p q S F s2 v2 sz D := by
  have hne : ∀ k, k ≠ p → (((((w.setCell ⟨p, 1, none⟩ (.int .u64 (s2.term : Int))).setCell ⟨p, 2, none⟩ (.int .u64 (s2.vote : Int))).setCell ⟨p, 3, none⟩ (.int .u64 (s2.base : Int))).setCell ⟨p, 4, none⟩ (.int .u64 (s2.bt : Int))).setCell ⟨p, 5, none⟩ v2).heap[k]? = w.heap[k]? := fun k hk => by
    rw [Dk.heap_setCell_ne _ _ hk, Dk.heap_setCell_ne _ _ hk, Dk.heap_setCell_ne _ _ hk, Dk.heap_setCell_ne _ _ hk, Dk.heap_setCell_ne _ _ hk]
  exact ⟨(Dk.heap_setCell_at (Dk.heap_setCell_at (Dk.heap_setCell_at (Dk.heap_setCell_at (Dk.heap_setCell_at h.blk _ _) _ _) _ _) _ _) _ _).trans rfl, he.keep (fun g hg => hne g (fun e => ha (e ▸ hg))), h.dx.fr (by simp) (fun k hk => hne k (fun e => h.dp (e ▸ hk))), ha, h.dp, hd, h.bp, hb, h.bd⟩
/-- What a call's records are handed with. -/
structure DI (w : World) (B p q : Nat) (S : Dk.St) (F : List Dk.Ent) (s : Sta) (v : Value) (sz : Nat) (D : Nat → Prop) (rs : List Rc) (vr : Value) : Prop where
  wx : WX w B p q S F s v sz D
  bz : B ≤ w.heap.size
  ev : EV w B
  ok : s.ok
  rl : RL w vr rs
  far : ∀ b, inB vr b → ¬ WO p v D b
  few : s.es.length + rs.length ≤ 900000
  kind : (∀ r ∈ rs, r.kind = 4 ∨ r.kind = 1) ∨ rs.length ≤ 1
/-- Behind j records: the next state at block nb. -/
def DJ (w wr : World) (B p q : Nat) (S : Dk.St) (F : List Dk.Ent) (s : Sta) (v : Value) (sz : Nat) (D : Nat → Prop) (rs : List Rc) (_vr : Value) (j : Nat) : Prop :=
  ∃ sj cj vj, runS s (rs.take j) = .ok sj ∧ sj.ok ∧ sj.es.length ≤ s.es.length + j ∧ SE wr w.heap.size 0 77 cj sj vj ∧ cj.size = 5 ∧ (∀ g, inB vj g → inB v g ∨ w.heap.size < g) ∧ WX wr B p q S F s v sz D ∧ (∀ k, k < w.heap.size → ¬ inB v k → wr.heap[k]? = w.heap[k]?) ∧ w.heap.size < wr.heap.size ∧ Dk.Env w wr ∧ (Pre v vj ∨ j = rs.length)
section
variable {w wr w1 : World} {B p q sz j : Nat} {S : Dk.St} {F : List Dk.Ent} {s : Sta} {v vr : Value} {D : Nat → Prop} {rs : List Rc}
theorem DJ.below (h : DJ w wr B p q S F s v sz D rs vr j) (hb : Below wr.heap.size wr w1) : DJ w w1 B p q S F s v sz D rs vr j := by
  obtain ⟨sj, cj, vj, h1, h2, h3, h4, h5, h6, h7, h8, h9, h10, h11⟩ := h
  exact ⟨sj, cj, vj, h1, h2, h3, h4.below hb, h5, h6, h7.below hb, fun k hk hn => (hb.block k (by omega)).trans (h8 k hk hn), Nat.lt_of_lt_of_le h9 hb.size, h10.trans ⟨hb.os, hb.tape, hb.output⟩, h11⟩
/-- Blocks from some new one on turn. -/
theorem DJ.lat {n : Nat} (h : DJ w wr B p q S F s v sz D rs vr j) (hn : wr.heap.size ≤ n) (hb : Below n wr w1) : DJ w w1 B p q S F s v sz D rs vr j := h.below (hb.mono hn)
theorem DI.start (hi : DI w B p q S F s v sz D rs vr) : DJ w (w.alloc (.cells (sC s v) 77)) B p q S F s v sz D rs vr 0 := by
  have hb := box_below w (.cells (sC s v) 77)
  have hn : (w.alloc (.cells (sC s v) 77)).heap[w.heap.size]? = some (.cells (sC s v) 77 (0, 0)) := heap_alloc_new _ _
  exact ⟨s, sC s v, v, rfl, hi.ok, by omega, ⟨⟨hn, rfl, rfl, rfl, rfl, rfl⟩, hi.wx.el.below hb, fun hh => by have := hi.wx.lt _ (.inr (.inl hh)); omega⟩, rfl, fun _ hg => .inl hg, hi.wx.below hb, fun k hk _ => hb.block k hk, by simp, ⟨hb.os, hb.tape, hb.output⟩, .inl (Pre.self v)⟩
theorem DJ.ev (h : DJ w wr B p q S F s v sz D rs vr j) (hi : DI w B p q S F s v sz D rs vr) : EV wr B := by
  obtain ⟨sj, cj, vj, h1, h2, h3, h4, h5, h6, h7, h8, h9, h10, h11⟩ := h
  exact hi.ev.below ⟨h10.1, h10.2.1, h10.2.2, by omega, fun k hk => h8 k (by have := hi.bz; omega) (fun hh => by have := hi.wx.bv k hh; omega)⟩
/-- The next record's cells. -/
theorem DJ.rec {r : Rc} (h : DJ w wr B p q S F s v sz D rs vr j) (hi : DI w B p q S F s v sz D rs vr) (hj : rs[j]? = some r) : ∃ b off cap, vr = .slice (some ⟨b, off, none⟩) rs.length cap ∧ b < w.heap.size ∧ ∀ k u, r.cells[k]? = some u → wr.cell? ⟨b, off + j * 8 + k, none⟩ = some u := by
  obtain ⟨sj, cj, vj, h1, h2, h3, h4, h5, h6, h7, h8, h9, h10, h11⟩ := h
  obtain ⟨a, cap, rfl, hr⟩ := hi.rl
  obtain ⟨b, off, rfl, hb, hc⟩ := hr j r hj
  have hk := h8 b hb (fun hh => hi.far b ⟨_, _, _, rfl⟩ (.inr (.inl hh)))
  exact ⟨b, off, cap, rfl, hb, fun k u hu => (World.cell?_of_block hk).trans (hc k u hu)⟩
/-- Rows of bytes stay. -/
def KeepU (w w' : World) : Prop := ∀ (g : Nat) (cur : Array Value), w.heap[g]? = some (.cells cur 5 (0, 0)) → w'.heap[g]? = w.heap[g]?
theorem KeepU.own {a b : World} (h : KeepU a b) {Q n : Nat} {u : Value} {xs : List Value} (ho : a.ownsRow Q 5 1 u n xs) : b.ownsRow Q 5 1 u n xs := by
  obtain ⟨h1, h2 | ⟨g, cap, cur, q3, q4, q5, q6⟩⟩ := ho
  · exact ⟨h1, .inl h2⟩
  · exact ⟨h1, .inr ⟨g, cap, cur, q3, q4, (h g cur q5).trans q5, q6⟩⟩
/-- The next record is taken: the state behind it, or a refusal. -/
theorem dj_take {r : Rc} (hi : DI w B p q S F s v sz D rs vr) (hj : rs[j]? = some r) (hr : r.ok) (h : DJ w wr B p q S F s v sz D rs vr j) :
    ∃ sj, runS s (rs.take j) = .ok sj ∧ Calls Tryz.prog 58 #[.pointer (some ⟨w.heap.size, 0, none⟩), .agg r.cells] wr fun e w' => match takeS sj r with
      | .ok _ => e = .returned .nilIface ∧ DJ w w' B p q S F s v sz D rs vr (j + 1) ∧ KeepU wr w'
      | .error c => RefP (c : Int) wr e w' := by
  obtain ⟨sj, cj, vj, h1, h2, h3, h4, h5, h6, h7, h8, h9, h10, h11⟩ := h
  have hjl := (List.getElem?_eq_some_iff.1 hj).1
  have hfew := hi.few
  have hpre : Pre v vj := h11.resolve_right (by omega)
  have hnv : ¬ inB v w.heap.size := fun hh => by have := hi.wx.lt _ (.inr (.inl hh)); omega
  refine ⟨sj, h1, (take_any r h4 h2 hr).mono ?_⟩
  intro e w' ht
  have hrun : runS s (rs.take (j + 1)) = match takeS sj r with | .ok s2 => .ok s2 | .error c => .error c := by
    rw [List.take_add_one, hj, runS_app h1]
    simp only [Option.toList, runS]
    cases takeS sj r <;> rfl
  cases hk : takeS sj r with
  | error c => rw [hk] at ht; exact ht
  | ok s2 =>
    rw [hk] at ht hrun
    obtain ⟨rfl, ⟨⟨c2, v2, q1, q2, q3, q4⟩, q5, q6, q7, q8⟩⟩ := ht
    have hkeep : ∀ k, WO p v D k → ¬ inB v k → w'.heap[k]? = wr.heap[k]? := fun k hk hn => by
      have hlt := hi.wx.lt k hk
      refine q6 k (by omega) (by omega) (fun hh => ?_)
      rcases h6 k hh with h' | h'
      · exact hn h'
      · omega
    have hku : KeepU wr w' := fun g cur hg => by
      refine q6 g (Array.getElem?_eq_some_iff.1 hg).1 (fun e => ?_) (fun hh => ?_)
      · subst e
        have := (Obj.cells.inj (Option.some.inj (hg.symm.trans h4.sb.blk))).2.1
        exact absurd this (by decide)
      · rcases h4.el with ⟨e1, _⟩ | ⟨g', off', k', cur', e1, e2, _⟩
        · obtain ⟨_, _, _, e3⟩ := hh
          rw [e1] at e3; cases e3
        · obtain ⟨_, _, _, e3⟩ := hh
          rw [e1] at e3; cases e3
          have := (Obj.cells.inj (Option.some.inj (hg.symm.trans e2))).2.1
          exact absurd this (by decide)
    refine ⟨rfl, ⟨s2, c2, v2, hrun, takeS_ok h2 hr (by omega) hk, by have := takeS_len hk; omega, q1, q2.1.trans h5, fun g hg => ?_, ?_, fun k hk' hn => ?_, by omega, h10.trans q8, ?_⟩, hku⟩
    · rcases q3 g hg with h' | h'
      · exact h6 g h'
      · exact .inr (by omega)
    · exact ⟨(hkeep p (.inl rfl) hi.wx.ap).trans h7.blk, q5 v s.es h7.el hpre hnv, h7.dx.fr (by omega) (fun k hk' => hkeep k (.inr (.inr hk')) (fun hh => hi.wx.dv k hh hk')), h7.ap, h7.dp, h7.dv, h7.bp, h7.bv, h7.bd⟩
    · refine (q6 k (by omega) (by omega) (fun hh => ?_)).trans (h8 k hk' hn)
      rcases h6 k hh with h' | h'
      · exact hn h'
      · omega
    · rcases hi.kind with hk' | hk'
      · exact .inl (q4 (hk' r (List.mem_of_getElem? hj)) v s.es h7.el hpre)
      · exact .inr (by omega)
end
end Go.Proofs.YthphadbcebeoaaaGreatDoor
