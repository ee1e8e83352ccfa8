/- Contracts of package wire's reader of replies and messages. -/
import Derived.Test.YtahpfhnekmilmaaGreatDoorRLists
import Derived.Lib.BufferMore
import Derived.Laws.IdiomCopy
import Derived.Deep.CutRange
import Derived.Deep.MidRow
namespace Go.Proofs.YtahpfhnekmilmaaGreatDoor
open Go.RowKit Go.Lib

/-- A variable of a call's own, cell by cell. -/
def Blk (w : World) (E : Nat) (T : TypeId) (cs : Array Value) : Prop := w.heap[E]? = some (.cells cs T (0, 0))
theorem Blk.lt {w : World} {E : Nat} {T : TypeId} {cs : Array Value} (h : Blk w E T cs) : E < w.heap.size := by
  rcases Nat.lt_or_ge E w.heap.size with h' | h'
  · exact h'
  · unfold Blk at h; rw [Array.getElem?_eq_none h'] at h; cases h
theorem Blk.new (w : World) (T : TypeId) (cs : Array Value) : Blk (w.alloc (.cells cs T)) w.heap.size T cs := heap_alloc_new _ _
theorem Blk.alloc {w : World} {E : Nat} {T : TypeId} {cs : Array Value} (h : Blk w E T cs) (o : Obj) : Blk (w.alloc o) E T cs := (Below.heap_alloc w o E h.lt).trans h
theorem Blk.fq {w w' : World} {E p : Nat} {T : TypeId} {cs : Array Value} (h : Blk w E T cs) (hf : Fq p w w') (hne : E ≠ p) : Blk w' E T cs := (hf.2 E h.lt hne).trans h
theorem Blk.other {w : World} {E k j : Nat} {T : TypeId} {cs : Array Value} (h : Blk w E T cs) (hne : E ≠ k) (u : Value) : Blk (w.setCell ⟨k, j, none⟩ u) E T cs := (Below.heap_setCell w ⟨k, j, none⟩ u E hne).trans h
theorem Blk.set {w : World} {E : Nat} {T : TypeId} {cs : Array Value} (h : Blk w E T cs) (j : Nat) (u : Value) : Blk (w.setCell ⟨E, j, none⟩ u) E T (cs.setIfInBounds j u) := Go.Lib.heap_setCell_same h u
theorem Blk.cell {w : World} {E : Nat} {T : TypeId} {cs : Array Value} (h : Blk w E T cs) (i : Nat) (v : Value) (hi : cs[i]? = some v) : w.cell? ⟨E, i, none⟩ = some v := by
  unfold Blk at h
  simp [World.cell?, h, hi]
theorem Blk.range {w : World} {E : Nat} {T : TypeId} {vs : List Value} (h : Blk w E T vs.toArray) : w.rangeAt E 0 vs := fun j v hv => by
  rw [Nat.zero_add]; exact h.cell j v (by simpa using hv)
theorem Blk.free {w : World} {E : Nat} {T : TypeId} {cs : Array Value} (h : Blk w E T cs) (i : Nat) : w.frozen? ⟨E, i, none⟩ = false := by
  unfold Blk at h
  simp [World.frozen?, h]
theorem Blk.there {w : World} {E n : Nat} {T : TypeId} {cs : Array Value} (h : Blk w E T cs) (hn : cs.size = n) : w.there E 0 n := fun j hj => by
  rw [Nat.zero_add, h.cell j cs[j] (by simp)]
  exact ⟨rfl, h.free j⟩
/-- All cells written over, one by one. -/
abbrev over (w : World) (E i : Nat) (vs : List Value) : World := w.setCells E i vs
theorem over_other (E : Nat) : ∀ (vs : List Value) (w : World) (i k : Nat), k ≠ E → (over w E i vs).heap[k]? = w.heap[k]?
  | [], w, i, k, _ => rfl
  | v :: r, w, i, k, h => by
    show ((w.setCell ⟨E, i, none⟩ v).setCells E (i + 1) r).heap[k]? = _
    rw [show ((w.setCell ⟨E, i, none⟩ v).setCells E (i + 1) r).heap[k]? = _ from over_other E r _ _ k h]; exact Below.heap_setCell w ⟨E, i, none⟩ v k h
theorem over_size (E : Nat) : ∀ (vs : List Value) (w : World) (i : Nat), (over w E i vs).heap.size = w.heap.size
  | [], w, i => rfl
  | v :: r, w, i => by
    show ((w.setCell ⟨E, i, none⟩ v).setCells E (i + 1) r).heap.size = _
    rw [show ((w.setCell ⟨E, i, none⟩ v).setCells E (i + 1) r).heap.size = _ from over_size E r _ _]; simp
theorem addr_add (E j : Nat) : (⟨E, 0, none⟩ : Addr).add j = ⟨E, j, none⟩ := by unfold Addr.add; split <;> simp_all
theorem Blk.load {P : Program} {w : World} {E n : Nat} {T : TypeId} {cs : Array Value} (h : Blk w E T cs) (hn : cs.size = n) : (loadCellsFrom ⟨E, 0, none⟩ 0 n #[]).run P w = .ok cs w := by
  subst hn
  have := run_loadCells_list (P := P) w ⟨E, 0, none⟩ cs.toList (fun j v hv => by rw [addr_add]; exact h.cell j v (by simpa using hv))
  simpa [loadCells] using this
theorem Blk.store {P : Program} {w : World} {E : Nat} {T : TypeId} {cs : Array Value} (h : Blk w E T cs) (vs : List Value) (hn : cs.size = vs.length) (h1 : ∀ v ∈ vs, v.oneCell' = true) : (storeCells ⟨E, 0, none⟩ vs 0).run P w = .ok () (over w E 0 vs) := by
  have := run_storeCells_cells (P := P) E 0 vs 0 w (fun j hj => by
    rw [Nat.zero_add, h.cell j cs[j] (by simp)]; rfl) (fun j hj => h.free _) h1
  simpa using this
theorem Blk.reload {P : Program} {w : World} {E n : Nat} {T : TypeId} {cs : Array Value} (h : Blk w E T cs) (vs : List Value) (hn : cs.size = vs.length) (hn' : vs.length = n) : (loadCellsFrom ⟨E, 0, none⟩ 0 n #[]).run P (over w E 0 vs) = .ok vs.toArray (over w E 0 vs) := by
  subst hn'
  have := run_loadCells_list (P := P) (over w E 0 vs) ⟨E, 0, none⟩ vs (fun j v hv => by
    obtain ⟨hj, rfl⟩ := List.getElem?_eq_some_iff.1 hv
    have := World.cell?_setCells_in E vs 0 w (fun j hj => by rw [Nat.zero_add, h.cell j cs[j] (by simp)]; rfl) j hj
    rw [addr_add]
    rwa [Nat.zero_add] at this)
  simpa [loadCells] using this
/-- A reader stays where another block is written that is no fault's. -/
theorem RS.swap {w w' : World} {p E : Nat} {l : List UInt8} {s : Except Nat Nat} {x : Int} (h : RS w p l s) (hb : ∀ k, k ≠ E → w'.heap[k]? = w.heap[k]?) (hp : p < E) (hx : w.cell? ⟨E, 1, none⟩ = some (.int .i64 x)) : RS w' p l s := by
  have cell : ∀ k j, k ≠ E → w'.cell? ⟨k, j, none⟩ = w.cell? ⟨k, j, none⟩ := fun k j hk => World.cell?_of_block (w := w) (a := ⟨k, j, none⟩) (hb k hk)
  have froz : ∀ k j, k ≠ E → w'.frozen? ⟨k, j, none⟩ = w.frozen? ⟨k, j, none⟩ := fun k j hk => World.frozen?_of_block (w := w) (a := ⟨k, j, none⟩) (hb k hk)
  obtain ⟨hE, hG, f1, f2, ⟨v, h0, hv⟩, hs⟩ := h
  have hpE : p ≠ E := by omega
  refine ⟨?_, hG, (froz p 1 hpE).trans f1, (froz p 2 hpE).trans f2, ⟨v, (cell p 0 hpE).trans h0, ?_⟩, ?_⟩
  · unfold ET at hE ⊢
    rw [cell _ 0 (by omega)]; exact hE
  · obtain ⟨g1, g2 | ⟨b, off, cap, hbB, hc, hm, rfl, hcell⟩⟩ := hv
    · exact ⟨g1, .inl g2⟩
    · exact ⟨g1, .inr ⟨b, off, cap, hbB, hc, hm, rfl, fun i hi => (cell b (off + i) (by omega)).trans (hcell i hi)⟩⟩
  · cases s with
    | ok a => exact ⟨hs.1, (cell p 1 hpE).trans hs.2.1, (cell p 2 hpE).trans hs.2.2⟩
    | error c =>
      obtain ⟨a, b, pl, k1, k2, k3, k4, k5⟩ := hs
      have hbE : b ≠ E := by
        rintro rfl
        rw [k5.2] at hx; cases hx
      exact ⟨a, b, pl, k1, (cell p 1 hpE).trans k2, (cell p 2 hpE).trans k3, k4, (cell b 0 hbE).trans k5.1, (cell b 1 hbE).trans k5.2⟩
theorem Fq.over {p E : Nat} {a : World} (hE : a.heap.size ≤ E) (hp : p ≤ E) : ∀ (vs : List Value) (w : World) (i : Nat), Fq p a w → Fq p a (over w E i vs)
  | [], _, _, h => h
  | v :: r, _, i, h => Fq.over hE hp r _ (i + 1) (h.setNew hE hp i v)
theorem Hi.swap {B E : Nat} {a w w' : World} (h : Hi B a w) (hs : w'.heap.size = w.heap.size) (hb : ∀ k, k ≠ E → w'.heap[k]? = w.heap[k]?) (hE : E < B) : Hi B a w' :=
  ⟨by rw [hs]; exact h.1, fun k hk hl => (hb k (by omega)).trans (h.2 k hk hl)⟩
theorem OwR.weaker {w : World} {B B' : Nat} {v : Value} {rs : List (List GV)} (h : OwR w B v rs) (hB : B' ≤ B) : OwR w B' v rs := by
  obtain ⟨vs, h1, h2, h3⟩ := h
  exact ⟨vs, h1, own_weaker hB h2, fun i u gs hu hg => own_weaker hB (h3 i u gs hu hg)⟩
theorem Codec.ok_of {α : Type} {V : α → Prop} {R : List UInt8 → Except Nat Nat → α × Except Nat Nat} {E : α → Option (List UInt8)} {K : Nat} (C : Codec V R E K) {l : List UInt8} {s : Except Nat Nat} {a : Nat} (h : (R l s).2 = .ok a) : ∃ a', s = .ok a' := by
  cases s with
  | error c => rw [C.err] at h; cases h
  | ok a' => exact ⟨a', rfl⟩

set_option maxHeartbeats 1600000 in
theorem rtruth_any (p : Nat) (l : List UInt8) (s : Except Nat Nat) (w : World) (h : RS w p l s) :
    Calls Tryz.prog 58 #[.pointer (some ⟨p, 0, none⟩)] w fun e w' => e = .returned (.bool (rdTru l s).1) ∧ RS w' p l (rdTru l s).2 ∧ Fq p w w' := by
  have HU := hide (upTo_any p 1 l s w h)
  have hb : (((rdUp l 1 s).1 : Int) == 1) = (rdTru l s).1 := by
    show (((rdUp l 1 s).1 : Int) == 1) = ((rdUp l 1 s).1 == 1)
    generalize (rdUp l 1 s).1 = n
    by_cases h : n = 1
    · subst h; rfl
    · have h1 : ((n : Int) == 1) = false := by rw [beq_eq_false_iff_ne]; omega
      have h2 : (n == 1) = false := by simp [h]
      rw [h1, h2]
  have HT := hide hb
  have e2 : (rdTru l s).2 = (rdUp l 1 s).2 := rfl
  rw [e2]
  generalize (rdTru l s).1 = t at *
  generalize rdUp l 1 s = r at *
  clear h hb e2
  go_enter Tryz.func58, Tryz.ntmps58
  go_wp2_with (go_at_call 67; refine (unhide HU).mono ?_; rintro e w1 ⟨rfl, hr1, hf1⟩)
  go_ret
  exact ⟨ret_bool (unhide HT), hr1, hf1⟩

theorem rnum_p (p : Nat) (l : List UInt8) (s : Except Nat Nat) (w : World) (h : RS w p l s) :
    Calls Tryz.prog 55 #[.pointer (some ⟨p, 0, none⟩)] w fun e w' => e = .returned (.int .u64 ((rdMax l s).1 : Int)) ∧ RS w' p l (rdMax l s).2 ∧ Fq p w w' := rnumber_any p l s w h

/-- What bytes.Clone tells: a row of the call's own. -/
def CloneOf (w : World) (lb : List UInt8) (v' : Value) (w' : World) : Prop := w'.ownsRow w.heap.size 5 1 v' lb.length (byteCells lb)
set_option maxHeartbeats 1600000 in
set_option maxRecDepth 100000 in
theorem clone_own (v : Value) (B : Nat) (lb : List UInt8) (w : World) (hv : RBp w B v lb) (hB : B ≤ w.heap.size) (hl : lb.length ≤ 1000000) :
    Calls Tryz.prog 59 #[v] w fun e w' => ∃ v', e = .returned v' ∧ CloneOf w lb v' w' ∧ Below w.heap.size w w' := by
  obtain ⟨a, cap, rfl⟩ := rb_len hv
  cases a with
  | none =>
    obtain ⟨_, ⟨h1, rfl⟩ | ⟨b, off, cap, _, _, _, h, _⟩⟩ := hv
    · injection h1 with _ _ h1
      subst h1
      have hnil := run_eql_slice_nil_nil (P := Tryz.prog) w 0 0 Tryz.underlying34
      go_enter Tryz.func59, Tryz.ntmps59
      go_wp2
      go_ret
      exact ⟨_, rfl, World.ownsRow_nil _ _ _ _, Below.refl _ _⟩
    · cases h
  | some a =>
    have hb0 := below_alloc (B := w.heap.size) (.cells #[] 5) (Nat.le_refl w.heap.size)
    have HO := hide (own_empty w)
    have HV := hide (hv.below (hb0.mono hB) (Nat.le_refl _))
    have HB0 := hide hb0
    have hnil := run_eql_slice_some_nil (P := Tryz.prog) w a lb.length cap Tryz.underlying34
    clear hv hb0
    go_enter Tryz.func59, Tryz.ntmps59
    go_wp2_with (first
      | (at_builtin; refine wpList_append_rb rfl (.tmp 5) (.tmp 6) rfl w.heap.size _ 0 [] rfl (unhide HO) _ _ lb rfl (unhide HV) (by omega) (by omega) (by simp) ?_; intro v3 w3 ho3 _ hb3; have HO3 := hide ho3; clear ho3))
    go_ret
    refine ⟨_, rfl, ?_, (unhide HB0).trans hb3⟩
    have := unhide HO3
    rw [Nat.zero_add, List.nil_append] at this
    exact this
set_option maxHeartbeats 25600000 in
set_option maxRecDepth 100000 in
theorem rreply_eq (p x0 : Nat) (x1 : Int) (x2 : List ByteArray) (x3 : List (List GV)) (x4 : Int) (x5 : Nat) (l : List UInt8) (s s0 s1 s2 s3 s4 s5 : Except Nat Nat) (w : World) (h : RS w p l s)
    (h0 : rdMax l s = (x0, s0)) (h1 : rdBetween l 0 100 s0 = (x1, s1)) (h2 : rdList (rdTxt 2000) 64 l s1 = (x2, s2)) (h3 : rdList rdRow' 20000 l s2 = (x3, s3)) (h4 : rdBetween l 0 262144 s3 = (x4, s4)) (h5 : rdMax l s4 = (x5, s5)) :
    Calls Tryz.prog 62 #[.pointer (some ⟨p, 0, none⟩)] w fun e w' => ∃ a2 m2 k2 a3 m3 k3, e = .returned (.agg #[.int .u64 (x0 : Nat), .int .i64 x1, .slice a2 m2 k2, .slice a3 m3 k3, .int .i64 x4, .int .u64 (x5 : Nat)]) ∧ RS w' p l s5 ∧ Fq p w w' ∧
      ((∃ b, s2 = .ok b) → w'.ownsRow w.heap.size 9 1 (.slice a2 m2 k2) x2.length (strListCells x2)) ∧ ((∃ b, s3 = .ok b) → OwR w' w.heap.size (.slice a3 m3 k3) x3) := by
  have hmf : ∀ (fn : Fn) (first cap : Array Value) (w : World), (Instr.makeFunc fn first cap).run Tryz.prog w = .ok (.func fn first cap) w := fun _ _ _ _ => rfl
  have hp := h.lt
  have HR : Hid (RS ((w.alloc (.cells #[.int .u64 0, .int .i64 0, .slice none 0 0, .slice none 0 0, .int .i64 0, .int .u64 0] 41)).alloc (.cells #[.int .u64 0, .int .i64 0, .slice none 0 0, .slice none 0 0, .int .i64 0, .int .u64 0] 41)) p l s) := (h.alloc _).alloc _
  have BR := hide ((Blk.new w 41 #[.int .u64 0, .int .i64 0, .slice none 0 0, .slice none 0 0, .int .i64 0, .int .u64 0]).alloc (.cells #[.int .u64 0, .int .i64 0, .slice none 0 0, .slice none 0 0, .int .i64 0, .int .u64 0] 41))
  have BM : Hid (Blk ((w.alloc (.cells #[.int .u64 0, .int .i64 0, .slice none 0 0, .slice none 0 0, .int .i64 0, .int .u64 0] 41)).alloc (.cells #[.int .u64 0, .int .i64 0, .slice none 0 0, .slice none 0 0, .int .i64 0, .int .u64 0] 41)) (w.heap.size + 1) 41 #[.int .u64 0, .int .i64 0, .slice none 0 0, .slice none 0 0, .int .i64 0, .int .u64 0]) := by
    have := Blk.new (w.alloc (.cells #[.int .u64 0, .int .i64 0, .slice none 0 0, .slice none 0 0, .int .i64 0, .int .u64 0] 41)) 41 #[.int .u64 0, .int .i64 0, .slice none 0 0, .slice none 0 0, .int .i64 0, .int .u64 0]
    rw [World.size_alloc] at this; exact this
  have q0 := hide (((Fq.refl p w).alloc (by omega) (.cells #[.int .u64 0, .int .i64 0, .slice none 0 0, .slice none 0 0, .int .i64 0, .int .u64 0] 41)).alloc (by first | omega | (simp; omega)) (.cells #[.int .u64 0, .int .i64 0, .slice none 0 0, .slice none 0 0, .int .i64 0, .int .u64 0] 41))
  have H0 := hide (fun (W : World) (hW : RS W p l s) => rnum_p p l s W hW)
  rw [h0] at H0
  have H1 := hide (fun (W : World) (hW : RS W p l s0) => rbetween_any p 0 100 l s0 W hW (by omega) (by omega) (by omega))
  rw [h1] at H1
  have H2 := hide (fun (W : World) (hW : RS W p l s1) => rcols_any p l s1 W hW)
  rw [h2] at H2
  have H3 := hide (fun (W : World) (hW : RS W p l s2) => rrows_any p l s2 W hW)
  rw [h3] at H3
  have H4 := hide (fun (W : World) (hW : RS W p l s3) => rbetween_any p 0 262144 l s3 W hW (by omega) (by omega) (by omega))
  rw [h4] at H4
  have H5 := hide (fun (W : World) (hW : RS W p l s4) => rnum_p p l s4 W hW)
  rw [h5] at H5
  clear h h0 h1 h2 h3 h4 h5
  have c0 := (unhide BM).cell 0 _ rfl
  have d0 := (unhide BM).free 0
  have hMne : ¬ w.heap.size + 1 = w.heap.size := by omega
  go_enter Tryz.func62, Tryz.ntmps62
  go_wp2_with (first
    | (go_at_call 55; refine (unhide H0 _ (unhide HR)).mono ?_; rintro e w0 ⟨rfl, r, f⟩; have r0 := hide r; clear r; have M0 := hide ((unhide BM).fq f (by omega)); have R0 := hide ((unhide BR).fq f (by omega)); have p0 := hide ((unhide q0).trans f); clear f c0 d0 H0 HR BM BR q0; have c0 := (unhide M0).cell 0 _ rfl; have d0 := (unhide M0).free 0)
    | (go_at_call 54; refine (unhide H1 _ ((unhide r0).setOther (Nat.lt_succ_of_lt hp) ((unhide M0).cell 1 _ rfl) 0 _)).mono ?_; rintro e w1 ⟨rfl, r, f⟩; have r1 := hide r; clear r; have M1 : Hid (Blk w1 (w.heap.size + 1) 41 #[.int .u64 (x0 : Nat), .int .i64 0, .slice none 0 0, .slice none 0 0, .int .i64 0, .int .u64 0]) := (((unhide M0).set 0 _).fq f (by omega)); have R1 : Hid (Blk w1 w.heap.size 41 #[.int .u64 0, .int .i64 0, .slice none 0 0, .slice none 0 0, .int .i64 0, .int .u64 0]) := (((unhide R0).other (by omega) _).fq f (by omega)); have p1 := hide (((unhide p0).setNew (by omega) (by omega) 0 _).trans f); have i1 := hide (((Hi.refl (w.heap.size + 2) w0).setCell (by omega) 0 _).trans (Hi.of_fq f (by omega))); clear f H1 r0 M0 R0 p0 c0 d0; have c1 := (unhide M1).cell 1 _ rfl; have d1 := (unhide M1).free 1)
    | (go_at_call 69; refine (unhide H2 _ ((unhide r1).setOther (Nat.lt_succ_of_lt hp) ((unhide M1).cell 1 _ rfl) 1 _)).mono ?_; rintro e w2 ⟨r, f, a2, m2, k2, rfl, own⟩; have r2 := hide r; clear r; have M2 : Hid (Blk w2 (w.heap.size + 1) 41 #[.int .u64 (x0 : Nat), .int .i64 x1, .slice none 0 0, .slice none 0 0, .int .i64 0, .int .u64 0]) := (((unhide M1).set 1 _).fq f (by omega)); have R2 : Hid (Blk w2 w.heap.size 41 #[.int .u64 0, .int .i64 0, .slice none 0 0, .slice none 0 0, .int .i64 0, .int .u64 0]) := (((unhide R1).other (by omega) _).fq f (by omega)); have p2 := hide (((unhide p1).setNew (by omega) (by omega) 1 _).trans f); have i2 := hide (((Hi.refl (w.heap.size + 2) w1).setCell (by omega) 1 _).trans (Hi.of_fq f (by omega))); have z2 := (unhide M1).lt; clear f H2 r1 M1 R1 p1 c1 d1; have own2 := hide own; clear own; have c2 := (unhide M2).cell 2 _ rfl; have d2 := (unhide M2).free 2)
    | (go_at_call 71; refine (unhide H3 _ ((unhide r2).setOther (Nat.lt_succ_of_lt hp) ((unhide M2).cell 1 _ rfl) 2 _)).mono ?_; rintro e w3 ⟨r, f, a3, m3, k3, rfl, own⟩; have r3 := hide r; clear r; have M3 : Hid (Blk w3 (w.heap.size + 1) 41 #[.int .u64 (x0 : Nat), .int .i64 x1, .slice a2 m2 k2, .slice none 0 0, .int .i64 0, .int .u64 0]) := (((unhide M2).set 2 _).fq f (by omega)); have R3 : Hid (Blk w3 w.heap.size 41 #[.int .u64 0, .int .i64 0, .slice none 0 0, .slice none 0 0, .int .i64 0, .int .u64 0]) := (((unhide R2).other (by omega) _).fq f (by omega)); have p3 := hide (((unhide p2).setNew (by omega) (by omega) 2 _).trans f); have i3 := hide (((Hi.refl (w.heap.size + 2) w2).setCell (by omega) 2 _).trans (Hi.of_fq f (by omega))); have z3 := (unhide M2).lt; clear f H3 r2 M2 R2 p2 c2 d2; have own3 := hide own; clear own; have c3 := (unhide M3).cell 3 _ rfl; have d3 := (unhide M3).free 3)
    | (go_at_call 54; refine (unhide H4 _ ((unhide r3).setOther (Nat.lt_succ_of_lt hp) ((unhide M3).cell 1 _ rfl) 3 _)).mono ?_; rintro e w4 ⟨rfl, r, f⟩; have r4 := hide r; clear r; have M4 : Hid (Blk w4 (w.heap.size + 1) 41 #[.int .u64 (x0 : Nat), .int .i64 x1, .slice a2 m2 k2, .slice a3 m3 k3, .int .i64 0, .int .u64 0]) := (((unhide M3).set 3 _).fq f (by omega)); have R4 : Hid (Blk w4 w.heap.size 41 #[.int .u64 0, .int .i64 0, .slice none 0 0, .slice none 0 0, .int .i64 0, .int .u64 0]) := (((unhide R3).other (by omega) _).fq f (by omega)); have p4 := hide (((unhide p3).setNew (by omega) (by omega) 3 _).trans f); have i4 := hide (((Hi.refl (w.heap.size + 2) w3).setCell (by omega) 3 _).trans (Hi.of_fq f (by omega))); clear f H4 r3 M3 R3 p3 c3 d3; have c4 := (unhide M4).cell 4 _ rfl; have d4 := (unhide M4).free 4)
    | (go_at_call 55; refine (unhide H5 _ ((unhide r4).setOther (Nat.lt_succ_of_lt hp) ((unhide M4).cell 1 _ rfl) 4 _)).mono ?_; rintro e w5 ⟨rfl, r, f⟩; have r5 := hide r; clear r; have M5 : Hid (Blk w5 (w.heap.size + 1) 41 #[.int .u64 (x0 : Nat), .int .i64 x1, .slice a2 m2 k2, .slice a3 m3 k3, .int .i64 x4, .int .u64 0]) := (((unhide M4).set 4 _).fq f (by omega)); have R5 : Hid (Blk w5 w.heap.size 41 #[.int .u64 0, .int .i64 0, .slice none 0 0, .slice none 0 0, .int .i64 0, .int .u64 0]) := (((unhide R4).other (by omega) _).fq f (by omega)); have p5 := hide (((unhide p4).setNew (by omega) (by omega) 4 _).trans f); have i5 := hide (((Hi.refl (w.heap.size + 2) w4).setCell (by omega) 4 _).trans (Hi.of_fq f (by omega))); clear f H5 r4 M4 R4 p4 c4 d4; have c5 := (unhide M5).cell 5 _ rfl; have d5 := (unhide M5).free 5; have mm0 := (unhide M5).cell 0 _ rfl; have uu0 := (unhide R5).cell 0 _ rfl; have vv0 := (unhide R5).free 0; have mm1 := (unhide M5).cell 1 _ rfl; have uu1 := (unhide R5).cell 1 _ rfl; have vv1 := (unhide R5).free 1; have mm2 := (unhide M5).cell 2 _ rfl; have uu2 := (unhide R5).cell 2 _ rfl; have vv2 := (unhide R5).free 2; have mm3 := (unhide M5).cell 3 _ rfl; have uu3 := (unhide R5).cell 3 _ rfl; have vv3 := (unhide R5).free 3; have mm4 := (unhide M5).cell 4 _ rfl; have uu4 := (unhide R5).cell 4 _ rfl; have vv4 := (unhide R5).free 4; have uu5 := (unhide R5).cell 5 _ rfl; have vv5 := (unhide R5).free 5))
  refine bodyPost_ret (v := .agg #[.int .u64 (x0 : Nat), .int .i64 x1, .slice a2 m2 k2, .slice a3 m3 k3, .int .i64 x4, .int .u64 (x5 : Nat)]) ?_ rfl ⟨a2, m2, k2, a3, m3, k3, rfl, ?_, ?_, ?_, ?_⟩
  · rw [results_cell1 rfl]
    go_simp
  · exact ((unhide r5).setOther (Nat.lt_succ_of_lt hp) ((unhide M5).cell 1 _ rfl) 5 _).swap (E := w.heap.size) (fun k hk => over_other _ [.int .u64 (x0 : Nat), .int .i64 x1, .slice a2 m2 k2, .slice a3 m3 k3, .int .i64 x4, .int .u64 (x5 : Nat)] _ 0 k hk) hp (((unhide R5).other (by omega) _).cell 1 _ rfl)
  · exact Fq.over (E := w.heap.size) (Nat.le_refl _) (Nat.le_of_lt hp) [.int .u64 (x0 : Nat), .int .i64 x1, .slice a2 m2 k2, .slice a3 m3 k3, .int .i64 x4, .int .u64 (x5 : Nat)] _ 0 ((unhide p5).setNew (by omega) (by omega) 5 _)
  · rintro ⟨b, hb⟩
    have o := unhide own2 b hb
    exact own_weaker (by first | omega | (simp; omega)) (own_hi o (((((unhide i3).trans (unhide i4)).trans (unhide i5)).trans (Hi.swap (B := w.heap.size + 2) (E := w.heap.size) ((Hi.refl (w.heap.size + 2) w5).setCell (by omega) 5 _) (over_size _ [.int .u64 (x0 : Nat), .int .i64 x1, .slice a2 m2 k2, .slice a3 m3 k3, .int .i64 x4, .int .u64 (x5 : Nat)] _ 0) (fun k hk => over_other _ [.int .u64 (x0 : Nat), .int .i64 x1, .slice a2 m2 k2, .slice a3 m3 k3, .int .i64 x4, .int .u64 (x5 : Nat)] _ 0 k hk) (by omega))).mono (by first | omega | (simp; omega))))
  · rintro ⟨b, hb⟩
    have o := unhide own3 b hb
    exact (o.hi ((((unhide i4).trans (unhide i5)).trans (Hi.swap (B := w.heap.size + 2) (E := w.heap.size) ((Hi.refl (w.heap.size + 2) w5).setCell (by omega) 5 _) (over_size _ [.int .u64 (x0 : Nat), .int .i64 x1, .slice a2 m2 k2, .slice a3 m3 k3, .int .i64 x4, .int .u64 (x5 : Nat)] _ 0) (fun k hk => over_other _ [.int .u64 (x0 : Nat), .int .i64 x1, .slice a2 m2 k2, .slice a3 m3 k3, .int .i64 x4, .int .u64 (x5 : Nat)] _ 0 k hk) (by omega))).mono (by first | omega | (simp; omega)))).weaker (by first | omega | (simp; omega))

theorem rreply_p (p y0 : Nat) (y1 : Int) (y2 : List ByteArray) (y3 : List (List GV)) (y4 : Int) (y5 : Nat) (l : List UInt8) (s s' : Except Nat Nat) (w : World) (h : RS w p l s) (hs : rdRep l s = ((y0, y1, y2, y3, y4, y5), s')) :
    Calls Tryz.prog 62 #[.pointer (some ⟨p, 0, none⟩)] w fun e w' => ∃ a2 m2 k2 a3 m3 k3, e = .returned (.agg #[.int .u64 (y0 : Nat), .int .i64 y1, .slice a2 m2 k2, .slice a3 m3 k3, .int .i64 y4, .int .u64 (y5 : Nat)]) ∧ RS w' p l s' ∧ Fq p w w' ∧
      ((∃ b, s' = .ok b) → w'.ownsRow w.heap.size 9 1 (.slice a2 m2 k2) y2.length (strListCells y2) ∧ OwR w' w.heap.size (.slice a3 m3 k3) y3) := by
  simp only [rdRep, rdPair, Prod.mk.injEq] at hs
  obtain ⟨⟨e0, e1, e2, e3, e4, e5⟩, e6⟩ := hs
  refine (rreply_eq p y0 y1 y2 y3 y4 y5 l s _ _ _ _ _ s' w h (Prod.ext e0 rfl) (Prod.ext e1 rfl) (Prod.ext e2 rfl) (Prod.ext e3 rfl) (Prod.ext e4 rfl) (Prod.ext e5 e6)).mono ?_
  rintro e w' ⟨a2, m2, k2, a3, m3, k3, rfl, r1, r2, r3, r4⟩
  refine ⟨a2, m2, k2, a3, m3, k3, rfl, r1, r2, fun ⟨b, hb⟩ => ?_⟩
  rw [← e6] at hb
  obtain ⟨b4, k4⟩ := codec_num.ok_of hb
  obtain ⟨b3, k3'⟩ := (codec_between 0 262144 (by omega) (by omega)).ok_of k4
  obtain ⟨b2, k2'⟩ := codec_rows.ok_of k3'
  exact ⟨r3 ⟨_, k2'⟩, r4 ⟨_, k3'⟩⟩
theorem rdDat_len {l : List UInt8} {most : Nat} {s s' : Except Nat Nat} {x : List UInt8} (h : rdDat l most s = (x, s')) : x.length ≤ most := by
  unfold rdDat at h
  obtain ⟨n, r, hR⟩ : ∃ n r, rdBetween l 0 (most : Int) s = (n, r) := ⟨_, _, rfl⟩
  rw [hR] at h
  cases r with
  | error c => simp [rdTake] at h; obtain ⟨rfl, _⟩ := h; simp
  | ok a =>
    obtain ⟨k, hk, hk2⟩ := rdBetween_ok (l := l) (lo := 0) (hi := (most : Int)) (s := s) (a := a) (by omega) (by rw [hR])
    rw [hR] at hk
    injection hk with hk _
    subst hk
    unfold rdTake at h
    dsimp only at h
    split at h
    · injection h with h _
      subst h
      simp; omega
    · injection h with h _
      subst h; simp
end Go.Proofs.YtahpfhnekmilmaaGreatDoor
