/- A wal's calls: Sync, Cut, SetHard, Drop, Entries, Base, Hard. -/
import Derived.Test.YtebiekkkmimomaaGreatDoorWaDo
import Derived.Test.YtebiekkkmimomaaGreatDoorJShelfDListDPut
namespace Go.Proofs.YtebiekkkmimomaaGreatDoor
open Go.RowKit Go.Lib Go.Maps

section
variable {w : World} {B p q sz n : Nat} {S : Dk.St} {R : Int} {a x : Fx} {s s2 : Sta} {v : Value} {D : Nat → Prop} {F : List Dk.Ent}
set_option maxHeartbeats 3200000 in
set_option maxRecDepth 100000 in
theorem wsync_go (y : List UInt8 × Nat) (h : WX w B p q S (FX a (some y)) s v sz D) (hB : B ≤ w.heap.size) (hE : EV w B) (hS : OkS S R n) (hf : ¬ Fails S) :
    Calls Tryz.prog 12 #[.pointer (some ⟨p, 0, none⟩)] w fun e w' => WDone w B p q (nx S) (FX a (some (y.1, y.1.length))) s sz v D (PD p D) e w' := by
  have HM := hide (home_any h)
  have HA : Hid (Calls Tryz.prog 26 #[.pointer (some ⟨q, 0, none⟩), .string waN] w fun e w1 => e = .returned .nilIface ∧ Hid (WDone w B p q (nx S) (FX a (some (y.1, y.1.length))) s sz v D (PD p D) (.returned .nilIface) w1)) := by
    refine (sync_go y h.dx hE.et hS hf).mono ?_
    rintro e w1 ⟨D', rfl, hd, hfr, ho⟩
    exact ⟨rfl, v, D', rfl, h.disk hB hd hfr ho, fro_wide hfr (fun k hk => .inr hk), fun g hg => .inl hg, ho⟩
  clear h hE hS hf hB
  unfold waN at HA
  go_enter Tryz.func12, Tryz.ntmps12
  go_wp2_with (first
    | (go_at_call 34; refine (unhide HM).mono ?_; rintro e w1 ⟨rfl, rfl⟩; clear HM)
    | (go_at_call 26; refine (unhide HA).mono ?_; rintro e w1 ⟨rfl, HW⟩; clear HA)
    | (go_at_call 29; refine (is_nil _ _).mono ?_; rintro e w2 ⟨rfl, rfl⟩))
  go_ret
  exact unhide HW
set_option maxHeartbeats 3200000 in
set_option maxRecDepth 100000 in
/-- No file: nothing is pending. -/
theorem wsync_none (h : WX w B p q S (FX a none) s v sz D) (hB : B ≤ w.heap.size) (hE : EV w B) (hS : OkS S R n) (hf : S.off = false) :
    Calls Tryz.prog 12 #[.pointer (some ⟨p, 0, none⟩)] w fun e w' => WDone w B p q S (FX a none) s sz v D (PD p D) e w' := by
  have HM := hide (home_any h)
  have HA : Hid (Calls Tryz.prog 26 #[.pointer (some ⟨q, 0, none⟩), .string waN] w fun e w1 => ∃ b, e = .returned (Dk.evW b) ∧ Hid (Dk.ErrW w1 b 30) ∧ Hid (WDone w B p q S (FX a none) s sz v D (PD p D) (.returned .nilIface) w1)) := by
    refine (sync_none h.dx hE.et hS).mono ?_
    rw [if_neg (by simp [hf])]
    rintro e w1 ⟨b, rfl, h1, h2, hd, hfr⟩
    exact ⟨b, rfl, h1, v, D, rfl, h.disk hB hd hfr (fun k hk => .inl hk), fro_wide hfr (fun k hk => .inr hk), fun g hg => .inl hg, fun k hk => .inl hk⟩
  clear h hE hS hf hB
  unfold waN at HA
  go_enter Tryz.func12, Tryz.ntmps12
  go_wp2_with (first
    | (go_at_call 34; refine (unhide HM).mono ?_; rintro e w1 ⟨rfl, rfl⟩; clear HM)
    | (go_at_call 26; refine (unhide HA).mono ?_; rintro e w1 ⟨b, rfl, he, HW⟩; have HI := hide (Dk.is_placed b 30 30 w1 (unhide he)); clear HA he)
    | (go_at_call 29; refine (unhide HI).mono ?_; rintro e w2 ⟨rfl, rfl⟩))
  go_ret
  exact unhide HW
/-- A row of one record. -/
theorem rl_one (w : World) (r : Rc) : RL (w.alloc (.cells r.cells 84)) (.slice (some ⟨w.heap.size, 0, none⟩) 1 1) [r] := by
  have hn : (w.alloc (.cells r.cells 84)).heap[w.heap.size]? = some (.cells r.cells 84 (0, 0)) := heap_alloc_new _ _
  refine ⟨_, 1, rfl, fun i r' hi => ?_⟩
  cases i with
  | zero =>
    simp at hi
    subst hi
    exact ⟨_, _, rfl, by simp, fun j u hu => by rw [(Dk.cellB hn _).1]; simpa using hu⟩
  | succ i => simp at hi
theorem di_one (h : WX w B p q S F s v sz D) (hB : B ≤ w.heap.size) (hE : EV w B) (hs : s.ok) (hn : s.es.length ≤ 800000) (r : Rc) (hr : r.ok) :
    DI (w.alloc (.cells r.cells 84)) B p q S F s v sz D [r] (.slice (some ⟨w.heap.size, 0, none⟩) 1 1) := by
  have hb := box_below w (.cells r.cells 84)
  refine ⟨h.below hb, by simp; omega, hE.below (hb.mono hB), hs, rl_one w r, fun b hi hw => ?_, by simp; omega, ?_, .inr (by simp)⟩
  · obtain ⟨_, _, _, e⟩ := hi
    cases e
    have := h.lt _ hw
    omega
  · have := rc_len hr
    simp [recsB]; omega
set_option maxHeartbeats 3200000 in
set_option maxRecDepth 100000 in
theorem wcut_go {f : Nat} (h : WX w B p q S (FX a x) s v sz D) (hB : B ≤ w.heap.size) (hE : EV w B) (hs : s.ok) (hn : s.es.length ≤ 800000) (hfl : f < 18446744073709551616) (hrun : takeS s (rcC f) = .ok s2) (hS : OkS S R n) (hm : Roomy R a x (rcC f).bytes.length) (hz : sz + (rcC f).bytes.length ≤ 32768) (hf : ¬ Fails S) :
    Calls Tryz.prog 10 #[.pointer (some ⟨p, 0, none⟩), .int .u64 (f : Int)] w fun e w' => WDone w B p q (nx S) (FX a (some (dB x ++ (rcC f).bytes, dS x))) s2 (sz + (rcC f).bytes.length) v D (WO p v D) e w' := by
  have hr := rcC_ok hfl
  have e1 : recsB [rcC f] = (rcC f).bytes := by simp [recsB]
  have hb := box_below w (.cells (rcC f).cells 84)
  have HD := hide (do_go (di_one h hB hE hs hn _ hr) (fun r' h' => by rw [List.mem_singleton.1 h']; exact hr) (by simp only [runS]; rw [hrun]) hS (by rw [e1]; exact hm) (by rw [e1]; exact hz) hf)
  rw [e1] at HD
  have HB := hide hb
  clear hb h hE hs hS hm hz hf hB hrun hr e1
  unfold rcC Rc.cells at *
  dsimp only [zE] at *
  go_enter Tryz.func10, Tryz.ntmps10
  go_wp2_with (first
    | (go_at_call 32; refine (unhide HD).mono ?_; intro e w1 h1; clear HD; obtain ⟨v', D', rfl, _⟩ := id h1; have H1 := hide (h1.pre (unhide HB)); clear h1))
  go_ret
  exact unhide H1
theorem own_none (w : World) : (w.alloc (.cells #[] 37)).ownsRow w.heap.size 37 5 (.slice (some ⟨w.heap.size, 0, none⟩) 0 0) 0 [] :=
  ⟨rfl, .inr ⟨w.heap.size, 0, #[], rfl, Nat.le_refl _, heap_alloc_new _ _, Nat.le_refl _, Nat.zero_le _, rfl, rfl⟩⟩
set_option maxHeartbeats 3200000 in
set_option maxRecDepth 100000 in
theorem clone_ents {es : List GE} (h : EL w v es) (hn : es.length ≤ 1000000) : Calls Tryz.prog 37 #[v] w fun e w' => ∃ v', e = .returned v' ∧ EL w' v' es ∧ (∀ g, inB v' g → w.heap.size ≤ g) ∧ Below w.heap.size w w' := by
  rcases id h with ⟨rfl, rfl⟩ | ⟨g, off, k, cur, rfl, h2, h3, h4, h5, h6⟩
  · have hnil := run_eql_slice_nil_nil (P := Tryz.prog) w 0 0 Tryz.underlying34
    go_enter Tryz.func37, Tryz.ntmps37
    go_wp2
    go_ret
    exact ⟨_, rfl, EL.nil _, fun g ⟨_, _, _, e⟩ => (by cases e), Below.refl _ _⟩
  · obtain ⟨i0, hi, hz0, hz1, hz2⟩ := info_parts Tryz.infoEn
    have hb := box_below w (.cells #[] 37)
    have HO := hide (own_none w)
    have HC : Hid (∀ j u, (esC es)[j]? = some u → (w.alloc (.cells #[] 37)).cell? ((⟨g, off, none⟩ : Addr).add j) = some u) := fun j u hj => by
      rw [Go.WideShapes.add_plain, hb.cell (p := ⟨g, off + j, none⟩) (Array.getElem?_eq_some_iff.1 h2).1]
      exact (row_at h2 h5 h6).1 j u hj
    have HB := hide hb
    have hnil := run_eql_slice_some_nil (P := Tryz.prog) w ⟨g, off, none⟩ es.length k Tryz.underlying34
    have H1 : Hid (∀ u ∈ esC es, u.oneCell' = true) := fun u hu => by
      unfold esC at hu
      obtain ⟨x, _, hx⟩ := List.mem_flatMap.1 hu
      exact geC_one x u hx
    have HL := hide (esC_len es)
    clear hb h h2 h3 h4 h5 h6
    go_enter Tryz.func37, Tryz.ntmps37
    go_wp2_with (first
      | (at_builtin; refine wpList_append_own_at _ rfl (.tmp 5) (.tmp 6) 34 rfl w.heap.size 37 i0 _ 5 48 Tryz.underlying34 hi hz0 hz1 hz2 rfl (by decide) _ 0 [] rfl (unhide HO) ⟨g, off, none⟩ es.length k (esC es) rfl (unhide HL) (unhide HC) (unhide H1) (by unfold maxLen; omega) (by omega) (by simp) ?_; intro v3 w3 ho3 hg3 _ hl3; have HO3 := hide (And.intro ho3 (And.intro hg3 hl3)); clear ho3 hg3 hl3))
    go_ret
    obtain ⟨ho, hg, hl⟩ := unhide HO3
    obtain ⟨q1, q2⟩ := EL.own (es := es) (by simpa using ho) (by omega)
    refine ⟨_, rfl, q1, q2, ?_⟩
    exact (unhide HB).grown hg (by simp) (by intro k h; cases h; exact Nat.le_refl _)
set_option maxHeartbeats 1600000 in
theorem entries_any (h : WX w B p q S F s v sz D) (hn : s.es.length ≤ 1000000) : Calls Tryz.prog 14 #[.pointer (some ⟨p, 0, none⟩)] w fun e w' => ∃ v', e = .returned v' ∧ EL w' v' s.es ∧ (∀ g, inB v' g → w.heap.size ≤ g) ∧ Below w.heap.size w w' := by
  have HC := hide (clone_ents h.el hn)
  obtain ⟨_, _, _, _, _, c5, _⟩ := h.cells
  clear h
  go_enter Tryz.func14, Tryz.ntmps14
  go_wp2_with (first
    | (go_at_call 37; refine (unhide HC).mono ?_; rintro e w1 ⟨v1, rfl, H1⟩; clear HC))
  go_ret
  exact ⟨v1, rfl, H1⟩
end
end Go.Proofs.YtebiekkkmimomaaGreatDoor
/- A wal's Append: its records. -/
namespace Go.Proofs.YtebiekkkmimomaaGreatDoor
open Go.RowKit Go.Lib Go.Maps

set_option maxHeartbeats 6400000 in
set_option maxRecDepth 100000 in
theorem entryOf_any (g : GE) (w : World) (hg : g.sql.size ≤ 281474976710656) : Calls Tryz.prog 33 #[.agg #[.int .u64 (g.term : Int), .int .i64 g.kind, .int .u64 (g.client : Int), .int .u64 (g.seq : Int), .string g.sql]] w fun e w' => e = .returned (.agg (rcE g).cells) ∧ Below w.heap.size w w' := by
  unfold rcE Rc.cells
  dsimp only
  obtain ⟨W0, hW0⟩ : ∃ W0, W0 = (w.alloc (.cells #[.int .u64 (g.term : Int), .int .i64 g.kind, .int .u64 (g.client : Int), .int .u64 (g.seq : Int), .string g.sql] 37)).alloc (.cells #[.int .u8 0, .int .u64 0, .int .u64 0, .int .u64 0, .int .i64 0, .int .u64 0, .int .u64 0, .string ⟨#[]⟩] 84) := ⟨_, rfl⟩
  have B0 : Below w.heap.size w W0 := by rw [hW0]; exact ((Below.refl _ _).alloc (Nat.le_refl _) _).alloc (by simp) _
  have V0 : W0.heap[w.heap.size]? = some (.cells #[.int .u64 (g.term : Int), .int .i64 g.kind, .int .u64 (g.client : Int), .int .u64 (g.seq : Int), .string g.sql] 37 (0, 0)) := by
    rw [hW0]; exact (Below.heap_alloc _ _ _ (by simp)).trans (heap_alloc_new _ _)
  have V1 : Rv W0 (w.heap.size + 1) #[.int .u8 0, .int .u64 0, .int .u64 0, .int .u64 0, .int .i64 0, .int .u64 0, .int .u64 0, .string ⟨#[]⟩] := by
    rw [hW0]; have := heap_alloc_new (w.alloc (.cells #[.int .u64 (g.term : Int), .int .i64 g.kind, .int .u64 (g.client : Int), .int .u64 (g.seq : Int), .string g.sql] 37)) (.cells #[.int .u8 0, .int .u64 0, .int .u64 0, .int .u64 0, .int .i64 0, .int .u64 0, .int .u64 0, .string ⟨#[]⟩] 84); rwa [World.size_alloc] at this
  have HU1 : Hid (Calls Tryz.prog 61 #[.string g.sql] W0 fun e w' => e = .returned (.string g.sql) ∧ w'.heap[w.heap.size]? = some (.cells #[.int .u64 (g.term : Int), .int .i64 g.kind, .int .u64 (g.client : Int), .int .u64 (g.seq : Int), .string g.sql] 37 (0, 0)) ∧ Rv w' (w.heap.size + 1) #[.int .u8 0, .int .u64 0, .int .u64 0, .int .u64 0, .int .i64 0, .int .u64 0, .int .u64 0, .string ⟨#[]⟩] ∧ Below w.heap.size w w') := by
    refine (Dk.sclone_any g.sql W0 hg).mono ?_
    rintro e w' ⟨rfl, h2⟩
    exact ⟨rfl, (h2.block _ (Array.getElem?_eq_some_iff.1 V0).1).trans V0, (h2.block _ (Array.getElem?_eq_some_iff.1 V1).1).trans V1, below_trans0 B0 h2⟩
  clear B0 V0 V1 hg
  go_enter Tryz.func33, Tryz.ntmps33
  go_wp2_with (first
      | (go_at_call 61; rw [← hW0]; refine (unhide HU1).mono ?_; rintro e w1 ⟨rfl, r0, r1, b1⟩; clear HU1; have x0 := (Dk.cellB r0 0).1; have x1 := (Dk.cellB r0 1).1; have x2 := (Dk.cellB r0 2).1; have x3 := (Dk.cellB r0 3).1; have x4 := (Dk.cellB r0 4).1; have f4 := (Dk.cellB r0 4).2; simp only [List.getElem?_toArray, List.getElem?_cons_zero, List.getElem?_cons_succ] at x0 x1 x2 x3 x4; obtain ⟨y0, y1, y2, y3, y4, y5, y6, y7⟩ := r1.cells; have fy0 := r1.frz 0; have fy1 := r1.frz 1; have fy2 := r1.frz 2; have fy3 := r1.frz 3; have fy4 := r1.frz 4; have fy5 := r1.frz 5; have fy6 := r1.frz 6; have fy7 := r1.frz 7; have HB := hide b1; clear b1 r0 r1 hW0))
  refine bodyPost_ret (v := .agg #[.int .u8 4, .int .u64 0, .int .u64 0, .int .u64 (g.term : Int), .int .i64 g.kind, .int .u64 (g.client : Int), .int .u64 (g.seq : Int), .string g.sql]) ?_ rfl ?_
  · rw [results_cell1 rfl]
    go_simp
    try rfl
  exact ⟨rfl, set8_below ((unhide HB).setCell (p := ⟨w.heap.size, 4, none⟩) (Nat.le_refl _) _) (Nat.le_succ _) _ _ _ _ _ _ _ _⟩
/-- Records made of the first i entries, in a block for all. -/
def MB (w : World) (rb : Nat) (es : List GE) (i : Nat) : Prop :=
  ∃ cur : Array Value, w.heap[rb]? = some (.cells cur 84 (0, 0)) ∧ es.length * 8 ≤ cur.size ∧ ∀ k g, k < i → es[k]? = some g → ∀ j u, (rcE g).cells[j]? = some u → cur[k * 8 + j]? = some u
theorem MB.later {w w' : World} {rb i : Nat} {es : List GE} (h : MB w rb es i) (hb : Below w.heap.size w w') : MB w' rb es i := by
  obtain ⟨cur, h1, h2⟩ := h
  exact ⟨cur, (hb.block _ (Array.getElem?_eq_some_iff.1 h1).1).trans h1, h2⟩
theorem MB.at {w : World} {rb i : Nat} {es : List GE} (h : MB w rb es i) {k : Nat} (hk : k < es.length) (j : Nat) (hj : j < 8) : (∃ u, w.cell? ⟨rb, k * 8 + j, none⟩ = some u) ∧ w.frozen? ⟨rb, k * 8 + j, none⟩ = false := by
  obtain ⟨cur, h1, h2, _⟩ := h
  have : k * 8 + j < cur.size := by omega
  exact ⟨⟨cur[k * 8 + j], (Dk.cellB h1 _).1.trans (Array.getElem?_eq_getElem this)⟩, (Dk.cellB h1 _).2⟩
theorem MB.set {w : World} {rb i : Nat} {es : List GE} {g : GE} (h : MB w rb es i) (hg : es[i]? = some g) : MB (w.setCells rb (i * 8) (rcE g).cells.toList) rb es (i + 1) := by
  obtain ⟨cur, h1, h2, h3⟩ := h
  have hi := (List.getElem?_eq_some_iff.1 hg).1
  have hl : (rcE g).cells.toList.length = 8 := rfl
  obtain ⟨cur', q1, q2, q3, q4⟩ := setCells_blk (rcE g).cells.toList (i * 8) w cur h1 (by rw [hl]; omega)
  refine ⟨cur', q1, by omega, fun k g' hk hg' j u hu => ?_⟩
  have hj : j < 8 := by have := (Array.getElem?_eq_some_iff.1 hu).1; exact this
  rcases Nat.lt_or_ge k i with h' | h'
  · rw [q4 _ (.inl (by omega))]
    exact h3 k g' h' hg' j u hu
  · obtain rfl : k = i := by omega
    rw [hg] at hg'
    cases hg'
    rw [q3 _ (by omega) (by rw [hl]; omega), show k * 8 + j - k * 8 = j by omega, Array.getElem?_toList]
    exact hu
theorem MB.rl {w : World} {rb : Nat} {es : List GE} (h : MB w rb es es.length) (cap : Nat) : RL w (.slice (some ⟨rb, 0, none⟩) es.length cap) (es.map rcE) := by
  obtain ⟨cur, h1, h2, h3⟩ := h
  refine ⟨_, cap, by rw [List.length_map], fun i r hi => ?_⟩
  rw [List.getElem?_map] at hi
  cases hg : es[i]? with
  | none => rw [hg] at hi; cases hi
  | some g =>
    rw [hg] at hi
    cases hi
    refine ⟨rb, 0, rfl, (Array.getElem?_eq_some_iff.1 h1).1, fun j u hu => ?_⟩
    rw [Nat.zero_add, (Dk.cellB h1 _).1]
    exact h3 i g (List.getElem?_eq_some_iff.1 hg).1 hg j u hu
end Go.Proofs.YtebiekkkmimomaaGreatDoor
/- A wal's Append. -/
namespace Go.Proofs.YtebiekkkmimomaaGreatDoor
open Go.RowKit Go.Lib Go.Maps

/-- A slice that reads as these entries. -/
def RE (w : World) (v : Value) (es : List GE) : Prop :=
  ∃ a cap, v = .slice a es.length cap ∧ ∀ i g, es[i]? = some g → ∃ b off, a = some ⟨b, off, none⟩ ∧ b < w.heap.size ∧ ∀ j u, (geC g)[j]? = some u → w.cell? ⟨b, off + i * 5 + j, none⟩ = some u
theorem RE.below {w w' : World} {v : Value} {es : List GE} (h : RE w v es) (hb : Below w.heap.size w w') : RE w' v es := by
  obtain ⟨a, cap, rfl, h2⟩ := h
  refine ⟨a, cap, rfl, fun i g hg => ?_⟩
  obtain ⟨b, off, rfl, h3, h4⟩ := h2 i g hg
  exact ⟨b, off, rfl, Nat.lt_of_lt_of_le h3 hb.size, fun j u hu => (hb.cell (p := ⟨b, _, none⟩) h3).trans (h4 j u hu)⟩
theorem EL.re {w : World} {v : Value} {es : List GE} (h : EL w v es) : RE w v es := by
  obtain ⟨a, k, rfl, _, _⟩ := h.slice
  refine ⟨a, k, rfl, fun i g hg => ?_⟩
  obtain ⟨b, off, k', e, hb, _, hc⟩ := h.cells hg
  cases e
  exact ⟨b, off, rfl, hb, hc⟩
theorem Tryz.infoRc : (Tryz.prog.info? 84).map (fun i => (i.zero, i.size, decide (i.bytes ≤ 100))) = some (some (.agg zRec), 8, true) := by kernel_rfl
theorem Tryz.infoRcs : ∃ i, Tryz.prog.info? 84 = some i ∧ i.zero = some (.agg zRec) ∧ i.size = 8 ∧ i.bytes ≤ 100 := by
  have h := Tryz.infoRc
  cases hi : Tryz.prog.info? 84 with
  | none => rw [hi] at h; cases h
  | some i =>
    rw [hi] at h
    simp only [Option.map_some, Option.some.injEq, Prod.mk.injEq, decide_eq_true_eq] at h
    exact ⟨i, rfl, h.1, h.2.1, h.2.2⟩
theorem MB.start {w w1 : World} {es : List GE} {n : Nat} {xs : List Value} (hn : n = es.length) (ho : w1.ownsRow w.heap.size 84 8 (.slice (some ⟨w.heap.size, 0, none⟩) n n) n xs) : MB w1 w.heap.size es 0 := by
  subst hn
  obtain ⟨_, ⟨h1, _⟩ | ⟨g, cap, cur, h1, h2, h3, h4, h5, h6, h7⟩⟩ := ho
  · cases h1
  · cases h1
    exact ⟨cur, h3, by omega, fun k g hk => by omega⟩
theorem rcE_run {s : Sta} : ∀ (es : List GE), runS s (es.map rcE) = .ok ⟨s.term, s.vote, s.base, s.bt, s.es ++ es⟩
  | [] => by simp [runS]
  | g :: r => by
    simp only [List.map_cons, runS]
    have : takeS s (rcE g) = .ok ⟨s.term, s.vote, s.base, s.bt, s.es ++ [g]⟩ := rfl
    rw [this]
    simp only
    rw [rcE_run r]
    simp
theorem setCells8 (w : World) (b o : Nat) (a0 a1 a2 a3 a4 a5 a6 a7 : Value) : w.setCells b o [a0, a1, a2, a3, a4, a5, a6, a7] = (((((((w.setCell ⟨b, o, none⟩ a0).setCell ⟨b, o + 1, none⟩ a1).setCell ⟨b, o + 2, none⟩ a2).setCell ⟨b, o + 3, none⟩ a3).setCell ⟨b, o + 4, none⟩ a4).setCell ⟨b, o + 5, none⟩ a5).setCell ⟨b, o + 6, none⟩ a6).setCell ⟨b, o + 7, none⟩ a7 := by
  simp only [World.setCells, Nat.add_assoc, Nat.reduceAdd]
theorem below_cells {B : Nat} {a : World} {b : Nat} (hp : B ≤ b) : ∀ (vs : List Value) (o : Nat) (w : World), Below B a w → Below B a (w.setCells b o vs)
  | [], _, _, h => h
  | v :: vs, o, w, h => by rw [World.setCells]; exact below_cells hp vs (o + 1) _ (h.setCell (p := ⟨b, o, none⟩) hp v)
theorem MB.step {w w0 : World} {rb i : Nat} {es : List GE} {g : GE} (h : MB w rb es i) (hg : es[i]? = some g) (hb : Below w0.heap.size w0 w) (hr : w0.heap.size ≤ rb) : MB ((((((((w.setCell ⟨rb, i * 8, none⟩ (.int .u8 4)).setCell ⟨rb, i * 8 + 1, none⟩ (.int .u64 0)).setCell ⟨rb, i * 8 + 2, none⟩ (.int .u64 0)).setCell ⟨rb, i * 8 + 3, none⟩ (.int .u64 (g.term : Int))).setCell ⟨rb, i * 8 + 4, none⟩ (.int .i64 g.kind)).setCell ⟨rb, i * 8 + 5, none⟩ (.int .u64 (g.client : Int))).setCell ⟨rb, i * 8 + 6, none⟩ (.int .u64 (g.seq : Int))).setCell ⟨rb, i * 8 + 7, none⟩ (.string g.sql)) rb es (i + 1) ∧ Below w0.heap.size w0 ((((((((w.setCell ⟨rb, i * 8, none⟩ (.int .u8 4)).setCell ⟨rb, i * 8 + 1, none⟩ (.int .u64 0)).setCell ⟨rb, i * 8 + 2, none⟩ (.int .u64 0)).setCell ⟨rb, i * 8 + 3, none⟩ (.int .u64 (g.term : Int))).setCell ⟨rb, i * 8 + 4, none⟩ (.int .i64 g.kind)).setCell ⟨rb, i * 8 + 5, none⟩ (.int .u64 (g.client : Int))).setCell ⟨rb, i * 8 + 6, none⟩ (.int .u64 (g.seq : Int))).setCell ⟨rb, i * 8 + 7, none⟩ (.string g.sql)) := by
  rw [← setCells8]
  exact ⟨h.set hg, below_cells hr _ _ _ hb⟩
section
variable {w : World} {B p q sz n : Nat} {S : Dk.St} {R : Int} {a x : Fx} {s : Sta} {v vl : Value} {D : Nat → Prop} {es : List GE}
set_option maxHeartbeats 12800000 in
set_option maxRecDepth 100000 in
theorem wapp_go (h : WX w B p q S (FX a x) s v sz D) (hB : B ≤ w.heap.size) (hE : EV w B) (hs : s.ok) (hn : s.es.length + es.length ≤ 900000) (hl : RE w vl es) (hes : ∀ g ∈ es, g.ok ∧ g.may = true) (hlen : (recsB (es.map rcE)).length ≤ 1000000) (hS : OkS S R n) (hm : Roomy R a x (recsB (es.map rcE)).length) (hz : sz + (recsB (es.map rcE)).length ≤ 32768) (hf : ¬ Fails S) :
    Calls Tryz.prog 11 #[.pointer (some ⟨p, 0, none⟩), vl] w fun e w' => WDone w B p q (nx S) (FX a (some (dB x ++ recsB (es.map rcE), dS x))) ⟨s.term, s.vote, s.base, s.bt, s.es ++ es⟩ (sz + (recsB (es.map rcE)).length) v D (WO p v D) e w' := by
  obtain ⟨la, lc, rfl, hrd⟩ := id hl
  obtain ⟨i0, hi, hz0, hz1, hz2⟩ := Tryz.infoRcs
  have hel : (es.length : Int) ≤ 900000 := by omega
  have hbb : i0.bytes * es.length ≤ 281474976710656 := Nat.le_trans (Nat.mul_le_mul hz2 (show es.length ≤ 900000 by omega)) (by decide)
  have HD : Hid (∀ w2 : World, Below w.heap.size w w2 → MB w2 w.heap.size es es.length → Calls Tryz.prog 32 #[.pointer (some ⟨p, 0, none⟩), .slice (some ⟨w.heap.size, 0, none⟩) es.length es.length] w2 fun e w' => WDone w B p q (nx S) (FX a (some (dB x ++ recsB (es.map rcE), dS x))) ⟨s.term, s.vote, s.base, s.bt, s.es ++ es⟩ (sz + (recsB (es.map rcE)).length) v D (WO p v D) e w') := by
    intro w2 hb hM
    refine (do_go (rs := es.map rcE) ⟨h.below hb, Nat.le_trans hB hb.size, hE.below (hb.mono hB), hs, hM.rl _, fun b hi hw => ?_, by simpa using hn, hlen, .inl (fun r hr => ?_)⟩ (fun r hr => ?_) (rcE_run es) hS hm hz hf).mono fun e w' hd => hd.pre hb
    · obtain ⟨_, _, _, e⟩ := hi
      cases e
      have := h.lt _ hw
      omega
    · obtain ⟨g, _, rfl⟩ := List.mem_map.1 hr
      exact .inl rfl
    · obtain ⟨g, hg, rfl⟩ := List.mem_map.1 hr
      exact rcE_ok (hes g hg).1 (hes g hg).2
  have HR : Hid (∀ (i : Nat) (wr : World), i < es.length → Below w.heap.size w wr → ∃ (g : GE) (b off : Nat), la = some ⟨b, off, none⟩ ∧ es[i]? = some g ∧ g.sql.size ≤ 281474976710656 ∧ wr.cell? ⟨b, off + i * 5, none⟩ = some (.int .u64 (g.term : Int)) ∧ wr.cell? ⟨b, off + i * 5 + 1, none⟩ = some (.int .i64 g.kind) ∧ wr.cell? ⟨b, off + i * 5 + 2, none⟩ = some (.int .u64 (g.client : Int)) ∧ wr.cell? ⟨b, off + i * 5 + 3, none⟩ = some (.int .u64 (g.seq : Int)) ∧ wr.cell? ⟨b, off + i * 5 + 4, none⟩ = some (.string g.sql)) := by
    intro i wr hil hb
    have hg : es[i]? = some es[i] := List.getElem?_eq_getElem hil
    obtain ⟨b, off, rfl, hbl, hc⟩ := hrd i _ hg
    have hc2 : ∀ j u, (geC es[i])[j]? = some u → wr.cell? ⟨b, off + i * 5 + j, none⟩ = some u := fun j u hu => (hb.cell (p := ⟨b, _, none⟩) hbl).trans (hc j u hu)
    have hm2 := (hes _ (List.mem_of_getElem? hg)).2
    refine ⟨es[i], b, off, rfl, hg, ?_, hc2 0 _ rfl, hc2 1 _ rfl, hc2 2 _ rfl, hc2 3 _ rfl, hc2 4 _ rfl⟩
    simp [GE.may] at hm2
    omega
  clear h hB hE hs hl hrd hes hS hm hz hf hlen hn
  go_enter Tryz.func11, Tryz.ntmps11
  go_wp2_with (first
    | (at_make; refine wpList_make_full _ rfl _ _ 85 rfl w.heap.size 84 i0 (.agg zRec) 8 Tryz.underlying85 hi hz0 hz1 _ _ _ _ es.length rfl rfl rfl rfl hbb (by unfold maxLen; omega) (Nat.le_refl _) ?_; intro w1 ho1 hg1; have HM := hide (And.intro (MB.start rfl ho1) ((Below.refl w.heap.size w).grown hg1 (Nat.le_refl _) (by intro k h; cases h))); clear ho1 hg1))
  go_loopw [6, 7, 13] (fun s6 s7 s13 wr => s6 = s6 ∧ s7 = s7 ∧ ∃ i, i ≤ es.length ∧ s13 = .int .i64 (i : Int) ∧ Hid (MB wr w.heap.size es i ∧ Below w.heap.size w wr)) (fun _ _ s13 _ => es.length - (RowKit.intOf s13).toNat)
  case atStart => exact ⟨rfl, rfl, 0, Nat.zero_le _, rfl, unhide HM⟩
  case round =>
    obtain ⟨-, -, i, hil, rfl, hr⟩ := hrel
    clear HM
    by_cases hlt : i < es.length
    · obtain ⟨g, b, off, rfl, hg, hgs, d0, d1, d2, d3, d4⟩ := unhide HR i wr hlt (unhide hr).2
      have hii : (i : Int) < (es.length : Int) := by omega
      have hi0 : (0 : Int) ≤ (i : Int) := by omega
      have hb1 := box_below wr (.cells #[.int .u64 (g.term : Int), .int .i64 g.kind, .int .u64 (g.client : Int), .int .u64 (g.seq : Int), .string g.sql] 37)
      have HE1 : Hid (Calls Tryz.prog 33 #[.agg #[.int .u64 (g.term : Int), .int .i64 g.kind, .int .u64 (g.client : Int), .int .u64 (g.seq : Int), .string g.sql]] (wr.alloc (.cells #[.int .u64 (g.term : Int), .int .i64 g.kind, .int .u64 (g.client : Int), .int .u64 (g.seq : Int), .string g.sql] 37)) fun e w' => e = .returned (.agg (rcE g).cells) ∧ Hid (MB w' w.heap.size es i ∧ Below w.heap.size w w')) :=
        (entryOf_any g _ hgs).mono fun e w' ⟨h1, h2⟩ => ⟨h1, ((unhide hr).1.later hb1).later h2, below_trans0 (below_trans0 (unhide hr).2 hb1) h2⟩
      have HA : Hid (∀ w2 : World, MB w2 w.heap.size es i → ∀ j, j < 8 → (∃ u, w2.cell? ⟨w.heap.size, i * 8 + j, none⟩ = some u) ∧ w2.frozen? ⟨w.heap.size, i * 8 + j, none⟩ = false) := fun w2 h2 j hj => h2.at hlt j hj
      have Hg := hide hg
      clear hr hb1 hg
      unfold rcE Rc.cells at HE1
      dsimp only at HE1
      go_wp2_with (first
        | (go_at_call 33; refine (unhide HE1).mono ?_; rintro e w2 ⟨rfl, h2⟩; obtain ⟨⟨u0, e0⟩, f0⟩ := unhide HA w2 (unhide h2).1 0 (by decide); obtain ⟨⟨u1, e1⟩, f1⟩ := unhide HA w2 (unhide h2).1 1 (by decide); obtain ⟨⟨u2, e2⟩, f2⟩ := unhide HA w2 (unhide h2).1 2 (by decide); obtain ⟨⟨u3, e3⟩, f3⟩ := unhide HA w2 (unhide h2).1 3 (by decide); obtain ⟨⟨u4, e4⟩, f4⟩ := unhide HA w2 (unhide h2).1 4 (by decide); obtain ⟨⟨u5, e5⟩, f5⟩ := unhide HA w2 (unhide h2).1 5 (by decide); obtain ⟨⟨u6, e6⟩, f6⟩ := unhide HA w2 (unhide h2).1 6 (by decide); obtain ⟨⟨u7, e7⟩, f7⟩ := unhide HA w2 (unhide h2).1 7 (by decide); clear HE1; simp only [Nat.add_zero] at e0 f0))
      refine ⟨⟨trivial, trivial, i + 1, by omega, by simp, (unhide h2).1.step (unhide Hg) (unhide h2).2 (Nat.le_refl _)⟩, ?_⟩
      simp [RowKit.intOf]; omega
    · obtain rfl : i = es.length := by omega
      have hii : ¬ ((es.length : Int) < (es.length : Int)) := by omega
      have HD1 := hide (unhide HD wr (unhide hr).2 (unhide hr).1)
      clear hr HD HR
      go_wp2_with (first
        | (go_at_call 32; refine (unhide HD1).mono ?_; intro e w1 h1; clear HD1; obtain ⟨v', D', rfl, _⟩ := id h1; have H1 := hide h1; clear h1))
      go_ret
      exact unhide H1
end
end Go.Proofs.YtebiekkkmimomaaGreatDoor
