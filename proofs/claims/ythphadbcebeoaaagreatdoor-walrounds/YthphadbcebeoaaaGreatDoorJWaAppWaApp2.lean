/- A wal's Append: its records. -/
import Derived.Test.YthphadbcebeoaaaGreatDoorJWaOpsWaBad
import Derived.Test.YthphadbcebeoaaaGreatDoorJShelfDListDPut
namespace Go.Proofs.YthphadbcebeoaaaGreatDoor
open Go.RowKit Go.Lib Go.Maps

set_option maxHeartbeats 6400000 in
set_option maxRecDepth 100000 in
theorem entryOf_any (g : GE) (w : World) (hg : g.sql.size ≤ 281474976710656) : Calls Tryz.prog 33 #[.agg #[.int .u64 (g.term : Int), .int .i64 g.kind, .int .u64 (g.client : Int), .int .u64 (g.seq : Int), .string g.sql]] w fun e w' => e = .returned (.agg (rcE g).cells) ∧ Below w.heap.size w w' := by
  unfold rcE Rc.cells
  dsimp only
  obtain ⟨W0, hW0⟩ : ∃ W0, W0 = (w.alloc (.cells #[.int .u64 (g.term : Int), .int .i64 g.kind, .int .u64 (g.client : Int), .int .u64 (g.seq : Int), .string g.sql] 37)).alloc (.cells #[.int .u8 0, .int .u64 0, .int .u64 0, .int .u64 0, .int .i64 0, .int .u64 0, .int .u64 0, .string ⟨#[]⟩] 84) := ⟨_, rfl⟩
  have B0 : Below w.heap.size w W0 := by rw [hW0]; exact ((Below.refl _ _).alloc (Nat.le_refl _) _).alloc (by simp) _
  have V0 : W0.heap[w.heap.size]? = some (.cells #[.int .u64 (g.term : Int), .int .i64 g.kind, .int .u64 (g.client : Int), .int .u64 (g.seq : Int), .string g.sql] 37 (0, 0)) := by
    rw [hW0]; exact (Below.heap_alloc _ _ _ (by simp)).trans (heap_alloc_new _ _)
  have V1 : Rv W0 (w.heap.size + 1) #[.int .u8 0, .int .u64 0, .int .u64 0, .int .u64 0, .int .i64 0, .int .u64 0, .int .u64 0, .string ⟨#[]⟩] := by
    rw [hW0]; have := heap_alloc_new (w.alloc (.cells #[.int .u64 (g.term : Int), .int .i64 g.kind, .int .u64 (g.client : Int), .int .u64 (g.seq : Int), .string g.sql] 37)) (.cells #[.int .u8 0, .int .u64 0, .int .u64 0, .int .u64 0, .int .i64 0, .int .u64 0, .int .u64 0, .string ⟨#[]⟩] 84); rwa [World.size_alloc] at this
  have HU1 : Hid (Calls Tryz.prog 61 #[.string g.sql] W0 fun e w' => e = .returned (.string g.sql) ∧ w'.heap[w.heap.size]? = some (.cells #[.int .u64 (g.term : Int), .int .i64 g.kind, .int .u64 (g.client : Int), .int .u64 (g.seq : Int), .string g.sql] 37 (0, 0)) ∧ Rv w' (w.heap.size + 1) #[.int .u8 0, .int .u64 0, .int .u64 0, .int .u64 0, .int .i64 0, .int .u64 0, .int .u64 0, .string ⟨#[]⟩] ∧ Below w.heap.size w w') := by
    refine (Dk.sclone_any g.sql W0 hg).mono ?_
    rintro e w' ⟨rfl, h2⟩
    exact ⟨rfl, (h2.block _ (Array.getElem?_eq_some_iff.1 V0).1).trans V0, (h2.block _ (Array.getElem?_eq_some_iff.1 V1).1).trans V1, below_trans0 B0 h2⟩
  clear B0 V0 V1 hg
  go_enter Tryz.func33, Tryz.ntmps33
  go_wp2_with (first
      | (go_at_call 61; rw [← hW0]; refine (unhide HU1).mono ?_; rintro e w1 ⟨rfl, r0, r1, b1⟩; clear HU1; have x0 := (Dk.cellB r0 0).1; have x1 := (Dk.cellB r0 1).1; have x2 := (Dk.cellB r0 2).1; have x3 := (Dk.cellB r0 3).1; have x4 := (Dk.cellB r0 4).1; have f4 := (Dk.cellB r0 4).2; simp only [List.getElem?_toArray, List.getElem?_cons_zero, List.getElem?_cons_succ] at x0 x1 x2 x3 x4; obtain ⟨y0, y1, y2, y3, y4, y5, y6, y7⟩ := r1.cells; have fy0 := r1.frz 0; have fy1 := r1.frz 1; have fy2 := r1.frz 2; have fy3 := r1.frz 3; have fy4 := r1.frz 4; have fy5 := r1.frz 5; have fy6 := r1.frz 6; have fy7 := r1.frz 7; have HB := hide b1; clear b1 r0 r1 hW0))
  refine bodyPost_ret (v := .agg #[.int .u8 4, .int .u64 0, .int .u64 0, .int .u64 (g.term : Int), .int .i64 g.kind, .int .u64 (g.client : Int), .int .u64 (g.seq : Int), .string g.sql]) ?_ rfl ?_
  · rw [results_cell1 rfl]
    go_simp
    try rfl
  exact ⟨rfl, set8_below ((unhide HB).setCell (p := ⟨w.heap.size, 4, none⟩) (Nat.le_refl _) _) (Nat.le_succ _) _ _ _ _ _ _ _ _⟩
/-- Records made of the first i entries, in a block for all. -/
def MB (w : World) (rb : Nat) (es : List GE) (i : Nat) : Prop :=
  ∃ cur : Array Value, w.heap[rb]? = some (.cells cur 84 (0, 0)) ∧ es.length * 8 ≤ cur.size ∧ ∀ k g, k < i → es[k]? = some g → ∀ j u, (rcE g).cells[j]? = some u → cur[k * 8 + j]? = some u
theorem MB.later {w w' : World} {rb i : Nat} {es : List GE} (h : MB w rb es i) (hb : Below w.heap.size w w') : MB w' rb es i := by
  obtain ⟨cur, h1, h2⟩ := h
  exact ⟨cur, (hb.block _ (Array.getElem?_eq_some_iff.1 h1).1).trans h1, h2⟩
theorem MB.at {w : World} {rb i : Nat} {es : List GE} (h : MB w rb es i) {k : Nat} (hk : k < es.length) (j : Nat) (hj : j < 8) : (∃ u, w.cell? ⟨rb, k * 8 + j, none⟩ = some u) ∧ w.frozen? ⟨rb, k * 8 + j, none⟩ = false := by
  obtain ⟨cur, h1, h2, _⟩ := h
  have : k * 8 + j < cur.size := by omega
  exact ⟨⟨cur[k * 8 + j], (Dk.cellB h1 _).1.trans (Array.getElem?_eq_getElem this)⟩, (Dk.cellB h1 _).2⟩
theorem MB.set {w : World} {rb i : Nat} {es : List GE} {g : GE} (h : MB w rb es i) (hg : es[i]? = some g) : MB (w.setCells rb (i * 8) (rcE g).cells.toList) rb es (i + 1) := by
  obtain ⟨cur, h1, h2, h3⟩ := h
  have hi := (List.getElem?_eq_some_iff.1 hg).1
  have hl : (rcE g).cells.toList.length = 8 := rfl
  obtain ⟨cur', q1, q2, q3, q4⟩ := setCells_blk (rcE g).cells.toList (i * 8) w cur h1 (by rw [hl]; omega)
  refine ⟨cur', q1, by omega, fun k g' hk hg' j u hu => ?_⟩
  have hj : j < 8 := by have := (Array.getElem?_eq_some_iff.1 hu).1; exact this
  rcases Nat.lt_or_ge k i with h' | h'
  · rw [q4 _ (.inl (by omega))]
    exact h3 k g' h' hg' j u hu
  · obtain rfl : k = i := by omega
    rw [hg] at hg'
    cases hg'
    rw [q3 _ (by omega) (by rw [hl]; omega), show k * 8 + j - k * 8 = j by omega, Array.getElem?_toList]
    exact hu
theorem MB.rl {w : World} {rb : Nat} {es : List GE} (h : MB w rb es es.length) (cap : Nat) : RL w (.slice (some ⟨rb, 0, none⟩) es.length cap) (es.map rcE) := by
  obtain ⟨cur, h1, h2, h3⟩ := h
  refine ⟨_, cap, by rw [List.length_map], fun i r hi => ?_⟩
  rw [List.getElem?_map] at hi
  cases hg : es[i]? with
  | none => rw [hg] at hi; cases hi
  | some g =>
    rw [hg] at hi
    cases hi
    refine ⟨rb, 0, rfl, (Array.getElem?_eq_some_iff.1 h1).1, fun j u hu => ?_⟩
    rw [Nat.zero_add, (Dk.cellB h1 _).1]
    exact h3 i g (List.getElem?_eq_some_iff.1 hg).1 hg j u hu
end Go.Proofs.YthphadbcebeoaaaGreatDoor
/- A wal's Append. -/
namespace Go.Proofs.YthphadbcebeoaaaGreatDoor
open Go.RowKit Go.Lib Go.Maps

/-- A slice that reads as these entries. -/
def RE (w : World) (v : Value) (es : List GE) : Prop :=
  ∃ a cap, v = .slice a es.length cap ∧ ∀ i g, es[i]? = some g → ∃ b off, a = some ⟨b, off, none⟩ ∧ b < w.heap.size ∧ ∀ j u, (geC g)[j]? = some u → w.cell? ⟨b, off + i * 5 + j, none⟩ = some u
theorem RE.below {w w' : World} {v : Value} {es : List GE} (h : RE w v es) (hb : Below w.heap.size w w') : RE w' v es := by
  obtain ⟨a, cap, rfl, h2⟩ := h
  refine ⟨a, cap, rfl, fun i g hg => ?_⟩
  obtain ⟨b, off, rfl, h3, h4⟩ := h2 i g hg
  exact ⟨b, off, rfl, Nat.lt_of_lt_of_le h3 hb.size, fun j u hu => (hb.cell (p := ⟨b, _, none⟩) h3).trans (h4 j u hu)⟩
theorem EL.re {w : World} {v : Value} {es : List GE} (h : EL w v es) : RE w v es := by
  obtain ⟨a, k, rfl, _, _⟩ := h.slice
  refine ⟨a, k, rfl, fun i g hg => ?_⟩
  obtain ⟨b, off, k', e, hb, _, hc⟩ := h.cells hg
  cases e
  exact ⟨b, off, rfl, hb, hc⟩
theorem Tryz.infoRc : (Tryz.prog.info? 84).map (fun i => (i.zero, i.size, decide (i.bytes ≤ 100))) = some (some (.agg zRec), 8, true) := by kernel_rfl
theorem Tryz.infoRcs : ∃ i, Tryz.prog.info? 84 = some i ∧ i.zero = some (.agg zRec) ∧ i.size = 8 ∧ i.bytes ≤ 100 := by
  have h := Tryz.infoRc
  cases hi : Tryz.prog.info? 84 with
  | none => rw [hi] at h; cases h
  | some i =>
    rw [hi] at h
    simp only [Option.map_some, Option.some.injEq, Prod.mk.injEq, decide_eq_true_eq] at h
    exact ⟨i, rfl, h.1, h.2.1, h.2.2⟩
theorem MB.start {w w1 : World} {es : List GE} {n : Nat} {xs : List Value} (hn : n = es.length) (ho : w1.ownsRow w.heap.size 84 8 (.slice (some ⟨w.heap.size, 0, none⟩) n n) n xs) : MB w1 w.heap.size es 0 := by
  subst hn
  obtain ⟨_, ⟨h1, _⟩ | ⟨g, cap, cur, h1, h2, h3, h4, h5, h6, h7⟩⟩ := ho
  · cases h1
  · cases h1
    exact ⟨cur, h3, by omega, fun k g hk => by omega⟩
theorem rcE_run {s : Sta} : ∀ (es : List GE), runS s (es.map rcE) = .ok ⟨s.term, s.vote, s.base, s.bt, s.es ++ es⟩
  | [] => by simp [runS]
  | g :: r => by
    simp only [List.map_cons, runS]
    have : takeS s (rcE g) = .ok ⟨s.term, s.vote, s.base, s.bt, s.es ++ [g]⟩ := rfl
    rw [this]
    simp only
    rw [rcE_run r]
    simp
theorem setCells8 (w : World) (b o : Nat) (a0 a1 a2 a3 a4 a5 a6 a7 : Value) : w.setCells b o [a0, a1, a2, a3, a4, a5, a6, a7] = (((((((w.setCell ⟨b, o, none⟩ a0).setCell ⟨b, o + 1, none⟩ a1).setCell ⟨b, o + 2, none⟩ a2).setCell ⟨b, o + 3, none⟩ a3).setCell ⟨b, o + 4, none⟩ a4).setCell ⟨b, o + 5, none⟩ a5).setCell ⟨b, o + 6, none⟩ a6).setCell ⟨b, o + 7, none⟩ a7 := by
  simp only [World.setCells, Nat.add_assoc, Nat.reduceAdd]
theorem below_cells {B : Nat} {a : World} {b : Nat} (hp : B ≤ b) : ∀ (vs : List Value) (o : Nat) (w : World), Below B a w → Below B a (w.setCells b o vs)
  | [], _, _, h => h
  | v :: vs, o, w, h => by rw [World.setCells]; exact below_cells hp vs (o + 1) _ (h.setCell (p := ⟨b, o, none⟩) hp v)
theorem MB.step {w w0 : World} {rb i : Nat} {es : List GE} {g : GE} (h : MB w rb es i) (hg : es[i]? = some g) (hb : Below w0.heap.size w0 w) (hr : w0.heap.size ≤ rb) : MB ((((((((w.setCell ⟨rb, i * 8, none⟩ (.int .u8 4)).setCell ⟨rb, i * 8 + 1, none⟩ (.int .u64 0)).setCell ⟨rb, i * 8 + 2, none⟩ (.int .u64 0)).setCell ⟨rb, i * 8 + 3, none⟩ (.int .u64 (g.term : Int))).setCell ⟨rb, i * 8 + 4, none⟩ (.int .i64 g.kind)).setCell ⟨rb, i * 8 + 5, none⟩ (.int .u64 (g.client : Int))).setCell ⟨rb, i * 8 + 6, none⟩ (.int .u64 (g.seq : Int))).setCell ⟨rb, i * 8 + 7, none⟩ (.string g.sql)) rb es (i + 1) ∧ Below w0.heap.size w0 ((((((((w.setCell ⟨rb, i * 8, none⟩ (.int .u8 4)).setCell ⟨rb, i * 8 + 1, none⟩ (.int .u64 0)).setCell ⟨rb, i * 8 + 2, none⟩ (.int .u64 0)).setCell ⟨rb, i * 8 + 3, none⟩ (.int .u64 (g.term : Int))).setCell ⟨rb, i * 8 + 4, none⟩ (.int .i64 g.kind)).setCell ⟨rb, i * 8 + 5, none⟩ (.int .u64 (g.client : Int))).setCell ⟨rb, i * 8 + 6, none⟩ (.int .u64 (g.seq : Int))).setCell ⟨rb, i * 8 + 7, none⟩ (.string g.sql)) := by
  rw [← setCells8]
  exact ⟨h.set hg, below_cells hr _ _ _ hb⟩
section
variable {w : World} {B p q sz n : Nat} {S : Dk.St} {R : Int} {a x : Fx} {s : Sta} {v vl : Value} {D : Nat → Prop} {es : List GE}
set_option maxHeartbeats 12800000 in
set_option maxRecDepth 100000 in
/-- Append: its records, then do. -/
theorem app_of {P : Ending → World → Prop} (hP : ∀ e w', P e w' → ∃ ve, e = .returned ve) (hn : es.length ≤ 900000) (hl : RE w vl es) (hes : ∀ g ∈ es, g.sql.size ≤ 281474976710656) (hD : ∀ w2 : World, Below w.heap.size w w2 → MB w2 w.heap.size es es.length → Calls Tryz.prog 32 #[.pointer (some ⟨p, 0, none⟩), .slice (some ⟨w.heap.size, 0, none⟩) es.length es.length] w2 P) :
    Calls Tryz.prog 11 #[.pointer (some ⟨p, 0, none⟩), vl] w P := by
  obtain ⟨la, lc, rfl, hrd⟩ := id hl
  obtain ⟨i0, hi, hz0, hz1, hz2⟩ := Tryz.infoRcs
  have hel : (es.length : Int) ≤ 900000 := by omega
  have hbb : i0.bytes * es.length ≤ 281474976710656 := Nat.le_trans (Nat.mul_le_mul hz2 (show es.length ≤ 900000 by omega)) (by decide)
  have HD := hide hD
  have HP := hide hP
  have HR : Hid (∀ (i : Nat) (wr : World), i < es.length → Below w.heap.size w wr → ∃ (g : GE) (b off : Nat), la = some ⟨b, off, none⟩ ∧ es[i]? = some g ∧ g.sql.size ≤ 281474976710656 ∧ wr.cell? ⟨b, off + i * 5, none⟩ = some (.int .u64 (g.term : Int)) ∧ wr.cell? ⟨b, off + i * 5 + 1, none⟩ = some (.int .i64 g.kind) ∧ wr.cell? ⟨b, off + i * 5 + 2, none⟩ = some (.int .u64 (g.client : Int)) ∧ wr.cell? ⟨b, off + i * 5 + 3, none⟩ = some (.int .u64 (g.seq : Int)) ∧ wr.cell? ⟨b, off + i * 5 + 4, none⟩ = some (.string g.sql)) := by
    intro i wr hil hb
    have hg : es[i]? = some es[i] := List.getElem?_eq_getElem hil
    obtain ⟨b, off, rfl, hbl, hc⟩ := hrd i _ hg
    have hc2 : ∀ j u, (geC es[i])[j]? = some u → wr.cell? ⟨b, off + i * 5 + j, none⟩ = some u := fun j u hu => (hb.cell (p := ⟨b, _, none⟩) hbl).trans (hc j u hu)
    exact ⟨es[i], b, off, rfl, hg, hes _ (List.mem_of_getElem? hg), hc2 0 _ rfl, hc2 1 _ rfl, hc2 2 _ rfl, hc2 3 _ rfl, hc2 4 _ rfl⟩
  clear hl hrd hes hn hD hP
  go_enter Tryz.func11, Tryz.ntmps11
  go_wp2_with (first
    | (at_make; refine wpList_make_full _ rfl _ _ 85 rfl w.heap.size 84 i0 (.agg zRec) 8 Tryz.underlying85 hi hz0 hz1 _ _ _ _ es.length rfl rfl rfl rfl hbb (by unfold maxLen; omega) (Nat.le_refl _) ?_; intro w1 ho1 hg1; have HM := hide (And.intro (MB.start rfl ho1) ((Below.refl w.heap.size w).grown hg1 (Nat.le_refl _) (by intro k h; cases h))); clear ho1 hg1))
  go_loopw [6, 7, 13] (fun s6 s7 s13 wr => s6 = s6 ∧ s7 = s7 ∧ ∃ i, i ≤ es.length ∧ s13 = .int .i64 (i : Int) ∧ Hid (MB wr w.heap.size es i ∧ Below w.heap.size w wr)) (fun _ _ s13 _ => es.length - (RowKit.intOf s13).toNat)
  case atStart => exact ⟨rfl, rfl, 0, Nat.zero_le _, rfl, unhide HM⟩
  case round =>
    obtain ⟨-, -, i, hil, rfl, hr⟩ := hrel
    clear HM
    by_cases hlt : i < es.length
    · obtain ⟨g, b, off, rfl, hg, hgs, d0, d1, d2, d3, d4⟩ := unhide HR i wr hlt (unhide hr).2
      have hii : (i : Int) < (es.length : Int) := by omega
      have hi0 : (0 : Int) ≤ (i : Int) := by omega
      have hb1 := box_below wr (.cells #[.int .u64 (g.term : Int), .int .i64 g.kind, .int .u64 (g.client : Int), .int .u64 (g.seq : Int), .string g.sql] 37)
      have HE1 : Hid (Calls Tryz.prog 33 #[.agg #[.int .u64 (g.term : Int), .int .i64 g.kind, .int .u64 (g.client : Int), .int .u64 (g.seq : Int), .string g.sql]] (wr.alloc (.cells #[.int .u64 (g.term : Int), .int .i64 g.kind, .int .u64 (g.client : Int), .int .u64 (g.seq : Int), .string g.sql] 37)) fun e w' => e = .returned (.agg (rcE g).cells) ∧ Hid (MB w' w.heap.size es i ∧ Below w.heap.size w w')) :=
        (entryOf_any g _ hgs).mono fun e w' ⟨h1, h2⟩ => ⟨h1, ((unhide hr).1.later hb1).later h2, below_trans0 (below_trans0 (unhide hr).2 hb1) h2⟩
      have HA : Hid (∀ w2 : World, MB w2 w.heap.size es i → ∀ j, j < 8 → (∃ u, w2.cell? ⟨w.heap.size, i * 8 + j, none⟩ = some u) ∧ w2.frozen? ⟨w.heap.size, i * 8 + j, none⟩ = false) := fun w2 h2 j hj => h2.at hlt j hj
      have Hg := hide hg
      clear hr hb1 hg
      unfold rcE Rc.cells at HE1
      dsimp only at HE1
      go_wp2_with (first
        | (go_at_call 33; refine (unhide HE1).mono ?_; rintro e w2 ⟨rfl, h2⟩; obtain ⟨⟨u0, e0⟩, f0⟩ := unhide HA w2 (unhide h2).1 0 (by decide); obtain ⟨⟨u1, e1⟩, f1⟩ := unhide HA w2 (unhide h2).1 1 (by decide); obtain ⟨⟨u2, e2⟩, f2⟩ := unhide HA w2 (unhide h2).1 2 (by decide); obtain ⟨⟨u3, e3⟩, f3⟩ := unhide HA w2 (unhide h2).1 3 (by decide); obtain ⟨⟨u4, e4⟩, f4⟩ := unhide HA w2 (unhide h2).1 4 (by decide); obtain ⟨⟨u5, e5⟩, f5⟩ := unhide HA w2 (unhide h2).1 5 (by decide); obtain ⟨⟨u6, e6⟩, f6⟩ := unhide HA w2 (unhide h2).1 6 (by decide); obtain ⟨⟨u7, e7⟩, f7⟩ := unhide HA w2 (unhide h2).1 7 (by decide); clear HE1; simp only [Nat.add_zero] at e0 f0))
      refine ⟨⟨trivial, trivial, i + 1, by omega, by simp, (unhide h2).1.step (unhide Hg) (unhide h2).2 (Nat.le_refl _)⟩, ?_⟩
      simp [RowKit.intOf]; omega
    · obtain rfl : i = es.length := by omega
      have hii : ¬ ((es.length : Int) < (es.length : Int)) := by omega
      have HD1 := hide (unhide HD wr (unhide hr).2 (unhide hr).1)
      clear hr HD HR
      go_wp2_with (first
        | (go_at_call 32; refine (unhide HD1).mono ?_; intro e w1 h1; clear HD1; obtain ⟨ve, rfl⟩ := unhide HP _ _ h1; have H1 := hide h1; clear h1))
      exact unhide H1
theorem wapp_go (h : WX w B p q S (FX a x) s v sz D) (hB : B ≤ w.heap.size) (hE : EV w B) (hs : s.ok) (hn : s.es.length + es.length ≤ 900000) (hl : RE w vl es) (hes : ∀ g ∈ es, g.ok ∧ g.may = true) (hlen : (recsB (es.map rcE)).length ≤ 1000000) (hS : OkS S R n) (hm : Roomy R a x (recsB (es.map rcE)).length) (hz : sz + (recsB (es.map rcE)).length ≤ 32768) (hf : ¬ Fails S) :
    Calls Tryz.prog 11 #[.pointer (some ⟨p, 0, none⟩), vl] w fun e w' => WDone w B p q (nx S) (FX a (some (dB x ++ recsB (es.map rcE), dS x))) ⟨s.term, s.vote, s.base, s.bt, s.es ++ es⟩ (sz + (recsB (es.map rcE)).length) v D (WO p v D) e w' := by
  refine app_of (fun e w' hd => ?_) (by omega) hl (fun g hg => ?_) ?_
  · obtain ⟨v', D', h1, _⟩ := hd
    exact ⟨_, h1⟩
  · have hm2 := (hes g hg).2
    simp [GE.may] at hm2
    omega
  intro w2 hb hM
  refine (do_go (rs := es.map rcE) ⟨h.below hb, Nat.le_trans hB hb.size, hE.below (hb.mono hB), hs, hM.rl _, fun b hi hw => ?_, by simpa using hn, .inl (fun r hr => ?_)⟩ hlen (fun r hr => ?_) (rcE_run es) hS hm hz hf).mono fun e w' hd => hd.pre hb
  · obtain ⟨_, _, _, e⟩ := hi
    cases e
    have := h.lt _ hw
    omega
  · obtain ⟨g, _, rfl⟩ := List.mem_map.1 hr
    exact .inl rfl
  · obtain ⟨g, hg, rfl⟩ := List.mem_map.1 hr
    exact rcE_ok (hes g hg).1 (hes g hg).2
end
end Go.Proofs.YthphadbcebeoaaaGreatDoor
