/- A wal's Append: its records. -/
import Derived.Test.YthphadbcebeoaaaGreatDoorJWaDoWaOpsWaBad
import Derived.Test.YthphadbcebeoaaaGreatDoorJShelfDListDPut
import Derived.Test.YthphadbcebeoaaaGreatDoorJNumsFaultsWriterUint
namespace Go.Proofs.YthphadbcebeoaaaGreatDoor
open Go.RowKit Go.Lib Go.Maps

set_option maxHeartbeats 6400000 in
set_option maxRecDepth 100000 in
theorem entryOf_any (g : GE) (w : World) (hg : g.sql.size ≤ 281474976710656) : Calls Tryz.prog 33 #[.agg #[.int .u64 (g.term : Int), .int .i64 g.kind, .int .u64 (g.client : Int), .int .u64 (g.seq : Int), .string g.sql]] w fun e w' => e = .returned (.agg (rcE g).cells) ∧ Below w.heap.size w w' := by
  unfold rcE Rc.cells
  dsimp only
  obtain ⟨W0, hW0⟩ : ∃ W0, W0 = (w.alloc (.cells #[.int .u64 (g.term : Int), .int .i64 g.kind, .int .u64 (g.client : Int), .int .u64 (g.seq : Int), .string g.sql] 37)).alloc (.cells #[.int .u8 0, .int .u64 0, .int .u64 0, .int .u64 0, .int .i64 0, .int .u64 0, .int .u64 0, .string ⟨#[]⟩] 84) := ⟨_, rfl⟩
  have B0 : Below w.heap.size w W0 := by rw [hW0]; exact ((Below.refl _ _).alloc (Nat.le_refl _) _).alloc (by simp) _
  have V0 : W0.heap[w.heap.size]? = some (.cells #[.int .u64 (g.term : Int), .int .i64 g.kind, .int .u64 (g.client : Int), .int .u64 (g.seq : Int), .string g.sql] 37 (0, 0)) := by
    rw [hW0]; exact (Below.heap_alloc _ _ _ (by simp)).trans (heap_alloc_new _ _)
  have V1 : Rv W0 (w.heap.size + 1) #[.int .u8 0, .int .u64 0, .int .u64 0, .int .u64 0, .int .i64 0, .int .u64 0, .int .u64 0, .string ⟨#[]⟩] := by
    rw [hW0]; have := heap_alloc_new (w.alloc (.cells #[.int .u64 (g.term : Int), .int .i64 g.kind, .int .u64 (g.client : Int), .int .u64 (g.seq : Int), .string g.sql] 37)) (.cells #[.int .u8 0, .int .u64 0, .int .u64 0, .int .u64 0, .int .i64 0, .int .u64 0, .int .u64 0, .string ⟨#[]⟩] 84); rwa [World.size_alloc] at this
  have HU1 : Hid (Calls Tryz.prog 61 #[.string g.sql] W0 fun e w' => e = .returned (.string g.sql) ∧ w'.heap[w.heap.size]? = some (.cells #[.int .u64 (g.term : Int), .int .i64 g.kind, .int .u64 (g.client : Int), .int .u64 (g.seq : Int), .string g.sql] 37 (0, 0)) ∧ Rv w' (w.heap.size + 1) #[.int .u8 0, .int .u64 0, .int .u64 0, .int .u64 0, .int .i64 0, .int .u64 0, .int .u64 0, .string ⟨#[]⟩] ∧ Below w.heap.size w w') := by
    refine (Dk.sclone_any g.sql W0 hg).mono ?_
    rintro e w' ⟨rfl, h2⟩
    exact ⟨rfl, (h2.block _ (Array.getElem?_eq_some_iff.1 V0).1).trans V0, (h2.block _ (Array.getElem?_eq_some_iff.1 V1).1).trans V1, below_trans0 B0 h2⟩
  clear B0 V0 V1 hg
  go_enter Tryz.func33, Tryz.ntmps33
  go_wp2_with (first
      | (go_at_call 61; rw [← hW0]; refine (unhide HU1).mono ?_; rintro e w1 ⟨rfl, r0, r1, b1⟩; clear HU1; have x0 := (Dk.cellB r0 0).1; have x1 := (Dk.cellB r0 1).1; have x2 := (Dk.cellB r0 2).1; have x3 := (Dk.cellB r0 3).1; have x4 := (Dk.cellB r0 4).1; have f4 := (Dk.cellB r0 4).2; simp only [List.getElem?_toArray, List.getElem?_cons_zero, List.getElem?_cons_succ] at x0 x1 x2 x3 x4; obtain ⟨y0, y1, y2, y3, y4, y5, y6, y7⟩ := r1.cells; have fy0 := r1.frz 0; have fy1 := r1.frz 1; have fy2 := r1.frz 2; have fy3 := r1.frz 3; have fy4 := r1.frz 4; have fy5 := r1.frz 5; have fy6 := r1.frz 6; have fy7 := r1.frz 7; have HB := hide b1; clear b1 r0 r1 hW0))
  refine bodyPost_ret (v := .agg #[.int .u8 4, .int .u64 0, .int .u64 0, .int .u64 (g.term : Int), .int .i64 g.kind, .int .u64 (g.client : Int), .int .u64 (g.seq : Int), .string g.sql]) ?_ rfl ?_
  · rw [results_cell1 rfl]
    go_simp
    try rfl
  exact ⟨rfl, set8_below ((unhide HB).setCell (p := ⟨w.heap.size, 4, none⟩) (Nat.le_refl _) _) (Nat.le_succ _) _ _ _ _ _ _ _ _⟩
/-- Records made of the first i entries, in a block for all. -/
def MB (w : World) (rb : Nat) (es : List GE) (i : Nat) : Prop :=
  ∃ cur : Array Value, w.heap[rb]? = some (.cells cur 84 (0, 0)) ∧ es.length * 8 ≤ cur.size ∧ ∀ k g, k < i → es[k]? = some g → ∀ j u, (rcE g).cells[j]? = some u → cur[k * 8 + j]? = some u
theorem MB.later {w w' : World} {rb i : Nat} {es : List GE} (h : MB w rb es i) (hb : Below w.heap.size w w') : MB w' rb es i := by
  obtain ⟨cur, h1, h2⟩ := h
  exact ⟨cur, (hb.block _ (Array.getElem?_eq_some_iff.1 h1).1).trans h1, h2⟩
theorem MB.at {w : World} {rb i : Nat} {es : List GE} (h : MB w rb es i) {k : Nat} (hk : k < es.length) (j : Nat) (hj : j < 8) : (∃ u, w.cell? ⟨rb, k * 8 + j, none⟩ = some u) ∧ w.frozen? ⟨rb, k * 8 + j, none⟩ = false := by
  obtain ⟨cur, h1, h2, _⟩ := h
  have : k * 8 + j < cur.size := by omega
  exact ⟨⟨cur[k * 8 + j], (Dk.cellB h1 _).1.trans (Array.getElem?_eq_getElem this)⟩, (Dk.cellB h1 _).2⟩
theorem MB.set {w : World} {rb i : Nat} {es : List GE} {g : GE} (h : MB w rb es i) (hg : es[i]? = some g) : MB (w.setCells rb (i * 8) (rcE g).cells.toList) rb es (i + 1) := by
  obtain ⟨cur, h1, h2, h3⟩ := h
  have hi := (List.getElem?_eq_some_iff.1 hg).1
  have hl : (rcE g).cells.toList.length = 8 := rfl
  obtain ⟨cur', q1, q2, q3, q4⟩ := setCells_blk (rcE g).cells.toList (i * 8) w cur h1 (by rw [hl]; omega)
  refine ⟨cur', q1, by omega, fun k g' hk hg' j u hu => ?_⟩
  have hj : j < 8 := by have := (Array.getElem?_eq_some_iff.1 hu).1; exact this
  rcases Nat.lt_or_ge k i with h' | h'
  · rw [q4 _ (.inl (by omega))]
    exact h3 k g' h' hg' j u hu
  · obtain rfl : k = i := by omega
    rw [hg] at hg'
    cases hg'
    rw [q3 _ (by omega) (by rw [hl]; omega), show k * 8 + j - k * 8 = j by omega, Array.getElem?_toList]
    exact hu
theorem MB.rl {w : World} {rb : Nat} {es : List GE} (h : MB w rb es es.length) (cap : Nat) : RL w (.slice (some ⟨rb, 0, none⟩) es.length cap) (es.map rcE) := by
  obtain ⟨cur, h1, h2, h3⟩ := h
  refine ⟨_, cap, by rw [List.length_map], fun i r hi => ?_⟩
  rw [List.getElem?_map] at hi
  cases hg : es[i]? with
  | none => rw [hg] at hi; cases hi
  | some g =>
    rw [hg] at hi
    cases hi
    refine ⟨rb, 0, rfl, (Array.getElem?_eq_some_iff.1 h1).1, fun j u hu => ?_⟩
    rw [Nat.zero_add, (Dk.cellB h1 _).1]
    exact h3 i g (List.getElem?_eq_some_iff.1 hg).1 hg j u hu
end Go.Proofs.YthphadbcebeoaaaGreatDoor
/- A wal's Append. -/
namespace Go.Proofs.YthphadbcebeoaaaGreatDoor
open Go.RowKit Go.Lib Go.Maps

/-- A slice that reads as these entries. -/
def RE (w : World) (v : Value) (es : List GE) : Prop :=
  ∃ a cap, v = .slice a es.length cap ∧ ∀ i g, es[i]? = some g → ∃ b off, a = some ⟨b, off, none⟩ ∧ b < w.heap.size ∧ ∀ j u, (geC g)[j]? = some u → w.cell? ⟨b, off + i * 5 + j, none⟩ = some u
theorem RE.below {w w' : World} {v : Value} {es : List GE} (h : RE w v es) (hb : Below w.heap.size w w') : RE w' v es := by
  obtain ⟨a, cap, rfl, h2⟩ := h
  refine ⟨a, cap, rfl, fun i g hg => ?_⟩
  obtain ⟨b, off, rfl, h3, h4⟩ := h2 i g hg
  exact ⟨b, off, rfl, Nat.lt_of_lt_of_le h3 hb.size, fun j u hu => (hb.cell (p := ⟨b, _, none⟩) h3).trans (h4 j u hu)⟩
theorem EL.re {w : World} {v : Value} {es : List GE} (h : EL w v es) : RE w v es := by
  obtain ⟨a, k, rfl, _, _⟩ := h.slice
  refine ⟨a, k, rfl, fun i g hg => ?_⟩
  obtain ⟨b, off, k', e, hb, _, hc⟩ := h.cells hg
  cases e
  exact ⟨b, off, rfl, hb, hc⟩
theorem Tryz.infoRc : (Tryz.prog.info? 84).map (fun i => (i.zero, i.size, decide (i.bytes ≤ 100))) = some (some (.agg zRec), 8, true) := by kernel_rfl
theorem Tryz.infoRcs : ∃ i, Tryz.prog.info? 84 = some i ∧ i.zero = some (.agg zRec) ∧ i.size = 8 ∧ i.bytes ≤ 100 := by
  have h := Tryz.infoRc
  cases hi : Tryz.prog.info? 84 with
  | none => rw [hi] at h; cases h
  | some i =>
    rw [hi] at h
    simp only [Option.map_some, Option.some.injEq, Prod.mk.injEq, decide_eq_true_eq] at h
    exact ⟨i, rfl, h.1, h.2.1, h.2.2⟩
theorem MB.start {w w1 : World} {es : List GE} {n : Nat} {xs : List Value} (hn : n = es.length) (ho : w1.ownsRow w.heap.size 84 8 (.slice (some ⟨w.heap.size, 0, none⟩) n n) n xs) : MB w1 w.heap.size es 0 := by
  subst hn
  obtain ⟨_, ⟨h1, _⟩ | ⟨g, cap, cur, h1, h2, h3, h4, h5, h6, h7⟩⟩ := ho
  · cases h1
  · cases h1
    exact ⟨cur, h3, by omega, fun k g hk => by omega⟩
theorem rcE_run {s : Sta} : ∀ (es : List GE), runS s (es.map rcE) = .ok ⟨s.term, s.vote, s.base, s.bt, s.es ++ es⟩
  | [] => by simp [runS]
  | g :: r => by
    simp only [List.map_cons, runS]
    have : takeS s (rcE g) = .ok ⟨s.term, s.vote, s.base, s.bt, s.es ++ [g]⟩ := rfl
    rw [this]
    simp only
    rw [rcE_run r]
    simp
theorem setCells8 (w : World) (b o : Nat) (a0 a1 a2 a3 a4 a5 a6 a7 : Value) : w.setCells b o [a0, a1, a2, a3, a4, a5, a6, a7] = (((((((w.setCell ⟨b, o, none⟩ a0).setCell ⟨b, o + 1, none⟩ a1).setCell ⟨b, o + 2, none⟩ a2).setCell ⟨b, o + 3, none⟩ a3).setCell ⟨b, o + 4, none⟩ a4).setCell ⟨b, o + 5, none⟩ a5).setCell ⟨b, o + 6, none⟩ a6).setCell ⟨b, o + 7, none⟩ a7 := by
  simp only [World.setCells, Nat.add_assoc, Nat.reduceAdd]
theorem below_cells {B : Nat} {a : World} {b : Nat} (hp : B ≤ b) : ∀ (vs : List Value) (o : Nat) (w : World), Below B a w → Below B a (w.setCells b o vs)
  | [], _, _, h => h
  | v :: vs, o, w, h => by rw [World.setCells]; exact below_cells hp vs (o + 1) _ (h.setCell (p := ⟨b, o, none⟩) hp v)
theorem MB.step {w w0 : World} {rb i : Nat} {es : List GE} {g : GE} (h : MB w rb es i) (hg : es[i]? = some g) (hb : Below w0.heap.size w0 w) (hr : w0.heap.size ≤ rb) : MB ((((((((w.setCell ⟨rb, i * 8, none⟩ (.int .u8 4)).setCell ⟨rb, i * 8 + 1, none⟩ (.int .u64 0)).setCell ⟨rb, i * 8 + 2, none⟩ (.int .u64 0)).setCell ⟨rb, i * 8 + 3, none⟩ (.int .u64 (g.term : Int))).setCell ⟨rb, i * 8 + 4, none⟩ (.int .i64 g.kind)).setCell ⟨rb, i * 8 + 5, none⟩ (.int .u64 (g.client : Int))).setCell ⟨rb, i * 8 + 6, none⟩ (.int .u64 (g.seq : Int))).setCell ⟨rb, i * 8 + 7, none⟩ (.string g.sql)) rb es (i + 1) ∧ Below w0.heap.size w0 ((((((((w.setCell ⟨rb, i * 8, none⟩ (.int .u8 4)).setCell ⟨rb, i * 8 + 1, none⟩ (.int .u64 0)).setCell ⟨rb, i * 8 + 2, none⟩ (.int .u64 0)).setCell ⟨rb, i * 8 + 3, none⟩ (.int .u64 (g.term : Int))).setCell ⟨rb, i * 8 + 4, none⟩ (.int .i64 g.kind)).setCell ⟨rb, i * 8 + 5, none⟩ (.int .u64 (g.client : Int))).setCell ⟨rb, i * 8 + 6, none⟩ (.int .u64 (g.seq : Int))).setCell ⟨rb, i * 8 + 7, none⟩ (.string g.sql)) := by
  rw [← setCells8]
  exact ⟨h.set hg, below_cells hr _ _ _ hb⟩
section
variable {w : World} {B p q sz n : Nat} {S : Dk.St} {R : Int} {a x : Fx} {s : Sta} {v vl : Value} {D : Nat → Prop} {es : List GE}
set_option maxHeartbeats 12800000 in
set_option maxRecDepth 100000 in
/-- Append: its records, then do. -/
theorem app_of {P : Ending → World → Prop} (hP : ∀ e w', P e w' → ∃ ve, e = .returned ve) (hn : es.length ≤ 900000) (hl : RE w vl es) (hes : ∀ g ∈ es, g.sql.size ≤ 281474976710656) (hD : ∀ w2 : World, Below w.heap.size w w2 → MB w2 w.heap.size es es.length → Calls Tryz.prog 32 #[.pointer (some ⟨p, 0, none⟩), .slice (some ⟨w.heap.size, 0, none⟩) es.length es.length] w2 P) :
    Calls Tryz.prog 11 #[.pointer (some ⟨p, 0, none⟩), vl] w P := by
  obtain ⟨la, lc, rfl, hrd⟩ := id hl
  obtain ⟨i0, hi, hz0, hz1, hz2⟩ := Tryz.infoRcs
  have hel : (es.length : Int) ≤ 900000 := by omega
  have hbb : i0.bytes * es.length ≤ 281474976710656 := Nat.le_trans (Nat.mul_le_mul hz2 (show es.length ≤ 900000 by omega)) (by decide)
  have HD := hide hD
  have HP := hide hP
  have HR : Hid (∀ (i : Nat) (wr : World), i < es.length → Below w.heap.size w wr → ∃ (g : GE) (b off : Nat), la = some ⟨b, off, none⟩ ∧ es[i]? = some g ∧ g.sql.size ≤ 281474976710656 ∧ wr.cell? ⟨b, off + i * 5, none⟩ = some (.int .u64 (g.term : Int)) ∧ wr.cell? ⟨b, off + i * 5 + 1, none⟩ = some (.int .i64 g.kind) ∧ wr.cell? ⟨b, off + i * 5 + 2, none⟩ = some (.int .u64 (g.client : Int)) ∧ wr.cell? ⟨b, off + i * 5 + 3, none⟩ = some (.int .u64 (g.seq : Int)) ∧ wr.cell? ⟨b, off + i * 5 + 4, none⟩ = some (.string g.sql)) := by
    intro i wr hil hb
    have hg : es[i]? = some es[i] := List.getElem?_eq_getElem hil
    obtain ⟨b, off, rfl, hbl, hc⟩ := hrd i _ hg
    have hc2 : ∀ j u, (geC es[i])[j]? = some u → wr.cell? ⟨b, off + i * 5 + j, none⟩ = some u := fun j u hu => (hb.cell (p := ⟨b, _, none⟩) hbl).trans (hc j u hu)
    exact ⟨es[i], b, off, rfl, hg, hes _ (List.mem_of_getElem? hg), hc2 0 _ rfl, hc2 1 _ rfl, hc2 2 _ rfl, hc2 3 _ rfl, hc2 4 _ rfl⟩
  clear hl hrd hes hn hD hP
  go_enter Tryz.func11, Tryz.ntmps11
  go_wp2_with (first
    | (at_make; refine wpList_make_full _ rfl _ _ 85 rfl w.heap.size 84 i0 (.agg zRec) 8 Tryz.underlying85 hi hz0 hz1 _ _ _ _ es.length rfl rfl rfl rfl hbb (by unfold maxLen; omega) (Nat.le_refl _) ?_; intro w1 ho1 hg1; have HM := hide (And.intro (MB.start rfl ho1) ((Below.refl w.heap.size w).grown hg1 (Nat.le_refl _) (by intro k h; cases h))); clear ho1 hg1))
  go_loopw [6, 7, 13] (fun s6 s7 s13 wr => s6 = s6 ∧ s7 = s7 ∧ ∃ i, i ≤ es.length ∧ s13 = .int .i64 (i : Int) ∧ Hid (MB wr w.heap.size es i ∧ Below w.heap.size w wr)) (fun _ _ s13 _ => es.length - (RowKit.intOf s13).toNat)
  case atStart => exact ⟨rfl, rfl, 0, Nat.zero_le _, rfl, unhide HM⟩
  case round =>
    obtain ⟨-, -, i, hil, rfl, hr⟩ := hrel
    clear HM
    by_cases hlt : i < es.length
    · obtain ⟨g, b, off, rfl, hg, hgs, d0, d1, d2, d3, d4⟩ := unhide HR i wr hlt (unhide hr).2
      have hii : (i : Int) < (es.length : Int) := by omega
      have hi0 : (0 : Int) ≤ (i : Int) := by omega
      have hb1 := box_below wr (.cells #[.int .u64 (g.term : Int), .int .i64 g.kind, .int .u64 (g.client : Int), .int .u64 (g.seq : Int), .string g.sql] 37)
      have HE1 : Hid (Calls Tryz.prog 33 #[.agg #[.int .u64 (g.term : Int), .int .i64 g.kind, .int .u64 (g.client : Int), .int .u64 (g.seq : Int), .string g.sql]] (wr.alloc (.cells #[.int .u64 (g.term : Int), .int .i64 g.kind, .int .u64 (g.client : Int), .int .u64 (g.seq : Int), .string g.sql] 37)) fun e w' => e = .returned (.agg (rcE g).cells) ∧ Hid (MB w' w.heap.size es i ∧ Below w.heap.size w w')) :=
        (entryOf_any g _ hgs).mono fun e w' ⟨h1, h2⟩ => ⟨h1, ((unhide hr).1.later hb1).later h2, below_trans0 (below_trans0 (unhide hr).2 hb1) h2⟩
      have HA : Hid (∀ w2 : World, MB w2 w.heap.size es i → ∀ j, j < 8 → (∃ u, w2.cell? ⟨w.heap.size, i * 8 + j, none⟩ = some u) ∧ w2.frozen? ⟨w.heap.size, i * 8 + j, none⟩ = false) := fun w2 h2 j hj => h2.at hlt j hj
      have Hg := hide hg
      clear hr hb1 hg
      unfold rcE Rc.cells at HE1
      dsimp only at HE1
      go_wp2_with (first
        | (go_at_call 33; refine (unhide HE1).mono ?_; rintro e w2 ⟨rfl, h2⟩; obtain ⟨⟨u0, e0⟩, f0⟩ := unhide HA w2 (unhide h2).1 0 (by decide); obtain ⟨⟨u1, e1⟩, f1⟩ := unhide HA w2 (unhide h2).1 1 (by decide); obtain ⟨⟨u2, e2⟩, f2⟩ := unhide HA w2 (unhide h2).1 2 (by decide); obtain ⟨⟨u3, e3⟩, f3⟩ := unhide HA w2 (unhide h2).1 3 (by decide); obtain ⟨⟨u4, e4⟩, f4⟩ := unhide HA w2 (unhide h2).1 4 (by decide); obtain ⟨⟨u5, e5⟩, f5⟩ := unhide HA w2 (unhide h2).1 5 (by decide); obtain ⟨⟨u6, e6⟩, f6⟩ := unhide HA w2 (unhide h2).1 6 (by decide); obtain ⟨⟨u7, e7⟩, f7⟩ := unhide HA w2 (unhide h2).1 7 (by decide); clear HE1; simp only [Nat.add_zero] at e0 f0))
      refine ⟨⟨trivial, trivial, i + 1, by omega, by simp, (unhide h2).1.step (unhide Hg) (unhide h2).2 (Nat.le_refl _)⟩, ?_⟩
      simp [RowKit.intOf]; omega
    · obtain rfl : i = es.length := by omega
      have hii : ¬ ((es.length : Int) < (es.length : Int)) := by omega
      have HD1 := hide (unhide HD wr (unhide hr).2 (unhide hr).1)
      clear hr HD HR
      go_wp2_with (first
        | (go_at_call 32; refine (unhide HD1).mono ?_; intro e w1 h1; clear HD1; obtain ⟨ve, rfl⟩ := unhide HP _ _ h1; have H1 := hide h1; clear h1))
      exact unhide H1
theorem wapp_go (h : WX w B p q S (FX a x) s v sz D) (hB : B ≤ w.heap.size) (hE : EV w B) (hs : s.ok) (hn : s.es.length + es.length ≤ 900000) (hl : RE w vl es) (hes : ∀ g ∈ es, g.ok ∧ g.may = true) (hlen : (recsB (es.map rcE)).length ≤ 1000000) (hS : OkS S R n) (hm : Roomy R a x (recsB (es.map rcE)).length) (hz : sz + (recsB (es.map rcE)).length ≤ 32768) (hf : ¬ Fails S) :
    Calls Tryz.prog 11 #[.pointer (some ⟨p, 0, none⟩), vl] w fun e w' => WDone w B p q (nx S) (FX a (some (dB x ++ recsB (es.map rcE), dS x))) ⟨s.term, s.vote, s.base, s.bt, s.es ++ es⟩ (sz + (recsB (es.map rcE)).length) v D (WO p v D) e w' := by
  refine app_of (fun e w' hd => ?_) (by omega) hl (fun g hg => ?_) ?_
  · obtain ⟨v', D', h1, _⟩ := hd
    exact ⟨_, h1⟩
  · have hm2 := (hes g hg).2
    simp [GE.may] at hm2
    omega
  intro w2 hb hM
  refine (do_go (rs := es.map rcE) ⟨h.below hb, Nat.le_trans hB hb.size, hE.below (hb.mono hB), hs, hM.rl _, fun b hi hw => ?_, by simpa using hn, .inl (fun r hr => ?_)⟩ hlen (fun r hr => ?_) (rcE_run es) hS hm hz hf).mono fun e w' hd => hd.pre hb
  · obtain ⟨_, _, _, e⟩ := hi
    cases e
    have := h.lt _ hw
    omega
  · obtain ⟨g, _, rfl⟩ := List.mem_map.1 hr
    exact .inl rfl
  · obtain ⟨g, hg, rfl⟩ := List.mem_map.1 hr
    exact rcE_ok (hes g hg).1 (hes g hg).2
end
end Go.Proofs.YthphadbcebeoaaaGreatDoor
/- A wal: mend. -/
namespace Go.Proofs.YthphadbcebeoaaaGreatDoor
open Go.RowKit Go.Lib Go.Maps

theorem names_at {w : World} {B : Nat} {a : Option Addr} {cap n : Nat} {ns : List (List UInt8)} (h : w.ownsRow B 9 1 (.slice a n cap) n (ns.map encStr)) (k : Nat) (hk : k < ns.length) : ∃ g, a = some ⟨g, 0, none⟩ ∧ w.cell? ⟨g, k, none⟩ = some (encStr (ns.getD k [])) := by
  rcases h.2 with ⟨h1, h2⟩ | ⟨g, c, cur, h1, hB, hc, h3, h4, h5, h6⟩
  · have h7 := h.1
    simp at h7; omega
  · injection h1 with h8 h9 h10
    refine ⟨g, h8, ?_⟩
    rw [(Dk.cellB hc _).1, ← Array.getElem?_toList]
    have h7 : ns.length = n := by have := h.1; simpa using this
    have e1 : (cur.toList.take (n * 1))[k]? = cur.toList[k]? := List.getElem?_take_of_lt (by omega)
    rw [← e1, h6]
    simp [hk]
set_option maxHeartbeats 1600000 in
set_option maxRecDepth 100000 in
theorem pre_ot (w : World) : Calls Tryz.prog 72 #[.string ⟨#[111, 116, 104, 101, 114]⟩, .string ⟨#[119, 97, 108]⟩] w fun e w' => e = .returned (.bool false) ∧ w' = w := by
  have hpe : (((⟨#[111, 116, 104, 101, 114]⟩ : ByteArray).extract 0 3).toList == [119, 97, 108]) = false := by kernel_rfl
  go_enter Tryz.func72, Tryz.ntmps72
  go_wp2
  go_ret
  exact ⟨rfl, rfl⟩
theorem prefix_ot (w : World) : Calls Tryz.prog 53 #[.string ⟨#[111, 116, 104, 101, 114]⟩, .string ⟨#[119, 97, 108]⟩] w fun e w' => e = .returned (.bool false) ∧ w' = w := by
  go_enter Tryz.func53, Tryz.ntmps53
  go_wp2_with (first | (go_at_call 72; refine (pre_ot _).mono ?_; rintro e w1 ⟨rfl, rfl⟩))
  go_ret
  exact ⟨rfl, rfl⟩
theorem fx_names (a x : Fx) : ∀ k, k < ((FX a x).map (·.name)).length → ((FX a x).map (·.name)).getD k [] = [119, 97, 108] ∨ ((FX a x).map (·.name)).getD k [] = [111, 116, 104, 101, 114] := by
  intro k hk
  have h1 : ∀ y, (waE y).name = [119, 97, 108] := fun _ => rfl
  have h2 : ∀ y, (otE y).name = [111, 116, 104, 101, 114] := fun _ => rfl
  cases a <;> cases x <;> simp [FX] at hk
  · subst hk; exact .inl (h1 _)
  · subst hk; exact .inr (h2 _)
  · rcases Nat.lt_or_ge k 1 with h' | h'
    · obtain rfl : k = 0 := by omega
      exact .inr (h2 _)
    · obtain rfl : k = 1 := by omega
      exact .inl (h1 _)
section
variable {w : World} {B p q sz n : Nat} {S : Dk.St} {R : Int} {a x : Fx} {s : Sta} {v : Value} {D : Nat → Prop}
set_option maxHeartbeats 6400000 in
set_option maxRecDepth 100000 in
theorem mend_nil (h : WX w B p q S (FX a x) s v sz D) : Calls Tryz.prog 30 #[.pointer (some ⟨p, 0, none⟩), .nilIface] w fun e w' => e = .returned .nilIface ∧ Below w.heap.size w w' := by
  have hf := h.dx.few
  obtain ⟨c0, _⟩ := h.cells
  obtain ⟨ns, hns⟩ : ∃ ns, ns = (FX a x).map (·.name) := ⟨_, rfl⟩
  have hl : ns.length = (FX a x).length := by rw [hns]; simp
  have HK : Hid (∀ k, k < ns.length → ns.getD k [] = [119, 97, 108] ∨ ns.getD k [] = [111, 116, 104, 101, 114]) := by rw [hns]; exact fx_names a x
  have HL := hide (Dk.dx_list h.dx)
  rw [← hns, ← hl] at HL
  rw [← hl] at hf
  clear h hns hl
  go_enter Tryz.func30, Tryz.ntmps30
  go_wp2_with (first
    | (go_at_call 35; refine (unhide HL).mono ?_; rintro e w1 ⟨vl, rfl, hv, b1⟩; clear HL; obtain ⟨la, cap, rfl⟩ := Dk.own_sl hv; have HV := hide hv; have HB1 := hide b1; clear hv b1))
  go_loopw [6, 7, 15] (fun s6 s7 i wr => s6 = s6 ∧ s7 = s7 ∧ ∃ k : Nat, k ≤ ns.length ∧ i = .int .i64 k ∧ wr = w1) (fun _ _ i _ => ns.length - (RowKit.intOf i).toNat)
  case atStart => exact ⟨rfl, rfl, 0, by omega, rfl, rfl⟩
  case round =>
    obtain ⟨-, -, k, hk, rfl, rfl⟩ := hrel
    by_cases hlt : k < ns.length
    · obtain ⟨g, rfl, hc⟩ := names_at (unhide HV) k hlt
      have hlt' : (k : Int) < (ns.length : Int) := by omega
      rcases unhide HK k hlt with hn | hn
      · rw [hn] at hc
        have hc2 : wr.cell? ⟨g, k, none⟩ = some (.string ⟨#[119, 97, 108]⟩) := hc
        clear HK HV hc hn
        go_wp2_with fail
        go_roundw
        case rel => exact ⟨trivial, trivial, k + 1, by omega, by go_num, trivial⟩
        case measure => simp [RowKit.intOf]; omega
      · rw [hn] at hc
        have hc2 : wr.cell? ⟨g, k, none⟩ = some (.string ⟨#[111, 116, 104, 101, 114]⟩) := hc
        clear HK HV hc hn
        go_wp2_with (first | (go_at_call 53; refine (prefix_ot _).mono ?_; rintro e w2 ⟨rfl, rfl⟩))
        go_roundw
        case rel => exact ⟨trivial, trivial, k + 1, by omega, by go_num, trivial⟩
        case measure => simp [RowKit.intOf]; omega
    · have hlt' : ¬ (k : Int) < (ns.length : Int) := by omega
      clear HK HV
      go_wp2_with (first | (go_at_call 55; refine (torn_nil _).mono ?_; rintro e w2 ⟨rfl, rfl⟩))
      go_ret
      exact ⟨rfl, below_trans0 (unhide HB1) (box_below _ _)⟩
set_option maxHeartbeats 6400000 in
set_option maxRecDepth 100000 in
theorem mend_torn {b b2 m : Nat} {pl : Int} (y : List UInt8 × Nat) (h : WX w B p q S (FX a (some y)) s v sz D) (hB : B ≤ w.heap.size) (hE : EV w B) (hS : OkS S R n) (hf2 : ¬ Fails S) (hm : m ≤ y.1.length) (hm2 : m ≤ 1000000000) (e0 : w.cell? ⟨b, 0, none⟩ = some (.int .i64 (m : Int))) (e1 : w.cell? ⟨b, 1, none⟩ = some (ev b2)) (e2 : ErrAt w b2 pl 22) (_hbp : b ≠ p) :
    Calls Tryz.prog 30 #[.pointer (some ⟨p, 0, none⟩), ev b] w fun e w' => WDone w B p q (nx S) (FX a (some (y.1.take m, min y.2 m))) s m v D (PD p D) e w' := by
  have hf := h.dx.few
  obtain ⟨c0, _⟩ := h.cells
  obtain ⟨ns, hns⟩ : ∃ ns, ns = (FX a (some y)).map (·.name) := ⟨_, rfl⟩
  have hl : ns.length = (FX a (some y)).length := by rw [hns]; simp
  have HK : Hid (∀ k, k < ns.length → ns.getD k [] = [119, 97, 108] ∨ ns.getD k [] = [111, 116, 104, 101, 114]) := by rw [hns]; exact fx_names a (some y)
  have HL := hide (Dk.dx_list h.dx)
  rw [← hns, ← hl] at HL
  rw [← hl] at hf
  have HW : Hid (∀ w3 : World, Below w.heap.size w w3 → w3.cell? ⟨p, 0, none⟩ = some (.pointer (some ⟨q, 0, none⟩)) ∧ w3.cell? ⟨p, 6, none⟩ = some (.int .i64 (sz : Int)) ∧ w3.frozen? ⟨p, 6, none⟩ = false ∧ w3.cell? ⟨b, 0, none⟩ = some (.int .i64 (m : Int)) ∧ Hid (Calls Tryz.prog 55 #[ev b] w3 fun e w' => e = .returned (.bool true) ∧ w' = w3) ∧
      Hid (∀ w5 : World, w5.heap = (w3.setCell ⟨p, 6, none⟩ (.int .i64 (m : Int))).heap → Dk.Env w3 w5 → Calls Tryz.prog 56 #[.pointer (some ⟨q, 0, none⟩), .string waN, .int .i64 (m : Int)] w5 fun e w' => e = .returned .nilIface ∧ Hid (WDone w B p q (nx S) (FX a (some (y.1.take m, min y.2 m))) s m v D (PD p D) (.returned .nilIface) w'))) := by
    intro w3 hb
    have h3 := h.below hb
    have hb3 : b < w.heap.size := lt_of_cell e0
    refine ⟨h3.cells.1, h3.cells.2.2.2.2.2.2.1, h3.frz 6, (hb.cell (p := ⟨b, 0, none⟩) hb3).trans e0, torn_yes b b2 pl w3 ((hb.cell (p := ⟨b, 1, none⟩) hb3).trans e1) (e2.below hb (lt_of_cell e2.1)), fun w5 hh henv => ?_⟩
    have h5 : WX w5 B p q S (FX a (some y)) s v m D := (h3.setSize m).keep (by rw [hh]; exact Nat.le_refl _) (fun k _ => by rw [hh])
    have hfr : Dk.FrO (PD p D) w w5 := ⟨by rw [hh]; have := hb.size; simp; omega, fun k hk hn => by rw [hh]; exact (Dk.heap_setCell_ne _ _ (fun e => hn (.inl e))).trans (hb.block k hk), Dk.Env.trans ⟨hb.os, hb.tape, hb.output⟩ henv⟩
    have hz5 : w.heap.size ≤ w5.heap.size := hfr.size
    have hE5 : EV w5 B := hE.below (fro_below hfr (fun k hk => h.wo k (hk.elim .inl (fun hh => .inr (.inr hh)))) hB)
    refine (trunc_go y m h5.dx hE5.et hS hm hm2 hf2).mono ?_
    rintro e w6 ⟨D', rfl, hd, hf6, ho⟩
    refine ⟨rfl, v, D', rfl, h5.disk (Nat.le_trans hB hz5) hd hf6 ho, ?_, fun g hg => .inl hg, fun k hk => (ho k hk).imp id (fun hh => Nat.le_trans hz5 hh)⟩
    exact hfr.trans (fro_wide hf6 (O' := PD p D) (fun k hk => .inr hk)) (fun k _ hk => hk)
  have HE := hide (And.intro hE.et hB)
  have hpl := h.lt p (.inl rfl)
  unfold waN at HW
  clear h hns hl hB hE hS hf2 hm e0 e1 e2
  go_enter Tryz.func30, Tryz.ntmps30
  go_wp2_with (first
    | (go_at_call 35; refine (unhide HL).mono ?_; rintro e w1 ⟨vl, rfl, hv, b1⟩; clear HL; obtain ⟨la, cap, rfl⟩ := Dk.own_sl hv; have HV := hide hv; have HB1 := hide b1; clear hv b1))
  go_loopw [6, 7, 15] (fun s6 s7 i wr => s6 = s6 ∧ s7 = s7 ∧ ∃ k : Nat, k ≤ ns.length ∧ i = .int .i64 k ∧ wr = w1) (fun _ _ i _ => ns.length - (RowKit.intOf i).toNat)
  case atStart => exact ⟨rfl, rfl, 0, by omega, rfl, rfl⟩
  case round =>
    obtain ⟨-, -, k, hk, rfl, rfl⟩ := hrel
    by_cases hlt : k < ns.length
    · obtain ⟨g, rfl, hc⟩ := names_at (unhide HV) k hlt
      have hlt' : (k : Int) < (ns.length : Int) := by omega
      rcases unhide HK k hlt with hn | hn
      · rw [hn] at hc
        have hc2 : wr.cell? ⟨g, k, none⟩ = some (.string ⟨#[119, 97, 108]⟩) := hc
        clear HK HV hc hn
        go_wp2_with fail
        go_roundw
        case rel => exact ⟨trivial, trivial, k + 1, by omega, by go_num, trivial⟩
        case measure => simp [RowKit.intOf]; omega
      · rw [hn] at hc
        have hc2 : wr.cell? ⟨g, k, none⟩ = some (.string ⟨#[111, 116, 104, 101, 114]⟩) := hc
        clear HK HV hc hn
        go_wp2_with (first | (go_at_call 53; refine (prefix_ot _).mono ?_; rintro e w2 ⟨rfl, rfl⟩))
        go_roundw
        case rel => exact ⟨trivial, trivial, k + 1, by omega, by go_num, trivial⟩
        case measure => simp [RowKit.intOf]; omega
    · have hlt' : ¬ (k : Int) < (ns.length : Int) := by omega
      clear HK HV
      have b1 := unhide HB1
      have b2' := below_trans0 b1 (box_below wr (.cells #[.pointer none] 112))
      obtain ⟨_, _, _, _, HT, _⟩ := unhide HW _ b2'
      have HA : Hid (Calls Tryz.prog 43 #[ev b, .iface 114 (.pointer (some ⟨wr.heap.size, 0, none⟩))] (wr.alloc (.cells #[.pointer none] 112)) fun e w' => e = .returned (.bool true) ∧ w'.cell? ⟨wr.heap.size, 0, none⟩ = some (.pointer (some ⟨b, 0, none⟩)) ∧ Hid (Below w.heap.size w w')) := by
        refine (as_place b ⟨wr.heap.size, 0, none⟩ (.pointer none) _ ((unhide HE).1.below b2' (unhide HE).1.lt) (by simp) (by simp)).mono ?_
        rintro e w' ⟨rfl, h1, h2, h3⟩
        exact ⟨rfl, h1, b2'.trans (h2.mono b1.size)⟩
      have HC6 : Hid (∀ w6 : World, Hid (WDone w B p q (nx S) (FX a (some (y.1.take m, min y.2 m))) s m v D (PD p D) (.returned .nilIface) w6) → w6.cell? ⟨p, 0, none⟩ = some (.pointer (some ⟨q, 0, none⟩)) ∧ w6.cell? ⟨p, 6, none⟩ = some (.int .i64 (m : Int))) := fun w6 h6 => by
        obtain ⟨v', D', _, q1, _⟩ := unhide h6
        exact ⟨q1.cells.1, q1.cells.2.2.2.2.2.2.1⟩
      clear b1 b2'
      go_wp2_with (first
        | (go_at_call 55; refine (unhide HT).mono ?_; rintro e w2 ⟨rfl, rfl⟩)
        | (go_at_call 43; refine (unhide HA).mono ?_; rintro e w4 ⟨rfl, x0, HB4⟩; clear HA; obtain ⟨z0, z6, zf, zb, _, HG⟩ := unhide HW w4 (unhide HB4)))
      have k0 : (w4.setCell ⟨p, 6, none⟩ (.int .i64 (m : Int))).cell? ⟨p, 0, none⟩ = some (.pointer (some ⟨q, 0, none⟩)) := (World.cell?_setCell_other _ _ _ _ (by intro h; cases h)).trans z0
      have k6 : (w4.setCell ⟨p, 6, none⟩ (.int .i64 (m : Int))).cell? ⟨p, 6, none⟩ = some (.int .i64 (m : Int)) := World.cell?_setCell_same _ _ _ z6
      have HG5 : Hid (∀ w5 : World, w5.heap = (w4.setCell ⟨p, 6, none⟩ (.int .i64 (m : Int))).heap → Dk.Env w4 w5 → Calls Tryz.prog 56 #[.pointer (some ⟨q, 0, none⟩), .string ⟨#[119, 97, 108]⟩, .int .i64 (m : Int)] w5 fun e w' => e = .returned .nilIface ∧ Hid (WDone w B p q (nx S) (FX a (some (y.1.take m, min y.2 m))) s m v D (PD p D) (.returned .nilIface) w')) := unhide HG
      clear HG
      refine wp_region_held_drew (S := fun w' => w'.cell? ⟨p, 0, none⟩ = some (.pointer (some ⟨q, 0, none⟩)) ∧ w'.cell? ⟨p, 6, none⟩ = some (.int .i64 (m : Int))) (by kernel_rfl) ⟨k0, k6⟩ (fun hHeld => ?_)
      refine hand_to (i := 0) (d := 52) (v := (.pointer (some ⟨p, 0, none⟩))) rfl rfl (by kernel_rfl) (by kernel_rfl) (by kernel_rfl) (fun _ _ _ h => h) (Or.inl ⟨by rfl, ?_⟩) hHeld ?_
      · (intro w' hSw; obtain ⟨y0, y6⟩ := hSw; go_simp)
      simp only [Act.put, List.setIfInBounds_toArray, List.set_cons_zero, List.set_cons_succ]
      refine hand_to (i := 1) (d := 53) (v := (.pointer (some ⟨p, 0, none⟩))) rfl rfl (by kernel_rfl) (by kernel_rfl) (by kernel_rfl) (fun _ _ _ h => h) (Or.inl ⟨by rfl, ?_⟩) hHeld ?_
      · (intro w' hSw; obtain ⟨y0, y6⟩ := hSw; go_simp)
      simp only [Act.put, List.setIfInBounds_toArray, List.set_cons_zero, List.set_cons_succ]
      refine hand_to (i := 2) (d := 54) (v := (.pointer (some ⟨p, 0, none⟩))) rfl rfl (by kernel_rfl) (by kernel_rfl) (by kernel_rfl) (fun _ _ _ h => h) (Or.inl ⟨by rfl, ?_⟩) hHeld ?_
      · (intro w' hSw; obtain ⟨y0, y6⟩ := hSw; go_simp)
      simp only [Act.put, List.setIfInBounds_toArray, List.set_cons_zero, List.set_cons_succ]
      refine hand_to (i := 3) (d := 55) (v := (.pointer (some ⟨q, 0, none⟩))) rfl rfl (by kernel_rfl) (by kernel_rfl) (by kernel_rfl) (fun _ _ _ h => h) (Or.inl ⟨by rfl, ?_⟩) hHeld ?_
      · (intro w' hSw; obtain ⟨y0, y6⟩ := hSw; go_simp)
      simp only [Act.put, List.setIfInBounds_toArray, List.set_cons_zero, List.set_cons_succ]
      refine hand_to (i := 4) (d := 56) (v := (.pointer (some ⟨p, 0, none⟩))) rfl rfl (by kernel_rfl) (by kernel_rfl) (by kernel_rfl) (fun _ _ _ h => h) (Or.inl ⟨by rfl, ?_⟩) hHeld ?_
      · (intro w' hSw; obtain ⟨y0, y6⟩ := hSw; go_simp)
      simp only [Act.put, List.setIfInBounds_toArray, List.set_cons_zero, List.set_cons_succ]
      refine hand_to (i := 5) (d := 57) (v := (.pointer (some ⟨p, 0, none⟩))) rfl rfl (by kernel_rfl) (by kernel_rfl) (by kernel_rfl) (fun _ _ _ h => h) (Or.inl ⟨by rfl, ?_⟩) hHeld ?_
      · (intro w' hSw; obtain ⟨y0, y6⟩ := hSw; go_simp)
      simp only [Act.put, List.setIfInBounds_toArray, List.set_cons_zero, List.set_cons_succ]
      refine hand_to (i := 6) (d := 58) (v := (.pointer (some ⟨p, 6, none⟩))) rfl rfl (by kernel_rfl) (by kernel_rfl) (by kernel_rfl) (fun _ _ _ h => h) (Or.inl ⟨by rfl, ?_⟩) hHeld ?_
      · (intro w' hSw; obtain ⟨y0, y6⟩ := hSw; go_simp)
      simp only [Act.put, List.setIfInBounds_toArray, List.set_cons_zero, List.set_cons_succ]
      refine hand_to (i := 7) (d := 59) (v := (.int .i64 (m : Int))) rfl rfl (by kernel_rfl) (by kernel_rfl) (by kernel_rfl) (fun _ _ _ h => h) (Or.inl ⟨by rfl, ?_⟩) hHeld ?_
      · (intro w' hSw; obtain ⟨y0, y6⟩ := hSw; go_simp)
      simp only [Act.put, List.setIfInBounds_toArray, List.set_cons_zero, List.set_cons_succ]
      refine wpAnyH_ready (rs := [8]) (by kernel_rfl) (by simp) ?_
      refine AllReadyH.cons rfl (fun K hK => ?_) AllReadyH.nil
      go_simp
      (go_at_call 56; refine (unhide HG5 (w4.setCell ⟨p, 6, none⟩ (.int .i64 (m : Int))).drew rfl ⟨rfl, rfl, rfl⟩).mono ?_; rintro e w6 ⟨rfl, H6⟩; clear HG5)
      (go_wp2_with fail)
      refine hK.out _ _ (unhide HC6 w6 H6) (fun hHeld2 => ?_)
      clear hK K hHeld
      have hHeld := hHeld2
      clear hHeld2
      refine hand_to (i := 9) (d := 4) (v := .nilIface) rfl rfl (by kernel_rfl) (by kernel_rfl) (by kernel_rfl) (fun _ _ _ h => h) (Or.inl ⟨by rfl, ?_⟩) hHeld ?_
      · (intro w' hSw; obtain ⟨y0, y6⟩ := hSw; go_simp)
      simp only [Act.put, List.setIfInBounds_toArray, List.set_cons_zero, List.set_cons_succ]
      refine wpAnyH_done (by kernel_rfl) ?_ _
      go_wp2_with fail
      go_ret
      exact unhide H6
end
end Go.Proofs.YthphadbcebeoaaaGreatDoor
