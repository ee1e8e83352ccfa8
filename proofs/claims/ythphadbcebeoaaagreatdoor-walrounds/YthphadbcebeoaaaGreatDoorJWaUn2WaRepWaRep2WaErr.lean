/- The wal's records: the record at the beginning of bytes. -/
import Derived.Test.YthphadbcebeoaaaGreatDoorJWaRecWaUn
import Derived.Test.YthphadbcebeoaaaGreatDoorJWaTakeWaTake2
import Derived.Deep.LoopGhost
import Derived.Test.YthphadbcebeoaaaGreatDoorJErrsAs
namespace Go.Proofs.YthphadbcebeoaaaGreatDoor
open Go.RowKit Go.Lib Go.Maps

theorem results_c3 {fn : Func} {p u x : Tmp} {ty : TypeId} (h : fn.results = #[.cell p ty, .tmp u, .tmp x]) (tmps : Array Value) (P : Program) (w : World) :
    (results fn tmps).run P w =
      ((asAddr (tmps.getD p undef)).run P w).andThen fun a w₁ => ((loadVar ty a).run P w₁).andThen fun v w₂ => .ok (.tuple #[v, tmps.getD u undef, tmps.getD x undef]) w₂ := by
  simp only [results, h]
  simp [Sem.run_bind, Result.andThen]

set_option maxHeartbeats 6400000 in
set_option maxRecDepth 100000 in
/-- A whole record at the beginning of bytes. -/
theorem unframe_rc (r : Rc) (v : Value) (more : List UInt8) (w : World) (hE : ET w) (hT : ST w) (hr : r.ok) (hl : (r.bytes ++ more).length ≤ 1000000) (hv : RBp w w.heap.size v (r.bytes ++ more)) :
    Calls Tryz.prog 57 #[v] w fun e w' => e = .returned (.tuple #[.agg r.cells, .int .i64 (r.bytes.length : Int), .nilIface]) ∧ Below w.heap.size w w' := by
  have hpl := r.pay_len hr
  have hpp := r.pay_pos
  obtain ⟨ad, kk, rfl⟩ := rb_len hv
  have HP := hide (fun (W : World) g cap (hw : ET W) (h : InB W g r.pay.length cap r.pay) => payload_any r g r.pay.length cap W hw hr h)
  have hb0 := below_alloc (B := w.heap.size) (.cells #[.int .u8 0, .int .u64 0, .int .u64 0, .int .u64 0, .int .i64 0, .int .u64 0, .int .u64 0, .string ⟨#[]⟩] 84) (Nat.le_refl w.heap.size)
  have V0 : Rv (w.alloc (.cells #[.int .u8 0, .int .u64 0, .int .u64 0, .int .u64 0, .int .i64 0, .int .u64 0, .int .u64 0, .string ⟨#[]⟩] 84)) w.heap.size #[.int .u8 0, .int .u64 0, .int .u64 0, .int .u64 0, .int .i64 0, .int .u64 0, .int .u64 0, .string ⟨#[]⟩] := heap_alloc_new _ _
  have HU : Hid (Calls Tryz.prog 73 #[.slice ad (r.bytes ++ more).length kk] (w.alloc (.cells #[.int .u8 0, .int .u64 0, .int .u64 0, .int .u64 0, .int .i64 0, .int .u64 0, .int .u64 0, .string ⟨#[]⟩] 84)) fun e w' => ∃ g cap, e = .returned (.tuple #[.slice (some ⟨g, 0, none⟩) r.pay.length cap, .int .i64 (r.bytes.length : Int), .nilIface]) ∧ Hid (InB w' g r.pay.length cap r.pay ∧ Rv w' w.heap.size #[.int .u8 0, .int .u64 0, .int .u64 0, .int .u64 0, .int .i64 0, .int .u64 0, .int .u64 0, .string ⟨#[]⟩] ∧ Below w.heap.size w w')) := by
    refine (unframe_new _ _ r.pay r.bytes.length _ (hT.below hb0 hT.lt) hl (rb_later hv hb0 hb0.size) (unfr_rc hr more)).mono ?_
    rintro e w' ⟨p, rfl, ho, hb⟩
    obtain ⟨g, cap, rfl, hI⟩ := InB.own ho (by intro h; rw [h] at hpp; cases hpp) (by omega)
    exact ⟨g, cap, rfl, hI, (hb.block _ (by simp)).trans V0, below_trans0 hb0 hb⟩
  have HE := hide hE
  clear hv hT hE hb0 V0 hl hr
  generalize (r.bytes ++ more).length = M at HU ⊢
  generalize r.bytes.length = RL at HU ⊢
  generalize r.pay.length = PL at HU HP hpl hpp
  unfold Rc.cells at *
  go_enter Tryz.func57, Tryz.ntmps57
  go_wp2_with (first
      | (go_at_call 73; refine (unhide HU).mono ?_; rintro e w1 ⟨g, cap, rfl, H1⟩; clear HU)
      | (go_at_call 74; refine (unhide HP _ g cap ((unhide HE).below (unhide H1).2.2 (unhide HE).lt) (unhide H1).1).mono ?_; rintro e w2 ⟨rfl, b2⟩; obtain ⟨_, q1, q2⟩ := unhide H1; have r0 : Rv w2 w.heap.size _ := (b2.block _ (Array.getElem?_eq_some_iff.1 q1).1).trans q1; have HB := hide (below_trans0 q2 b2); have hz : w.heap.size < w2.heap.size := (Array.getElem?_eq_some_iff.1 r0).1; obtain ⟨x0, x1, x2, x3, x4, x5, x6, x7⟩ := r0.cells; have fx0 := r0.frz 0; have fx1 := r0.frz 1; have fx2 := r0.frz 2; have fx3 := r0.frz 3; have fx4 := r0.frz 4; have fx5 := r0.frz 5; have fx6 := r0.frz 6; have fx7 := r0.frz 7; clear H1 q1 q2 b2 r0 HP))
  refine bodyPost_ret (v := .tuple #[.agg #[.int .u8 (r.kind : Int), .int .u64 (r.term : Int), .int .u64 (r.place : Int), .int .u64 (r.ent.term : Int), .int .i64 r.ent.kind, .int .u64 (r.ent.client : Int), .int .u64 (r.ent.seq : Int), .string r.ent.sql], .int .i64 (RL : Int), .nilIface]) ?_ rfl ?_
  · rw [results_c3 rfl]
    go_simp
    try rfl
  have hb := unhide HB
  refine ⟨rfl, ?_⟩
  refine Below.alloc ?_ (by simp; omega) _
  exact (((((((hb.setCell (p := ⟨w.heap.size, 0, none⟩) (Nat.le_refl _) _).setCell (p := ⟨w.heap.size, 1, none⟩) (Nat.le_refl _) _).setCell (p := ⟨w.heap.size, 2, none⟩) (Nat.le_refl _) _).setCell (p := ⟨w.heap.size, 3, none⟩) (Nat.le_refl _) _).setCell (p := ⟨w.heap.size, 4, none⟩) (Nat.le_refl _) _).setCell (p := ⟨w.heap.size, 5, none⟩) (Nat.le_refl _) _).setCell (p := ⟨w.heap.size, 6, none⟩) (Nat.le_refl _) _).setCell (p := ⟨w.heap.size, 7, none⟩) (Nat.le_refl _) _

theorem set8_block (w : World) (p g : Nat) (a0 a1 a2 a3 a4 a5 a6 a7 : Value) (h : g ≠ p) : ((((((((w.setCell ⟨p, 0, none⟩ a0).setCell ⟨p, 1, none⟩ a1).setCell ⟨p, 2, none⟩ a2).setCell ⟨p, 3, none⟩ a3).setCell ⟨p, 4, none⟩ a4).setCell ⟨p, 5, none⟩ a5).setCell ⟨p, 6, none⟩ a6).setCell ⟨p, 7, none⟩ a7).heap[g]? = w.heap[g]? := by
  rw [Dk.heap_setCell_ne _ _ h, Dk.heap_setCell_ne _ _ h, Dk.heap_setCell_ne _ _ h, Dk.heap_setCell_ne _ _ h, Dk.heap_setCell_ne _ _ h, Dk.heap_setCell_ne _ _ h, Dk.heap_setCell_ne _ _ h, Dk.heap_setCell_ne _ _ h]
theorem set8_below {B : Nat} {a w : World} {p : Nat} (h : Below B a w) (hp : B ≤ p) (a0 a1 a2 a3 a4 a5 a6 a7 : Value) : Below B a ((((((((w.setCell ⟨p, 0, none⟩ a0).setCell ⟨p, 1, none⟩ a1).setCell ⟨p, 2, none⟩ a2).setCell ⟨p, 3, none⟩ a3).setCell ⟨p, 4, none⟩ a4).setCell ⟨p, 5, none⟩ a5).setCell ⟨p, 6, none⟩ a6).setCell ⟨p, 7, none⟩ a7) :=
  (((((((h.setCell (p := ⟨p, 0, none⟩) hp _).setCell (p := ⟨p, 1, none⟩) hp _).setCell (p := ⟨p, 2, none⟩) hp _).setCell (p := ⟨p, 3, none⟩) hp _).setCell (p := ⟨p, 4, none⟩) hp _).setCell (p := ⟨p, 5, none⟩) hp _).setCell (p := ⟨p, 6, none⟩) hp _).setCell (p := ⟨p, 7, none⟩) hp _
theorem err_same {w w' : World} {b : Nat} {pl c : Int} (h : ErrAt w b pl c) (hk : w'.heap[b]? = w.heap[b]?) : ErrAt w' b pl c := ⟨(World.cell?_of_block hk).trans h.1, (World.cell?_of_block hk).trans h.2⟩
def zRec : Array Value := #[.int .u8 0, .int .u64 0, .int .u64 0, .int .u64 0, .int .i64 0, .int .u64 0, .int .u64 0, .string ⟨#[]⟩]
set_option maxHeartbeats 6400000 in
set_option maxRecDepth 100000 in
/-- Bytes that are cut off. -/
theorem unframe_torn (v : Value) (l : List UInt8) (w : World) (hT : ST w) (hl : l.length ≤ 1000000) (hu : unfr l = ([], 0, 22)) (hv : RBp w w.heap.size v l) :
    Calls Tryz.prog 57 #[v] w fun e w' => ∃ (b : Nat) (pl : Int), e = .returned (.tuple #[.agg zRec, .int .i64 0, ev b]) ∧ ErrAt w' b pl 22 ∧ Below w.heap.size w w' := by
  unfold zRec
  have hb0 := below_alloc (B := w.heap.size) (.cells #[.int .u8 0, .int .u64 0, .int .u64 0, .int .u64 0, .int .i64 0, .int .u64 0, .int .u64 0, .string ⟨#[]⟩] 84) (Nat.le_refl w.heap.size)
  have V0 : Rv (w.alloc (.cells #[.int .u8 0, .int .u64 0, .int .u64 0, .int .u64 0, .int .i64 0, .int .u64 0, .int .u64 0, .string ⟨#[]⟩] 84)) w.heap.size #[.int .u8 0, .int .u64 0, .int .u64 0, .int .u64 0, .int .i64 0, .int .u64 0, .int .u64 0, .string ⟨#[]⟩] := heap_alloc_new _ _
  have HU : Hid (Calls Tryz.prog 73 #[v] (w.alloc (.cells #[.int .u8 0, .int .u64 0, .int .u64 0, .int .u64 0, .int .i64 0, .int .u64 0, .int .u64 0, .string ⟨#[]⟩] 84)) fun e w' => ∃ p b pl, e = .returned (.tuple #[p, .int .i64 0, ev b]) ∧ Hid (ErrAt w' b pl 22 ∧ Rv w' w.heap.size #[.int .u8 0, .int .u64 0, .int .u64 0, .int .u64 0, .int .i64 0, .int .u64 0, .int .u64 0, .string ⟨#[]⟩] ∧ Below w.heap.size w w' ∧ b ≠ w.heap.size)) := by
    refine (unframe_any _ _ _ (hT.below hb0 hT.lt) hl (rb_later hv hb0 hb0.size)).mono ?_
    rintro e w' ⟨p, er, rfl, _, he, hb⟩
    rw [hu] at he ⊢
    rcases he with ⟨_, h0⟩ | ⟨b, pl, rfl, he⟩
    · cases h0
    · have r0 : Rv w' w.heap.size _ := (hb.block _ (by simp)).trans V0
      refine ⟨p, b, pl, rfl, he, r0, below_trans0 hb0 hb, fun hbe => ?_⟩
      have h1 := he.2
      rw [hbe, r0.cells.2.1] at h1
      cases h1
  clear hv hT hb0 V0 hl hu
  go_enter Tryz.func57, Tryz.ntmps57
  go_wp2_with (first
      | (go_at_call 73; refine (unhide HU).mono ?_; rintro e w1 ⟨p, b, pl, rfl, H1⟩; clear HU; obtain ⟨q0, q1, q2, q3⟩ := unhide H1; have H2 := hide q0; have HB := hide q2; have hne := hide q3; obtain ⟨x0, x1, x2, x3, x4, x5, x6, x7⟩ := q1.cells; have fx0 := q1.frz 0; have fx1 := q1.frz 1; have fx2 := q1.frz 2; have fx3 := q1.frz 3; have fx4 := q1.frz 4; have fx5 := q1.frz 5; have fx6 := q1.frz 6; have fx7 := q1.frz 7; clear H1 q0 q1 q2 q3))
  refine bodyPost_ret (v := .tuple #[.agg #[.int .u8 0, .int .u64 0, .int .u64 0, .int .u64 0, .int .i64 0, .int .u64 0, .int .u64 0, .string ⟨#[]⟩], .int .i64 0, ev b]) ?_ rfl ?_
  · rw [results_c3 rfl]
    go_simp
    try rfl
  exact ⟨b, pl, rfl, err_same (unhide H2) (set8_block _ _ _ _ _ _ _ _ _ _ _ (unhide hne)), set8_below (unhide HB) (Nat.le_refl _) _ _ _ _ _ _ _ _⟩
end Go.Proofs.YthphadbcebeoaaaGreatDoor
/- The wal: replay of a file's bytes. -/
namespace Go.Proofs.YthphadbcebeoaaaGreatDoor
open Go.RowKit Go.Lib Go.Maps

/-- The laid variables, in blocks below B. -/
structure EV (w : World) (B : Nat) : Prop where
  et : ET w
  st : ST w
  e1 : 0 < B
  e2 : 1 < B
theorem EV.below {w w' : World} {B : Nat} (h : EV w B) (hb : Below B w w') : EV w' B := ⟨h.et.below hb h.e1, h.st.below hb h.e2, h.e1, h.e2⟩
/-- What changes of the state at p leave, one after the other. -/
structure ST1 (w w' : World) (p o : Nat) (T : TypeId) (cur : Array Value) (v : Value) (s' : Sta) : Prop where
  now : ∃ cur' v', SE w' p o T cur' s' v' ∧ Out o cur cur' ∧ ∀ g, inB v' g → inB v g ∨ w.heap.size ≤ g
  blk : ∀ k, k < w.heap.size → k ≠ p → ¬ inB v k → w'.heap[k]? = w.heap[k]?
  size : w.heap.size ≤ w'.heap.size
  env : Dk.Env w w'
theorem ST2.one {w w' : World} {p o : Nat} {T : TypeId} {cur : Array Value} {v : Value} {s' : Sta} {gr : Prop} (h : ST2 w w' p o T cur v s' gr) : ST1 w w' p o T cur v s' := by
  obtain ⟨⟨cur', v', q1, q2, q3, q4⟩, h2, h3, h4, h5⟩ := h
  exact ⟨⟨cur', v', q1, q2, q3⟩, h3, h4, h5⟩
theorem ST1.refl {w : World} {p o : Nat} {T : TypeId} {cur : Array Value} {v : Value} {s : Sta} (h : SE w p o T cur s v) : ST1 w w p o T cur v s := ⟨⟨cur, v, h, Out.refl _ _, fun _ hg => .inl hg⟩, fun _ _ _ _ => rfl, Nat.le_refl _, rfl, rfl, rfl⟩
theorem ST1.trans {w w1 w2 : World} {p o : Nat} {T : TypeId} {cur cur1 : Array Value} {v v1 : Value} {s2 : Sta} (hz : w.heap.size ≤ w1.heap.size) (ho : Out o cur cur1) (hv : ∀ g, inB v1 g → inB v g ∨ w.heap.size ≤ g) (hb : ∀ k, k < w.heap.size → k ≠ p → ¬ inB v k → w1.heap[k]? = w.heap[k]?) (he : Dk.Env w w1) (h : ST1 w1 w2 p o T cur1 v1 s2) : ST1 w w2 p o T cur v s2 := by
  obtain ⟨⟨cur', v', q1, q2, q3⟩, h3, h4, h5⟩ := h
  refine ⟨⟨cur', v', q1, ho.trans q2, fun g hg => ?_⟩, fun k hk hne hn => (h3 k (by omega) hne (fun hh => ?_)).trans (hb k hk hne hn), Nat.le_trans hz h4, he.trans h5⟩
  · rcases q3 g hg with h' | h'
    · exact hv g h'
    · exact .inr (by omega)
  · rcases hv k hh with h' | h'
    · exact hn h'
    · omega
theorem ST1.below {w w' : World} {p o B : Nat} {T : TypeId} {cur : Array Value} {v : Value} {s' : Sta} (h : ST1 w w' p o T cur v s') (hB : B ≤ p) (hv : ∀ g, inB v g → B ≤ g) (hz : B ≤ w.heap.size) : Below B w w' :=
  ⟨h.env.1, h.env.2.1, h.env.2.2, h.size, fun k hk => h.blk k (by omega) (by omega) (fun hh => by have := hv k hh; omega)⟩
/-- Bytes that lie in none of the state's blocks. -/
structure BY (w : World) (p : Nat) (v : Value) (vb : Value) (l : List UInt8) : Prop where
  rb : RBp w w.heap.size vb l
  ne : ∀ b, inB vb b → b ≠ p ∧ ¬ inB v b
theorem rb_lt {w : World} {B : Nat} {v : Value} {l : List UInt8} (h : RBp w B v l) {b : Nat} (hb : inB v b) : b < B := by
  obtain ⟨o, n, c, rfl⟩ := hb
  rcases h.2 with ⟨h, _⟩ | ⟨b', off, cap, h1, _, _, h2, _⟩
  · cases h
  · cases h2; exact h1
theorem rb_keep {w w' : World} {v : Value} {l : List UInt8} (h : RBp w w.heap.size v l) (hz : w.heap.size ≤ w'.heap.size) (hk : ∀ b, inB v b → w'.heap[b]? = w.heap[b]?) : RBp w' w'.heap.size v l := by
  obtain ⟨h1, h2 | ⟨b, off, cap, hbB, hc, hm, rfl, hcell⟩⟩ := h
  · exact ⟨h1, .inl h2⟩
  · exact ⟨h1, .inr ⟨b, off, cap, by omega, hc, hm, rfl, fun i hi => (World.cell?_of_block (hk b ⟨_, _, _, rfl⟩)).trans (hcell i hi)⟩⟩
theorem BY.next {w w' : World} {p o : Nat} {T : TypeId} {cur : Array Value} {v vb : Value} {l : List UInt8} {s' : Sta} (h : BY w p v vb l) (h1 : ST1 w w' p o T cur v s') : ∀ v', (∀ g, inB v' g → inB v g ∨ w.heap.size ≤ g) → BY w' p v' vb l := fun v' hv' =>
  ⟨rb_keep h.rb h1.size (fun b hb => h1.blk b (rb_lt h.rb hb) (h.ne b hb).1 (h.ne b hb).2), fun b hb => ⟨(h.ne b hb).1, fun hh => by
    rcases hv' b hh with h' | h'
    · exact (h.ne b hb).2 h'
    · have := rb_lt h.rb hb; omega⟩⟩
theorem BY.below {w w' : World} {p : Nat} {v vb : Value} {l : List UInt8} (h : BY w p v vb l) (hb : Below w.heap.size w w') : BY w' p v vb l := ⟨rb_later h.rb hb hb.size, h.ne⟩
/-- From byte k on. -/
theorem BY.from {w : World} {p : Nat} {v : Value} {ad : Option Addr} {N cap : Nat} {l : List UInt8} (h : BY w p v (.slice ad N cap) l) (hN : 0 < N) : ∃ g off, ad = some ⟨g, off, none⟩ ∧ N = l.length ∧ N ≤ cap ∧ ∀ k, k < N → RBp w w.heap.size (.slice (some ⟨g, off + k, none⟩) (N - k) (cap - k)) (l.drop k) := by
  obtain ⟨h1, ⟨h2, _⟩ | ⟨b, off, cap', hbB, hc, hm, he, hcell⟩⟩ := h.rb
  · cases h2; cases hN
  · cases he
    exact ⟨b, off, rfl, rfl, hc, fun k hk => rb_drop hbB (by omega) hc hm h1 hcell⟩

/-- What replay tells: the state behind all whole records; where the first that isn't whole begins. -/
def RepP (w : World) (p o : Nat) (T : TypeId) (cur : Array Value) (v : Value) (s' : Sta) (at' : Nat) (whole : Bool) (e : Ending) (w' : World) : Prop :=
  ST1 w w' p o T cur v s' ∧ ((whole = true ∧ e = .returned .nilIface) ∨ (whole = false ∧ ∃ b b2 pl, e = .returned (ev b) ∧ w.heap.size ≤ b ∧ w'.cell? ⟨b, 0, none⟩ = some (.int .i64 (at' : Int)) ∧ w'.cell? ⟨b, 1, none⟩ = some (ev b2) ∧ ErrAt w' b2 pl 22))
end Go.Proofs.YthphadbcebeoaaaGreatDoor
/- The wal: replay of a file's bytes: its walk. -/
namespace Go.Proofs.YthphadbcebeoaaaGreatDoor
open Go.RowKit Go.Lib Go.Maps

/-- What replay is handed. -/
structure RI (w : World) (p o B : Nat) (T : TypeId) (cur : Array Value) (s : Sta) (v : Value) (rs : List Rc) (t : List UInt8) (s' : Sta) (ad : Option Addr) (N cap : Nat) : Prop where
  se : SE w p o T cur s v
  ok : s.ok
  rsok : ∀ r ∈ rs, r.ok
  run : runS s rs = .ok s'
  few : s.es.length + rs.length ≤ 900000
  len : (recsB rs ++ t).length ≤ 1000000
  torn : t = [] ∨ unfr t = ([], 0, 22)
  by' : BY w p v (.slice ad N cap) (recsB rs ++ t)
  ev : EV w B
  bp : B ≤ p
  bv : ∀ g, inB v g → B ≤ g
  bz : B ≤ w.heap.size
def atJ (rs : List Rc) (j : Nat) : Nat := (recsB (rs.take j)).length
/-- Behind j records. -/
def RJ (w wr : World) (p o : Nat) (T : TypeId) (cur : Array Value) (s : Sta) (v : Value) (rs : List Rc) (j : Nat) : Prop :=
  ∃ sj cj vj, runS s (rs.take j) = .ok sj ∧ sj.ok ∧ sj.es.length ≤ s.es.length + j ∧ SE wr p o T cj sj vj ∧ Out o cur cj ∧ (∀ g, inB vj g → inB v g ∨ w.heap.size ≤ g) ∧ (∀ k, k < w.heap.size → k ≠ p → ¬ inB v k → wr.heap[k]? = w.heap[k]?) ∧ w.heap.size ≤ wr.heap.size ∧ Dk.Env w wr
section
variable {w wr : World} {p o B : Nat} {T : TypeId} {cur : Array Value} {s s' : Sta} {v : Value} {rs : List Rc} {t : List UInt8} {ad : Option Addr} {N cap : Nat}
theorem RJ.below {w1 : World} {j : Nat} (h : RJ w wr p o T cur s v rs j) (hb : Below wr.heap.size wr w1) : RJ w w1 p o T cur s v rs j := by
  obtain ⟨sj, cj, vj, h1, h2, h3, h4, h5, h6, h7, h8, h9⟩ := h
  exact ⟨sj, cj, vj, h1, h2, h3, h4.below hb, h5, h6, fun k hk hne hn => (hb.block k (by omega)).trans (h7 k hk hne hn), Nat.le_trans h8 hb.size, h9.trans ⟨hb.os, hb.tape, hb.output⟩⟩
theorem RJ.one {j : Nat} {sj : Sta} (h : RJ w wr p o T cur s v rs j) (hr : runS s (rs.take j) = .ok sj) : ST1 w wr p o T cur v sj := by
  obtain ⟨sj', cj, vj, h1, h2, h3, h4, h5, h6, h7, h8, h9⟩ := h
  obtain rfl : sj' = sj := by rw [h1] at hr; cases hr; rfl
  exact ⟨⟨cj, vj, h4, h5, h6⟩, h7, h8, h9⟩
theorem RJ.ev {j : Nat} (h : RJ w wr p o T cur s v rs j) (hi : RI w p o B T cur s v rs t s' ad N cap) : EV wr B := by
  obtain ⟨sj, cj, vj, h1, h2, h3, h4, h5, h6, h7, h8, h9⟩ := h
  exact hi.ev.below ⟨h9.1, h9.2.1, h9.2.2, h8, fun k hk => h7 k (by have := hi.bz; omega) (by have := hi.bp; omega) (fun hh => by have := hi.bv k hh; omega)⟩
theorem RJ.bytes {j : Nat} (h : RJ w wr p o T cur s v rs j) (hi : RI w p o B T cur s v rs t s' ad N cap) : RBp wr wr.heap.size (.slice ad N cap) (recsB rs ++ t) := by
  obtain ⟨sj, cj, vj, h1, h2, h3, h4, h5, h6, h7, h8, h9⟩ := h
  exact rb_keep hi.by'.rb h8 (fun b hb => h7 b (rb_lt hi.by'.rb hb) (hi.by'.ne b hb).1 (hi.by'.ne b hb).2)
theorem RI.start (hi : RI w p o B T cur s v rs t s' ad N cap) : RJ w w p o T cur s v rs 0 :=
  ⟨s, cur, v, rfl, hi.ok, by omega, hi.se, Out.refl _ _, fun _ hg => .inl hg, fun _ _ _ _ => rfl, Nat.le_refl _, rfl, rfl, rfl⟩
theorem RI.nn (hi : RI w p o B T cur s v rs t s' ad N cap) : N = (recsB rs ++ t).length := by
  obtain ⟨a, k, h⟩ := rb_len hi.by'.rb
  cases h; rfl
theorem atJ_le (rs : List Rc) (t : List UInt8) (j : Nat) : atJ rs j ≤ (recsB rs ++ t).length := by
  have e : recsB rs = recsB (rs.take j) ++ recsB (rs.drop j) := by rw [← recsB_app, List.take_append_drop]
  unfold atJ
  rw [e]; simp
theorem atJ_all (rs : List Rc) : atJ rs rs.length = (recsB rs).length := by unfold atJ; rw [List.take_length]
theorem atJ_lt {j : Nat} (t : List UInt8) (h : j < rs.length) : atJ rs j < (recsB rs ++ t).length := by
  have h1 := recsB_len rs j rs[j] (List.getElem?_eq_getElem h)
  have h2 := atJ_le rs t (j + 1)
  have h3 := rs[j].len
  unfold atJ at *
  omega
theorem rj_unframe {j : Nat} {r : Rc} {g off : Nat} (hi : RI w p o B T cur s v rs t s' ad N cap) (ha : ad = some ⟨g, off, none⟩) (hj : rs[j]? = some r) (h : RJ w wr p o T cur s v rs j) :
    Calls Tryz.prog 57 #[.slice (some ⟨g, off + atJ rs j, none⟩) (N - atJ rs j) (cap - atJ rs j)] wr fun e w' => e = .returned (.tuple #[.agg r.cells, .int .i64 (r.bytes.length : Int), .nilIface]) ∧ RJ w w' p o T cur s v rs j := by
  have hlt := atJ_lt t (List.getElem?_eq_some_iff.1 hj).1
  have hN := hi.nn
  subst ha
  have hb := h.bytes hi
  obtain ⟨h1, ⟨h2, _⟩ | ⟨b, off', cap', hbB, hc, hm, he, hcell⟩⟩ := hb
  · cases h2
  cases he
  have hd := rb_drop hbB (Nat.le_of_lt hlt) hc hm h1 hcell
  have e := recsB_at rs t j r hj
  unfold atJ at hd ⊢
  rw [e] at hd
  have hl : (r.bytes ++ (recsB (rs.drop (j + 1)) ++ t)).length ≤ 1000000 := by rw [← e]; have := hi.len; simp at this ⊢; omega
  refine (unframe_rc r _ _ wr (h.ev hi).et (h.ev hi).st (hi.rsok r (List.mem_of_getElem? hj)) hl hd).mono ?_
  rintro e w' ⟨rfl, hbl⟩
  exact ⟨rfl, h.below hbl⟩
theorem rj_torn {g off : Nat} (hi : RI w p o B T cur s v rs t s' ad N cap) (ha : ad = some ⟨g, off, none⟩) (ht : t ≠ []) (h : RJ w wr p o T cur s v rs rs.length) :
    Calls Tryz.prog 57 #[.slice (some ⟨g, off + atJ rs rs.length, none⟩) (N - atJ rs rs.length) (cap - atJ rs rs.length)] wr fun e w' => ∃ (b : Nat) (pl : Int), e = .returned (.tuple #[.agg zRec, .int .i64 0, ev b]) ∧ ErrAt w' b pl 22 ∧ RJ w w' p o T cur s v rs rs.length := by
  have hN := hi.nn
  have ha2 := atJ_all rs
  have htl : 0 < t.length := List.length_pos_iff.2 ht
  have hlt : atJ rs rs.length < (recsB rs ++ t).length := by rw [ha2]; simp; omega
  subst ha
  have hb := h.bytes hi
  obtain ⟨h1, ⟨h2, _⟩ | ⟨b, off', cap', hbB, hc, hm, he, hcell⟩⟩ := hb
  · cases h2
  cases he
  have hd := rb_drop hbB (Nat.le_of_lt hlt) hc hm h1 hcell
  have e : (recsB rs ++ t).drop (atJ rs rs.length) = t := by rw [ha2, List.drop_left]
  rw [e] at hd
  refine (unframe_torn _ t wr (h.ev hi).st (by have := hi.len; simp at this; omega) (hi.torn.resolve_left ht) hd).mono ?_
  rintro e w' ⟨b, pl, rfl, he, hbl⟩
  exact ⟨b, pl, rfl, he, h.below hbl⟩
theorem rj_take {j : Nat} {r : Rc} (hi : RI w p o B T cur s v rs t s' ad N cap) (hj : rs[j]? = some r) (h : RJ w wr p o T cur s v rs j) :
    Calls Tryz.prog 58 #[.pointer (some ⟨p, o, none⟩), .agg r.cells] wr fun e w' => e = .returned .nilIface ∧ RJ w w' p o T cur s v rs (j + 1) := by
  obtain ⟨sj, cj, vj, h1, h2, h3, h4, h5, h6, h7, h8, h9⟩ := h
  obtain ⟨s1, s2, q1, q2, q3⟩ := runS_step hi.run hj
  obtain rfl : sj = s1 := by rw [h1] at q1; cases q1; rfl
  have hr := hi.rsok r (List.mem_of_getElem? hj)
  have hjl := (List.getElem?_eq_some_iff.1 hj).1
  have hfew := hi.few
  refine (take_any r h4 h2 hr).mono ?_
  intro e w' ht
  rw [q2] at ht
  obtain ⟨rfl, ht⟩ := ht
  have hz := ht.one
  obtain ⟨⟨c2, v2, z1, z2, z3⟩, z4, z5, z6⟩ := ST1.trans h8 h5 h6 h7 h9 hz
  exact ⟨rfl, s2, c2, v2, q3, takeS_ok h2 hr (by omega) q2, by have := takeS_len q2; omega, z1, z2, z3, z4, z5, z6⟩
set_option maxHeartbeats 12800000 in
set_option maxRecDepth 100000 in
theorem replay_any (hi : RI w p o B T cur s v rs t s' ad N cap) :
    Calls Tryz.prog 31 #[.pointer (some ⟨p, o, none⟩), .slice ad N cap] w fun e w' => RepP w p o T cur v s' (recsB rs).length (decide (t = [])) e w' := by
  have hN := hi.nn
  have hlen := hi.len
  have hNl : (N : Int) ≤ 1000000 := by omega
  have HI := hide hi
  have H0 := hide hi.start
  have HNt := hide hN
  clear hi hlen hN
  go_enter Tryz.func31, Tryz.ntmps31
  go_wp2_with fail
  go_loopw [5, 6, 7, 8] (fun s5 s6 s7 s8 wr => s6 = s6 ∧ s7 = s7 ∧ s8 = s8 ∧ ∃ j, j ≤ rs.length ∧ s5 = .int .i64 ((atJ rs j : Nat) : Int) ∧ Hid (RJ w wr p o T cur s v rs j)) (fun s5 _ _ _ _ => N - (RowKit.intOf s5).toNat)
  case atStart => exact ⟨rfl, rfl, rfl, 0, Nat.zero_le _, rfl, unhide H0⟩
  case round =>
    obtain ⟨-, -, -, j, hj, rfl, hr⟩ := hrel
    clear H0
    by_cases hlt : j < rs.length
    · have ha : rs[j]? = some rs[j] := List.getElem?_eq_getElem hlt
      generalize rs[j] = r at ha
      have h1 : atJ rs j < N := by rw [unhide HNt]; exact atJ_lt t hlt
      obtain ⟨g, off, had, -, hcap, -⟩ := (unhide HI).by'.from (by omega)
      have h2 : atJ rs (j + 1) = atJ rs j + r.bytes.length := recsB_len rs j r ha
      have h3 : atJ rs (j + 1) ≤ N := by rw [unhide HNt]; exact atJ_le rs t (j + 1)
      have hrl := r.len
      have HU := hide (rj_unframe (unhide HI) had ha (unhide hr))
      have HK := hide (fun W (hW : RJ w W p o T cur s v rs j) => rj_take (unhide HI) ha hW)
      subst had
      generalize atJ rs j = at0 at *
      generalize hb : r.bytes.length = bl at *
      have g1 : (at0 : Int) < (N : Int) := by omega
      have g0 : (0 : Int) ≤ (at0 : Int) := by omega
      have g2 : ¬ cap = at0 := by omega
      have g3 : ¬ at0 = cap := by omega
      have hw : IntKind.i64.wrap ((at0 : Int) + (bl : Int)) = (at0 : Int) + (bl : Int) := by rw [IntKind.wrap_i64] <;> omega
      have H2 := hide (And.intro h2 (And.intro h3 (And.intro hrl hlt)))
      clear hr hb ha h2 h3 hrl hlt
      unfold Rc.cells at HU HK
      go_wp2_with (first
        | (go_at_call 57; refine (unhide HU).mono ?_; rintro e w1 ⟨rfl, h1'⟩; clear HU; have HR := hide (h1'.below (box_below _ (.cells #[.int .u8 (r.kind : Int), .int .u64 (r.term : Int), .int .u64 (r.place : Int), .int .u64 (r.ent.term : Int), .int .i64 r.ent.kind, .int .u64 (r.ent.client : Int), .int .u64 (r.ent.seq : Int), .string r.ent.sql] 84))); clear h1')
        | (go_at_call 58; refine (unhide HK _ (unhide HR)).mono ?_; rintro e w2 ⟨rfl, h2'⟩; clear HK; have HR2 := hide h2'; clear h2'))
      obtain ⟨h2, h3, hrl, hlt⟩ := unhide H2
      refine ⟨⟨trivial, trivial, trivial, j + 1, by omega, by rw [h2]; simp, unhide HR2⟩, ?_⟩
      simp [RowKit.intOf]
      omega
    · obtain rfl : j = rs.length := by omega
      have hal := atJ_all rs
      have HF := hide ((unhide hr).one (by rw [List.take_length]; exact (unhide HI).run))
      by_cases ht : t = []
      · have hN0 : atJ rs rs.length = N := by rw [unhide HNt, hal, ht, List.append_nil]
        have g1 : ¬ ((atJ rs rs.length : Int) < (N : Int)) := by omega
        have Ht := hide ht
        clear hr HI HNt hal hlt hN0 ht
        generalize atJ rs rs.length = at0 at *
        go_wp2_with fail
        go_ret
        exact ⟨unhide HF, .inl ⟨by simp [unhide Ht], rfl⟩⟩
      · have hN0 : atJ rs rs.length < N := by rw [unhide HNt, hal]; have := List.length_pos_iff.2 ht; simp; omega
        obtain ⟨g, off, had, -, hcap, -⟩ := (unhide HI).by'.from (by omega)
        have HU := hide (rj_torn (unhide HI) had ht (unhide hr))
        have HX := hide (unhide hr)
        have HO := hide (fun W (hW : RJ w W p o T cur s v rs rs.length) => hW.one (by rw [List.take_length]; exact (unhide HI).run))
        subst had
        have Hal := hide hal
        have Ht := hide ht
        clear hr HF hal ht hlt
        generalize hat : atJ rs rs.length = at0 at *
        have g1 : (at0 : Int) < (N : Int) := by omega
        have g0 : (0 : Int) ≤ (at0 : Int) := by omega
        have g2 : ¬ cap = at0 := by omega
        have g3 : ¬ at0 = cap := by omega
        clear hat hN0
        unfold zRec at HU
        go_wp2_with (first
          | (go_at_call 57; refine (unhide HU).mono ?_; rintro e w1 ⟨b, pl, rfl, he, h1'⟩; clear HU; have HR := hide (And.intro he h1'); clear he h1'))
        go_ret
        obtain ⟨he, hj1⟩ := unhide HR
        have b1 := box_below w1 (.cells #[.int .u8 0, .int .u64 0, .int .u64 0, .int .u64 0, .int .i64 0, .int .u64 0, .int .u64 0, .string ⟨#[]⟩] 84)
        have b2 := box_below (w1.alloc (.cells #[.int .u8 0, .int .u64 0, .int .u64 0, .int .u64 0, .int .i64 0, .int .u64 0, .int .u64 0, .string ⟨#[]⟩] 84)) (.cells #[.int .i64 (at0 : Int), ev b] 116)
        have hz := (unhide HO _ hj1).size
        have hbl := lt_of_cell he.1
        refine ⟨unhide HO _ ((hj1.below b1).below b2), .inr ⟨by simp [unhide Ht], w1.heap.size + 1, b, pl, rfl, by omega, ?_, ?_, ?_⟩⟩
        · rw [← unhide Hal]; simp
        · simp
        · exact (he.below b1 hbl).below b2 (by simp; exact Nat.lt_succ_of_lt hbl)
end
end Go.Proofs.YthphadbcebeoaaaGreatDoor
/- The wal: whether an error tells a torn end. -/
namespace Go.Proofs.YthphadbcebeoaaaGreatDoor
open Go.RowKit Go.Extern.Stop Go.Stop Go.Extern Go.Lib Go.Maps

set_option maxHeartbeats 8000000 in
set_option maxRecDepth 100000 in
/-- errors.Is at a placed error within a placed error: by its class. -/
theorem is_placed2 (p q : Nat) (c : Int) (w : World) (h1 : w.cell? ⟨p, 1, none⟩ = some (ev q)) (h2 : w.cell? ⟨q, 1, none⟩ = some (.iface 75 (.int .i64 c))) :
    Calls Tryz.prog 29 #[ev p, .iface 75 (.int .i64 c)] w fun e w' => e = .returned (.bool true) ∧ w' = w := by
  have hTO := @run_callFunc_extern Tryz.prog 51 _ Extern.ReflectliteType.typeOf Tryz.func51 (by kernel_rfl) (by kernel_rfl) (by kernel_rfl) (by kernel_rfl)
  have tT := Tryz.isTypeOfC
  have cT := Tryz.isComparableC
  have mR := Tryz.isMethodComparable
  have nE := Tryz.noIsC
  have uE := Tryz.noUnwrapC
  have vE := Tryz.noUnwrapsC
  have nW := Tryz.noIsP
  have uW := Tryz.hasUnwrapP
  have mU := Tryz.methodUnwrap
  have heq := run_eql_iface_int (P := Tryz.prog) (k := .i64) w c c Tryz.underlying31 Tryz.isCompC Tryz.underlying75
  have hty := run_eql_iface_types (P := Tryz.prog) 112 75 (.pointer (some ⟨p, 0, none⟩)) (.int .i64 c) Tryz.underlying31 (by decide) w
  have hty2 := run_eql_iface_types (P := Tryz.prog) 112 75 (.pointer (some ⟨q, 0, none⟩)) (.int .i64 c) Tryz.underlying31 (by decide) w
  have hcc : (c == c) = true := by simp
  go_enter Tryz.func29, Tryz.ntmps29
  go_wp2
  refine wp_loop_rounds 3 ?_
  rw [rounds_succ]
  go_wp2
  rw [rounds_succ]
  go_wp2
  rw [rounds_succ]
  go_wp2
  go_ret
  exact ⟨rfl, rfl⟩

set_option maxHeartbeats 3200000 in
theorem torn_nil (w : World) : Calls Tryz.prog 55 #[.nilIface] w fun e w' => e = .returned (.bool false) ∧ w' = w := by
  go_enter Tryz.func55, Tryz.ntmps55
  go_wp2_with (first
    | (go_at_call 29; refine (is_nil _ _).mono ?_; rintro e w1 ⟨rfl, rfl⟩))
  go_ret
  exact ⟨rfl, rfl⟩
set_option maxHeartbeats 3200000 in
theorem torn_yes (b b2 : Nat) (pl : Int) (w : World) (h1 : w.cell? ⟨b, 1, none⟩ = some (ev b2)) (h2 : ErrAt w b2 pl 22) : Calls Tryz.prog 55 #[ev b] w fun e w' => e = .returned (.bool true) ∧ w' = w := by
  have HI := hide (is_placed2 b b2 22 w h1 h2.2)
  clear h1 h2
  go_enter Tryz.func55, Tryz.ntmps55
  go_wp2_with (first
    | (go_at_call 29; refine (unhide HI).mono ?_; rintro e w1 ⟨rfl, rfl⟩))
  go_ret
  exact ⟨rfl, rfl⟩
end Go.Proofs.YthphadbcebeoaaaGreatDoor
