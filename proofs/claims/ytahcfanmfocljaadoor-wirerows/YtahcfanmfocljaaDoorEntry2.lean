/- wire.Entry, at all bytes. -/
import Derived.Test.YtahcfanmfocljaaDoorREntry
import Derived.RegionTactic
import Derived.ChangeAlike
namespace Go.Proofs.YtahcfanmfocljaaDoor
open Go.RowKit Go.Lib

theorem B5.fq' {w w' : World} {p E : Nat} {a b c d e : Value} (h : B5 w E a b c d e) (hf : Fq p w w') (hne : E ≠ p) : B5 w' E a b c d e := by
  exact ⟨Nat.lt_of_lt_of_le h.lt hf.1.size, (hf.cell (a := ⟨E, 0, none⟩) h.lt hne).trans h.c0, (hf.cell (a := ⟨E, 1, none⟩) h.lt hne).trans h.c1, (hf.cell (a := ⟨E, 2, none⟩) h.lt hne).trans h.c2, (hf.cell (a := ⟨E, 3, none⟩) h.lt hne).trans h.c3, (hf.cell (a := ⟨E, 4, none⟩) h.lt hne).trans h.c4,
    (hf.frozen (a := ⟨E, 0, none⟩) h.lt hne).trans h.f0, (hf.frozen (a := ⟨E, 1, none⟩) h.lt hne).trans h.f1, (hf.frozen (a := ⟨E, 2, none⟩) h.lt hne).trans h.f2, (hf.frozen (a := ⟨E, 3, none⟩) h.lt hne).trans h.f3, (hf.frozen (a := ⟨E, 4, none⟩) h.lt hne).trans h.f4⟩

theorem ErrAt.set {w : World} {b k : Nat} {p c : Int} (h : ErrAt w b p c) (hk : k ≠ b) (j : Nat) (u : Value) : ErrAt (w.setCell ⟨k, j, none⟩ u) b p c :=
  ⟨(World.cell?_setCell_other _ _ _ _ (ne_blk hk)).trans h.1, (World.cell?_setCell_other _ _ _ _ (ne_blk hk)).trans h.2⟩
/-- What wire.Entry tells. -/
def EntPost (r : GE × Except Nat Nat) (w : World) (e : Ending) (w' : World) : Prop :=
  match r.2 with
  | .ok b => e = .returned (.tuple #[r.1.agg, .int .i64 (b : Int), .nilIface]) ∧ Below w.heap.size w w'
  | .error c => ∃ b pl, e = .returned (.tuple #[zE.agg, .int .i64 0, ev b]) ∧ ErrAt w' b pl (c : Int) ∧ Below w.heap.size w w'

set_option maxHeartbeats 3200000 in
set_option maxRecDepth 100000 in
theorem entry_any (v : Value) (l : List UInt8) (w : World) (hE : ET w) (hv : RBp w w.heap.size v l) :
    Calls Tryd.prog 27 #[v] w fun e w' => EntPost (rdEnt l (.ok 0)) w e w' := by
  have hb0 := below_alloc (B := w.heap.size) (.cells #[.int .u64 0, .int .i64 0, .int .u64 0, .int .u64 0, .string ⟨#[]⟩] 52) (Nat.le_refl w.heap.size)
  have hE0 := hE.below hb0 hE.lt
  have hv0 : RBp (w.alloc (.cells #[.int .u64 0, .int .i64 0, .int .u64 0, .int .u64 0, .string ⟨#[]⟩] 52)) (w.alloc (.cells #[.int .u64 0, .int .i64 0, .int .u64 0, .int .u64 0, .string ⟨#[]⟩] 52)).heap.size v l := rb_later hv hb0 hb0.size
  have hrs := RS.new _ v l hE0 hv0
  have hsz : (w.alloc (.cells #[.int .u64 0, .int .i64 0, .int .u64 0, .int .u64 0, .string ⟨#[]⟩] 52)).heap.size = w.heap.size + 1 := by simp
  rw [hsz] at hrs
  have HR := hide (rentry_any (w.heap.size + 1) l (.ok 0) _ hrs)
  have HB5 := hide ((B5.new w 52 (.int .u64 0) (.int .i64 0) (.int .u64 0) (.int .u64 0) (.string ⟨#[]⟩)).alloc (.cells #[v, .int .i64 0, .nilIface] 92))
  have HB := hide (hb0.alloc hb0.size (.cells #[v, .int .i64 0, .nilIface] 92))
  obtain ⟨av, kv, rfl⟩ := rb_len hv
  generalize rdEnt l (.ok 0) = r at *
  obtain ⟨g, s⟩ := r
  clear hE hv hE0 hv0 hrs hsz hb0
  unfold GE.agg GE.cells at HR
  cases s with
  | ok b =>
    go_enter Tryd.func27, Tryd.ntmps27
    go_wp2_with (first | (go_at_call 50; refine (unhide HR).mono ?_; rintro e w1 ⟨rfl, hr1, hf1⟩; obtain ⟨k1, k2, _⟩ := hr1.cells_ok; have hp1 := hr1.lt; have bR := ((unhide HB5).fq' hf1 (by omega)); obtain ⟨hz2, u0, u1, u2, u3, u4, v0, v1, v2, v3, v4⟩ := bR; have hb1 := hide ((unhide HB).trans (hf1.1.mono (by omega))); clear HR hf1 hr1))
    go_region
    all_goals (try go_wp2)
    (try simp only [Exit.inBlock, Exit.then])
    refine bodyPost_ret (v := .tuple #[g.agg, .int .i64 (b : Int), .nilIface]) ?_ rfl ⟨rfl, ?_⟩
    · rw [results_cell3 rfl]
      go_simp
      rfl
    · exact ((((((unhide hb1).setCell (p := ⟨w.heap.size, 0, none⟩) (Nat.le_refl _) _).setCell (p := ⟨w.heap.size, 1, none⟩) (Nat.le_refl _) _).setCell (p := ⟨w.heap.size, 2, none⟩) (Nat.le_refl _) _).setCell (p := ⟨w.heap.size, 3, none⟩) (Nat.le_refl _) _).setCell (p := ⟨w.heap.size, 4, none⟩) (Nat.le_refl _) _).alloc (by simp; omega) _ |>.drew
  | error c =>
    go_enter Tryd.func27, Tryd.ntmps27
    go_wp2_with (first | (go_at_call 50; refine (unhide HR).mono ?_; rintro e w1 ⟨rfl, hr1, hf1⟩; have hp1 := hr1.lt; obtain ⟨_, _, _, _, _, a', b', pl, _, _, k2, k3, k4⟩ := hr1; have HE := hide k4; clear k4; have bR := ((unhide HB5).fq' hf1 (by omega)); obtain ⟨hz2, u0, u1, u2, u3, u4, v0, v1, v2, v3, v4⟩ := bR; have hb1 := hide ((unhide HB).trans (hf1.1.mono (by omega))); clear HR hf1))
    go_region
    (try go_wp2)
    (try simp only [Exit.inBlock, Exit.then])
    refine bodyPost_ret (v := .tuple #[zE.agg, .int .i64 0, ev b']) ?_ rfl ⟨b', pl, rfl, ?_, ?_⟩
    · unfold zE GE.agg GE.cells
      rw [results_cell3 rfl]
      go_simp
    · have hne : w.heap.size ≠ b' := by omega
      exact (((((((unhide HE).set hne 0 _).set hne 1 _).set hne 2 _).set hne 3 _).set hne 4 _).alloc _).drew
    · exact ((((((unhide hb1).setCell (p := ⟨w.heap.size, 0, none⟩) (Nat.le_refl _) _).setCell (p := ⟨w.heap.size, 1, none⟩) (Nat.le_refl _) _).setCell (p := ⟨w.heap.size, 2, none⟩) (Nat.le_refl _) _).setCell (p := ⟨w.heap.size, 3, none⟩) (Nat.le_refl _) _).setCell (p := ⟨w.heap.size, 4, none⟩) (Nat.le_refl _) _).alloc (by simp; omega) _ |>.drew
end Go.Proofs.YtahcfanmfocljaaDoor
