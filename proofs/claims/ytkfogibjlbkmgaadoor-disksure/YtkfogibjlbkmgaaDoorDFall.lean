/- What a fall leaves of a file. -/
import Derived.Test.YtkfogibjlbkmgaaDoorDSync
namespace Go.Proofs.YtkfogibjlbkmgaaDoor
open Go.RowKit Go.Lib Go.Maps Go.WideMaps

def shorten : Value → Nat → Value
  | .slice a _ k, n => .slice a n k
  | v, _ => v
/-- How many bytes are left. -/
def leftN (keep : Int) (e : Ent) : Nat := e.sure + min keep.toNat (e.data.length - e.sure)
def fallE (keep : Int) (e : Ent) : Ent := { e with v := shorten e.v (leftN keep e), data := e.data.take (leftN keep e), sure := leftN keep e }
theorem leftN_le {w : World} {e : Ent} (h : FileAt w e) (keep : Int) : leftN keep e ≤ e.data.length := by
  have := h.sure
  unfold leftN; omega
theorem ownBlock_shorten (v : Value) (n : Nat) : (shorten v n).ownBlock = v.ownBlock := by
  cases v <;> try rfl
  rename_i a _ _
  cases a <;> rfl
theorem fall_file {w : World} {e : Ent} (h : FileAt w e) (keep : Int) : FileAt ((w.setCell ⟨e.fp, 1, none⟩ (.int .i64 (leftN keep e : Int))).setCell ⟨e.fp, 0, none⟩ (shorten e.v (leftN keep e))) (fallE keep e) := by
  have hle := leftN_le h keep
  have hne : e.v.ownBlock ≠ some e.fp := by
    intro hx
    rcases h.row.2 with ⟨e1, _⟩ | ⟨g, cap, cur, e1, _, hc, _⟩
    · rw [e1] at hx; simp [Value.ownBlock] at hx
    · rw [e1] at hx; simp [Value.ownBlock] at hx; subst hx; rw [h.blk] at hc; injection hc with hc; injection hc with _ h2; exact absurd h2 (by decide)
  have hlen : (e.data.take (leftN keep e)).length = leftN keep e := by rw [List.length_take]; omega
  refine ⟨heap_setCell_at (heap_setCell_at h.blk 1 _) 0 _, ownsRow_of_same (w := w) ?_ (fun k hk => ?_), ?_, ?_⟩
  · show w.ownsRow 0 5 1 (shorten e.v (leftN keep e)) (e.data.take (leftN keep e)).length (byteCells (e.data.take (leftN keep e)))
    rw [hlen]
    refine ⟨by rw [Lib.byteCells_length, hlen]; omega, ?_⟩
    rcases h.row.2 with ⟨e1, e2⟩ | ⟨g, cap, cur, e1, h0, hc, h1, h2, h3, h4⟩
    · left
      have : leftN keep e = 0 := by omega
      rw [this, e1]; exact ⟨rfl, rfl⟩
    · right
      refine ⟨g, cap, cur, by rw [e1]; rfl, h0, hc, by omega, h2, h3, ?_⟩
      have : cur.toList.take (leftN keep e * 1) = (cur.toList.take (e.data.length * 1)).take (leftN keep e) := by rw [List.take_take]; congr 1; omega
      rw [this, h4]
      unfold byteCells
      rw [List.map_take]
  · have hk : (shorten e.v (leftN keep e)).ownBlock = some k := hk
    rw [ownBlock_shorten] at hk
    have : k ≠ e.fp := fun hx => hne (by rw [← hx]; exact hk)
    rw [heap_setCell_ne 0 _ this, heap_setCell_ne 1 _ this]
  · show leftN keep e ≤ (e.data.take (leftN keep e)).length
    omega
  · show (e.data.take (leftN keep e)).length ≤ 1048576
    have := h.len; omega

set_option maxHeartbeats 3200000 in
set_option maxRecDepth 100000 in
theorem fall_any {w : World} {e : Ent} (keep : Int) (h : FileAt w e) (hk : -9223372036854775808 ≤ keep ∧ keep ≤ 9223372036854775807) :
    Calls Tryd.prog 47 #[.pointer (some ⟨e.fp, 0, none⟩), .int .i64 keep] w fun ev w' => ev = .returned (.tuple #[]) ∧ w'.heap = ((w.setCell ⟨e.fp, 1, none⟩ (.int .i64 (leftN keep e : Int))).setCell ⟨e.fp, 0, none⟩ (shorten e.v (leftN keep e))).heap ∧ Env w w' := by
  have hle := leftN_le h keep
  have hsu := h.sure
  have hlen := h.len
  have c1 : w.cell? ⟨e.fp, 1, none⟩ = some (.int .i64 (e.sure : Int)) := by rw [(cellB h.blk 1).1]; rfl
  have f0 := (cellB h.blk 0).2
  have f1 := (cellB h.blk 1).2
  have c0 : w.cell? ⟨e.fp, 0, none⟩ = some e.v := by rw [(cellB h.blk 0).1]; rfl
  have hrow := h.row.2
  clear h
  generalize hN : leftN keep e = N at *
  have hE : (e.sure : Int) + min (max keep 0) ((e.data.length : Int) - (e.sure : Int)) = (N : Int) := by
    unfold leftN at hN; omega
  clear hN
  generalize e.data.length = n at *
  generalize e.sure = su at *
  generalize e.fp = fp at *
  have hw0 : IntKind.i64.wrap ((n : Int) - (su : Int)) = (n : Int) - (su : Int) := by rw [IntKind.wrap_i64] <;> omega
  have hw1 : IntKind.i64.wrap ((su : Int) + min (max keep 0) ((n : Int) - (su : Int))) = (N : Int) := by rw [hE, IntKind.wrap_i64] <;> omega
  have hw2 : IntKind.i64.wrap (N : Int) = (N : Int) := by rw [IntKind.wrap_i64] <;> omega
  have hN0 : (0 : Int) ≤ (N : Int) := by omega
  rcases hrow with ⟨e1, e2⟩ | ⟨g, cap, cur, e1, _, hc, h1, h2, h3, h4⟩
  · rw [e1] at c0 ⊢
    subst e2
    have h5 : su = 0 := by omega
    subst h5
    have h6 : N = 0 := by omega
    subst h6
    have hz : min (max keep 0) (0 : Int) = 0 := by omega
    go_enter Tryd.func47, Tryd.ntmps47
    go_wp2
    go_region
    all_goals go_wp2
    all_goals go_region
    all_goals go_wp2
    all_goals go_end0
    all_goals exact ⟨rfl, rfl, rfl, rfl, rfl⟩
  · rw [e1] at c0 ⊢
    have hNc : (N : Int) ≤ (cap : Int) := by omega
    clear hc h3 h4
    go_enter Tryd.func47, Tryd.ntmps47
    go_wp2
    go_region
    all_goals go_wp2
    all_goals go_region
    all_goals go_wp2
    all_goals go_end0
    all_goals exact ⟨rfl, rfl, rfl, rfl, rfl⟩
end Go.Proofs.YtkfogibjlbkmgaaDoor
