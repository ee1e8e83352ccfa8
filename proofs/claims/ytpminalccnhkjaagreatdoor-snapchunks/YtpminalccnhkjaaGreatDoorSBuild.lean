/- The builder of snapshots: Begin, Add, Snapshot, Index; the statement's own same. -/
import Derived.Test.YtpminalccnhkjaaGreatDoorSChunk
namespace Go.Proofs.YtpminalccnhkjaaGreatDoor
open Go.RowKit Go.Lib

/-- A builder at block p: its numbers, its bytes, whether it is whole; its row lies in blocks behind p. -/
def BL (w : World) (p i t : Nat) (l : List UInt8) (wh : Bool) : Prop :=
  ∃ a k, w.heap[p]? = some (.cells #[.int .u64 (i : Int), .int .u64 (t : Int), .slice a l.length k, .bool wh] 90 (0, 0)) ∧ w.ownsRow (p + 1) 5 1 (.slice a l.length k) l.length (byteCells l)
theorem BL.lt {w : World} {p i t : Nat} {l : List UInt8} {wh : Bool} (h : BL w p i t l wh) : p < w.heap.size := by
  obtain ⟨a, k, h1, _⟩ := h
  exact (Array.getElem?_eq_some_iff.1 h1).1
theorem BL.later {w w' : World} {p i t : Nat} {l : List UInt8} {wh : Bool} (h : BL w p i t l wh) (hb : Below w.heap.size w w') : BL w' p i t l wh := by
  have hl := h.lt
  obtain ⟨a, k, h1, h2⟩ := h
  exact ⟨a, k, (hb.block p hl).trans h1, own_later h2 hb⟩
theorem begin_any (i t : Nat) (w : World) : Calls Tryz.prog 19 #[.int .u64 (i : Int), .int .u64 (t : Int)] w fun e w' => e = .returned (.pointer (some ⟨w.heap.size, 0, none⟩)) ∧ BL w' w.heap.size i t [] false ∧ Below w.heap.size w w' := by
  go_enter Tryz.func19, Tryz.ntmps19
  go_wp2
  go_ret
  exact ⟨rfl, ⟨none, 0, (MapKept.heap_alloc w _).1, World.ownsRow_nil _ _ _ _⟩, below_alloc _ (Nat.le_refl _)⟩
theorem index_any {w : World} {p i t : Nat} {l : List UInt8} {wh : Bool} (h : BL w p i t l wh) : Calls Tryz.prog 23 #[.pointer (some ⟨p, 0, none⟩)] w fun e w' => e = .returned (.int .u64 (i : Int)) ∧ w' = w := by
  obtain ⟨a, k, h1, _⟩ := h
  have c0 : w.cell? ⟨p, 0, none⟩ = some (.int .u64 (i : Int)) := (Dk.cellB h1 0).1
  clear h1
  go_enter Tryz.func23, Tryz.ntmps23
  go_wp2
  go_ret
  exact ⟨rfl, rfl⟩
theorem fits_whole {w : World} {p i t : Nat} {l : List UInt8} (off : Int) (ca : Option Addr) (cn ck : Nat) (h : BL w p i t l true) :
    Calls Tryz.prog 39 #[.pointer (some ⟨p, 0, none⟩), .int .i64 off, .slice ca cn ck] w fun e w' => e = .returned (.bool false) ∧ w' = w := by
  obtain ⟨a, k, h1, _⟩ := h
  have c3 : w.cell? ⟨p, 3, none⟩ = some (.bool true) := (Dk.cellB h1 3).1
  clear h1
  go_enter Tryz.func39, Tryz.ntmps39
  go_wp2
  go_ret
  exact ⟨rfl, rfl⟩
theorem fits_off {w : World} {p i t : Nat} {l : List UInt8} (off : Nat) (ca : Option Addr) (cn ck : Nat) (h : BL w p i t l false) (ho : off ≠ l.length) :
    Calls Tryz.prog 39 #[.pointer (some ⟨p, 0, none⟩), .int .i64 (off : Int), .slice ca cn ck] w fun e w' => e = .returned (.bool false) ∧ w' = w := by
  obtain ⟨a, k, h1, _⟩ := h
  have c3 : w.cell? ⟨p, 3, none⟩ = some (.bool false) := (Dk.cellB h1 3).1
  have c2 : w.cell? ⟨p, 2, none⟩ = some (.slice a l.length k) := (Dk.cellB h1 2).1
  have hne : ((off : Int) == (l.length : Int)) = false := by simp; omega
  clear h1
  go_enter Tryz.func39, Tryz.ntmps39
  go_wp2
  go_ret
  exact ⟨rfl, rfl⟩
theorem fits_yes {w : World} {p i t n : Nat} {l : List UInt8} (ca : Option Addr) (cn ck : Nat) (h : BL w p i t l false) (hn : n = l.length) (hc : n + cn ≤ 262080) :
    Calls Tryz.prog 39 #[.pointer (some ⟨p, 0, none⟩), .int .i64 (n : Int), .slice ca cn ck] w fun e w' => e = .returned (.bool true) ∧ w' = w := by
  obtain ⟨a, k, h1, _⟩ := h
  rw [← hn] at h1
  have c3 : w.cell? ⟨p, 3, none⟩ = some (.bool false) := (Dk.cellB h1 3).1
  have c2 : w.cell? ⟨p, 2, none⟩ = some (.slice a n k) := (Dk.cellB h1 2).1
  have hs : (cn : Int) ≤ 262080 - (n : Int) := by omega
  clear h1 hn
  go_enter Tryz.func39, Tryz.ntmps39
  go_wp2
  go_ret
  exact ⟨rfl, rfl⟩
set_option maxHeartbeats 1600000 in
/-- Add of what does not fit. -/
theorem add_not {w : World} {p i t : Nat} {l : List UInt8} {wh : Bool} (off : Nat) (ca : Option Addr) (cn ck : Nat) (dn : Bool) (h : BL w p i t l wh) (ho : wh = true ∨ off ≠ l.length) :
    Calls Tryz.prog 21 #[.pointer (some ⟨p, 0, none⟩), .int .i64 (off : Int), .slice ca cn ck, .bool dn] w fun e w' => e = .returned (.tuple #[.int .i64 (l.length : Int), .bool wh]) ∧ BL w' p i t l wh ∧ Below p w w' := by
  have h0 := h
  have HF : Hid (Calls Tryz.prog 39 #[.pointer (some ⟨p, 0, none⟩), .int .i64 (off : Int), .slice ca cn ck] w fun e w' => e = .returned (.bool false) ∧ w' = w) := by
    cases wh with
    | true => exact fits_whole _ _ _ _ h
    | false => exact fits_off _ _ _ _ h (ho.resolve_left (by decide))
  obtain ⟨a, k, h1, _⟩ := h
  have c3 : w.cell? ⟨p, 3, none⟩ = some (.bool wh) := (Dk.cellB h1 3).1
  have c2 : w.cell? ⟨p, 2, none⟩ = some (.slice a l.length k) := (Dk.cellB h1 2).1
  have H0 := hide h0
  clear h1 h0 ho
  go_enter Tryz.func21, Tryz.ntmps21
  go_wp2_with (go_at_call 39; refine (unhide HF).mono ?_; rintro e w1 ⟨rfl, rfl⟩)
  go_region
  go_wp2
  go_ret2
  exact ⟨rfl, (unhide H0).later (drew_below _ 1), (drew_below _ 1).mono (Nat.le_of_lt (unhide H0).lt)⟩
theorem BL.two {w w1 : World} {p i t : Nat} {a : Option Addr} {k : Nat} {v0 : Value} {l : List UInt8} {wh dn : Bool} (h : w.heap[p]? = some (.cells #[.int .u64 (i : Int), .int .u64 (t : Int), v0, .bool wh] 90 (0, 0))) (hb : Below (p + 1) w w1) (ho : w1.ownsRow (p + 1) 5 1 (.slice a l.length k) l.length (byteCells l)) :
    BL ((w1.setCell ⟨p, 2, none⟩ (.slice a l.length k)).setCell ⟨p, 3, none⟩ (.bool dn)) p i t l dn ∧ Below p w ((w1.setCell ⟨p, 2, none⟩ (.slice a l.length k)).setCell ⟨p, 3, none⟩ (.bool dn)) := by
  have h1 := (hb.block p (Nat.lt_succ_self _)).trans h
  have h2 := Dk.heap_setCell_at h1 2 (.slice a l.length k)
  have h3 := Dk.heap_setCell_at h2 3 (.bool dn)
  exact ⟨⟨a, k, h3, ownsRow_setCell_below (ownsRow_setCell_below ho (by simp) _) (by simp) _⟩, ((hb.mono (Nat.le_succ _)).setCell (p := ⟨p, 2, none⟩) (Nat.le_refl _) _).setCell (p := ⟨p, 3, none⟩) (Nat.le_refl _) _⟩
set_option maxHeartbeats 3200000 in
/-- Add of what fits. -/
theorem add_yes {w : World} {p i t n m : Nat} {l lc : List UInt8} (ca : Option Addr) (ck : Nat) (dn : Bool) (h : BL w p i t l false) (hn : n = l.length) (hm : m = lc.length) (hc : RBp w w.heap.size (.slice ca m ck) lc) (hl : n + m ≤ 262080) :
    Calls Tryz.prog 21 #[.pointer (some ⟨p, 0, none⟩), .int .i64 (n : Int), .slice ca m ck, .bool dn] w fun e w' => e = .returned (.tuple #[.int .i64 ((n + m : Nat) : Int), .bool dn]) ∧ BL w' p i t (l ++ lc) dn ∧ Below p w w' := by
  have HF := hide (fits_yes ca m ck h hn hl)
  have hlt := h.lt
  obtain ⟨a, k, h1, ho⟩ := h
  rw [← hn] at h1 ho
  have c2 : w.cell? ⟨p, 2, none⟩ = some (.slice a n k) := (Dk.cellB h1 2).1
  have H1 := hide h1
  have HC := hide hc
  have HO := hide ho
  have HN := hide (And.intro hn hm)
  clear h1 hc ho hn hm
  go_enter Tryz.func21, Tryz.ntmps21
  go_wp2_with (first
    | (go_at_call 39; refine (unhide HF).mono ?_; rintro e w1 ⟨rfl, rfl⟩; clear HF)
    | (at_builtin; refine wpList_append_rb rfl (.tmp 18) (.tmp 19) rfl (p + 1) _ _ _ rfl (unhide HO) _ _ lc rfl (unhide HC) (by omega) (by have := (unhide HN).2; omega) hlt ?_; intro v3 w3 ho3 _ hb3; have e3 : n + lc.length = n + m := (by rw [(unhide HN).2]); rw [e3] at ho3; obtain ⟨a3, k3, rfl⟩ := own_slice ho3; have f2 := Dk.cellB ((hb3.block p (Nat.lt_succ_self _)).trans (unhide H1)) 2; have f3 := Dk.cellB ((hb3.block p (Nat.lt_succ_self _)).trans (unhide H1)) 3; obtain ⟨f21, f22⟩ := f2; obtain ⟨f31, f32⟩ := f3; have HO3 := hide ho3; have HB3 := hide hb3; clear ho3 hb3 e3))
  have hx := unhide HN
  have e5 : n + m = (l ++ lc).length := by rw [List.length_append]; omega
  have e6 : byteCells l ++ byteCells lc = byteCells (l ++ lc) := by simp [byteCells]
  have ho3 := unhide HO3
  rw [e5, e6] at ho3
  rw [e5]
  obtain ⟨hq1, hq2⟩ := BL.two (dn := dn) (unhide H1) (unhide HB3) ho3
  generalize (w3.setCell ⟨p, 2, none⟩ (.slice a3 (l ++ lc).length k3)).setCell ⟨p, 3, none⟩ (.bool dn) = W at hq1 hq2 ⊢
  have Q2 := hide hq2
  have Q1 := hide hq1
  obtain ⟨a9, k9, h9, _⟩ := hq1
  have g2 : W.cell? ⟨p, 2, none⟩ = some (.slice a9 (l ++ lc).length k9) := (Dk.cellB h9 2).1
  have g3 : W.cell? ⟨p, 3, none⟩ = some (.bool dn) := (Dk.cellB h9 3).1
  have EM := hide e5
  clear h9 hx e5 e6 ho3 hq2 f21 f22 f31 f32 c2 H1 HO HC HO3 HB3 HN
  generalize (l ++ lc).length = M at g2 EM ⊢
  go_region
  go_wp2
  go_ret2
  exact ⟨by have e := unhide EM; subst e; rfl, (unhide Q1).later (drew_below _ 1), (unhide Q2).trans ((drew_below _ 1).mono (Nat.le_of_lt (unhide Q1).lt))⟩
set_option maxHeartbeats 1600000 in
/-- Snapshot of what is not whole. -/
theorem snap_none {w : World} {p i t : Nat} {l : List UInt8} (h : BL w p i t l false) :
    Calls Tryz.prog 22 #[.pointer (some ⟨p, 0, none⟩)] w fun e w' => e = .returned (.tuple #[.agg #[.int .u64 0, .int .u64 0, .slice none 0 0], .bool false]) ∧ Below w.heap.size w w' := by
  have hlt := h.lt
  obtain ⟨a, k, h1, _⟩ := h
  have c3 : (w.alloc (.cells #[.int .u64 0, .int .u64 0, .slice none 0 0] 34)).cell? ⟨p, 3, none⟩ = some (.bool false) := (World.cell?_alloc_lt _ _ ⟨p, 3, none⟩ hlt).trans (Dk.cellB h1 3).1
  have HB := hide (below_alloc (B := w.heap.size) (.cells #[.int .u64 0, .int .u64 0, .slice none 0 0] 34) (Nat.le_refl w.heap.size))
  obtain ⟨f0, f1, f2, f3, f4, f5⟩ := (Sv.new w (.int .u64 0) (.int .u64 0) (.slice none 0 0)).cells
  clear h1 hlt
  go_enter Tryz.func22, Tryz.ntmps22
  go_wp2
  refine bodyPost_ret (v := .tuple #[.agg #[.int .u64 0, .int .u64 0, .slice none 0 0], .bool false]) ?_ rfl ?_
  · rw [results_cell_tmp rfl]
    go_simp
    try rfl
  · exact ⟨rfl, unhide HB⟩
end Go.Proofs.YtpminalccnhkjaaGreatDoor
