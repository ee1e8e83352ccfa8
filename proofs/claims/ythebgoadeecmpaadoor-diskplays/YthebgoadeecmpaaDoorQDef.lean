/- The document's disk in memory: a row of files. -/
import Derived.Test.YthebgoadeecmpaaDoorDAbs
namespace Go.Proofs.YthebgoadeecmpaaDoor
open Go.RowKit Go.Lib Go.Maps Go.WideMaps

def gCells : List Ent → List Value
  | [] => []
  | e :: r => .string ⟨e.name.toArray⟩ :: e.v :: .int .i64 (e.sure : Int) :: gCells r
theorem gCells_length : ∀ G : List Ent, (gCells G).length = G.length * 3
  | [] => rfl
  | e :: r => by simp [gCells, gCells_length r]; omega
theorem gCells_at : ∀ {G : List Ent} {i : Nat} {e : Ent}, G[i]? = some e → (gCells G)[i * 3]? = some (.string ⟨e.name.toArray⟩) ∧ (gCells G)[i * 3 + 1]? = some e.v ∧ (gCells G)[i * 3 + 2]? = some (.int .i64 (e.sure : Int))
  | x :: r, 0, e, h => by
    simp at h; subst h
    exact ⟨rfl, rfl, rfl⟩
  | x :: r, i + 1, e, h => by
    have := gCells_at (G := r) (i := i) (e := e) (by simpa using h)
    have e1 : (i + 1) * 3 = i * 3 + 1 + 1 + 1 := by omega
    rw [e1]
    exact this
theorem gCells_append (A B : List Ent) : gCells (A ++ B) = gCells A ++ gCells B := by
  induction A with
  | nil => rfl
  | cons x r ih => simp [gCells, ih]

structure RSt where
  room : Int
  off : Bool
  halt : Int
  count : Int

/-- Bytes that the document's disk reads. -/
def RBq (w : World) (Q : Nat → Prop) (r : Nat) (vf : Value) (v : Value) (l : List UInt8) : Prop :=
  (v = .slice none 0 0 ∧ l = []) ∨
    ∃ b off cap, Q b ∧ b ≠ r ∧ vf.ownBlock ≠ some b ∧ l.length ≤ cap ∧ cap ≤ maxLen ∧ v = .slice (some ⟨b, off, none⟩) l.length cap ∧ ∀ i, i < l.length → w.cell? ⟨b, off + i, none⟩ = some (.int .u8 ((l.getD i 0).toNat : Int))
/-- The document's disk at block r. -/
structure RX (w : World) (r : Nat) (R : RSt) (vf : Value) (G : List Ent) (Q : Nat → Prop) : Prop where
  blk : w.heap[r]? = some (.cells #[vf, .int .i64 R.room, .bool R.off, .int .i64 R.halt, .int .i64 R.count] 54 (0, 0))
  row : w.ownsRow 0 61 3 vf G.length (gCells G)
  dat : ∀ e ∈ G, RBq w Q r vf e.v e.data
  few : G.length ≤ 64
  len : ∀ e ∈ G, e.sure ≤ e.data.length ∧ e.data.length ≤ 1048576
  nam : ∀ e ∈ G, e.name.length ≤ 40
  oR : Q r
  oF : ∀ k, vf.ownBlock = some k → Q k
  lt : ∀ k, Q k → k < w.heap.size

theorem RX.cells {w : World} {r : Nat} {R : RSt} {vf : Value} {G : List Ent} {Q : Nat → Prop} (h : RX w r R vf G Q) :
    w.cell? ⟨r, 0, none⟩ = some vf ∧ w.cell? ⟨r, 1, none⟩ = some (.int .i64 R.room) ∧ w.cell? ⟨r, 2, none⟩ = some (.bool R.off) ∧ w.cell? ⟨r, 3, none⟩ = some (.int .i64 R.halt) ∧ w.cell? ⟨r, 4, none⟩ = some (.int .i64 R.count) := by
  refine ⟨?_, ?_, ?_, ?_, ?_⟩ <;> rw [(cellB h.blk _).1] <;> rfl
/-- The row of files: empty, or cells of a block of its own. -/
theorem RX.files {w : World} {r : Nat} {R : RSt} {vf : Value} {G : List Ent} {Q : Nat → Prop} (h : RX w r R vf G Q) : ∃ a cap, vf = .slice a G.length cap ∧ G.length ≤ cap ∧ ∀ i e, G[i]? = some e → ∃ g, a = some ⟨g, 0, none⟩ ∧ g ≠ r ∧ g < w.heap.size ∧ w.cell? ⟨g, i * 3, none⟩ = some (.string ⟨e.name.toArray⟩) ∧ w.cell? ⟨g, i * 3 + 1, none⟩ = some e.v ∧ w.cell? ⟨g, i * 3 + 2, none⟩ = some (.int .i64 (e.sure : Int)) ∧ ∀ k, w.frozen? ⟨g, k, none⟩ = false := by
  obtain ⟨h1, ⟨e1, e2⟩ | ⟨g, cap, cur, e1, hb, hc, h2, h3, h4, h5⟩⟩ := h.row
  · refine ⟨none, 0, by rw [e1, e2], by omega, fun i e hi => ?_⟩
    have := (List.getElem?_eq_some_iff.1 hi).1
    omega
  · refine ⟨_, cap, e1, h2, fun i e hi => ⟨g, rfl, ?_, (Array.getElem?_eq_some_iff.1 hc).1, ?_, ?_, ?_, fun k => by simp [World.frozen?, hc]⟩⟩
    · rintro rfl
      have := h.blk
      rw [hc] at this
      injection this with this
      injection this with _ h6
      exact absurd h6 (by decide)
    all_goals
      have hil := (List.getElem?_eq_some_iff.1 hi).1
      obtain ⟨c0, c1, c2⟩ := gCells_at hi
      rw [← h5] at c0 c1 c2
      rw [List.getElem?_take] at c0 c1 c2
      rw [(cellB hc _).1, ← Array.getElem?_toList]
    · rw [if_pos (by omega)] at c0; exact c0
    · rw [if_pos (by omega)] at c1; exact c1
    · rw [if_pos (by omega)] at c2; exact c2

/-- Where that name stands. -/
def at' (G : List Ent) (n : List UInt8) : Int := match G.findIdx? (fun e => e.name == n) with | some i => (i : Int) | none => -1

theorem str_eq (a b : List UInt8) : (ByteArray.mk a.toArray = ByteArray.mk b.toArray) ↔ a = b := by
  constructor
  · intro h; injection h with h; simpa using congrArg Array.toList h
  · rintro rfl; rfl

set_option maxHeartbeats 3200000 in
set_option maxRecDepth 100000 in
theorem at_any {w : World} {r : Nat} {R : RSt} {vf : Value} {G : List Ent} {Q : Nat → Prop} (n : List UInt8) (h : RX w r R vf G Q) :
    Calls Tryd.prog 38 #[.pointer (some ⟨r, 0, none⟩), .string ⟨n.toArray⟩] w fun e w' => e = .returned (.int .i64 (at' G n)) ∧ w' = w := by
  obtain ⟨a, cap, rfl, hcap, hfl⟩ := h.files
  have c0 := h.cells.1
  have hfew := h.few
  have HF := hide hfl
  have hG : (G.length : Int) ≤ 64 := by omega
  clear h hfl
  go_enter Tryd.func38, Tryd.ntmps38
  go_wp2
  go_loopw [5] (fun i wr => ∃ k : Nat, k ≤ G.length ∧ i = .int .i64 k ∧ wr = w ∧ Hid (∀ e ∈ G.take k, e.name ≠ n)) (fun i _ => G.length - (intOf i).toNat)
  case atStart => exact ⟨0, by omega, rfl, rfl, fun e he => by simp at he⟩
  case round =>
    obtain ⟨k, hk, rfl, rfl, hno⟩ := hrel
    by_cases hlt : k < G.length
    · obtain ⟨e, hek⟩ : ∃ e, G[k]? = some e := ⟨G[k], List.getElem?_eq_getElem hlt⟩
      obtain ⟨g, rfl, _, _, cn, _, _, _⟩ := unhide HF k e hek
      have hlt' : (k : Int) < (G.length : Int) := by omega
      by_cases hn : e.name = n
      · have hres : at' G n = (k : Int) := by
          unfold at'
          have : G.findIdx? (fun e => e.name == n) = some k := by
            rw [List.findIdx?_eq_some_iff_getElem]
            obtain ⟨h1, h2⟩ := List.getElem?_eq_some_iff.1 hek
            refine ⟨h1, by rw [h2]; simpa using hn, fun j hj => ?_⟩
            have := unhide hno (G[j]) (by rw [List.mem_take_iff_getElem]; exact ⟨j, by omega, rfl⟩)
            simpa using this
          rw [this]
        subst hn
        clear hno HF
        go_wp2
        go_ret
        exact ⟨by first | rfl | (rw [hres]; rfl), rfl⟩
      · have hnb : (e.name == n) = false := by simpa using hn
        have HNO : Hid (∀ x ∈ G.take (k + 1), x.name ≠ n) := by
          intro x hx
          rw [List.take_add_one, hek] at hx
          rcases List.mem_append.1 hx with hx | hx
          · exact unhide hno x hx
          · simp at hx; subst hx; exact hn
        clear hno HF
        go_wp2
        go_roundw
        case rel => exact ⟨k + 1, by omega, by go_num, trivial, unhide HNO⟩
        case measure => simp [intOf]; omega
    · have hlt' : ¬ (k : Int) < (G.length : Int) := by omega
      have hres : at' G n = -1 := by
        unfold at'
        have : G.findIdx? (fun e => e.name == n) = none := by
          rw [List.findIdx?_eq_none_iff]
          intro x hx
          have := unhide hno x (by rw [List.take_of_length_le (by omega)]; exact hx)
          simpa using this
        rw [this]
      clear hno HF
      go_wp2
      go_ret
      exact ⟨by first | rfl | (rw [hres]; rfl), rfl⟩
end Go.Proofs.YthebgoadeecmpaaDoor
