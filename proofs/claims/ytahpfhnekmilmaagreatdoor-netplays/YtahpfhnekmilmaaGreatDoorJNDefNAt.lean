/- A net in memory: a row of flights. New, Len, at. -/
import Derived.Test.YtahpfhnekmilmaaGreatDoorMsgGood
import Derived.Test.YtahpfhnekmilmaaGreatDoorWMsg
namespace Go.Proofs.YtahpfhnekmilmaaGreatDoor
open Go.RowKit Go.Lib Go.Maps

theorem cellB {w : World} {p : Nat} {cur : Array Value} {T : TypeId} (h : w.heap[p]? = some (.cells cur T (0, 0))) (i : Nat) : w.cell? ⟨p, i, none⟩ = cur[i]? ∧ w.frozen? ⟨p, i, none⟩ = false := by
  constructor
  · simp [World.cell?, h]
  · simp [World.frozen?, h]
theorem cell_same {w w' : World} {k : Nat} (h : w'.heap[k]? = w.heap[k]?) (i : Nat) : w'.cell? ⟨k, i, none⟩ = w.cell? ⟨k, i, none⟩ := by
  simp [World.cell?, h]

/-- A message in flight: from, to, its bytes and where they are read. -/
structure Fl where
  fr : Int
  to' : Int
  v : Value
  d : List UInt8
def fCells : List Fl → List Value
  | [] => []
  | e :: r => .int .i64 e.fr :: .int .i64 e.to' :: e.v :: fCells r
theorem fCells_length : ∀ L : List Fl, (fCells L).length = L.length * 3
  | [] => rfl
  | e :: r => by simp [fCells, fCells_length r]; omega
theorem fCells_at : ∀ {L : List Fl} {i : Nat} {e : Fl}, L[i]? = some e → (fCells L)[i * 3]? = some (.int .i64 e.fr) ∧ (fCells L)[i * 3 + 1]? = some (.int .i64 e.to') ∧ (fCells L)[i * 3 + 2]? = some e.v
  | x :: r, 0, e, h => by
    simp at h; subst h
    exact ⟨rfl, rfl, rfl⟩
  | x :: r, i + 1, e, h => by
    have := fCells_at (L := r) (i := i) (e := e) (by simpa using h)
    have e1 : (i + 1) * 3 = i * 3 + 1 + 1 + 1 := by omega
    rw [e1]
    exact this
theorem fCells_append (A B : List Fl) : fCells (A ++ B) = fCells A ++ fCells B := by
  induction A with
  | nil => rfl
  | cons x r ih => simp [fCells, ih]

/-- Bytes of a flight: in a block of O that is neither the net's nor the row's. -/
def FB (w : World) (O : Nat → Prop) (p : Nat) (vf v : Value) (l : List UInt8) : Prop :=
  (v = .slice none 0 0 ∧ l = []) ∨
    ∃ b off cap, O b ∧ b ≠ p ∧ vf.ownBlock ≠ some b ∧ l.length ≤ cap ∧ cap ≤ maxLen ∧ v = .slice (some ⟨b, off, none⟩) l.length cap ∧ ∀ i, i < l.length → w.cell? ⟨b, off + i, none⟩ = some (.int .u8 ((l.getD i 0).toNat : Int))
theorem FB.slice {w : World} {O : Nat → Prop} {p : Nat} {vf v : Value} {l : List UInt8} (h : FB w O p vf v l) : ∃ a k, v = .slice a l.length k := by
  rcases h with ⟨rfl, rfl⟩ | ⟨b, off, cap, _, _, _, _, _, rfl, _⟩
  · exact ⟨none, 0, rfl⟩
  · exact ⟨_, _, rfl⟩
/-- A net at block p; all its blocks are among O. -/
structure NX (w : World) (p : Nat) (vf : Value) (L : List Fl) (O : Nat → Prop) : Prop where
  blk : w.heap[p]? = some (.cells #[vf] 54 (0, 0))
  row : w.ownsRow 0 60 3 vf L.length (fCells L)
  dat : ∀ e ∈ L, FB w O p vf e.v e.d
  few : L.length ≤ 4096
  oP : O p
  oF : ∀ k, vf.ownBlock = some k → O k
  lt : ∀ k, O k → k < w.heap.size
theorem NX.cell {w : World} {p : Nat} {vf : Value} {L : List Fl} {O : Nat → Prop} (h : NX w p vf L O) : w.cell? ⟨p, 0, none⟩ = some vf := by
  rw [(cellB h.blk 0).1]; rfl
/-- The row of flights: empty, or cells of a block of its own. -/
theorem NX.files {w : World} {p : Nat} {vf : Value} {L : List Fl} {O : Nat → Prop} (h : NX w p vf L O) : ∃ a cap, vf = .slice a L.length cap ∧ L.length ≤ cap ∧ ∀ i e, L[i]? = some e → ∃ g, a = some ⟨g, 0, none⟩ ∧ g ≠ p ∧ g < w.heap.size ∧ w.cell? ⟨g, i * 3, none⟩ = some (.int .i64 e.fr) ∧ w.cell? ⟨g, i * 3 + 1, none⟩ = some (.int .i64 e.to') ∧ w.cell? ⟨g, i * 3 + 2, none⟩ = some e.v := by
  obtain ⟨h1, ⟨e1, e2⟩ | ⟨g, cap, cur, e1, hb, hc, h2, h3, h4, h5⟩⟩ := h.row
  · refine ⟨none, 0, by rw [e1, e2], by omega, fun i e hi => ?_⟩
    have := (List.getElem?_eq_some_iff.1 hi).1
    omega
  · refine ⟨_, cap, e1, h2, fun i e hi => ⟨g, rfl, ?_, (Array.getElem?_eq_some_iff.1 hc).1, ?_, ?_, ?_⟩⟩
    · rintro rfl
      have := h.blk
      rw [hc] at this
      injection this with this
      injection this with _ h6
      exact absurd h6 (by decide)
    all_goals
      have hil := (List.getElem?_eq_some_iff.1 hi).1
      obtain ⟨c0, c1, c2⟩ := fCells_at hi
      rw [← h5] at c0 c1 c2
      rw [List.getElem?_take] at c0 c1 c2
      rw [(cellB hc _).1, ← Array.getElem?_toList]
    · rw [if_pos (by omega)] at c0; exact c0
    · rw [if_pos (by omega)] at c1; exact c1
    · rw [if_pos (by omega)] at c2; exact c2
theorem NX.below {w w' : World} {p : Nat} {vf : Value} {L : List Fl} {O : Nat → Prop} (h : NX w p vf L O) (hb : Below w.heap.size w w') : NX w' p vf L O := by
  refine ⟨(hb.block p (h.lt p h.oP)).trans h.blk, ?_, fun e he => ?_, h.few, h.oP, h.oF, fun k hk => Nat.lt_of_lt_of_le (h.lt k hk) hb.size⟩
  · obtain ⟨r1, r2 | ⟨g, cap, cur, e1, hb', hc, rr⟩⟩ := h.row
    · exact ⟨r1, .inl r2⟩
    · exact ⟨r1, .inr ⟨g, cap, cur, e1, hb', (hb.block g (Array.getElem?_eq_some_iff.1 hc).1).trans hc, rr⟩⟩
  · rcases h.dat e he with h1 | ⟨b, off, cap, h1, h2, h3, h4, h5, h6, h7⟩
    · exact .inl h1
    · exact .inr ⟨b, off, cap, h1, h2, h3, h4, h5, h6, fun i hi => (cell_same (hb.block b (h.lt b h1)) _).trans (h7 i hi)⟩

theorem nnew_any (w : World) : Calls Tryz.prog 5 #[] w fun e w' => e = .returned (.pointer (some ⟨w.heap.size, 0, none⟩)) ∧ NX w' w.heap.size (.slice none 0 0) [] (fun k => k = w.heap.size) ∧ Below w.heap.size w w' := by
  go_enter Tryz.func5, Tryz.ntmps5
  go_wp2
  go_ret
  exact ⟨rfl, ⟨(MapKept.heap_alloc w _).1, World.ownsRow_nil _ _ _ _, fun e he => (by cases he), by simp, rfl, fun k hk => by simp [Value.ownBlock] at hk, fun k hk => by simp; omega⟩, (Below.refl _ _).alloc (Nat.le_refl _) _⟩
theorem nlen_any {w : World} {p : Nat} {vf : Value} {L : List Fl} {O : Nat → Prop} (h : NX w p vf L O) : Calls Tryz.prog 12 #[.pointer (some ⟨p, 0, none⟩)] w fun e w' => e = .returned (.int .i64 (L.length : Int)) ∧ w' = w := by
  obtain ⟨a, cap, rfl, _, _⟩ := h.files
  have c0 := h.cell
  clear h
  go_enter Tryz.func12, Tryz.ntmps12
  go_wp2
  go_ret
  exact ⟨rfl, rfl⟩
end Go.Proofs.YtahpfhnekmilmaaGreatDoor
/- A net: at tells the flight at a place, or that there is none. -/
namespace Go.Proofs.YtahpfhnekmilmaaGreatDoor
open Go.RowKit Go.Lib Go.Maps

set_option maxHeartbeats 3200000 in
set_option maxRecDepth 100000 in
theorem nat_bad {w : World} {p : Nat} {vf : Value} {L : List Fl} {O : Nat → Prop} (i : Int) (h : NX w p vf L O) (hi : i < 0 ∨ (L.length : Int) ≤ i) :
    Calls Tryz.prog 20 #[.pointer (some ⟨p, 0, none⟩), .int .i64 i] w fun e w' => ∃ b, e = .returned (.tuple #[.agg #[.int .i64 0, .int .i64 0, .slice none 0 0], ev b]) ∧ w.heap.size ≤ b ∧ ErrAt w' b i 40 ∧ Below w.heap.size w w' := by
  obtain ⟨a, cap, rfl, _, _⟩ := h.files
  have c0 := h.cell
  have hpl := h.lt p h.oP
  have hn1 : ¬ p = w.heap.size := by omega
  have hn2 : ¬ w.heap.size = p := by omega
  clear h
  by_cases h0 : i < 0
  · clear hi
    go_enter Tryz.func20, Tryz.ntmps20
    go_wp2
    refine bodyPost_ret (v := .tuple #[.agg #[.int .i64 0, .int .i64 0, .slice none 0 0], ev (w.heap.size + 1)]) (by simp [results, Tryz.results20, go_sem]) rfl ⟨_, rfl, by omega, ⟨by simp, by simp⟩, ((Below.refl _ _).alloc (Nat.le_refl _) _).alloc (by simp) _⟩
  · have hi1 : (L.length : Int) ≤ i := by omega
    have h0' : ¬ i < 0 := h0
    clear hi
    go_enter Tryz.func20, Tryz.ntmps20
    go_wp2
    refine bodyPost_ret (v := .tuple #[.agg #[.int .i64 0, .int .i64 0, .slice none 0 0], ev (w.heap.size + 1)]) (by simp [results, Tryz.results20, go_sem]) rfl ⟨_, rfl, by omega, ⟨by simp, by simp⟩, ((Below.refl _ _).alloc (Nat.le_refl _) _).alloc (by simp) _⟩

set_option maxHeartbeats 3200000 in
set_option maxRecDepth 100000 in
theorem nat_good {w : World} {p : Nat} {vf : Value} {L : List Fl} {O : Nat → Prop} (i : Nat) (e : Fl) (h : NX w p vf L O) (hi : L[i]? = some e) :
    Calls Tryz.prog 20 #[.pointer (some ⟨p, 0, none⟩), .int .i64 (i : Int)] w fun ev w' => ev = .returned (.tuple #[.agg #[.int .i64 e.fr, .int .i64 e.to', e.v], .nilIface]) ∧ Below w.heap.size w w' := by
  obtain ⟨a, cap, rfl, hcap, hfl⟩ := h.files
  obtain ⟨g, rfl, hgp, hgl, q0, q1, q2⟩ := hfl i e hi
  obtain ⟨ea, ek, hev⟩ := (h.dat e (List.mem_of_getElem? hi)).slice
  rw [hev] at q2 ⊢
  have c0 := h.cell
  have hpl := h.lt p h.oP
  have hn1 : ¬ p = w.heap.size := by omega
  have hn2 : ¬ w.heap.size = p := by omega
  have hn3 : ¬ g = w.heap.size := by omega
  have hn4 : ¬ w.heap.size = g := by omega
  have hil : i < L.length := (List.getElem?_eq_some_iff.1 hi).1
  have hi0 : ¬ (i : Int) < 0 := by omega
  have hi00 : (0 : Int) ≤ (i : Int) := by omega
  have hi1 : ¬ (L.length : Int) ≤ (i : Int) := by omega
  have hi2 : (i : Int) < (L.length : Int) := by omega
  clear h hfl hev hi
  go_enter Tryz.func20, Tryz.ntmps20
  go_wp2
  refine bodyPost_ret (v := .tuple #[.agg #[.int .i64 e.fr, .int .i64 e.to', .slice ea e.d.length ek], .nilIface]) (by simp [results, Tryz.results20, go_sem]) rfl ⟨rfl, (Below.refl _ _).alloc (Nat.le_refl _) _⟩
end Go.Proofs.YtahpfhnekmilmaaGreatDoor
