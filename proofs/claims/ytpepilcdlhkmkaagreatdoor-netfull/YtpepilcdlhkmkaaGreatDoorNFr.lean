/- What turns in memory: blocks of a set alone. -/
import Derived.Test.YtpepilcdlhkmkaaGreatDoorJNDefNAt
namespace Go.Proofs.YtpepilcdlhkmkaaGreatDoor
open Go.RowKit Go.Lib Go.Maps

def Env (w w' : World) : Prop := w'.os = w.os ∧ w'.tape = w.tape ∧ w'.output = w.output
theorem Env.trans {a b c : World} (h : Env a b) (h' : Env b c) : Env a c := ⟨h'.1.trans h.1, h'.2.1.trans h.2.1, h'.2.2.trans h.2.2⟩
/-- Nothing but blocks of O turns. -/
structure FrO (O : Nat → Prop) (w w' : World) : Prop where
  size : w.heap.size ≤ w'.heap.size
  blk : ∀ k, k < w.heap.size → ¬ O k → w'.heap[k]? = w.heap[k]?
  env : Env w w'
theorem FrO.refl (O : Nat → Prop) (w : World) : FrO O w w := ⟨Nat.le_refl _, fun _ _ _ => rfl, rfl, rfl, rfl⟩
theorem FrO.of_below {O : Nat → Prop} {w w' : World} (h : Below w.heap.size w w') : FrO O w w' := ⟨h.size, fun k hk _ => h.block k hk, h.os, h.tape, h.output⟩
theorem FrO.trans {O O' : Nat → Prop} {a b c : World} (h : FrO O a b) (h' : FrO O' b c) (ho : ∀ k, k < a.heap.size → O' k → O k) : FrO O a c :=
  ⟨Nat.le_trans h.size h'.size, fun k hk hn => (h'.blk k (Nat.lt_of_lt_of_le hk h.size) (fun hk' => hn (ho k hk hk'))).trans (h.blk k hk hn), h.env.trans h'.env⟩
theorem heap_setCell_at {w : World} {p : Nat} {cur : Array Value} {T : TypeId} (h : w.heap[p]? = some (.cells cur T (0, 0))) (i : Nat) (v : Value) : (w.setCell ⟨p, i, none⟩ v).heap[p]? = some (.cells (cur.setIfInBounds i v) T (0, 0)) := by
  simp only [World.setCell]
  rw [Array.getElem?_modify, if_pos rfl, h]
  rfl
theorem heap_setCell_ne {w : World} {p k : Nat} (i : Nat) (v : Value) (h : k ≠ p) : (w.setCell ⟨p, i, none⟩ v).heap[k]? = w.heap[k]? := Below.heap_setCell w ⟨p, i, none⟩ v k h
theorem FrO.set {O : Nat → Prop} {a w : World} {p : Nat} (h : FrO O a w) (hp : O p) (i : Nat) (v : Value) : FrO O a (w.setCell ⟨p, i, none⟩ v) :=
  ⟨by simpa using h.size, fun k hk hn => (heap_setCell_ne i v (fun e => hn (by rw [e]; exact hp))).trans (h.blk k hk hn), h.env.trans ⟨rfl, rfl, rfl⟩⟩
theorem FrO.alloc {O : Nat → Prop} {a w : World} (h : FrO O a w) (o : Obj) : FrO O a (w.alloc o) :=
  ⟨by have := h.size; simp; omega, fun k hk hn => (Below.heap_alloc w o k (Nat.lt_of_lt_of_le hk h.size)).trans (h.blk k hk hn), h.env.trans ⟨rfl, rfl, rfl⟩⟩

theorem FB.keep {w w' : World} {O O' : Nat → Prop} {p : Nat} {vf vf' v : Value} {l : List UInt8} (h : FB w O p vf v l) (hs : ∀ k, O k → k ≠ p → vf.ownBlock ≠ some k → w'.heap[k]? = w.heap[k]?) (hO : ∀ k, O k → O' k) (hv : ∀ k, O k → vf.ownBlock ≠ some k → vf'.ownBlock ≠ some k) : FB w' O' p vf' v l := by
  rcases h with h | ⟨b, off, cap, h1, h2, h3, h4, h5, h6, h7⟩
  · exact .inl h
  · exact .inr ⟨b, off, cap, hO b h1, h2, hv b h1 h3, h4, h5, h6, fun i hi => (cell_same (hs b h1 h2 h3) _).trans (h7 i hi)⟩

/-- A flight is added: what the call found, and what it left. -/
theorem nadd_mem {w w3 w4 : World} {p : Nat} {vf v3 v : Value} {L : List Fl} {O : Nat → Prop} {fr to' : Int} {d : List UInt8} (h : NX w p vf L O) (hv : FB w O p vf v d) (hfew : L.length < 4096)
    (hrow : w3.ownsRow 0 63 3 v3 (L.length + 1) (fCells L ++ [.int .i64 fr, .int .i64 to', v])) (hz : w.heap.size + 2 ≤ w3.heap.size) (hblk : ∀ k, k < w.heap.size → vf.ownBlock ≠ some k → w3.heap[k]? = w.heap[k]?) (henv : Env w w3)
    (hloc : ∀ k, v3.ownBlock = some k → vf.ownBlock = some k ∨ w.heap.size + 2 ≤ k) (hw4 : w4.heap = (w3.setCell ⟨p, 0, none⟩ v3).heap) (henv4 : Env w3 w4) :
    NX w4 p v3 (L ++ [⟨fr, to', v, d⟩]) (fun k => O k ∨ (w.heap.size ≤ k ∧ k < w4.heap.size)) ∧ FrO O w w4 := by
  have hpl := h.lt p h.oP
  have hpf : vf.ownBlock ≠ some p := fun hh => by
    rcases h.row.2 with ⟨e1, _⟩ | ⟨g, cap, cur, e1, _, hc, _⟩
    · rw [e1] at hh; simp [Value.ownBlock] at hh
    · rw [e1] at hh; simp [Value.ownBlock] at hh; subst hh
      have := h.blk
      rw [hc] at this; injection this with this; injection this with _ h6; exact absurd h6 (by decide)
  have hp3 : w3.heap[p]? = some (.cells #[vf] 57 (0, 0)) := (hblk p hpl hpf).trans h.blk
  have h4p : w4.heap[p]? = some (.cells #[v3] 57 (0, 0)) := by rw [hw4]; exact heap_setCell_at hp3 0 v3
  have h4o : ∀ k, k ≠ p → w4.heap[k]? = w3.heap[k]? := fun k hk => by rw [hw4]; exact heap_setCell_ne 0 v3 hk
  have hz4 : w4.heap.size = w3.heap.size := by rw [hw4]; simp
  have hnp : v3.ownBlock ≠ some p := fun hh => by
    rcases hloc p hh with h1 | h1
    · exact hpf h1
    · omega
  have hcells : fCells (L ++ [⟨fr, to', v, d⟩]) = fCells L ++ [.int .i64 fr, .int .i64 to', v] := by rw [fCells_append]; rfl
  have hdat : ∀ x dd, FB w O p vf x dd → FB w4 (fun k => O k ∨ (w.heap.size ≤ k ∧ k < w4.heap.size)) p v3 x dd := fun x dd hx =>
    hx.keep (fun k hk hkp hkf => (h4o k hkp).trans (hblk k (h.lt k hk) hkf)) (fun k hk => .inl hk) (fun k hk hkf hh => by
      rcases hloc k hh with h1 | h1
      · exact hkf h1
      · have := h.lt k hk; omega)
  refine ⟨⟨h4p, ?_, fun e he => ?_, by rw [List.length_append]; show L.length + 1 ≤ 4096; omega, .inl h.oP, fun k hk => ?_, fun k hk => ?_⟩, ⟨by omega, fun k hk hn => ?_, henv.trans henv4⟩⟩
  · rw [hcells, List.length_append]
    show w4.ownsRow 0 63 3 v3 (L.length + 1) _
    obtain ⟨r1, r2 | ⟨g, cap, cur, e1, hb, hc, rr⟩⟩ := hrow
    · exact ⟨r1, .inl r2⟩
    · refine ⟨r1, .inr ⟨g, cap, cur, e1, hb, (h4o g (fun e => hnp (by rw [e1, e]; rfl))).trans hc, rr⟩⟩
  · rcases List.mem_append.1 he with he | he
    · exact hdat _ _ (h.dat e he)
    · simp at he; subst he
      exact hdat _ _ hv
  · rcases hloc k hk with h1 | h1
    · exact .inl (h.oF k h1)
    · refine .inr ⟨by omega, ?_⟩
      rcases hrow.2 with ⟨e1, _⟩ | ⟨g, cap, cur, e1, _, hc, _⟩
      · rw [e1] at hk; simp [Value.ownBlock] at hk
      · rw [e1] at hk; simp [Value.ownBlock] at hk; subst hk
        rw [hz4]; exact (Array.getElem?_eq_some_iff.1 hc).1
  · rcases hk with hk | hk
    · have := h.lt k hk; omega
    · exact hk.2
  · exact (h4o k (fun e => hn (e ▸ h.oP))).trans (hblk k hk (fun hh => hn (h.oF k hh)))
end Go.Proofs.YtpepilcdlhkmkaaGreatDoor
