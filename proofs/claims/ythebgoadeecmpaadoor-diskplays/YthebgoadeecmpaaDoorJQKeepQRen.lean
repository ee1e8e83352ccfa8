/- The document's disk lasts while none of its blocks turns. -/
import Derived.Test.YthebgoadeecmpaaDoorJQAppAQMath
import Derived.Test.YthebgoadeecmpaaDoorDRen
namespace Go.Proofs.YthebgoadeecmpaaDoor
open Go.RowKit Go.Lib Go.Maps Go.WideMaps

theorem RBq.keep {w w' : World} {Q : Nat → Prop} {r : Nat} {vf v : Value} {l : List UInt8} (h : RBq w Q r vf v l) (hs : ∀ k, Q k → w'.heap[k]? = w.heap[k]?) : RBq w' Q r vf v l := by
  rcases h with h | ⟨b, off, cap, h1, h2, h3, h4, h5, h6, h7⟩
  · exact .inl h
  · exact .inr ⟨b, off, cap, h1, h2, h3, h4, h5, h6, fun i hi => (cell_same (hs b h1) _).trans (h7 i hi)⟩
theorem RX.keep {w w' : World} {r : Nat} {R : RSt} {vf : Value} {G : List Ent} {Q : Nat → Prop} (h : RX w r R vf G Q) (hz : w.heap.size ≤ w'.heap.size) (hs : ∀ k, Q k → w'.heap[k]? = w.heap[k]?) : RX w' r R vf G Q := by
  refine ⟨(hs r h.oR).trans h.blk, ?_, fun e he => (h.dat e he).keep hs, h.few, h.len, h.nam, h.oR, h.oF, fun k hk => Nat.lt_of_lt_of_le (h.lt k hk) hz⟩
  obtain ⟨r1, r2 | ⟨g, cap, cur, e1, hb, hc, rr⟩⟩ := h.row
  · exact ⟨r1, .inl r2⟩
  · exact ⟨r1, .inr ⟨g, cap, cur, e1, hb, (hs g (h.oF g (by rw [e1]; rfl))).trans hc, rr⟩⟩
end Go.Proofs.YthebgoadeecmpaaDoor
/- The document's disk: Rename. -/
namespace Go.Proofs.YthebgoadeecmpaaDoor
open Go.RowKit Go.Lib Go.Maps Go.WideMaps

/-- The document's disk, and a file that was taken out, in a variable at block fb. -/
structure RF (w0 : World) (Q0 : Nat → Prop) (w : World) (r : Nat) (R : RSt) (vf : Value) (G : List Ent) (Q : Nat → Prop) (fb : Nat) (nm : List UInt8) (v : Value) (dt : List UInt8) (su : Nat) : Prop where
  rx : RX w r R vf G Q
  rb : RBq w Q r vf v dt
  no : ¬ Q fb
  blk : w.heap[fb]? = some (.cells #[.string ⟨nm.toArray⟩, v, .int .i64 (su : Int)] 61 (0, 0))
  fr : FrO Q0 w0 w
  q : ∀ q, Q q → Q0 q ∨ w0.heap.size ≤ q
  fbn : w0.heap.size ≤ fb

theorem RF.cells {w0 : World} {Q0 : Nat → Prop} {w : World} {r : Nat} {R : RSt} {vf : Value} {G : List Ent} {Q : Nat → Prop} {fb : Nat} {nm : List UInt8} {v : Value} {dt : List UInt8} {su : Nat} (h : RF w0 Q0 w r R vf G Q fb nm v dt su) :
    w.cell? ⟨fb, 0, none⟩ = some (.string ⟨nm.toArray⟩) ∧ w.cell? ⟨fb, 1, none⟩ = some v ∧ w.cell? ⟨fb, 2, none⟩ = some (.int .i64 (su : Int)) ∧ w.frozen? ⟨fb, 0, none⟩ = false := by
  refine ⟨?_, ?_, ?_, (cellB h.blk 0).2⟩ <;> rw [(cellB h.blk _).1] <;> rfl

theorem RF.begin {w0 : World} {Q0 : Nat → Prop} {w : World} {r : Nat} {R : RSt} {vf : Value} {G : List Ent} {Q : Nat → Prop} {nm : List UInt8} {v : Value} {dt : List UInt8} {su : Nat} (h : RX w r R vf G Q) (hb : RBq w Q r vf v dt) (hf : FrO Q0 w0 w) (hq : ∀ q, Q q → Q0 q ∨ w0.heap.size ≤ q) :
    RF w0 Q0 (w.alloc (.cells #[.string ⟨nm.toArray⟩, v, .int .i64 (su : Int)] 61)) r R vf G Q w.heap.size nm v dt su := by
  have hs : ∀ k, Q k → (w.alloc (.cells #[.string ⟨nm.toArray⟩, v, .int .i64 (su : Int)] 61)).heap[k]? = w.heap[k]? := fun k hk => Below.heap_alloc _ _ k (h.lt k hk)
  exact ⟨h.keep (by simp) hs, hb.keep hs, fun hh => absurd (h.lt _ hh) (by omega), (MapKept.heap_alloc w _).1, hf.alloc _, hq, hf.size⟩

theorem RF.take {w0 : World} {Q0 : Nat → Prop} {w : World} {r : Nat} {R : RSt} {vf : Value} {G : List Ent} {Q : Nat → Prop} {fb : Nat} {nm : List UInt8} {v : Value} {dt : List UInt8} {su : Nat} (h : RF w0 Q0 w r R vf G Q fb nm v dt su) (i : Nat) (e : Ent) (hi : G[i]? = some e) :
    Calls Tryd.prog 44 #[.pointer (some ⟨r, 0, none⟩), .int .i64 (i : Int)] w fun ev w' => ∃ ag vf' Q', ev = .returned (.agg ag) ∧ RF w0 Q0 w' r R vf' (G.eraseIdx i) Q' fb nm v dt su := by
  refine (take_any i e h.rx hi).mono ?_
  rintro ev w' ⟨vf', Q', rfl, hx, hf, hq, hrb⟩
  have hfb := (Array.getElem?_eq_some_iff.1 h.blk).1
  refine ⟨_, vf', Q', rfl, hx, hrb _ _ h.rb, fun hh => ?_, (hf.blk fb hfb h.no).trans h.blk, h.fr.trans hf (fun k hk hQ => ?_), fun q hh => ?_, h.fbn⟩
  · rcases hq fb hh with h1 | h1
    · exact h.no h1
    · omega
  · rcases h.q k hQ with h1 | h1
    · exact h1
    · omega
  · rcases hq q hh with h1 | h1
    · exact h.q q h1
    · exact .inr (Nat.le_trans h.fr.size h1)

theorem RF.name {w0 : World} {Q0 : Nat → Prop} {w : World} {r : Nat} {R : RSt} {vf : Value} {G : List Ent} {Q : Nat → Prop} {fb : Nat} {nm : List UInt8} {v : Value} {dt : List UInt8} {su : Nat} (h : RF w0 Q0 w r R vf G Q fb nm v dt su) (t : List UInt8) :
    RF w0 Q0 (w.setCell ⟨fb, 0, none⟩ (.string ⟨t.toArray⟩)) r R vf G Q fb t v dt su := by
  obtain ⟨s1, s2, s3⟩ := rset_at h.blk 0 (.string ⟨t.toArray⟩)
  have hs : ∀ k, Q k → (w.setCell ⟨fb, 0, none⟩ (.string ⟨t.toArray⟩)).heap[k]? = w.heap[k]? := fun k hk => s3 k (fun e => h.no (e ▸ hk))
  refine ⟨h.rx.keep (by omega) hs, h.rb.keep hs, h.no, s1, ⟨by have := h.fr.size; omega, fun k hk hn => ?_, h.fr.env⟩, h.q, h.fbn⟩
  have := h.fbn
  exact (s3 k (by omega)).trans (h.fr.blk k hk hn)

theorem RF.add {w0 : World} {Q0 : Nat → Prop} {w : World} {r : Nat} {R : RSt} {vf : Value} {G : List Ent} {Q : Nat → Prop} {fb : Nat} {nm : List UInt8} {v : Value} {dt : List UInt8} {su : Nat} (h : RF w0 Q0 w r R vf G Q fb nm v dt su) (hsu : su ≤ dt.length ∧ dt.length ≤ 1048576) (hn : nm.length ≤ 40) (hfew : G.length < 64) :
    Calls Tryd.prog 41 #[.pointer (some ⟨r, 0, none⟩), .agg #[.string ⟨nm.toArray⟩, v, .int .i64 (su : Int)]] w fun ev w' => ∃ (x : Nat) (vf' : Value) (Q' : Nat → Prop), ev = .returned (.int .i64 (x : Int)) ∧ RX w' r R vf' (G.take (lessN nm G) ++ ⟨nm, 0, v, dt, su⟩ :: G.drop (lessN nm G)) Q' ∧ FrO Q0 w0 w' ∧ (∀ q, Q' q → Q0 q ∨ w0.heap.size ≤ q) := by
  refine (add_any nm v su dt h.rx h.rb hsu hn hfew).mono ?_
  rintro ev w' ⟨vf', Q', rfl, hx, hf, hq⟩
  refine ⟨_, vf', Q', rfl, hx, h.fr.trans hf (fun k hk hQ => ?_), fun q hh => ?_⟩
  · rcases h.q k hQ with h1 | h1
    · exact h1
    · omega
  · rcases hq q hh with h1 | h1
    · exact h.q q h1
    · exact .inr (Nat.le_trans h.fr.size h1)

theorem look_erase_ne {G : List Ent} (hr : Rising G) {a : List UInt8} {i : Nat} {e : Ent} (hi : G[i]? = some e) (hen : e.name = a) : G.eraseIdx i = delE a G := by
  rw [← hen]; exact erase_del hr hi
theorem Rising.del {G : List Ent} (hr : Rising G) (n : List UInt8) : Rising (delE n G) := List.Pairwise.filter _ hr
end Go.Proofs.YthebgoadeecmpaaDoor
