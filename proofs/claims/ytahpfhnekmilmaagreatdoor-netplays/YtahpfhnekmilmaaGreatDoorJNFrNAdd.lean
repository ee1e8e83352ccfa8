/- What turns in memory: blocks of a set alone. -/
import Derived.Test.YtahpfhnekmilmaaGreatDoorJNDefNAt
import Derived.Deep.RegionLaw
import Derived.Maps.AppendAt
namespace Go.Proofs.YtahpfhnekmilmaaGreatDoor
open Go.RowKit Go.Lib Go.Maps

def Env (w w' : World) : Prop := w'.os = w.os ∧ w'.tape = w.tape ∧ w'.output = w.output
theorem Env.trans {a b c : World} (h : Env a b) (h' : Env b c) : Env a c := ⟨h'.1.trans h.1, h'.2.1.trans h.2.1, h'.2.2.trans h.2.2⟩
/-- Nothing but blocks of O turns. -/
structure FrO (O : Nat → Prop) (w w' : World) : Prop where
  size : w.heap.size ≤ w'.heap.size
  blk : ∀ k, k < w.heap.size → ¬ O k → w'.heap[k]? = w.heap[k]?
  env : Env w w'
theorem FrO.refl (O : Nat → Prop) (w : World) : FrO O w w := ⟨Nat.le_refl _, fun _ _ _ => rfl, rfl, rfl, rfl⟩
theorem FrO.of_below {O : Nat → Prop} {w w' : World} (h : Below w.heap.size w w') : FrO O w w' := ⟨h.size, fun k hk _ => h.block k hk, h.os, h.tape, h.output⟩
theorem FrO.trans {O O' : Nat → Prop} {a b c : World} (h : FrO O a b) (h' : FrO O' b c) (ho : ∀ k, k < a.heap.size → O' k → O k) : FrO O a c :=
  ⟨Nat.le_trans h.size h'.size, fun k hk hn => (h'.blk k (Nat.lt_of_lt_of_le hk h.size) (fun hk' => hn (ho k hk hk'))).trans (h.blk k hk hn), h.env.trans h'.env⟩
theorem heap_setCell_at {w : World} {p : Nat} {cur : Array Value} {T : TypeId} (h : w.heap[p]? = some (.cells cur T (0, 0))) (i : Nat) (v : Value) : (w.setCell ⟨p, i, none⟩ v).heap[p]? = some (.cells (cur.setIfInBounds i v) T (0, 0)) := by
  simp only [World.setCell]
  rw [Array.getElem?_modify, if_pos rfl, h]
  rfl
theorem heap_setCell_ne {w : World} {p k : Nat} (i : Nat) (v : Value) (h : k ≠ p) : (w.setCell ⟨p, i, none⟩ v).heap[k]? = w.heap[k]? := Below.heap_setCell w ⟨p, i, none⟩ v k h
theorem FrO.set {O : Nat → Prop} {a w : World} {p : Nat} (h : FrO O a w) (hp : O p) (i : Nat) (v : Value) : FrO O a (w.setCell ⟨p, i, none⟩ v) :=
  ⟨by simpa using h.size, fun k hk hn => (heap_setCell_ne i v (fun e => hn (by rw [e]; exact hp))).trans (h.blk k hk hn), h.env.trans ⟨rfl, rfl, rfl⟩⟩
theorem FrO.alloc {O : Nat → Prop} {a w : World} (h : FrO O a w) (o : Obj) : FrO O a (w.alloc o) :=
  ⟨by have := h.size; simp; omega, fun k hk hn => (Below.heap_alloc w o k (Nat.lt_of_lt_of_le hk h.size)).trans (h.blk k hk hn), h.env.trans ⟨rfl, rfl, rfl⟩⟩

theorem FB.keep {w w' : World} {O O' : Nat → Prop} {p : Nat} {vf vf' v : Value} {l : List UInt8} (h : FB w O p vf v l) (hs : ∀ k, O k → k ≠ p → vf.ownBlock ≠ some k → w'.heap[k]? = w.heap[k]?) (hO : ∀ k, O k → O' k) (hv : ∀ k, O k → vf.ownBlock ≠ some k → vf'.ownBlock ≠ some k) : FB w' O' p vf' v l := by
  rcases h with h | ⟨b, off, cap, h1, h2, h3, h4, h5, h6, h7⟩
  · exact .inl h
  · exact .inr ⟨b, off, cap, hO b h1, h2, hv b h1 h3, h4, h5, h6, fun i hi => (cell_same (hs b h1 h2 h3) _).trans (h7 i hi)⟩

/-- A flight is added: what the call found, and what it left. -/
theorem nadd_mem {w w3 w4 : World} {p : Nat} {vf v3 v : Value} {L : List Fl} {O : Nat → Prop} {fr to' : Int} {d : List UInt8} (h : NX w p vf L O) (hv : FB w O p vf v d) (hfew : L.length < 4096)
    (hrow : w3.ownsRow 0 60 3 v3 (L.length + 1) (fCells L ++ [.int .i64 fr, .int .i64 to', v])) (hz : w.heap.size + 2 ≤ w3.heap.size) (hblk : ∀ k, k < w.heap.size → vf.ownBlock ≠ some k → w3.heap[k]? = w.heap[k]?) (henv : Env w w3)
    (hloc : ∀ k, v3.ownBlock = some k → vf.ownBlock = some k ∨ w.heap.size + 2 ≤ k) (hw4 : w4.heap = (w3.setCell ⟨p, 0, none⟩ v3).heap) (henv4 : Env w3 w4) :
    NX w4 p v3 (L ++ [⟨fr, to', v, d⟩]) (fun k => O k ∨ (w.heap.size ≤ k ∧ k < w4.heap.size)) ∧ FrO O w w4 := by
  have hpl := h.lt p h.oP
  have hpf : vf.ownBlock ≠ some p := fun hh => by
    rcases h.row.2 with ⟨e1, _⟩ | ⟨g, cap, cur, e1, _, hc, _⟩
    · rw [e1] at hh; simp [Value.ownBlock] at hh
    · rw [e1] at hh; simp [Value.ownBlock] at hh; subst hh
      have := h.blk
      rw [hc] at this; injection this with this; injection this with _ h6; exact absurd h6 (by decide)
  have hp3 : w3.heap[p]? = some (.cells #[vf] 54 (0, 0)) := (hblk p hpl hpf).trans h.blk
  have h4p : w4.heap[p]? = some (.cells #[v3] 54 (0, 0)) := by rw [hw4]; exact heap_setCell_at hp3 0 v3
  have h4o : ∀ k, k ≠ p → w4.heap[k]? = w3.heap[k]? := fun k hk => by rw [hw4]; exact heap_setCell_ne 0 v3 hk
  have hz4 : w4.heap.size = w3.heap.size := by rw [hw4]; simp
  have hnp : v3.ownBlock ≠ some p := fun hh => by
    rcases hloc p hh with h1 | h1
    · exact hpf h1
    · omega
  have hcells : fCells (L ++ [⟨fr, to', v, d⟩]) = fCells L ++ [.int .i64 fr, .int .i64 to', v] := by rw [fCells_append]; rfl
  have hdat : ∀ x dd, FB w O p vf x dd → FB w4 (fun k => O k ∨ (w.heap.size ≤ k ∧ k < w4.heap.size)) p v3 x dd := fun x dd hx =>
    hx.keep (fun k hk hkp hkf => (h4o k hkp).trans (hblk k (h.lt k hk) hkf)) (fun k hk => .inl hk) (fun k hk hkf hh => by
      rcases hloc k hh with h1 | h1
      · exact hkf h1
      · have := h.lt k hk; omega)
  refine ⟨⟨h4p, ?_, fun e he => ?_, by rw [List.length_append]; show L.length + 1 ≤ 4096; omega, .inl h.oP, fun k hk => ?_, fun k hk => ?_⟩, ⟨by omega, fun k hk hn => ?_, henv.trans henv4⟩⟩
  · rw [hcells, List.length_append]
    show w4.ownsRow 0 60 3 v3 (L.length + 1) _
    obtain ⟨r1, r2 | ⟨g, cap, cur, e1, hb, hc, rr⟩⟩ := hrow
    · exact ⟨r1, .inl r2⟩
    · refine ⟨r1, .inr ⟨g, cap, cur, e1, hb, (h4o g (fun e => hnp (by rw [e1, e]; rfl))).trans hc, rr⟩⟩
  · rcases List.mem_append.1 he with he | he
    · exact hdat _ _ (h.dat e he)
    · simp at he; subst he
      exact hdat _ _ hv
  · rcases hloc k hk with h1 | h1
    · exact .inl (h.oF k h1)
    · refine .inr ⟨by omega, ?_⟩
      rcases hrow.2 with ⟨e1, _⟩ | ⟨g, cap, cur, e1, _, hc, _⟩
      · rw [e1] at hk; simp [Value.ownBlock] at hk
      · rw [e1] at hk; simp [Value.ownBlock] at hk; subst hk
        rw [hz4]; exact (Array.getElem?_eq_some_iff.1 hc).1
  · rcases hk with hk | hk
    · have := h.lt k hk; omega
    · exact hk.2
  · exact (h4o k (fun e => hn (e ▸ h.oP))).trans (hblk k hk (fun hh => hn (h.oF k hh)))
end Go.Proofs.YtahpfhnekmilmaaGreatDoor
/- A net: add. -/
namespace Go.Proofs.YtahpfhnekmilmaaGreatDoor
open Go.RowKit Go.Lib Go.Maps

/-- append to a row of one's own, as one step of a region that draws. -/
theorem step_append_own_at {P : Program} {ops : Array Oper} {o : Oper} {a : Act} {w : World} {K : Act → World → Prop} {Q : Exit → Act → World → Prop} {E : Prop}
    (hgd : o.guard = none) (s x : Operand) (t : TypeId) (ho : o.op = .call { callee := .builtin .append, args := #[s, x], argTypes := #[t, t] })
    (base : Nat) (e : TypeId) (i : TypeInfo) (z : Value) (size bytes : Nat) (ht : P.underlying t = some (.slice e)) (hi : P.info? e = some i) (hz : i.zero = some z)
    (hsize : i.size = size) (hby : i.bytes = bytes) (hzs : z.cells.size = size) (hsz : 0 < size)
    (v : Value) (n : Nat) (xs : List Value) (hs : a.eval s = v) (hown : w.ownsRow base e size v n xs)
    (ad : Addr) (m c : Nat) (news : List Value) (hx : a.eval x = .slice (some ad) m c) (hl : news.length = m * size) (hnews : ∀ j u, news[j]? = some u → w.cell? (ad.add j) = some u) (h1 : ∀ u ∈ news, u.oneCell' = true)
    (h63 : n + m ≤ maxLen) (hbytes : (n + m) * bytes ≤ 140737488355328) (hbase : base ≤ w.heap.size)
    (h : ∀ v' w', w'.ownsRow base e size v' (n + m) (xs ++ news) → w.grownBy w' v.ownBlock → (v'.ownBlock = v.ownBlock ∨ v'.ownBlock = some w.heap.size) → K (a.put o.dst v') w') :
    if Region.wanted o (yielded ops a.tmps) = true then Oper.wp P o a w K Q else E := by
  have hw : Region.wanted o (yielded ops a.tmps) = true := by simp [Region.wanted, hgd]
  rw [if_pos hw]
  obtain ⟨v', w', hrun, h2, h3, _, h5⟩ := run_append_own_at (P := P) w base t o.type e i z size bytes ht hi hz hsize hby hzs hsz v n xs hown ad m c news hl hnews h1 h63 hbytes hbase
  unfold Oper.wp
  simp [execOp, ho, resolve, invoke, builtin, hs, hx, hrun, Result.andThen]
  exact h v' w' h2 h3 h5
theorem Tryz.infoFl : (Tryz.prog.info? 60).map (fun i => (i.zero, i.size, i.bytes)) = some (some (.agg #[.int .i64 0, .int .i64 0, .slice none 0 0]), 3, 40) := by kernel_rfl

set_option maxHeartbeats 3200000 in
set_option maxRecDepth 100000 in
theorem nadd_full {w : World} {p : Nat} {vf : Value} {L : List Fl} {O : Nat → Prop} (fr to' : Int) (a : Option Addr) (n k : Nat) (h : NX w p vf L O) (hf : L.length = 4096) :
    Calls Tryz.prog 17 #[.pointer (some ⟨p, 0, none⟩), .agg #[.int .i64 fr, .int .i64 to', .slice a n k]] w fun e w' => e = .returned (.iface 35 (.int .i64 31)) ∧ Below w.heap.size w w' := by
  obtain ⟨fa, fc, rfl, _, _⟩ := h.files
  have c0 := h.cell
  have hpl := h.lt p h.oP
  have hn1 : ¬ p = w.heap.size := by omega
  have hn2 : ¬ w.heap.size = p := by omega
  rw [hf] at c0
  clear h
  go_enter Tryz.func17, Tryz.ntmps17
  go_wp2
  go_ret
  exact ⟨rfl, (Below.refl _ _).alloc (Nat.le_refl _) _⟩

set_option maxHeartbeats 6400000 in
set_option maxRecDepth 100000 in
theorem nadd_any {w : World} {p : Nat} {vf : Value} {L : List Fl} {O : Nat → Prop} (fr to' : Int) (v : Value) (d : List UInt8) (h : NX w p vf L O) (hv : FB w O p vf v d) (hfew : L.length < 4096) :
    Calls Tryz.prog 17 #[.pointer (some ⟨p, 0, none⟩), .agg #[.int .i64 fr, .int .i64 to', v]] w fun e w' => ∃ vf' O', e = .returned .nilIface ∧ NX w' p vf' (L ++ [⟨fr, to', v, d⟩]) O' ∧ FrO O w w' ∧ ∀ k, O' k → O k ∨ w.heap.size ≤ k := by
  obtain ⟨va, vk, rfl⟩ := hv.slice
  obtain ⟨fa, fc, rfl, _, _⟩ := h.files
  obtain ⟨i0, hif, hz0, hz1, hz2⟩ := info_parts Tryz.infoFl
  have c0 := h.cell
  have hpl := h.lt p h.oP
  have hn1 : ¬ p = w.heap.size := by omega
  have hn2 : ¬ w.heap.size = p := by omega
  have hn3 : ¬ p = w.heap.size + 1 := by omega
  have hn4 : ¬ w.heap.size + 1 = p := by omega
  have hlt : ¬ (4096 : Int) ≤ (L.length : Int) := by omega
  obtain ⟨W, hW⟩ : ∃ W, ((w.alloc (.cells #[.int .i64 fr, .int .i64 to', .slice va d.length vk] 60)).alloc (.cells #[.int .i64 fr, .int .i64 to', .slice va d.length vk] 60)).drew = W := ⟨_, rfl⟩
  have hWb : ∀ k, k < w.heap.size → W.heap[k]? = w.heap[k]? := fun k hk => by
    rw [← hW]
    exact (Below.heap_alloc _ _ k (by simp; omega)).trans (Below.heap_alloc _ _ k hk)
  have hWz : W.heap.size = w.heap.size + 2 := by rw [← hW]; simp
  have hWn : W.heap[w.heap.size + 1]? = some (.cells #[.int .i64 fr, .int .i64 to', .slice va d.length vk] 60 (0, 0)) := by
    rw [← hW]
    have := (MapKept.heap_alloc (w.alloc (.cells #[.int .i64 fr, .int .i64 to', .slice va d.length vk] 60)) (.cells #[.int .i64 fr, .int .i64 to', .slice va d.length vk] 60)).1
    rw [World.size_alloc] at this
    exact this
  have HROW : Hid (W.ownsRow 0 60 3 (.slice fa L.length fc) L.length (fCells L)) := by
    obtain ⟨r1, r2 | ⟨g, cap, cur, e1, hb, hc, rr⟩⟩ := h.row
    · exact ⟨r1, .inl r2⟩
    · exact ⟨r1, .inr ⟨g, cap, cur, e1, hb, (hWb g (Array.getElem?_eq_some_iff.1 hc).1).trans hc, rr⟩⟩
  have HN : Hid (∀ j u, ([.int .i64 fr, .int .i64 to', .slice va d.length vk] : List Value)[j]? = some u → W.cell? ((⟨w.heap.size + 1, 0, none⟩ : Addr).add j) = some u) := by
    intro j u hj
    rw [Go.WideShapes.add_plain, Nat.zero_add, (cellB hWn j).1, ← hj, ← Array.getElem?_toList]
  have HA : Hid (∀ v3 w3, w3.ownsRow 0 60 3 v3 (L.length + 1) (fCells L ++ [.int .i64 fr, .int .i64 to', .slice va d.length vk]) → W.grownBy w3 (Value.slice fa L.length fc).ownBlock → (v3.ownBlock = (Value.slice fa L.length fc).ownBlock ∨ v3.ownBlock = some W.heap.size) →
      ∃ a3 k3, v3 = .slice a3 (L.length + 1) k3 ∧ w3.cell? ⟨p, 0, none⟩ = some (.slice fa L.length fc) ∧ w3.frozen? ⟨p, 0, none⟩ = false ∧ Hid (∀ w4 : World, w4.heap = (w3.setCell ⟨p, 0, none⟩ (.slice a3 (L.length + 1) k3)).heap → Env w3 w4 → NX w4 p (.slice a3 (L.length + 1) k3) (L ++ [⟨fr, to', .slice va d.length vk, d⟩]) (fun k => O k ∨ (w.heap.size ≤ k ∧ k < w4.heap.size)) ∧ FrO O w w4)) := by
    intro v3 w3 hrow hg hloc
    obtain ⟨a3, k3, rfl⟩ : ∃ a3 k3, v3 = .slice a3 (L.length + 1) k3 := by
      rcases hrow.2 with ⟨_, e2⟩ | ⟨g, cap, cur, e1, _⟩
      · omega
      · exact ⟨_, _, e1⟩
    have hpf : (Value.slice fa L.length fc).ownBlock ≠ some p := fun hh => by
      rcases h.row.2 with ⟨e1, _⟩ | ⟨g, cap, cur, e1, _, hc, _⟩
      · rw [e1] at hh; simp [Value.ownBlock] at hh
      · rw [e1] at hh; simp [Value.ownBlock] at hh; subst hh
        have := h.blk
        rw [hc] at this; injection this with this; injection this with _ h6; exact absurd h6 (by decide)
    have hb3 : ∀ k, k < w.heap.size → (Value.slice fa L.length fc).ownBlock ≠ some k → w3.heap[k]? = w.heap[k]? := fun k hk hne => (hg.block k (by omega) (fun e => hne e.symm)).trans (hWb k hk)
    have hp3 := (hb3 p hpl hpf).trans h.blk
    refine ⟨a3, k3, rfl, by rw [(cellB hp3 0).1]; rfl, (cellB hp3 0).2, fun w4 hw4 henv4 => ?_⟩
    refine nadd_mem h hv hfew hrow (by have := hg.size; omega) hb3 ?_ (fun k hk => ?_) hw4 henv4
    · have e1 := hg.os
      have e2 := hg.tape
      have e3 := hg.output
      rw [← hW] at e1 e2 e3
      exact ⟨e1, e2, e3⟩
    · rcases hloc with hl | hl
      · rw [hl] at hk; exact .inl hk
      · rw [hl] at hk; cases hk; exact .inr (by omega)
  have cW : W.cell? ⟨p, 0, none⟩ = some (.slice fa L.length fc) := (cell_same (hWb p hpl) 0).trans c0
  clear h hv hWb hWn hWz
  go_enter Tryz.func17, Tryz.ntmps17
  go_wp2
  go_region_law (first
    | (refine step_append_own_at rfl (.tmp 16) (.tmp 18) 52 rfl 0 60 i0 _ 3 40 Tryz.underlying52 hif hz0 hz1 hz2 rfl (by decide) (.slice fa L.length fc) L.length (fCells L) (by simp [Act.eval]) (unhide HROW) ⟨w.heap.size + 1, 0, none⟩ 1 1 [.int .i64 fr, .int .i64 to', .slice va d.length vk] (by simp [Act.eval]) rfl (unhide HN) (by intro u hu; simp at hu; rcases hu with rfl | rfl | rfl <;> rfl) (by unfold maxLen; omega) (by omega) (Nat.zero_le _) ?_; intro v3 w3 hrow3 hg3 hloc3; obtain ⟨a3, k3, rfl, c3, f3, FIN⟩ := unhide HA v3 w3 hrow3 hg3 hloc3; clear hrow3 hg3 hloc3))
  all_goals go_wp2
  all_goals go_ret
  all_goals
    obtain ⟨hx, hf⟩ := unhide FIN (w3.setCell ⟨p, 0, none⟩ (.slice a3 (L.length + 1) k3)) rfl ⟨rfl, rfl, rfl⟩
    exact ⟨_, _, rfl, hx, hf, fun k hk => hk.imp id (fun hh => hh.1)⟩
end Go.Proofs.YtahpfhnekmilmaaGreatDoor
