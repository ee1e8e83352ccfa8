/- The document's disk: named, Used, List, may, Halt. -/
import Derived.Test.YthebgoadeecmpaaDoorQDef
import Derived.Laws.CopyOwn
namespace Go.Proofs.YthebgoadeecmpaaDoor
open Go.RowKit Go.Lib Go.Maps Go.WideMaps

theorem RBq.slice {w : World} {Q : Nat → Prop} {r : Nat} {vf v : Value} {l : List UInt8} (h : RBq w Q r vf v l) : ∃ a k, v = .slice a l.length k := by
  rcases h with ⟨rfl, rfl⟩ | ⟨b, off, cap, _, _, _, _, _, rfl, _⟩
  · exact ⟨none, 0, rfl⟩
  · exact ⟨_, _, rfl⟩
theorem usedL_take {G : List Ent} {k : Nat} {e : Ent} (h : G[k]? = some e) : usedL (G.take (k + 1)) = usedL (G.take k) + e.data.length := by
  unfold usedL
  rw [List.take_add_one, h]
  simp
theorem usedL_few {G : List Ent} (h : ∀ e ∈ G, e.sure ≤ e.data.length ∧ e.data.length ≤ 1048576) : usedL G ≤ G.length * 1048576 := by
  unfold usedL
  induction G with
  | nil => simp
  | cons x r ih =>
    have h1 := (h x (by simp)).2
    have h2 := ih (fun e he => h e (by simp [he]))
    simp only [List.map_cons, List.sum_cons, List.length_cons]
    omega

set_option maxHeartbeats 3200000 in
set_option maxRecDepth 100000 in
theorem rused_any {w : World} {r : Nat} {R : RSt} {vf : Value} {G : List Ent} {Q : Nat → Prop} (h : RX w r R vf G Q) :
    Calls Tryd.prog 27 #[.pointer (some ⟨r, 0, none⟩)] w fun e w' => e = .returned (.int .i64 (usedL G : Int)) ∧ w' = w := by
  obtain ⟨a, cap, rfl, hcap, hfl⟩ := h.files
  have c0 := h.cells.1
  have hfew := h.few
  have HF := hide hfl
  have hG : (G.length : Int) ≤ 64 := by omega
  have HU : Hid (∀ k, k ≤ G.length → usedL (G.take k) ≤ 67108864) := fun k hk => by
    have := usedL_few (G := G.take k) (fun e he => h.len e (List.mem_of_mem_take he))
    rw [List.length_take] at this
    omega
  have HD : Hid (∀ e ∈ G, ∃ a k, e.v = .slice a e.data.length k) := fun e he => (h.dat e he).slice
  clear h hfl
  go_enter Tryd.func27, Tryd.ntmps27
  go_wp2
  go_loopw [3, 4] (fun s i wr => ∃ k : Nat, k ≤ G.length ∧ i = .int .i64 k ∧ s = .int .i64 (usedL (G.take k) : Int) ∧ wr = w) (fun _ i _ => G.length - (intOf i).toNat)
  case atStart => exact ⟨0, by omega, rfl, rfl, rfl⟩
  case round =>
    obtain ⟨k, hk, rfl, rfl, rfl⟩ := hrel
    by_cases hlt : k < G.length
    · obtain ⟨e, hek⟩ : ∃ e, G[k]? = some e := ⟨G[k], List.getElem?_eq_getElem hlt⟩
      obtain ⟨g, rfl, _, _, _, cv, _, _⟩ := unhide HF k e hek
      obtain ⟨ea, ek, hev⟩ := unhide HD e (List.mem_of_getElem? hek)
      rw [hev] at cv
      have hlt' : (k : Int) < (G.length : Int) := by omega
      have hu1 := unhide HU (k + 1) (by omega)
      have hut := usedL_take hek
      have HT : Hid (usedL (G.take (k + 1)) = usedL (G.take k) + e.data.length) := hut
      rw [hut] at hu1
      clear hut HF HD HU
      generalize usedL (G.take k) = u at *
      go_wp2
      go_roundw
      case rel => exact ⟨k + 1, by omega, by go_num, by rw [unhide HT]; push_cast; rfl, trivial⟩
      case measure => simp [intOf]; omega
    · have hlt' : ¬ (k : Int) < (G.length : Int) := by omega
      have hkG : k = G.length := by omega
      subst hkG
      rw [List.take_length]
      clear HF HD HU
      go_wp2
      go_ret
      exact ⟨rfl, rfl⟩

/-- May a changing call be done: what it leaves. -/
def mayR (R : RSt) : RSt × Bool := if R.halt = 0 then ({ R with off := true }, false) else ({ R with halt := if 0 < R.halt then R.halt - 1 else R.halt, count := R.count + 1 }, true)
theorem RX.set {w w' : World} {r : Nat} {R R' : RSt} {vf : Value} {G : List Ent} {Q : Nat → Prop} (h : RX w r R vf G Q) (hz : w'.heap.size = w.heap.size) (hO : ∀ k, k ≠ r → w'.heap[k]? = w.heap[k]?) (hb : w'.heap[r]? = some (.cells #[vf, .int .i64 R'.room, .bool R'.off, .int .i64 R'.halt, .int .i64 R'.count] 54 (0, 0))) : RX w' r R' vf G Q := by
  refine ⟨hb, ?_, fun e he => ?_, h.few, h.len, h.nam, h.oR, h.oF, fun k hk => by rw [hz]; exact h.lt k hk⟩
  · obtain ⟨h1, h2 | ⟨g, cap, cur, e1, hb', hc, r'⟩⟩ := h.row
    · exact ⟨h1, .inl h2⟩
    · refine ⟨h1, .inr ⟨g, cap, cur, e1, hb', (hO g ?_).trans hc, r'⟩⟩
      rintro rfl
      rw [h.blk] at hc
      injection hc with hc
      injection hc with _ h6
      exact absurd h6 (by decide)
  · rcases h.dat e he with h1 | ⟨b, off, cap, h1, h2, h3, h4, h5, h6, h7⟩
    · exact .inl h1
    · exact .inr ⟨b, off, cap, h1, h2, h3, h4, h5, h6, fun i hi => (cell_same (hO b h2) _).trans (h7 i hi)⟩
theorem rset_at {w : World} {r : Nat} {T : TypeId} {cur : Array Value} (h : w.heap[r]? = some (.cells cur T (0, 0))) (i : Nat) (v : Value) : (w.setCell ⟨r, i, none⟩ v).heap[r]? = some (.cells (cur.setIfInBounds i v) T (0, 0)) ∧ (w.setCell ⟨r, i, none⟩ v).heap.size = w.heap.size ∧ ∀ k, k ≠ r → (w.setCell ⟨r, i, none⟩ v).heap[k]? = w.heap[k]? :=
  ⟨heap_setCell_at h i v, by simp, fun k hk => heap_setCell_ne i v hk⟩

set_option maxHeartbeats 3200000 in
theorem may2_any {w : World} {r : Nat} {R : RSt} {vf : Value} {G : List Ent} {Q : Nat → Prop} (h : RX w r R vf G Q) (hh : -1 ≤ R.halt ∧ R.halt ≤ 9223372036854775807) (hc : 0 ≤ R.count ∧ R.count < 1000000000) :
    Calls Tryd.prog 40 #[.pointer (some ⟨r, 0, none⟩)] w fun e w' => e = .returned (.bool (mayR R).2) ∧ RX w' r (mayR R).1 vf G Q ∧ FrO Q w w' := by
  obtain ⟨c0, c1, c2, c3, c4⟩ := h.cells
  have f2 := (cellB h.blk 2).2
  have f3 := (cellB h.blk 3).2
  have f4 := (cellB h.blk 4).2
  have H := hide h
  clear h c0 c1
  unfold mayR
  by_cases h0 : R.halt = 0
  · rw [if_pos h0]
    rw [h0] at c3
    go_enter Tryd.func40, Tryd.ntmps40
    go_wp2
    go_ret
    have h := unhide H
    obtain ⟨s1, s2, s3⟩ := rset_at h.blk 2 (.bool true)
    exact ⟨rfl, h.set (R' := { R with off := true }) s2 s3 s1, (FrO.refl Q w).set h.oR 2 _⟩
  · rw [if_neg h0]
    by_cases hp : 0 < R.halt
    · rw [if_pos hp]
      have hne : ¬ (R.halt = 0) := h0
      go_enter Tryd.func40, Tryd.ntmps40
      go_wp2
      go_ret
      have h := unhide H
      obtain ⟨s1, s2, s3⟩ := rset_at h.blk 3 (.int .i64 (R.halt - 1))
      obtain ⟨t1, t2, t3⟩ := rset_at s1 4 (.int .i64 (R.count + 1))
      exact ⟨rfl, h.set (R' := { R with halt := R.halt - 1, count := R.count + 1 }) (t2.trans s2) (fun k hk => (t3 k hk).trans (s3 k hk)) t1, ((FrO.refl Q w).set h.oR 3 _).set h.oR 4 _⟩
    · rw [if_neg hp]
      go_enter Tryd.func40, Tryd.ntmps40
      go_wp2
      go_ret
      have h := unhide H
      obtain ⟨t1, t2, t3⟩ := rset_at h.blk 4 (.int .i64 (R.count + 1))
      exact ⟨rfl, h.set (R' := { R with halt := R.halt, count := R.count + 1 }) t2 t3 t1, (FrO.refl Q w).set h.oR 4 _⟩

theorem rhalt_any {w : World} {r : Nat} {R : RSt} {vf : Value} {G : List Ent} {Q : Nat → Prop} (n : Int) (h : RX w r R vf G Q) :
    Calls Tryd.prog 19 #[.pointer (some ⟨r, 0, none⟩), .int .i64 n] w fun e w' => e = .returned (.tuple #[]) ∧ RX w' r { R with halt := max n (-1) } vf G Q ∧ FrO Q w w' := by
  obtain ⟨c0, c1, c2, c3, c4⟩ := h.cells
  have f3 := (cellB h.blk 3).2
  have H := hide h
  clear h c0 c1
  go_enter Tryd.func19, Tryd.ntmps19
  go_wp2
  go_end0
  have h := unhide H
  obtain ⟨s1, s2, s3⟩ := rset_at h.blk 3 (.int .i64 (max n (-1)))
  exact ⟨rfl, h.set (R' := { R with halt := max n (-1) }) s2 s3 s1, (FrO.refl Q w).set h.oR 3 _⟩
end Go.Proofs.YthebgoadeecmpaaDoor
/- Copy of elements of several cells; the row of the document's files read and written. -/
namespace Go.Proofs.YthebgoadeecmpaaDoor
open Go.RowKit Go.Lib Go.Maps Go.WideMaps

theorem run_copy_sized {P : Program} (w : World) (dT sT ty elem : TypeId) (g o dLen dCap : Nat) (a : Addr) (sLen sCap : Nat) (cur : Array Value) (t : TypeId) (cs : List Value) (sz : Nat)
    (hu : P.underlying dT = some (.slice elem)) (hs : (P.info? elem).map (·.size) = some sz)
    (hg : w.heap[g]? = some (.cells cur t (0, 0))) (hn : cs.length = Nat.min sLen dLen * sz)
    (hsrc : ∀ j v, cs[j]? = some v → w.cell? (a.add j) = some v) (hfit : o + cs.length ≤ cur.size) (h1 : ∀ v ∈ cs, v.oneCell' = true) :
    (Builtin.copy_ #[dT, sT] ty #[.slice (some ⟨g, o, none⟩) dLen dCap, .slice (some a) sLen sCap]).run P w =
      .ok (goInt (Nat.min sLen dLen)) (w.setRow g (cur.toList.take o ++ cs ++ cur.toList.drop (o + cs.length)).toArray) := by
  have hl := run_loadCells_list (P := P) w a cs hsrc
  have hst := run_storeCells_at P g o t cs 0 cur w hg (by simpa using hfit) h1
  cases hq : P.info? elem with
  | none => simp [hq] at hs
  | some i =>
    have hi : i.size = sz := by simpa [hq] using hs
    simp [Builtin.copy_, run_underlying hu, Builtin.lenOf, Builtin.firstCells, sizeOf, typeInfo, hq, hi, ← hn, hl, hst]

theorem wpList_copy_sized {P : Program} {w : World} {ops : Array Oper} {rest : List Oper} {o : Oper} {a : Act} {Q : Exit → Act → World → Prop} (hgd : o.guard = none) (d s : Operand) (dT sT : TypeId)
    (ho : o.op = .call { callee := .builtin .copy, args := #[d, s], argTypes := #[dT, sT] }) (elem : TypeId) (sz : Nat) (hu : P.underlying dT = some (.slice elem)) (hsz : (P.info? elem).map (·.size) = some sz)
    (g off dLen dCap : Nat) (ad : Addr) (sLen sCap : Nat) (hd : a.eval d = .slice (some ⟨g, off, none⟩) dLen dCap) (hs : a.eval s = .slice (some ad) sLen sCap)
    (cur : Array Value) (t : TypeId) (hg : w.heap[g]? = some (.cells cur t (0, 0))) (cs : List Value) (m : Nat) (hm : Nat.min sLen dLen = m) (hn : cs.length = m * sz)
    (hsrc : ∀ j v, cs[j]? = some v → w.cell? (ad.add j) = some v) (hfit : off + cs.length ≤ cur.size) (h1 : ∀ v ∈ cs, v.oneCell' = true)
    (h : wpList P ops Q rest (a.put o.dst (goInt m)) (w.setRow g (cur.toList.take off ++ (cs ++ cur.toList.drop (off + cs.length))).toArray)) : wpList P ops Q (o :: rest) a w := by
  refine wpList_plain hgd fun K hK => ?_
  have hrun := run_copy_sized (P := P) w dT sT o.type elem g off dLen dCap ad sLen sCap cur t cs sz hu hsz hg (by rw [hm]; exact hn) hsrc hfit h1
  rw [hm] at hrun
  unfold Oper.wp
  simp [execOp, ho, resolve, invoke, builtin, hd, hs, hrun, Result.andThen]
  exact hK _ _ h
end Go.Proofs.YthebgoadeecmpaaDoor
/- The document's disk: add. -/
namespace Go.Proofs.YthebgoadeecmpaaDoor
open Go.RowKit Go.Lib Go.Maps Go.WideMaps

theorem less_before : ∀ a b : List UInt8, Op.bytesLess a b = bytesBefore a b
  | [], [] => rfl
  | [], _ :: _ => rfl
  | _ :: _, [] => rfl
  | a :: x, b :: y => by
    show (decide (a < b) || (a == b && Op.bytesLess x y)) = (decide (a < b) || (a == b && bytesBefore x y))
    rw [less_before x y]
/-- How many names are less. -/
def lessN (n : List UInt8) (G : List Ent) : Nat := (G.takeWhile fun e => bytesBefore e.name n).length
theorem lessN_le (n : List UInt8) (G : List Ent) : lessN n G ≤ G.length := by
  unfold lessN
  exact (List.takeWhile_sublist _).length_le
theorem lessN_at {n : List UInt8} : ∀ {G : List Ent} {k : Nat}, (∀ e ∈ G.take k, bytesBefore e.name n = true) → k ≤ G.length → (∀ e, G[k]? = some e → bytesBefore e.name n = false) → lessN n G = k
  | [], k, _, hk, _ => by simp at hk; subst hk; rfl
  | x :: r, 0, _, _, h2 => by
    have := h2 x rfl
    unfold lessN
    rw [List.takeWhile_cons, this]
    rfl
  | x :: r, k + 1, h1, hk, h2 => by
    have hx := h1 x (by simp)
    have := lessN_at (n := n) (G := r) (k := k) (fun e he => h1 e (by simp [he])) (by simpa using hk) (fun e he => h2 e (by simpa using he))
    unfold lessN at this ⊢
    rw [List.takeWhile_cons, hx]
    simp [this]
theorem Tryd.infoF : (Tryd.prog.info? 61).map (fun i => (i.zero, i.size, i.bytes)) = some (some (.agg #[.string ⟨#[]⟩, .slice none 0 0, .int .i64 0]), 3, 48) := by kernel_rfl
end Go.Proofs.YthebgoadeecmpaaDoor
