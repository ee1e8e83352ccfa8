/- TreePlays' own helpers: rows of entries, bytes written over. -/
import Derived.Test.YtlmjmhpdpgeplaaGreatDoorTCat
import Derived.Test.YtlmjmhpdpgeplaaGreatDoorTVar
import Derived.Test.YtlmjmhpdpgeplaaGreatDoorTTr
import Derived.Test.YtlmjmhpdpgeplaaGreatDoorTGet
import Derived.Test.YtlmjmhpdpgeplaaGreatDoorTDump
import Derived.Test.YtlmjmhpdpgeplaaGreatDoorJSumKnownRef1
import Derived.Deep.RegionHeld3
import Derived.Test.YtlmjmhpdpgeplaaGreatDoorJTAsCTOneTLoadsTFewTLaidTLaid4TPlayIn
namespace Go.Proofs.YtlmjmhpdpgeplaaGreatDoor
open Go.RowKit Go.Lib

theorem Tryz.info_entry : (Tryz.prog.info? 38).map (fun i => (i.zero, i.size, i.bytes)) = some (some (.agg #[.string ⟨#[]⟩, .string ⟨#[]⟩]), 2, 32) := by kernel_rfl
theorem wpList_append_entry {w : World} {ops : Array Oper} {rest : List Oper} {o : Oper} {a : Act} {Q : Exit → Act → World → Prop} (hgd : o.guard = none) (s x : Operand)
    (ho : o.op = .call { callee := .builtin .append, args := #[s, x], argTypes := #[27, 27] })
    (base : Nat) (v : Value) (l l2 : List (Value × Value)) (xv : Value) (hs : a.eval s = v) (hown : w.ownsRow base 38 2 v l.length (c2 l)) (hx : a.eval x = xv) (hR : R2 w xv l2) (hn : l.length ≤ 1000000) (hn2 : l2.length ≤ 1000000) (hbase : base ≤ w.heap.size)
    (h : ∀ v' w', w'.ownsRow base 38 2 v' (l ++ l2).length (c2 (l ++ l2)) → Below base w w' → wpList Tryz.prog ops Q rest (a.put o.dst v') w') : wpList Tryz.prog ops Q (o :: rest) a w := by
  obtain ⟨i0, hi, hz0, hz1, hz2⟩ := info_parts Tryz.info_entry
  obtain ⟨h1, ⟨rfl, rfl⟩ | ⟨b, off, k, rfl, h2, h3, h4, h5⟩⟩ := hR
  · refine wpList_append_own_none hgd s x 27 ho base 38 i0 2 Tryz.underlying27 hi v l.length (c2 l) hs hown hx ?_
    exact h v w (by rw [List.append_nil]; exact hown) (Below.refl _ _)
  · refine wpList_append_own_at w hgd s x 27 ho base 38 i0 _ 2 32 Tryz.underlying27 hi hz0 hz1 hz2 rfl (by decide) v l.length (c2 l) hs hown ⟨b, off, none⟩ l2.length k (c2 l2) hx (c2_len l2) (fun j u hj => ?_) h1.cells (by unfold maxLen; omega) (by omega) hbase ?_
    · obtain ⟨y, q1, q2, q3⟩ := c2_at l2 j u hj
      rw [Go.WideShapes.add_plain]
      rcases Nat.mod_two_eq_zero_or_one j with e | e
      · rw [q2 e, show off + j = off + j / 2 * 2 by omega]; exact (h5 _ y q1).1
      · rw [q3 e, show off + j = off + j / 2 * 2 + 1 by omega]; exact (h5 _ y q1).2
    · intro v' w' ho' hg _ _
      refine h v' w' (by rw [c2_app, List.length_append]; exact ho') ?_
      exact (Below.refl _ _).grown hg hbase (own_blk hown)
/-- The second cell of an element written. -/
theorem R2.set {w : World} {g off k i : Nat} {l : List (Value × Value)} {x : Value × Value} {y : Value} (h : R2 w (.slice (some ⟨g, off, none⟩) l.length k) l) (hx : l[i]? = some x) (hy : y.oneCell' = true) : R2 (w.setCell ⟨g, off + i * 2 + 1, none⟩ y) (.slice (some ⟨g, off, none⟩) l.length k) (l.set i (x.1, y)) := by
  have hil := (List.getElem?_eq_some_iff.1 hx).1
  have hxm : x ∈ l := List.mem_of_getElem? hx
  obtain ⟨h1, ⟨h2, _⟩ | ⟨b, off', k', h2, h3, h4, h5, h6⟩⟩ := h
  · cases h2
  · cases h2
    refine ⟨fun z hz => ?_, .inr ⟨g, off, k, by rw [List.length_set], by simpa using h3, by rw [List.length_set]; exact h4, h5, fun j z hz => ?_⟩⟩
    · rcases List.mem_or_eq_of_mem_set hz with h' | rfl
      · exact h1 z h'
      · exact ⟨(h1 x hxm).1, hy⟩
    · by_cases hj : j = i
      · subst hj
        rw [List.getElem?_set_self hil] at hz
        cases hz
        refine ⟨?_, ?_⟩
        · rw [World.cell?_setCell_other _ _ _ _ (by intro e; injection e; omega)]
          exact (h6 j x hx).1
        · exact World.cell?_setCell_same _ _ _ (h6 j x hx).2
      · rw [List.getElem?_set_ne (by omega)] at hz
        refine ⟨?_, ?_⟩
        · rw [World.cell?_setCell_other _ _ _ _ (by intro e; injection e; omega)]
          exact (h6 j z hz).1
        · rw [World.cell?_setCell_other _ _ _ _ (by intro e; injection e; omega)]
          exact (h6 j z hz).2
/-- What Spoil leaves: no block but the slice's own turns. -/
def SpoP (w : World) (v : Value) (w' : World) : Prop := w'.os = w.os ∧ w'.tape = w.tape ∧ w'.output = w.output ∧ w'.heap.size = w.heap.size ∧ ∀ g, v.ownBlock ≠ some g → w'.heap[g]? = w.heap[g]?
section
variable {w : World} {v : Value} {B n : Nat} {xs : List Value}
set_option maxHeartbeats 3200000 in
set_option maxRecDepth 100000 in
theorem spoil_any (h : w.ownsRow B 5 1 v n xs) (hn : n ≤ 1000000) : Calls Tryz.prog 11 #[v] w fun e w' => e = .returned (.tuple #[]) ∧ SpoP w v w' := by
  have hn' : (n : Int) ≤ 1000000 := by omega
  obtain ⟨hlen, ⟨rfl, rfl⟩ | ⟨g, k, cur, rfl, hB, hc, q⟩⟩ := h
  · go_enter Tryz.func11, Tryz.ntmps11
    go_wp2_with fail
    refine wp_loop_rounds 1 ?_
    rw [rounds_succ]
    go_wp2_with fail
    go_end0
    exact ⟨rfl, rfl, rfl, rfl, rfl, fun _ _ => rfl⟩
  · have hsz : n ≤ cur.size := by have q1 := q.1; have q3 := q.2.2.1; omega
    go_enter Tryz.func11, Tryz.ntmps11
    go_wp2_with fail
    go_loopw [2] (fun s2 wr => ∃ i : Nat, s2 = .int .i64 (i : Int) ∧ i ≤ n ∧ Hid (SpoP w (.slice (some ⟨g, 0, none⟩) n k) wr ∧ ∃ C : Array Value, C.size = cur.size ∧ wr.heap[g]? = some (.cells C 5 (0, 0)))) (fun s2 _ => n - (RowKit.intOf s2).toNat)
    case atStart => exact ⟨0, rfl, Nat.zero_le _, ⟨rfl, rfl, rfl, rfl, fun _ _ => rfl⟩, cur, rfl, hc⟩
    case round =>
      obtain ⟨i, rfl, hil, HD⟩ := hrel
      by_cases hlt : i < n
      · have hlti : (i : Int) < (n : Int) := by omega
        have hi0 : (0 : Int) ≤ (i : Int) := by omega
        have hwi : IntKind.i64.wrap ((i : Int) + 1) = (i : Int) + 1 := by rw [IntKind.wrap_i64] <;> omega
        obtain ⟨hS, C, hC, hg⟩ := unhide HD
        have hcell : wr.cell? ⟨g, i, none⟩ = some C[i] := (cellB2 hg i).trans (Array.getElem?_eq_getElem (by omega))
        have hfrz := frzB2 hg i
        have HG := hide (And.intro hS (And.intro hC hg))
        generalize C[i] = u at hcell
        clear hS hC hg HD hc
        go_wp2_with fail
        go_roundw
        case rel =>
          obtain ⟨⟨s1, s2, s3, s4, s5⟩, hC, hg⟩ := unhide HG
          refine ⟨i + 1, by simp, by omega, ⟨s1, s2, s3, by simpa using s4, fun g' hg' => (Below.heap_setCell wr ⟨g, i, none⟩ _ g' (fun e => hg' (by rw [e]; rfl))).trans (s5 g' hg')⟩, _, by rw [Array.size_setIfInBounds]; exact hC, heap_set_at hg _ _⟩
        case measure => simp [RowKit.intOf]; omega
      · have hlti : ¬ ((i : Int) < (n : Int)) := by omega
        go_wp2_with fail
        go_end0
        exact ⟨rfl, (unhide HD).1⟩
end
end Go.Proofs.YtlmjmhpdpgeplaaGreatDoor
/- What stands at TreePlays' loop: the tree, its cursor, its clone, the statement's two rows, apart from each other. -/
namespace Go.Proofs.YtlmjmhpdpgeplaaGreatDoor
open Go.RowKit Go.Lib

/-- Clone, in the tree's own words. -/
theorem TT.clone {w : World} {p : Nat} {N : Nat → Prop} {F : List It} (ht : TT w p N F) : Calls Tryz.prog 8 #[.pointer (some ⟨p, 0, none⟩)] w fun e w' => ∃ q : Nat, e = .returned (.pointer (some ⟨q, 0, none⟩)) ∧ q = w.heap.size ∧ TT w' q (fun g => N g ∨ g = p) F ∧ Below w.heap.size w w' ∧ w'.heap.size = w.heap.size + 1 := by
  have hp := ht.lt
  obtain ⟨h1, h2, O, h3, h4⟩ := ht
  have hop : ¬ O p := by
    obtain ⟨d, t, a, b, n, k, n', k', q1, q2, q3, q4, q5, q6⟩ := h3
    exact q6
  refine (Clone_any h3.lt (fun g hg => hg.2)).mono ?_
  rintro e w' ⟨q, rfl, hq, z1, z2, z3⟩
  refine ⟨q, rfl, hq, ⟨?_, ?_, _, z1, ?_⟩, z2, z3⟩
  · rintro (h | h)
    · have := h2 q h; omega
    · omega
  · rintro g (h | rfl)
    · have := h2 g h; omega
    · omega
  · rintro g (h | rfl) ho
    · exact h4 g h ho.1
    · exact hop ho.1
/-- The loop's facts. X: blocks of the round's own. -/
structure PQ (w wr : World) (p q cl : Nat) (X : Nat → Prop) (vm vo : Value) (F M G : List It) (fr : ByteArray) : Prop where
  bel : Below w.heap.size w wr
  low : w.heap.size ≤ p ∧ w.heap.size ≤ q ∧ w.heap.size ≤ cl
  tree : TT wr p (fun g => g = q ∨ X g) F
  clone : TT wr cl (fun g => g = p ∨ g = q ∨ X g) G
  m : R2 wr vm (M.map itV)
  o : R2 wr vo (G.map itV)
  mo : ∀ g, inB2 vm g ∨ inB2 vo g → g ≠ p ∧ g ≠ q ∧ ¬ X g
  cur : CV wr q p fr
  xq : ¬ X q
section
variable {w wr W : World} {p q cl : Nat} {X X' : Nat → Prop} {vm vo : Value} {F F' M M' G : List It} {fr fr' : ByteArray}
theorem PQ.more (h : PQ w wr p q cl X vm vo F M G fr) (hb : Below wr.heap.size wr W) (hX : ∀ g, X' g → X g ∨ (wr.heap.size ≤ g ∧ g < W.heap.size)) : PQ w W p q cl X' vm vo F M G fr := by
  have hq := blk_lt h.cur
  refine ⟨below_tr h.bel hb, h.low, h.tree.more hb ?_, h.clone.more hb ?_, h.m.below hb, h.o.below hb, fun g hg => ?_, h.cur.below hb, fun hx => ?_⟩
  · rintro g (h' | h')
    · exact .inl (.inl h')
    · exact (hX g h').imp .inr id
  · rintro g (h' | h' | h')
    · exact .inl (.inl h')
    · exact .inl (.inr (.inl h'))
    · exact (hX g h').imp (fun h => .inr (.inr h)) id
  · obtain ⟨u1, u2, u3⟩ := h.mo g hg
    have hl : g < wr.heap.size := hg.elim (h.m.lt g) (h.o.lt g)
    refine ⟨u1, u2, fun hx => (hX g hx).elim u3 (fun h => by omega)⟩
  · exact (hX q hx).elim h.xq (fun h => by omega)
theorem PQ.below (h : PQ w wr p q cl X vm vo F M G fr) (hb : Below wr.heap.size wr W) : PQ w W p q cl X vm vo F M G fr := h.more hb (fun _ h => .inl h)
theorem PQ.less (h : PQ w wr p q cl X vm vo F M G fr) (hX : ∀ g, X' g → X g) : PQ w wr p q cl X' vm vo F M G fr := h.more (Below.refl _ _) (fun g hg => .inl (hX g hg))
/-- The tree turned. -/
theorem PQ.turn (h : PQ w wr p q cl X vm vo F M G fr) (hf : FrP p wr W) (ht : TT W p (fun g => g = q ∨ X g) F') : PQ w W p q cl X vm vo F' M G fr := by
  have hpq : p ≠ q := fun e => h.tree.1 (.inl e)
  refine ⟨hf.below h.bel h.low.1 h.bel.size, h.low, ht, h.clone.other (.inl rfl) hf, h.m.keep hf.2.2.2.1 (fun g hg => hf.2.2.2.2 g (h.m.lt g hg) (h.mo g (.inl hg)).1), h.o.keep hf.2.2.2.1 (fun g hg => hf.2.2.2.2 g (h.o.lt g hg) (h.mo g (.inr hg)).1), h.mo, (hf.2.2.2.2 q (blk_lt h.cur) (Ne.symm hpq)).trans h.cur, h.xq⟩
/-- The cursor turned. -/
theorem PQ.next (h : PQ w wr p q cl X vm vo F M G fr) (hf : FrP q wr W) (hc : CV W q p fr') : PQ w W p q cl X vm vo F M G fr' :=
  ⟨hf.below h.bel h.low.2.1 h.bel.size, h.low, h.tree.other (.inl rfl) hf, h.clone.other (.inr (.inl rfl)) hf, h.m.keep hf.2.2.2.1 (fun g hg => hf.2.2.2.2 g (h.m.lt g hg) (h.mo g (.inl hg)).2.1), h.o.keep hf.2.2.2.1 (fun g hg => hf.2.2.2.2 g (h.o.lt g hg) (h.mo g (.inr hg)).2.1), h.mo, hc, h.xq⟩
/-- Another cursor. -/
theorem PQ.seek {q' : Nat} (h : PQ w wr p q cl X vm vo F M G fr) (hb : Below wr.heap.size wr W) (hq : q' = wr.heap.size) (hz : W.heap.size = wr.heap.size + 1) (hc : CV W q' p fr') : PQ w W p q' cl X vm vo F M G fr' := by
  have hp := h.tree.lt
  have hX : ∀ g, X g → g < wr.heap.size := fun g hg => h.tree.2.1 g (.inr hg)
  refine ⟨below_tr h.bel hb, ⟨h.low.1, by have := h.bel.size; omega, h.low.2.2⟩, h.tree.more hb ?_, h.clone.more hb ?_, h.m.below hb, h.o.below hb, fun g hg => ?_, hc, fun hx => by have := hX _ hx; omega⟩
  · rintro g (rfl | h')
    · exact .inr ⟨by omega, by omega⟩
    · exact .inl (.inr h')
  · rintro g (h' | rfl | h')
    · exact .inl (.inl h')
    · exact .inr ⟨by omega, by omega⟩
    · exact .inl (.inr (.inr h'))
  · obtain ⟨u1, u2, u3⟩ := h.mo g hg
    have hl : g < wr.heap.size := hg.elim (h.m.lt g) (h.o.lt g)
    exact ⟨u1, by omega, u3⟩
/-- Another clone, of now. -/
theorem PQ.clones {c' : Nat} (h : PQ w wr p q cl X vm vo F F G fr) (hb : Below wr.heap.size wr W) (hc : c' = wr.heap.size) (ht : TT W c' (fun g => (g = q ∨ X g) ∨ g = p) F) : PQ w W p q c' X vm vm F F F fr := by
  have h' := h.below hb
  refine ⟨h'.bel, ⟨h.low.1, h.low.2.1, by have := h.bel.size; omega⟩, h'.tree, ?_, h'.m, h'.m, fun g hg => h.mo g (.inl (hg.elim id id)), h'.cur, h.xq⟩
  obtain ⟨k1, k2, O, k3, k4⟩ := ht
  refine ⟨?_, ?_, O, k3, ?_⟩
  · rintro (e | e | e)
    · exact k1 (.inr e)
    · exact k1 (.inl (.inl e))
    · exact k1 (.inl (.inr e))
  · rintro g (e | e | e)
    · exact k2 g (.inr e)
    · exact k2 g (.inl (.inl e))
    · exact k2 g (.inl (.inr e))
  · rintro g (e | e | e)
    · exact k4 g (.inr e)
    · exact k4 g (.inl (.inl e))
    · exact k4 g (.inl (.inr e))
/-- Bytes of the round's own written over. -/
theorem PQ.spoil {v : Value} (h : PQ w wr p q cl X vm vo F M G fr) (hs : SpoP wr v W) (hv : ∀ g, v.ownBlock = some g → X g ∧ w.heap.size ≤ g) : PQ w W p q cl X vm vo F M G fr := by
  obtain ⟨s1, s2, s3, s4, s5⟩ := hs
  have hk : ∀ g, ¬ X g → W.heap[g]? = wr.heap[g]? := fun g hg => s5 g (fun e => hg (hv g e).1)
  refine ⟨h.bel.trans ⟨s1, s2, s3, by omega, fun g hg => s5 g (fun e => by have := (hv g e).2; omega)⟩, h.low, h.tree.keep (by omega) (fun g _ hN => hk g (fun e => hN (.inr e))), h.clone.keep (by omega) (fun g _ hN => hk g (fun e => hN (.inr (.inr e)))), h.m.keep (by omega) (fun g hg => hk g (h.mo g (.inl hg)).2.2), h.o.keep (by omega) (fun g hg => hk g (h.mo g (.inr hg)).2.2), h.mo, (hk q h.xq).trans h.cur, h.xq⟩
/-- Another row of the statement's. -/
theorem PQ.row {vm' : Value} (h : PQ w wr p q cl X vm vo F M G fr) (hb : Below wr.heap.size wr W) (hm : R2 W vm' (M'.map itV)) (hn : ∀ g, inB2 vm' g → wr.heap.size ≤ g) : PQ w W p q cl X vm' vo F M' G fr := by
  have h' := h.below hb
  have hX : ∀ g, X g → g < wr.heap.size := fun g hg => h.tree.2.1 g (.inr hg)
  refine ⟨h'.bel, h.low, h'.tree, h'.clone, hm, h'.o, fun g hg => ?_, h'.cur, h.xq⟩
  rcases hg with hg | hg
  · have := hn g hg
    have hp := h.tree.lt
    have hq := blk_lt h.cur
    exact ⟨by omega, by omega, fun hx => by have := hX g hx; omega⟩
  · exact h.mo g (.inr hg)
end
end Go.Proofs.YtlmjmhpdpgeplaaGreatDoor
/- TreePlays' own helpers: the dump of a row of entries; bytes written over. -/
namespace Go.Proofs.YtlmjmhpdpgeplaaGreatDoor
open Go.RowKit Go.Lib

/-- Bytes put behind bytes, as a step of a region that draws. -/
theorem step_b8 {ops : Array Oper} {o : Oper} {a : Act} {w : World} {K : Act → World → Prop} {Q : Exit → Act → World → Prop} {E : Prop} {d : Nat} (hgd : o.guard = none) (hd : o.dst = some d) (s x : Operand)
    (ho : o.op = .call { callee := .builtin .append, args := #[s, x], argTypes := #[30, 30] })
    {base n m g cap : Nat} {v : Value} {xs ys : List Value} (hs : a.eval s = v) (hown : w.ownsRow base 5 1 v n xs) (hx : a.eval x = .slice (some ⟨g, 0, none⟩) m cap) (hm : ys.length = m) (hc : ∀ j u, ys[j]? = some u → w.cell? ((⟨g, 0, none⟩ : Addr).add j) = some u) (h1 : ∀ u ∈ ys, u.oneCell' = true) (hn : n + m ≤ 1000000000) (hb : base ≤ w.heap.size)
    (h : ∀ v' w', w'.ownsRow base 5 1 v' (n + m) (xs ++ ys) → w.grownBy w' v.ownBlock → K (a.put (some d) v') w') : if Region.wanted o (yielded ops a.tmps) = true then Oper.wp Tryz.prog o a w K Q else E := by
  rw [← hd] at h
  obtain ⟨i0, hi, hz0, hz1, hz2⟩ := info_parts Tryz.infoB
  have hw : Region.wanted o (yielded ops a.tmps) = true := by simp [Region.wanted, hgd]
  rw [if_pos hw]
  obtain ⟨v', w', hrun, q2, q3, _, q5⟩ := run_append_own_at (P := Tryz.prog) w base 30 o.type 5 i0 _ 1 1 Tryz.underlying30 hi hz0 hz1 hz2 rfl (by decide) v n xs hown ⟨g, 0, none⟩ m cap ys (by rw [hm]; omega) hc h1 (by unfold maxLen; omega) (by omega) hb
  unfold Oper.wp
  simp [execOp, ho, resolve, invoke, builtin, hs, hx, hrun, Result.andThen]
  exact h v' w' q2 q3
section
variable {w : World} {v : Value} {F : List It}
set_option maxHeartbeats 12800000 in
set_option maxRecDepth 100000 in
theorem mdump_any (hv : R2 w v (F.map itV)) (hsm : Sml F) (hn : F.length ≤ 1000000) (hl : (dumpL F).length ≤ 900000000) : Calls Tryz.prog 18 #[v] w fun e w' => ∃ v', e = .returned v' ∧ w'.ownsRow w.heap.size 5 1 v' (dumpF F).length (Lib.byteCells (dumpF F)) ∧ Below w.heap.size w w' := by
  obtain ⟨a, c, rfl, _, _⟩ := id hv.slice
  rw [List.length_map] at *
  have HR : Hid (∀ (wr : World) (h : Nat), Below w.heap.size w wr → h < F.length → ∃ (x : It) (b off : Nat), F[h]? = some x ∧ a = some ⟨b, off, none⟩ ∧ ∀ W, Below w.heap.size w W → W.cell? ⟨b, off + h * 2, none⟩ = some (.string x.1) ∧ W.cell? ⟨b, off + h * 2 + 1, none⟩ = some (.string x.2)) := by
    intro wr h hb hl
    have hx : F[h]? = some F[h] := List.getElem?_eq_getElem hl
    have hm : (F.map itV)[h]? = some (itV F[h]) := by rw [List.getElem?_map, hx]; rfl
    obtain ⟨b, off, h1, _, h3, h4⟩ := (hv.below hb).at hm
    refine ⟨F[h], b, off, hx, h1, fun W hW => ?_⟩
    obtain ⟨b', off', h1', _, h3', h4'⟩ := (hv.below hW).at hm
    rw [h1] at h1'; cases h1'
    exact ⟨h3', h4'⟩
  obtain ⟨len, hlen⟩ : ∃ len, len = F.length := ⟨_, rfl⟩
  have HP := hide (refPutUint_any F.length w (by omega))
  rw [← hlen] at hn ⊢
  rw [← hlen] at HP
  have HS := hide (And.intro hlen (And.intro hsm hl))
  have hn' : (len : Int) ≤ 1000000 := by omega
  have hwu : IntKind.u64.wrap (len : Int) = (len : Int) := by rw [IntKind.wrap_u64] <;> omega
  have HT := hide (fun (s : ByteArray) (W : World) (hs : s.size ≤ 1000000) => refPutText_any s W (by omega))
  clear hv hsm hl hlen
  go_enter Tryz.func18, Tryz.ntmps18
  go_wp2_with (go_at_call 28; refine (unhide HP).mono ?_; rintro e w1 ⟨v1, rfl, ho1, hb1⟩; clear HP; have H1 := hide (And.intro ho1 hb1); clear ho1 hb1)
  go_loopw [3, 4] (fun s3 s4 wr => ∃ (i : Nat) (v3 : Value), v3 = s3 ∧ s4 = .int .i64 (i : Int) ∧ i ≤ len ∧ Hid (wr.ownsRow w.heap.size 5 1 v3 (uvarint len ++ dumpL (F.take i)).length (Lib.byteCells (uvarint len ++ dumpL (F.take i))) ∧ Below w.heap.size w wr)) (fun _ s4 _ => len - (RowKit.intOf s4).toNat)
  case atStart =>
    refine ⟨0, v1, rfl, rfl, Nat.zero_le _, ?_⟩
    rw [List.take_zero, show dumpL [] = [] from rfl, List.append_nil]
    exact unhide H1
  case round =>
    clear H1
    obtain ⟨i, v3, rfl, rfl, hil, HD⟩ := hrel
    by_cases hlt : i < len
    · have hlti : (i : Int) < (len : Int) := by omega
      have hi0 : (0 : Int) ≤ (i : Int) := by omega
      have hwi : IntKind.i64.wrap ((i : Int) + 1) = (i : Int) + 1 := by rw [IntKind.wrap_i64] <;> omega
      obtain ⟨x, b, off, hx, rfl, hc⟩ := unhide HR wr i (unhide HD).2 (by rw [← (unhide HS).1]; exact hlt)
      have HS1 : Hid (∀ W : World, Below w.heap.size w W → W.cell? ⟨b, off + i * 2, none⟩ = some (.string x.1) ∧ W.cell? ⟨b, off + i * 2 + 1, none⟩ = some (.string x.2)) := hc
      have hxm : x ∈ F := List.mem_of_getElem? hx
      have hxs := (unhide HS).2.1 x hxm
      have hdl : (dumpL (F.take i)).length + (txtB x.1).length + (txtB x.2).length ≤ 900000000 ∧ dumpL (F.take (i + 1)) = dumpL (F.take i) ++ (txtB x.1 ++ txtB x.2) := by
        have e1 : F.take (i + 1) = F.take i ++ [x] := by rw [List.take_add_one, hx]; rfl
        have e2 : dumpL (F.take (i + 1)) = dumpL (F.take i) ++ (txtB x.1 ++ txtB x.2) := by rw [e1, dumpL_app, dumpL_one]; rfl
        have e3 : F = F.take (i + 1) ++ F.drop (i + 1) := (List.take_append_drop _ _).symm
        have e4 : (dumpL F).length = (dumpL (F.take (i + 1))).length + (dumpL (F.drop (i + 1))).length := by rw [← List.length_append, ← dumpL_app, ← e3]
        have := (unhide HS).2.2
        rw [e2, List.length_append, List.length_append] at e4
        exact ⟨by omega, e2⟩
      have hul := (uv_len len (by omega)).2
      have HX := hide (And.intro hxs (And.intro hdl hul))
      have HD2 : Hid (wr.ownsRow w.heap.size 5 1 v3 (uvarint len ++ dumpL (F.take i)).length (Lib.byteCells (uvarint len ++ dumpL (F.take i))) ∧ Below w.heap.size w wr) := unhide HD
      obtain ⟨T, hT⟩ : ∃ T, T = uvarint len ++ dumpL (F.take i) := ⟨_, rfl⟩
      have hTl : T.length ≤ 900000100 ∧ T.length = (uvarint len).length + (dumpL (F.take i)).length := by rw [hT, List.length_append]; omega
      rw [← hT] at HD2
      have HTT := hide (And.intro hT hTl)
      clear hc hx hxm hxs hdl hul HD hT hTl
      go_upto_region 5 with fail
      refine wp_region_held_drew (S := fun w' => w'.cell? ⟨b, off + i * 2, none⟩ = some (.string x.1) ∧ w'.cell? ⟨b, off + i * 2 + 1, none⟩ = some (.string x.2)) (by kernel_rfl) (unhide HS1 _ (unhide HD2).2.drew) (fun hHeld => ?_)
      obtain ⟨WS, hWS⟩ : ∃ WS, WS = wr.drew := ⟨_, rfl⟩
      rw [← hWS] at hHeld ⊢
      have HB : Hid (Below w.heap.size w WS) := by rw [hWS]; exact (unhide HD2).2.drew
      have HT0 : Hid (WS.ownsRow w.heap.size 5 1 v3 T.length (Lib.byteCells T)) := by rw [hWS]; exact (unhide HD2).1
      clear hWS HD2
      refine hand_to (i := 0) (d := 15) (v := v3) rfl rfl (by kernel_rfl) (by kernel_rfl) (by kernel_rfl) (fun _ _ _ h => h) (Or.inl ⟨by rfl, ?_⟩) hHeld ?_
      · (intro w' hSw; obtain ⟨y0, y1⟩ := hSw; go_simp)
      simp only [Act.put, List.setIfInBounds_toArray, List.set_cons_zero, List.set_cons_succ]
      refine hand_to (i := 1) (d := 16) (v := (.slice (some ⟨b, off, none⟩) len c)) rfl rfl (by kernel_rfl) (by kernel_rfl) (by kernel_rfl) (fun _ _ _ h => h) (Or.inl ⟨by rfl, ?_⟩) hHeld ?_
      · (intro w' hSw; obtain ⟨y0, y1⟩ := hSw; go_simp)
      simp only [Act.put, List.setIfInBounds_toArray, List.set_cons_zero, List.set_cons_succ]
      refine hand_to (i := 2) (d := 17) (v := (.int .i64 (i : Int))) rfl rfl (by kernel_rfl) (by kernel_rfl) (by kernel_rfl) (fun _ _ _ h => h) (Or.inl ⟨by rfl, ?_⟩) hHeld ?_
      · (intro w' hSw; obtain ⟨y0, y1⟩ := hSw; go_simp)
      simp only [Act.put, List.setIfInBounds_toArray, List.set_cons_zero, List.set_cons_succ]
      refine hand_to (i := 3) (d := 18) (v := (.pointer (some ⟨b, off + i * 2, none⟩))) rfl rfl (by kernel_rfl) (by kernel_rfl) (by kernel_rfl) (fun _ _ _ h => h) (Or.inl ⟨by rfl, ?_⟩) hHeld ?_
      · (intro w' hSw; obtain ⟨y0, y1⟩ := hSw; go_simp)
      simp only [Act.put, List.setIfInBounds_toArray, List.set_cons_zero, List.set_cons_succ]
      refine hand_to (i := 4) (d := 19) (v := (.pointer (some ⟨b, off + i * 2, none⟩))) rfl rfl (by kernel_rfl) (by kernel_rfl) (by kernel_rfl) (fun _ _ _ h => h) (Or.inl ⟨by rfl, ?_⟩) hHeld ?_
      · (intro w' hSw; obtain ⟨y0, y1⟩ := hSw; go_simp)
      simp only [Act.put, List.setIfInBounds_toArray, List.set_cons_zero, List.set_cons_succ]
      refine hand_to (i := 5) (d := 20) (v := (.string x.1)) rfl rfl (by kernel_rfl) (by kernel_rfl) (by kernel_rfl) (fun _ _ _ h => h) (Or.inl ⟨by rfl, ?_⟩) hHeld ?_
      · (intro w' hSw; obtain ⟨y0, y1⟩ := hSw; go_simp)
      simp only [Act.put, List.setIfInBounds_toArray, List.set_cons_zero, List.set_cons_succ]
      refine hand_to (i := 8) (d := 23) (v := (.slice (some ⟨b, off, none⟩) len c)) rfl rfl (by kernel_rfl) (by kernel_rfl) (by kernel_rfl) (fun _ _ _ h => h) (Or.inl ⟨by rfl, ?_⟩) hHeld ?_
      · (intro w' hSw; obtain ⟨y0, y1⟩ := hSw; go_simp)
      simp only [Act.put, List.setIfInBounds_toArray, List.set_cons_zero, List.set_cons_succ]
      refine hand_to (i := 9) (d := 24) (v := (.int .i64 (i : Int))) rfl rfl (by kernel_rfl) (by kernel_rfl) (by kernel_rfl) (fun _ _ _ h => h) (Or.inl ⟨by rfl, ?_⟩) hHeld ?_
      · (intro w' hSw; obtain ⟨y0, y1⟩ := hSw; go_simp)
      simp only [Act.put, List.setIfInBounds_toArray, List.set_cons_zero, List.set_cons_succ]
      refine hand_to (i := 10) (d := 25) (v := (.pointer (some ⟨b, off + i * 2, none⟩))) rfl rfl (by kernel_rfl) (by kernel_rfl) (by kernel_rfl) (fun _ _ _ h => h) (Or.inl ⟨by rfl, ?_⟩) hHeld ?_
      · (intro w' hSw; obtain ⟨y0, y1⟩ := hSw; go_simp)
      simp only [Act.put, List.setIfInBounds_toArray, List.set_cons_zero, List.set_cons_succ]
      refine hand_to (i := 11) (d := 26) (v := (.pointer (some ⟨b, off + i * 2 + 1, none⟩))) rfl rfl (by kernel_rfl) (by kernel_rfl) (by kernel_rfl) (fun _ _ _ h => h) (Or.inl ⟨by rfl, ?_⟩) hHeld ?_
      · (intro w' hSw; obtain ⟨y0, y1⟩ := hSw; go_simp)
      simp only [Act.put, List.setIfInBounds_toArray, List.set_cons_zero, List.set_cons_succ]
      refine hand_to (i := 12) (d := 27) (v := (.string x.2)) rfl rfl (by kernel_rfl) (by kernel_rfl) (by kernel_rfl) (fun _ _ _ h => h) (Or.inl ⟨by rfl, ?_⟩) hHeld ?_
      · (intro w' hSw; obtain ⟨y0, y1⟩ := hSw; go_simp)
      simp only [Act.put, List.setIfInBounds_toArray, List.set_cons_zero, List.set_cons_succ]
      refine wpAnyH_ready (rs := [6]) (by kernel_rfl) (by simp) ?_
      refine AllReadyH.cons rfl (fun K hK => ?_) AllReadyH.nil
      go_simp
      (go_at_call 29; refine (unhide HT x.1 WS (unhide HX).1.1).mono ?_; rintro e W6 ⟨va, rfl, hO, hbb⟩)
      (go_wp2_with fail)
      have HOva : Hid (W6.ownsRow WS.heap.size 5 1 va (txtB x.1).length (Lib.byteCells (txtB x.1))) := hO
      replace HT0 := hide (own_after (unhide HT0) hbb)
      replace HB := hide (below_tr (unhide HB) hbb)
      clear hO hbb
      refine hK.out _ _ (unhide HS1 W6 (unhide HB)) (fun hHeld2 => ?_)
      clear hK K hHeld
      have hHeld := hHeld2
      clear hHeld2
      try simp only [Act.put, List.setIfInBounds_toArray, List.set_cons_zero, List.set_cons_succ]
      obtain ⟨g7, cap7, hu7, hg7, _, _, hgl7, hc7⟩ := own_row1 (unhide HOva) (by unfold txtB; rw [List.length_append]; have := uvarint_pos x.1.size; omega)
      subst hu7
      refine wpAnyH_ready (rs := [7]) (by kernel_rfl) (by simp) ?_
      refine AllReadyH.cons rfl (fun K hK => ?_) AllReadyH.nil
      refine step_b8 (d := 22) rfl rfl (.tmp 15) (.tmp 21) rfl (base := w.heap.size) rfl (unhide HT0) rfl (by rw [byteCells_length]) hc7 (bytes_one _) (by first | (have := (unhide HX).2.1.1; have := (unhide HTT).2; have := (unhide HX).2.2; omega) | (have := (unhide HX).2.1.1; have := (unhide HTT).2; have := (unhide HX).2.2; rw [List.length_append]; omega)) (unhide HB).size (fun v7 W7 hO hgr => ?_)
      have hbb : Below w.heap.size W6 W7 := (Below.refl _ _).grown hgr (unhide HB).size (own_block_ge (unhide HT0))
      replace HT0 : Hid (W7.ownsRow w.heap.size 5 1 v7 (T ++ txtB x.1).length (Lib.byteCells (T ++ txtB x.1))) := own_cast2 hO (by simp only [List.length_append]) (by simp only [byteC_app])
      replace HB := hide ((unhide HB).trans hbb)
      clear hO hbb hgr hc7
      refine hK.out _ _ (unhide HS1 W7 (unhide HB)) (fun hHeld2 => ?_)
      clear hK K hHeld
      have hHeld := hHeld2
      clear hHeld2
      try simp only [Act.put, List.setIfInBounds_toArray, List.set_cons_zero, List.set_cons_succ]
      refine wpAnyH_ready (rs := [13]) (by kernel_rfl) (by simp) ?_
      refine AllReadyH.cons rfl (fun K hK => ?_) AllReadyH.nil
      go_simp
      (go_at_call 29; refine (unhide HT x.2 W7 (unhide HX).1.2).mono ?_; rintro e W13 ⟨vb, rfl, hO, hbb⟩)
      (go_wp2_with fail)
      have HOvb : Hid (W13.ownsRow W7.heap.size 5 1 vb (txtB x.2).length (Lib.byteCells (txtB x.2))) := hO
      replace HT0 := hide (own_after (unhide HT0) hbb)
      replace HB := hide (below_tr (unhide HB) hbb)
      clear hO hbb
      refine hK.out _ _ (unhide HS1 W13 (unhide HB)) (fun hHeld2 => ?_)
      clear hK K hHeld
      have hHeld := hHeld2
      clear hHeld2
      try simp only [Act.put, List.setIfInBounds_toArray, List.set_cons_zero, List.set_cons_succ]
      obtain ⟨g14, cap14, hu14, hg14, _, _, hgl14, hc14⟩ := own_row1 (unhide HOvb) (by unfold txtB; rw [List.length_append]; have := uvarint_pos x.2.size; omega)
      subst hu14
      refine wpAnyH_ready (rs := [14]) (by kernel_rfl) (by simp) ?_
      refine AllReadyH.cons rfl (fun K hK => ?_) AllReadyH.nil
      refine step_b8 (d := 29) rfl rfl (.tmp 22) (.tmp 28) rfl (base := w.heap.size) rfl (unhide HT0) rfl (by rw [byteCells_length]) hc14 (bytes_one _) (by first | (have := (unhide HX).2.1.1; have := (unhide HTT).2; have := (unhide HX).2.2; omega) | (have := (unhide HX).2.1.1; have := (unhide HTT).2; have := (unhide HX).2.2; rw [List.length_append]; omega)) (unhide HB).size (fun v14 W14 hO hgr => ?_)
      have hbb : Below w.heap.size W13 W14 := (Below.refl _ _).grown hgr (unhide HB).size (own_block_ge (unhide HT0))
      replace HT0 : Hid (W14.ownsRow w.heap.size 5 1 v14 ((T ++ txtB x.1) ++ txtB x.2).length (Lib.byteCells ((T ++ txtB x.1) ++ txtB x.2))) := own_cast2 hO (by simp only [List.length_append]) (by simp only [byteC_app])
      replace HB := hide ((unhide HB).trans hbb)
      clear hO hbb hgr hc14
      refine hK.out _ _ (unhide HS1 W14 (unhide HB)) (fun hHeld2 => ?_)
      clear hK K hHeld
      have hHeld := hHeld2
      clear hHeld2
      try simp only [Act.put, List.setIfInBounds_toArray, List.set_cons_zero, List.set_cons_succ]
      refine hand_to (i := 15) (d := 3) (v := v14) rfl rfl (by kernel_rfl) (by kernel_rfl) (by kernel_rfl) (fun _ _ _ h => h) (Or.inl ⟨by rfl, ?_⟩) hHeld ?_
      · (intro w' hSw; obtain ⟨y0, y1⟩ := hSw; go_simp)
      simp only [Act.put, List.setIfInBounds_toArray, List.set_cons_zero, List.set_cons_succ]
      refine wpAnyH_done (by kernel_rfl) ?_ _
      go_wp2_with fail
      go_roundw
      case rel =>
        refine ⟨i + 1, v14, rfl, by simp, by omega, ?_⟩
        have e : uvarint len ++ dumpL (F.take (i + 1)) = T ++ txtB x.1 ++ txtB x.2 := by rw [(unhide HX).2.1.2, (unhide HTT).1]; simp only [List.append_assoc]
        rw [e]
        exact ⟨unhide HT0, unhide HB⟩
      case measure => simp [RowKit.intOf]; omega
    · have hlti : ¬ ((i : Int) < (len : Int)) := by omega
      obtain rfl : i = len := by omega
      have HE : Hid (wr.ownsRow w.heap.size 5 1 v3 (dumpF F).length (Lib.byteCells (dumpF F)) ∧ Below w.heap.size w wr) := by
        have e : F.take i = F := List.take_of_length_le (by rw [← (unhide HS).1]; exact Nat.le_refl _)
        have := unhide HD
        rw [e, (unhide HS).1] at this
        exact this
      clear HD HS HT HR
      go_wp2_with fail
      go_ret
      exact ⟨v3, rfl, unhide HE⟩
end
end Go.Proofs.YtlmjmhpdpgeplaaGreatDoor
/- TreePlays' end: both dumps, Load of the dump. A chain of calls, each hidden in the one ahead. -/
namespace Go.Proofs.YtlmjmhpdpgeplaaGreatDoor
open Go.RowKit Go.Lib

/-- Small trees. -/
def Bnd (i : Nat) (F : List It) : Prop := F.length ≤ i ∧ ∀ y ∈ F, y.1.size ≤ 100 ∧ y.2.size ≤ 100
theorem uv_ten {n : Nat} (h : n ≤ 1000000) : (uvarint n).length ≤ 10 := (uv_len n (by omega)).2
theorem itB_len {y : It} (h : y.1.size ≤ 100 ∧ y.2.size ≤ 100) : (itB y).length ≤ 220 := by
  have h1 := uv_ten (n := y.1.size) (by omega)
  have h2 := uv_ten (n := y.2.size) (by omega)
  have e1 : y.1.data.toList.length = y.1.size := by rw [Array.length_toList]; rfl
  have e2 : y.2.data.toList.length = y.2.size := by rw [Array.length_toList]; rfl
  unfold itB txtB
  rw [List.length_append, List.length_append, List.length_append, e1, e2]
  omega
theorem dumpL_bnd : ∀ {F : List It}, (∀ y ∈ F, y.1.size ≤ 100 ∧ y.2.size ≤ 100) → (dumpL F).length ≤ 220 * F.length
  | [], _ => by simp [dumpL]
  | y :: F, h => by
    have h1 := itB_len (h y (List.mem_cons_self ..))
    have h2 := dumpL_bnd (F := F) (fun z hz => h z (List.mem_cons_of_mem _ hz))
    have e : dumpL (y :: F) = itB y ++ dumpL F := by simp [dumpL]
    rw [e, List.length_append, List.length_cons]
    omega
theorem Bnd.sml {i : Nat} {F : List It} (h : Bnd i F) (hi : i ≤ 1000) : Sml F ∧ F.length ≤ 1000000 ∧ (dumpL F).length ≤ 300000 ∧ (dumpF F).length ≤ 300010 := by
  have h1 := dumpL_bnd h.2
  have h2 := uv_ten (n := F.length) (by have := h.1; omega)
  have h3 := h.1
  refine ⟨fun y hy => by have := h.2 y hy; omega, by omega, by omega, ?_⟩
  unfold dumpF
  rw [List.length_append]; omega
theorem bl_own {w : World} {B n : Nat} {v : Value} (l : List UInt8) (h : w.ownsRow B 5 1 v n (Lib.byteCells l)) (hn : n = l.length) : BL w w.heap.size v l := by
  rcases Nat.eq_zero_or_pos n with h0 | h0
  · obtain ⟨_, ⟨rfl, _⟩ | ⟨g, k, cur, rfl, hB, hc, q1, q2, q3, q4⟩⟩ := h
    · exact .inl ⟨rfl, List.eq_nil_of_length_eq_zero (by omega)⟩
    · exact .inr ⟨g, 0, k, by rw [hn], by omega, q2, by have := (Array.getElem?_eq_some_iff.1 hc).1; omega, (Array.getElem?_eq_some_iff.1 hc).1, fun i hi => by omega⟩
  · obtain ⟨g, cap, rfl, hB, h1, h2, h3, h4⟩ := own_row1 h h0
    refine .inr ⟨g, 0, cap, by rw [hn], by omega, h2, by omega, h3, fun i hi => ?_⟩
    have := h4 i (.int .u8 ((l.getD i 0).toNat : Int)) (by
      unfold Lib.byteCells
      rw [List.getElem?_map, List.getElem?_eq_getElem hi]
      simp [List.getD_eq_getElem?_getD, hi])
    rw [Go.WideShapes.add_plain] at this
    exact this
section
variable {w wr : World} {p q cl i : Nat} {X : Nat → Prop} {vm vo : Value} {F M G : List It} {fr : ByteArray}
/-- The chain behind the loop. -/
theorem play_end (h : PQ w wr p q cl X vm vo F F G fr) (hF : Bnd i F) (hG : Bnd i G) (hi : i ≤ 1000) (hE : ET w) :
    Calls Tryz.prog 16 #[.pointer (some ⟨p, 0, none⟩)] wr fun e w1 => ∃ v1, e = .returned v1 ∧ Hid (
      Calls Tryz.prog 18 #[vm] w1 fun e w2 => ∃ v2, e = .returned v2 ∧ Hid (
      Calls Tryz.prog 17 #[v1, v2] w2 fun e w3 => e = .returned (.bool true) ∧ Hid (
      Calls Tryz.prog 16 #[.pointer (some ⟨cl, 0, none⟩)] w3 fun e w4 => ∃ v4, e = .returned v4 ∧ Hid (
      Calls Tryz.prog 18 #[vo] w4 fun e w5 => ∃ v5, e = .returned v5 ∧ Hid (
      Calls Tryz.prog 17 #[v4, v5] w5 fun e w6 => e = .returned (.bool true) ∧ Hid (
      Calls Tryz.prog 19 #[v1] w6 fun e w7 => ∃ u : Nat, e = .returned (.tuple #[.pointer (some ⟨u, 0, none⟩), .nilIface]) ∧ Hid (
      Calls Tryz.prog 15 #[.pointer (some ⟨u, 0, none⟩)] w7 fun e w8 => e = .returned (.int .i64 (F.length : Int)) ∧ Hid (
      Calls Tryz.prog 16 #[.pointer (some ⟨u, 0, none⟩)] w8 fun e w9 => ∃ v9, e = .returned v9 ∧ Hid (
      Calls Tryz.prog 17 #[v9, v1] w9 fun e w10 => e = .returned (.bool true) ∧ Hid (Below w.heap.size w w10)))))))))) := by
  obtain ⟨a1, a2, a3, a4⟩ := hF.sml hi
  obtain ⟨b1, b2, b3, b4⟩ := hG.sml hi
  have hsF := h.tree.srt
  obtain ⟨_, _, O, hT, _⟩ := h.tree
  obtain ⟨_, _, O2, hC, _⟩ := h.clone
  refine (Dump_any hT a1 a2 (by omega)).mono ?_
  rintro e w1 ⟨v1, rfl, o1, z1⟩
  refine ⟨v1, rfl, (mdump_any (h.m.below z1) a1 a2 (by omega)).mono ?_⟩
  rintro e w2 ⟨v2, rfl, o2, z2⟩
  refine ⟨v2, rfl, (bytes_br (br_own _ (own_after o1 z2) rfl) (br_own _ o2 rfl)).mono ?_⟩
  rintro e w3 ⟨rfl, rfl⟩
  have zz := below_tr z1 z2
  refine ⟨rfl, (Dump_any (hC.below zz) b1 b2 (by omega)).mono ?_⟩
  rintro e w4 ⟨v4, rfl, o4, z4⟩
  have zz4 := below_tr zz z4
  refine ⟨v4, rfl, (mdump_any (h.o.below zz4) b1 b2 (by omega)).mono ?_⟩
  rintro e w5 ⟨v5, rfl, o5, z5⟩
  refine ⟨v5, rfl, (bytes_br (br_own _ (own_after o4 z5) rfl) (br_own _ o5 rfl)).mono ?_⟩
  rintro e w6 ⟨rfl, rfl⟩
  have zz5 := below_tr zz4 z5
  have z15 := below_tr (below_tr z2 z4) z5
  have o1' := own_after o1 z15
  have hbw := below_tr h.bel zz5
  refine ⟨rfl, (Load_any (bl_own _ o1' rfl) (hE.below hbw hE.lt) (by omega)).mono ?_⟩
  have hrb : rdTree (dumpF F) = some F := rdTree_back hsF (by omega) (fun x hx => by have := a1 x hx; omega)
  rintro e w7 ⟨z7, ⟨F', u, O', zx, rfl, t7, _⟩ | ⟨zx, _⟩⟩
  · rw [hrb] at zx
    cases zx
    refine ⟨u, rfl, (Len_any t7).mono ?_⟩
    rintro e w8 ⟨rfl, rfl⟩
    refine ⟨rfl, (Dump_any t7 a1 a2 (by omega)).mono ?_⟩
    rintro e w9 ⟨v9, rfl, o9, z9⟩
    refine ⟨v9, rfl, (bytes_br (br_own _ o9 rfl) (br_own _ (own_after o1' (below_tr z7 z9)) rfl)).mono ?_⟩
    rintro e w10 ⟨rfl, rfl⟩
    exact ⟨rfl, below_tr (below_tr hbw z7) z9⟩
  · rw [hrb] at zx; cases zx
end
end Go.Proofs.YtlmjmhpdpgeplaaGreatDoor
