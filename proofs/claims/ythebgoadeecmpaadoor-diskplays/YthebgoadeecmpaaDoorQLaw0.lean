/- DiskPlays: what its walk asks of both disks. -/
import Derived.Test.YthebgoadeecmpaaDoorQIn
import Derived.Deep.CutRange
import Derived.Deep.LoopGhost
import Derived.Laws.OwnMore
import Derived.Deep.RegionHeld3
namespace Go.Proofs.YthebgoadeecmpaaDoor
open Go.RowKit Go.Lib Go.Maps Go.WideMaps

/-- 'append(own, bytes...)', where the bytes came in. -/
theorem wpList_append_z {w : World} {ops : Array Oper} {rest : List Oper} {o : Oper} {a : Act} {Q : Exit → Act → World → Prop} (hgd : o.guard = none) (s x : Operand)
    (ho : o.op = .call { callee := .builtin .append, args := #[s, x], argTypes := #[28, 28] })
    (v : Value) (n : Nat) (xs : List Value) (hs : a.eval s = v) (hown : w.ownsRow 0 5 1 v n xs)
    (O : Nat → Prop) (xv : Value) (lx : List UInt8) (hx : a.eval x = xv) (hrb : RBz w O xv lx) (hn : n ≤ 1000000000)
    (h : ∀ v' w', w'.ownsRow 0 5 1 v' (n + lx.length) (xs ++ byteCells lx) → w.grownBy w' v.ownBlock → (v'.ownBlock = v.ownBlock ∨ v'.ownBlock = some w.heap.size) → wpList Tryd.prog ops Q rest (a.put o.dst v') w') : wpList Tryd.prog ops Q (o :: rest) a w := by
  rcases hrb with hrb | ⟨rfl, ad, c, rfl, hcm⟩
  · exact wpList_append_at hgd s x ho v n xs hs hown O xv lx hx hrb hn h
  · obtain ⟨i0, hi, hz0, hz1, hz2⟩ := info_parts Tryd.infoB
    exact wpList_append_own_at w hgd s x 28 ho 0 5 i0 (.int .u8 0) 1 1 Tryd.underlying28 hi hz0 hz1 hz2 rfl (by decide) v n xs hs hown ad 0 c [] hx rfl (fun j u hj => by simp at hj) (fun u hu => by cases hu) (by unfold maxLen; omega) (by omega) (Nat.zero_le _) (fun v' w' h1 h2 _ h3 => h v' w' h1 h2 h3)

/-- The step's own variable, at block sb. -/
def SB (s : GS) (w : World) (sb : Nat) : Prop := w.heap[sb]? = some (.cells s.cells.toArray 33 (0, 0))
theorem SB.at {s : GS} {w : World} {sb : Nat} (h : SB s w sb) : w.cell? ⟨sb, 0, none⟩ = some (.int .i64 s.what) ∧ w.cell? ⟨sb, 1, none⟩ = some (.int .i64 s.n) ∧ w.cell? ⟨sb, 2, none⟩ = some (.string ⟨s.name.toArray⟩) ∧ w.cell? ⟨sb, 3, none⟩ = some (.string ⟨s.to'.toArray⟩) ∧ w.cell? ⟨sb, 4, none⟩ = some (.slice s.ba s.bytes.length s.bk) ∧ w.cell? ⟨sb, 5, none⟩ = some (.slice s.ka s.ks.length s.kk) := by
  refine ⟨?_, ?_, ?_, ?_, ?_, ?_⟩ <;> rw [(cellB h _).1] <;> rfl
theorem SB.kf {s : GS} {w w' : World} {sb : Nat} {K : Nat → Prop} (h : SB s w sb) (hk : KF K w w') (hs : K sb) : SB s w' sb := (hk.2 sb hs).trans h
theorem SB.below {s : GS} {w w' : World} {sb : Nat} (h : SB s w sb) (hb : Below w.heap.size w w') : SB s w' sb := (hb.block sb (Array.getElem?_eq_some_iff.1 h).1).trans h

/-- What stands behind the switch: the error, the class that is wanted; both disks; the step. -/
def Done (w : World) (p r j sb : Nat) (s : GS) (v : Value) (c : Int) (wx : World) : Prop := ErrV wx v c ∧ TX w wx p r (j + 1) (fun k => k = sb) ∧ SB s wx sb

/-- The round's beginning: the step is copied. -/
theorem round_in {w wr : World} {p r j : Nat} {s : GS} (h : TX w wr p r j (fun _ => False)) : TX w (wr.alloc (.cells s.cells.toArray 33)) p r j (fun k => k = wr.heap.size) ∧ SB s (wr.alloc (.cells s.cells.toArray 33)) wr.heap.size :=
  ⟨h.more ((Below.refl _ _).alloc (Nat.le_refl _) _) (fun k hk => .inr (by subst hk; simp)), (MapKept.heap_alloc wr _).1⟩

theorem below_drew {w : World} : Below w.heap.size w w.drew := ⟨rfl, rfl, rfl, Nat.le_refl _, fun _ _ => rfl⟩
/-- Both calls of a statement that draws its order. -/
theorem done_pair {w W w2 : World} {p r j sb : Nat} {s : GS} {v : Value} {e : Ending} (hS : SB s W sb) (h : PairPost w W p r j (fun k => k = sb) v e w2) : ∃ c : Int, e = .returned (.int .i64 c) ∧ Hid (Done w p r j sb s v c w2) := by
  obtain ⟨c, he, hk, hv, _, ht⟩ := h
  exact ⟨c, he, unhide hv, unhide ht, hS.kf (unhide hk) rfl⟩

/-- Append: the bytes, both calls, Spoil. -/
theorem append_in {w W w4 : World} {p r j sb : Nat} {s : GS} {v4 : Value} (hE : ET w) (hj : j ≤ 1000) (hs : s.name.length ≤ 1000) (hb : s.bytes.length ≤ 300) (hok : GS.ok w s) (hT : TX w W p r j (fun k => k = sb)) (hS : SB s W sb)
    (hrow : w4.ownsRow 0 5 1 v4 (0 + s.bytes.length) ([] ++ byteCells s.bytes)) (hg : W.grownBy w4 (Value.slice none 0 0).ownBlock) (hloc : v4.ownBlock = (Value.slice none 0 0).ownBlock ∨ v4.ownBlock = some W.heap.size) :
    ∃ a4 k4, v4 = .slice a4 s.bytes.length k4 ∧ SB s w4 sb ∧
      Hid (Calls Tryd.prog 7 #[.pointer (some ⟨p, 0, none⟩), .string ⟨s.name.toArray⟩, .slice a4 s.bytes.length k4] w4.drew fun e w5 => ∃ v, e = .returned v ∧ SB s w5 sb ∧
        Hid (Calls Tryd.prog 8 #[.pointer (some ⟨r, 0, none⟩), .string ⟨s.name.toArray⟩, .slice s.ba s.bytes.length s.bk] w5 fun e w6 => ∃ c : Int, e = .returned (.int .i64 c) ∧ SB s w6 sb ∧
          Hid (Calls Tryd.prog 9 #[.slice a4 s.bytes.length k4] w6 fun e w7 => e = .returned (.tuple #[]) ∧ Hid (Done w p r j sb s v c w7)))) := by
  rw [Nat.zero_add, List.nil_append] at hrow
  obtain ⟨a4, k4, rfl⟩ := own_sl hrow
  have hblkW : ∀ k, k < W.heap.size → w4.heap[k]? = W.heap[k]? := fun k hk => hg.block k hk (by simp [Value.ownBlock])
  have hbW : Below W.heap.size W w4 := ⟨hg.os, hg.tape, hg.output, hg.size, hblkW⟩
  have hnew : ∀ q, (Value.slice a4 s.bytes.length k4).ownBlock = some q → W.heap.size ≤ q ∧ q < w4.heap.size := fun q hq => by
    rcases own_cells hrow with ⟨e1, _⟩ | ⟨g, cap, cur, e1, _, hc, _⟩
    · rw [e1] at hq; simp [Value.ownBlock] at hq
    · have hlt := (Array.getElem?_eq_some_iff.1 hc).1
      rw [e1] at hq hloc
      simp [Value.ownBlock] at hq hloc
      omega
  have hT4 : TX w w4.drew p r j (fun k => k = sb ∨ (Value.slice a4 s.bytes.length k4).ownBlock = some k) := hT.more (hbW.trans (below_drew.mono hbW.size)) (fun k hk => hk.imp id (fun hq => hnew k hq))
  have hS4 : SB s w4 sb := hS.below hbW
  have hrow4 : w4.drew.ownsRow 0 5 1 (.slice a4 s.bytes.length k4) s.bytes.length (byteCells s.bytes) := ownsRow_of_same hrow (fun _ _ => rfl)
  refine ⟨a4, k4, rfl, hS4, ?_⟩
  have hrb : RBo w4.drew (fun k => ¬ (k = sb ∨ (Value.slice a4 s.bytes.length k4).ownBlock = some k)) (.slice a4 s.bytes.length k4) s.bytes := by
    obtain ⟨h1, h2 | ⟨b, off, cap, hbl, _, h3, h4, h5, h6⟩⟩ := rbo_of_row hrow4 (by omega)
    · exact ⟨h1, .inl h2⟩
    · refine ⟨h1, .inr ⟨b, off, cap, hbl, fun hh => hh (.inr ?_), h3, h4, h5, h6⟩⟩
      rcases own_cells hrow4 with ⟨e1, _⟩ | ⟨g, cp, cur, e1, _⟩
      · rw [h5] at e1; cases e1
      · rw [h5] at e1 ⊢
        cases e1
        rfl
  refine (tx_append hT4 hj hE s.name hs s.bytes (by omega) _ (.slice s.ba s.bytes.length s.bk) hrb (fun w1 hf => hok.bytes w1 hf hb)).mono ?_
  rintro e w5 ⟨v, rfl, hk5, hc5⟩
  refine ⟨v, rfl, SB.kf (w := w4.drew) hS4 (unhide hk5) (.inl rfl), ?_⟩
  refine (unhide hc5).mono ?_
  rintro e w6 ⟨c, rfl, hk6, hv6, hn6, ht6⟩
  refine ⟨c, rfl, SB.kf (w := w4.drew) hS4 (unhide hk6) (.inl rfl), ?_⟩
  have hrow6 : w6.ownsRow 0 5 1 (.slice a4 s.bytes.length k4) s.bytes.length (byteCells s.bytes) := ownsRow_of_same hrow4 (fun q hq => (unhide hk6).2 q (.inr hq))
  refine (spoil_own hrow6 (by omega)).mono ?_
  rintro e w7 ⟨rfl, hf7⟩
  have hT7 := (unhide ht6).fr hf7 (fun k hk => ⟨.inr hk, by have := (hnew k hk).1; have := hT.env.size; omega⟩)
  refine ⟨rfl, ?_, hT7.less (fun k hk => .inl hk), ?_⟩
  · rcases unhide hv6 with h1 | ⟨h1, b, h2, h3⟩
    · exact .inl h1
    · refine .inr ⟨h1, b, h2, h3.fr hf7 (fun hh => ?_)⟩
      have h4 := unhide hn6 b h2
      have h5 := (hnew b hh).2
      have h6 : w4.drew.heap.size = w4.heap.size := rfl
      omega
  · have hS6 : SB s w6 sb := SB.kf (w := w4.drew) hS4 (unhide hk6) (.inl rfl)
    refine (hf7.blk sb (Array.getElem?_eq_some_iff.1 hS6).1 (fun hh => ?_)).trans hS6
    have h5 := (hnew sb hh).1
    have h6 := (Array.getElem?_eq_some_iff.1 hS).1
    omega

theorem done_halt {w W : World} {p r j sb : Nat} {s : GS} (hok : GS.ok w s) (hT : TX w W p r j (fun k => k = sb)) (hS : SB s W sb) :
    Calls Tryd.prog 18 #[.pointer (some ⟨p, 0, none⟩), .int .i64 s.n] W fun e w1 => e = .returned (.tuple #[]) ∧ SB s w1 sb ∧ Hid (Calls Tryd.prog 19 #[.pointer (some ⟨r, 0, none⟩), .int .i64 s.n] w1 fun e w2 => e = .returned (.tuple #[]) ∧ Hid (Done w p r j sb s .nilIface 0 w2)) := by
  refine (tx_halt hT s.n hok.n.2).mono ?_
  rintro e w1 ⟨rfl, hk1, hc1⟩
  refine ⟨rfl, hS.kf (unhide hk1) rfl, ?_⟩
  refine (unhide hc1).mono ?_
  rintro e w2 ⟨rfl, hk2, ht2⟩
  exact ⟨rfl, .inl ⟨rfl, rfl⟩, (unhide ht2).up, hS.kf (unhide hk2) rfl⟩
theorem done_crash {w W : World} {p r j sb : Nat} {s : GS} (hok : GS.ok w s) (hks : s.ks.length ≤ 1000000) (hT : TX w W p r j (fun k => k = sb)) (hS : SB s W sb) :
    Calls Tryd.prog 20 #[.pointer (some ⟨p, 0, none⟩), .agg #[.slice s.ka s.ks.length s.kk]] W fun e w1 => e = .returned (.tuple #[]) ∧ SB s w1 sb ∧ Hid (Calls Tryd.prog 21 #[.pointer (some ⟨r, 0, none⟩), .agg #[.slice s.ka s.ks.length s.kk]] w1 fun e w2 => e = .returned (.tuple #[]) ∧ Hid (Done w p r j sb s .nilIface 0 w2)) := by
  refine (tx_crash hT _ s.ks hks hok.ks).mono ?_
  rintro e w1 ⟨rfl, hk1, hc1⟩
  refine ⟨rfl, hS.kf (unhide hk1) rfl, ?_⟩
  refine (unhide hc1).mono ?_
  rintro e w2 ⟨rfl, hk2, ht2⟩
  exact ⟨rfl, .inl ⟨rfl, rfl⟩, (unhide ht2).up, hS.kf (unhide hk2) rfl⟩
/-- Take number i first: its value goes to slot d. -/
theorem take_to {P : Program} {ops : Array Oper} {Q : Exit → Act → World → Prop} {md : Region.Mode} {S : World → Prop} {i d : Nat} {oi : Oper} {v : Value} {fuel : Nat} {listed : Array Bool} {a : Act} {w : World} (hi : ops[i]? = some oi) (hd : oi.dst = some d)
    (hs : Region.noSelect ops = true) (hf : Region.free md ops listed i = true) (hr : (Region.ready md ops listed).contains i = true)
    (hQ : ∀ c a w, Q (.panic c) (a.put (some d) v) w → Q (.panic c) a w) (hy : YieldsIf P ops S oi v a) (hS : S w)
    (h : wpAnyH P md ops Q S fuel (listed.setIfInBounds i true) (a.put (some d) v) w) : wpAnyH P md ops Q S (fuel + 1) listed a w := by
  rw [← hd] at hQ h
  exact wpAnyH_take hi hs hf hr hQ hy hS h
/-- What is looked at behind each step, call by call; the count of the document's disk stays. -/
theorem look_chain {w wc : World} {p r n : Nat} {K : Nat → Prop} {v : Value} {c : Int} (hE : ET w) (hT : TX w wc p r n K) (hV : ErrV wc v c) :
    ∃ n0 : Int, wc.drew.cell? ⟨r, 4, none⟩ = some (.int .i64 n0) ∧ Hid (Calls Tryd.prog 22 #[v] wc.drew fun e w1 => e = .returned (.int .i64 c) ∧ w1.cell? ⟨r, 4, none⟩ = some (.int .i64 n0) ∧
      Hid (Calls Tryd.prog 24 #[.pointer (some ⟨p, 0, none⟩)] w1 fun e w2 => ∃ a m k, e = .returned (.slice a m k) ∧ w2.cell? ⟨r, 4, none⟩ = some (.int .i64 n0) ∧
      Hid (Calls Tryd.prog 25 #[.pointer (some ⟨r, 0, none⟩)] w2 fun e w3 => ∃ a' k', e = .returned (.slice a' m k') ∧ w3.cell? ⟨r, 4, none⟩ = some (.int .i64 n0) ∧
      Hid (Calls Tryd.prog 23 #[.slice a m k, .slice a' m k'] w3 fun e w4 => e = .returned (.bool true) ∧ w4.cell? ⟨r, 4, none⟩ = some (.int .i64 n0) ∧
      Hid (Calls Tryd.prog 26 #[.pointer (some ⟨p, 0, none⟩)] w4 fun e w5 => ∃ u : Int, e = .returned (.int .i64 u) ∧ w5.cell? ⟨r, 4, none⟩ = some (.int .i64 n0) ∧ Hid (Below wc.heap.size wc w5) ∧
      Hid (Calls Tryd.prog 27 #[.pointer (some ⟨r, 0, none⟩)] w5 fun e w6 => e = .returned (.int .i64 u) ∧ w6 = w5) ∧ Hid (Calls Tryd.prog 28 #[.pointer (some ⟨p, 0, none⟩)] w5 fun e w6 => e = .returned (.int .i64 n0) ∧ w6 = w5)))))) := by
  obtain ⟨n0, hn0, hrl⟩ : ∃ n0 : Int, wc.cell? ⟨r, 4, none⟩ = some (.int .i64 n0) ∧ r < wc.heap.size := by
    obtain ⟨S, R, F, vf, G, O, Q, h, hK⟩ := hT
    exact ⟨R.count, h.rx.cells.2.2.2.2, h.rx.lt r h.rx.oR⟩
  have hcell : ∀ W, Below wc.heap.size wc W → W.cell? ⟨r, 4, none⟩ = some (.int .i64 n0) := fun W hb => (cell_same (hb.block r hrl) 4).trans hn0
  refine ⟨n0, hn0, ?_⟩
  have hT0 := hT.below below_drew
  refine (class_v (hT0.et hE) (v := v) (c := c) (by
    rcases hV with h1 | ⟨h1, b, h2, h3⟩
    · exact .inl h1
    · exact .inr ⟨h1, b, h2, h3⟩)).mono ?_
  rintro e w1 ⟨rfl, hb1⟩
  have hB1 : Below wc.heap.size wc w1 := below_drew.trans hb1
  have hT1 := hT0.below hb1
  refine ⟨rfl, hcell _ hB1, ?_⟩
  have hl2 : Calls Tryd.prog 24 #[.pointer (some ⟨p, 0, none⟩)] w1 fun e w2 => ∃ a m k, e = .returned (.slice a m k) ∧ Below w1.heap.size w1 w2 ∧ Hid (Calls Tryd.prog 25 #[.pointer (some ⟨r, 0, none⟩)] w2 fun e w3 => ∃ a' k', e = .returned (.slice a' m k') ∧ Below w1.heap.size w1 w3 ∧ Hid (Calls Tryd.prog 23 #[.slice a m k, .slice a' m k'] w3 fun e w4 => e = .returned (.bool true) ∧ Hid (Below w1.heap.size w1 w4))) := tx_list hT1
  refine hl2.mono ?_
  rintro e w2 ⟨a, m, k, rfl, hb2, hl⟩
  refine ⟨a, m, k, rfl, hcell _ (hB1.trans (hb2.mono hB1.size)), (unhide hl).mono ?_⟩
  rintro e w3 ⟨a', k', rfl, hb3, hl'⟩
  refine ⟨a', k', rfl, hcell _ (hB1.trans (hb3.mono hB1.size)), (unhide hl').mono ?_⟩
  rintro e w4 ⟨rfl, hb4⟩
  have hB4 := hB1.trans ((unhide hb4).mono hB1.size)
  have hT4 := hT1.below (unhide hb4)
  refine ⟨rfl, hcell _ hB4, (tx_used hT4).mono ?_⟩
  rintro e w5 ⟨u, n, rfl, hc5, hb5, hu, hn⟩
  have hB5 := hB4.trans ((unhide hb5).mono hB4.size)
  have hnn : n = n0 := by
    have := hcell _ hB5
    rw [hc5] at this
    injection this with this
    injection this
  subst hnn
  exact ⟨u, rfl, hc5, hB5, unhide hu, unhide hn⟩
/-- Both are read, the answers held against one another, and spoilt. -/
theorem read_chain {w W : World} {p r n sb : Nat} {s : GS} (hE : ET w) (hT : TX w W p r n (fun k => k = sb)) (hS : SB s W sb) (hn : s.name.length ≤ 1000) :
    Calls Tryd.prog 29 #[.pointer (some ⟨p, 0, none⟩), .string ⟨s.name.toArray⟩] W fun e w1 => ∃ a m k ev, e = .returned (.tuple #[.slice a m k, ev]) ∧ w1.cell? ⟨sb, 2, none⟩ = some (.string ⟨s.name.toArray⟩) ∧
      Hid (Calls Tryd.prog 30 #[.pointer (some ⟨r, 0, none⟩), .string ⟨s.name.toArray⟩] w1 fun e w2 => ∃ a' k' c, e = .returned (.tuple #[.slice a' m k', .int .i64 c]) ∧
      Hid (Calls Tryd.prog 22 #[ev] w2 fun e w3 => e = .returned (.int .i64 c) ∧
        Hid (Calls Tryd.prog 31 #[.slice a m k, .slice a' m k'] w3 fun e w4 => e = .returned (.bool true) ∧ w4 = w3) ∧
        Hid (Calls Tryd.prog 9 #[.slice a m k] w3 fun e w4 => e = .returned (.tuple #[]) ∧ Hid (TX w w4 p r n (fun _ => False))))) := by
  refine (tx_read hT hE s.name hn).mono ?_
  rintro e w1 ⟨a, m, k, ev, rfl, hb1, hr⟩
  refine ⟨a, m, k, ev, rfl, (hS.below (unhide hb1)).at.2.2.1, (unhide hr).mono ?_⟩
  rintro e w2 ⟨a', k', c, rfl, hb2, hv, hby, hsp, hq⟩
  refine ⟨a', k', c, rfl, (class_v ((hT.below (unhide hb2)).et hE) (unhide hv)).mono ?_⟩
  rintro e w3 ⟨rfl, hb3⟩
  refine ⟨rfl, unhide hby w3 hb3, (unhide hsp w3 hb3).mono ?_⟩
  rintro e w4 ⟨rfl, hf4⟩
  have hB3 : Below W.heap.size W w3 := (unhide hb2).trans (hb3.mono (unhide hb2).size)
  have hT3 : TX w w3 p r n (fun q => (Value.slice a m k).ownBlock = some q) := hT.more hB3 (fun q hq' => .inr ⟨(unhide hq q hq').1, ?_⟩)
  · refine ⟨rfl, TX.less (hT3.fr (unhide hf4) (fun q hq' => ⟨hq', ?_⟩)) (fun _ hh => hh.elim)⟩
    have h1 := (unhide hq q hq').1
    have h2 := hT.env.size
    omega
  · have h1 := (unhide hq q hq').2
    have h3 := hb3.size
    omega
theorem Tryd.infoI : (Tryd.prog.info? 3).map (fun i => (i.zero, i.size, i.bytes)) = some (some (.int .i64 0), 1, 8) := by kernel_rfl
theorem make100 (w : World) : ∃ Z : Array Value, (Instr.makeSlice 29 (.int .i64 100) (.int .i64 100)).run Tryd.prog w = .ok (.slice (some ⟨w.heap.size, 0, none⟩) 100 100) (w.alloc (.cells Z 3)) ∧ ∀ i, i < 100 → Z[i]? = some (.int .i64 0) := by
  obtain ⟨i0, hi, hz0, hz1, hz2⟩ := info_parts Tryd.infoI
  refine ⟨_, run_makeSlice w 29 3 i0 (.int .i64 0) Tryd.underlying29 hi hz0 .i64 .i64 100 100 (by decide) (by decide) (by rw [hz1]; decide) (by rw [hz2]; decide) (by decide), fun i hi' => ?_⟩
  rw [hz1]
  show (madeCells #[.int .i64 0] (100 * 1))[i]? = _
  rw [← Array.getElem?_toList, toList_madeCells_one, List.getElem?_replicate, if_pos (by omega)]
theorem keep_zero {w : World} {Z : Array Value} {n : Nat} (hn : n ≤ w.heap.size) (hZ : ∀ i, i < 100 → Z[i]? = some (.int .i64 0)) : KeepAt (w.alloc (.cells Z 3)) (fun k => k < n) (.slice (some ⟨w.heap.size, 0, none⟩) 100 100) (List.replicate 100 0) := by
  refine ⟨fun x hx => ?_, .inr ⟨w.heap.size, 0, 100, by simp, by show ¬ w.heap.size < n; omega, by simp, by unfold maxLen; omega, by simp, fun i x hi => ?_⟩⟩
  · rw [List.mem_replicate] at hx
    rw [hx.2]; decide
  · rw [List.getElem?_replicate] at hi
    split at hi
    · rename_i h100
      have hx : x = 0 := (Option.some.inj hi).symm
      subst hx
      rw [World.cell?_alloc_mark, Nat.zero_add]
      exact hZ i h100
    · cases hi
theorem EX.cell {w wr : World} {p r n : Nat} {a : Option Addr} {m cap : Nat} (h : EX w wr p r n a m cap) : wr.cell? ⟨r, 0, none⟩ = some (.slice a m cap) := by
  obtain ⟨S, R, F, G, O, Q, h, h1, h2⟩ := h
  exact h.rx.cells.1
end Go.Proofs.YthebgoadeecmpaaDoor
