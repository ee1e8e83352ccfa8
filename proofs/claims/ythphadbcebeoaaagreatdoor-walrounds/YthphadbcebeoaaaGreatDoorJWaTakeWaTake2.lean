/- The wal's state: what take does. -/
import Derived.Test.YthphadbcebeoaaaGreatDoorWaSt2
import Derived.Test.YthphadbcebeoaaaGreatDoorJWaRecWaUn
import Derived.Deep.RegionLaw
namespace Go.Proofs.YthphadbcebeoaaaGreatDoor
open Go.RowKit Go.Lib Go.Maps

theorem SE.below {w w' : World} {p o : Nat} {T : TypeId} {cur : Array Value} {s : Sta} {v : Value} (h : SE w p o T cur s v) (hb : Below w.heap.size w w') : SE w' p o T cur s v := ⟨h.sb.keep (hb.block _ h.sb.lt), h.el.below hb, h.apart⟩
theorem ST2.pre {w w1 w' : World} {p o : Nat} {T : TypeId} {cur : Array Value} {v : Value} {s' : Sta} {gr : Prop} (h : ST2 w1 w' p o T cur v s' gr) (hb : Below w.heap.size w w1) : ST2 w w' p o T cur v s' gr := by
  obtain ⟨⟨cur', v', q1, q2, q3, q4⟩, h2, h3, h4, h5⟩ := h
  exact ⟨⟨cur', v', q1, q2, fun g hg => (q3 g hg).imp id (fun hh => Nat.le_trans hb.size hh), fun hg v0 es0 h0 hp => q4 hg v0 es0 (h0.below hb) hp⟩, fun v0 es0 h0 hp hn => h2 v0 es0 (h0.below hb) hp hn, fun k hk hne hn => (h3 k (Nat.lt_of_lt_of_le hk hb.size) hne hn).trans (hb.block k hk), Nat.le_trans hb.size h4, Dk.Env.trans ⟨hb.os, hb.tape, hb.output⟩ h5⟩
theorem ST2.weak {w w' : World} {p o : Nat} {T : TypeId} {cur : Array Value} {v : Value} {s' : Sta} {gr gr' : Prop} (h : ST2 w w' p o T cur v s' gr) (hg : gr' → gr) : ST2 w w' p o T cur v s' gr' := by
  obtain ⟨⟨cur', v', q1, q2, q3, q4⟩, h2, h3, h4, h5⟩ := h
  exact ⟨⟨cur', v', q1, q2, q3, fun g => q4 (hg g)⟩, h2, h3, h4, h5⟩
/-- Only the state's own cells turned. -/
theorem ST2.own {w w' : World} {p o : Nat} {T : TypeId} {cur cur' : Array Value} {s' : Sta} {v v' : Value} (hs : SB w' p o T cur' s' v') (ho : Out o cur cur') (he : EL w v' s'.es) (hn : ¬ inB v' p) (hv : ∀ g, inB v' g → inB v g) (hk : ∀ k, k ≠ p → w'.heap[k]? = w.heap[k]?) (hz : w'.heap.size = w.heap.size) (henv : Dk.Env w w') : ST2 w w' p o T cur v s' False :=
  ⟨⟨cur', v', ⟨hs, he.keep (fun g hg => hk g (fun e => hn (e ▸ hg))), hn⟩, ho, fun g hg => .inl (hv g hg), fun h => h.elim⟩, fun _ _ h0 _ h1 => h0.keep (fun g hg => hk g (fun e => h1 (e ▸ hg))), fun k _ hne _ => hk k hne, Nat.le_of_eq hz.symm, henv⟩
theorem SB.of_heap {w W : World} {p o : Nat} {T : TypeId} {cur : Array Value} {s : Sta} {v : Value} (h : SB w p o T cur s v) (hh : W.heap = w.heap) : SB W p o T cur s v := h.keep (by rw [hh])
theorem cut_any {w : World} {p o f : Nat} {T : TypeId} {cur : Array Value} {s : Sta} {v : Value} (h : SE w p o T cur s v) (hs : s.ok) (hf : s.base < f ∧ f ≤ s.base + s.es.length + 1) :
    Calls Tryz.prog 77 #[.pointer (some ⟨p, o, none⟩), .int .u64 (f : Int)] w fun e w' => e = .returned .nilIface ∧ ST2 w w' p o T cur v ⟨s.term, s.vote, s.base, s.bt, s.es.take (f - s.base - 1)⟩ False := by
  obtain ⟨_, _, s3, _, s5, _⟩ := hs
  obtain ⟨c0, c1, c2, c3, c4, fr⟩ := h.sb.at
  obtain ⟨a, k, rfl, hk, hkm⟩ := h.el.slice
  obtain ⟨m, rfl⟩ : ∃ m, f = s.base + 1 + m := ⟨f - s.base - 1, by omega⟩
  have e1 : s.base + 1 + m - s.base - 1 = m := by omega
  have e2 : ((s.base + 1 + m : Nat) : Int) = (s.base : Int) + 1 + (m : Int) := by omega
  rw [e1, e2]
  refine (cut_mem c2 c4 (fr _) s3 s5 (m := m) (by omega) hk).mono ?_
  rintro e w' ⟨rfl, W, hh, henv, rfl⟩
  have hb := (h.sb.of_heap hh).set4 (.slice a m k) (s.es.take m)
  have hne : ∀ q, q ≠ p → (W.setCell ⟨p, o + 4, none⟩ (.slice a m k)).heap[q]? = w.heap[q]? := fun q hq => (Dk.heap_setCell_ne _ _ hq).trans (by rw [hh])
  have hin : ∀ q, inB (.slice a m k) q → inB (.slice a s.es.length k) q := fun q ⟨o', n', k', e'⟩ => by cases e'; exact ⟨_, _, _, rfl⟩
  exact ⟨rfl, ST2.own hb ((Out.refl o cur).set (by omega) _) (h.el.take m (by omega)) (fun hh => h.apart (hin _ hh)) hin hne (by simp [hh]) (henv.trans ⟨rfl, rfl, rfl⟩)⟩
theorem drop_any {w : World} {p o i t : Nat} {T : TypeId} {cur : Array Value} {s : Sta} {v : Value} (h : SE w p o T cur s v) (hs : s.ok) (hi : s.base ≤ i ∧ i ≤ 4611686018427387904) :
    Calls Tryz.prog 76 #[.pointer (some ⟨p, o, none⟩), .int .u64 (i : Int), .int .u64 (t : Int)] w fun e w' => e = .returned .nilIface ∧ ST2 w w' p o T cur v ⟨s.term, s.vote, i, t, s.es.drop (i - s.base)⟩ False := by
  obtain ⟨_, _, s3, _, s5, _⟩ := hs
  obtain ⟨c0, c1, c2, c3, c4, fr⟩ := h.sb.at
  obtain ⟨d, rfl⟩ : ∃ d, i = s.base + d := ⟨i - s.base, by omega⟩
  have e1 : s.base + d - s.base = d := by omega
  have e2 : ((s.base + d : Nat) : Int) = (s.base : Int) + (d : Int) := by omega
  rw [e1, e2]
  rcases id h.el with ⟨rfl, hes⟩ | ⟨g, off, k, cur2, h1, h2, h3, h4, h5, h6⟩
  · refine (drop_nil c2 c3 c4 fr hi.2 (t := t)).mono ?_
    rintro e w' ⟨rfl, W, hh, henv, rfl⟩
    rw [← e2]
    have hb := (((h.sb.of_heap hh).set2 (s.base + d)).set3 t).set4 (.slice none 0 0) (s.es.drop d)
    have hne : ∀ q, q ≠ p → (((W.setCell ⟨p, o + 2, none⟩ (.int .u64 ((s.base + d : Nat) : Int))).setCell ⟨p, o + 3, none⟩ (.int .u64 (t : Int))).setCell ⟨p, o + 4, none⟩ (.slice none 0 0)).heap[q]? = w.heap[q]? := fun q hq => (Dk.heap_setCell_ne _ _ hq).trans ((Dk.heap_setCell_ne _ _ hq).trans ((Dk.heap_setCell_ne _ _ hq).trans (by rw [hh])))
    exact ⟨rfl, ST2.own hb ((((Out.refl o cur).set (by omega) _).set (by omega) _).set (by omega) _) (.inl ⟨rfl, by simp [hes]⟩) (fun ⟨_, _, _, e'⟩ => by cases e') (fun q ⟨_, _, _, e'⟩ => by cases e') hne (by simp [hh]) (henv.trans ⟨rfl, rfl, rfl⟩)⟩
  · subst h1
    refine (drop_mem c2 c3 c4 fr hi.2 s5 (G := min d s.es.length) rfl h3 (t := t)).mono ?_
    rintro e w' ⟨rfl, W, off', hoff, hh, henv, rfl⟩
    rw [← e2]
    have hb := (((h.sb.of_heap hh).set2 (s.base + d)).set3 t).set4 (.slice (some ⟨g, off', none⟩) (s.es.length - min d s.es.length) (k - min d s.es.length)) (s.es.drop d)
    have hne : ∀ q, q ≠ p → (((W.setCell ⟨p, o + 2, none⟩ (.int .u64 ((s.base + d : Nat) : Int))).setCell ⟨p, o + 3, none⟩ (.int .u64 (t : Int))).setCell ⟨p, o + 4, none⟩ (.slice (some ⟨g, off', none⟩) (s.es.length - min d s.es.length) (k - min d s.es.length))).heap[q]? = w.heap[q]? := fun q hq => (Dk.heap_setCell_ne _ _ hq).trans ((Dk.heap_setCell_ne _ _ hq).trans ((Dk.heap_setCell_ne _ _ hq).trans (by rw [hh])))
    have hin : ∀ q, inB (.slice (some ⟨g, off', none⟩) (s.es.length - min d s.es.length) (k - min d s.es.length)) q → inB (.slice (some ⟨g, off, none⟩) s.es.length k) q := fun q ⟨o', n', k', e'⟩ => by cases e'; exact ⟨_, _, _, rfl⟩
    have hd : s.es.drop d = s.es.drop (min d s.es.length) := by
      rcases Nat.le_total d s.es.length with hle | hle
      · rw [Nat.min_eq_left hle]
      · rw [Nat.min_eq_right hle, List.drop_of_length_le hle, List.drop_of_length_le (Nat.le_refl _)]
    refine ⟨rfl, ST2.own hb ((((Out.refl o cur).set (by omega) _).set (by omega) _).set (by omega) _) ?_ (fun hh => h.apart (hin _ hh)) hin hne (by simp [hh]) (henv.trans ⟨rfl, rfl, rfl⟩)⟩
    dsimp only
    rw [hd]
    exact h.el.drop _ off' (Nat.min_le_right _ _) hoff
end Go.Proofs.YthphadbcebeoaaaGreatDoor
/- The wal's state: what take does with an entry; with any record. -/
namespace Go.Proofs.YthphadbcebeoaaaGreatDoor
open Go.RowKit Go.Lib Go.Maps

set_option maxHeartbeats 12800000 in
set_option maxRecDepth 100000 in
theorem take_ent {w : World} {p o t x : Nat} {g : GE} {T : TypeId} {cur : Array Value} {s : Sta} {v : Value} (h : SE w p o T cur s v) (hn : s.es.length ≤ 1000000) :
    Calls Tryz.prog 58 #[.pointer (some ⟨p, o, none⟩), .agg (Rc.cells ⟨4, t, x, g⟩)] w fun e w' => e = .returned .nilIface ∧ ST2 w w' p o T cur v ⟨s.term, s.vote, s.base, s.bt, s.es ++ [g]⟩ True := by
  unfold Rc.cells
  dsimp only
  obtain ⟨c0, c1, c2, c3, c4, fr⟩ := h.sb.at
  have hpl := h.sb.lt
  have hn1 : ¬ p = w.heap.size := by omega
  have hn2 : ¬ w.heap.size = p := by omega
  have hn3 : ¬ p = w.heap.size + 1 := by omega
  have hn4 : ¬ w.heap.size + 1 = p := by omega
  obtain ⟨a, k, rfl, hk, hkm⟩ := h.el.slice
  obtain ⟨W, hW⟩ : ∃ W, ((w.alloc (.cells #[.int .u8 4, .int .u64 (t : Int), .int .u64 (x : Int), .int .u64 (g.term : Int), .int .i64 g.kind, .int .u64 (g.client : Int), .int .u64 (g.seq : Int), .string g.sql] 84)).alloc (.cells #[.int .u64 (g.term : Int), .int .i64 g.kind, .int .u64 (g.client : Int), .int .u64 (g.seq : Int), .string g.sql] 37)).drew = W := ⟨_, rfl⟩
  have hWb : Below w.heap.size w W := by
    rw [← hW]
    exact below_trans0 (((Below.refl w.heap.size w).alloc (Nat.le_refl _) _).alloc (by simp) _) (drew_below _ 1)
  have hWz : W.heap.size = w.heap.size + 2 := by rw [← hW]; simp
  have hWn : W.heap[w.heap.size + 1]? = some (.cells #[.int .u64 (g.term : Int), .int .i64 g.kind, .int .u64 (g.client : Int), .int .u64 (g.seq : Int), .string g.sql] 37 (0, 0)) := by
    rw [← hW]
    have := heap_alloc_new (w.alloc (.cells #[.int .u8 4, .int .u64 (t : Int), .int .u64 (x : Int), .int .u64 (g.term : Int), .int .i64 g.kind, .int .u64 (g.client : Int), .int .u64 (g.seq : Int), .string g.sql] 84)) (.cells #[.int .u64 (g.term : Int), .int .i64 g.kind, .int .u64 (g.client : Int), .int .u64 (g.seq : Int), .string g.sql] 37)
    rw [World.size_alloc] at this
    exact this
  have HEL : Hid (EL W (.slice a s.es.length k) s.es) := h.el.below hWb
  have HN : Hid (∀ j u, (geC g)[j]? = some u → W.cell? ⟨w.heap.size + 1, 0 + j, none⟩ = some u) := by
    intro j u hj
    rw [Nat.zero_add, (Dk.cellB hWn j).1, ← hj, ← Array.getElem?_toList]
    rfl
  have HA : Hid (∀ v3 w3, AppP W w3 (.slice a s.es.length k) v3 s.es g → ∃ a3 k3, v3 = .slice a3 (s.es.length + 1) k3 ∧ w3.cell? ⟨p, o + 4, none⟩ = some (.slice a s.es.length k) ∧ w3.frozen? ⟨p, o + 4, none⟩ = false ∧ Hid (∀ w4 : World, w4.heap = (w3.setCell ⟨p, o + 4, none⟩ (.slice a3 (s.es.length + 1) k3)).heap → Dk.Env w3 w4 → ST2 w w4 p o T cur (.slice a s.es.length k) ⟨s.term, s.vote, s.base, s.bt, s.es ++ [g]⟩ True)) := by
    intro v3 w3 hA
    obtain ⟨a3, k3, rfl, hk3, _⟩ := hA.now.slice
    rw [List.length_append, List.length_singleton] at *
    have hp3 : w3.heap[p]? = w.heap[p]? := (hA.blk p (by omega) h.apart).trans (hWb.block p hpl)
    have hs3 := h.sb.keep hp3
    have hap : ¬ inB (.slice a3 (s.es.length + 1) k3) p := fun hh => by
      rcases hA.at' p hh with h1 | h1
      · exact h.apart h1
      · omega
    refine ⟨a3, k3, rfl, hs3.at.2.2.2.2.1, hs3.at.2.2.2.2.2 _, fun w4 hw4 henv4 => ?_⟩
    have hne : ∀ q, q ≠ p → w4.heap[q]? = w3.heap[q]? := fun q hq => by rw [hw4]; exact Dk.heap_setCell_ne _ _ hq
    have hz4 : w4.heap.size = w3.heap.size := by rw [hw4]; simp
    refine ⟨⟨_, _, ⟨(hs3.set4 (.slice a3 (s.es.length + 1) k3) (s.es ++ [g])).keep (by rw [hw4]), hA.now.keep (fun q hq => hne q (fun e => hap (e ▸ hq))), hap⟩, (Out.refl o cur).set (by omega) _, fun q hq => (hA.at' q hq).imp id (fun hh => by omega), fun _ v0 es0 h0 hp => (hA.old v0 es0 (h0.below hWb) hp).2⟩, fun v0 es0 h0 hp hnp => (hA.old v0 es0 (h0.below hWb) hp).1.keep (fun q hq => hne q (fun e => hnp (e ▸ hq))), fun q hq hqp hqv => (hne q hqp).trans ((hA.blk q (by omega) hqv).trans (hWb.block q hq)), by have := hA.size; omega, ?_⟩
    exact Dk.Env.trans ⟨hWb.os, hWb.tape, hWb.output⟩ (Dk.Env.trans hA.env henv4)
  have cW : W.cell? ⟨p, o + 4, none⟩ = some (.slice a s.es.length k) := (hWb.cell (p := ⟨p, o + 4, none⟩) hpl).trans c4
  have f4 := fr (o + 4)
  clear h hWb hWn hWz c0 c1 c2 c3 fr hkm
  go_enter Tryz.func58, Tryz.ntmps58
  go_wp2_with fail
  go_region_law (first
    | (refine el_step rfl (.tmp 33) (.tmp 36) rfl (unhide HEL) (by simp [Act.eval]) hn (nb := w.heap.size + 1) (no := 0) (c := 1) (e := g) (by simp [Act.eval]) (unhide HN) ?_; intro v3 w3 hA3; obtain ⟨a3, k3, rfl, x3, f3, FIN⟩ := unhide HA v3 w3 hA3; clear hA3))
  all_goals go_wp2
  all_goals go_ret
  all_goals exact ⟨rfl, unhide FIN _ rfl ⟨rfl, rfl, rfl⟩⟩

/-- What take tells: the state behind the record, or a refusal. -/
def TakeP (w : World) (p o : Nat) (T : TypeId) (cur : Array Value) (v : Value) (r : Rc) (x : Except Nat Sta) (e : Ending) (w' : World) : Prop :=
  match x with
  | .ok s' => e = .returned .nilIface ∧ ST2 w w' p o T cur v s' (r.kind = 4 ∨ r.kind = 1)
  | .error c => RefP (c : Int) w e w'
theorem RefP.pre {c : Int} {w w1 w' : World} {e : Ending} (h : RefP c w1 e w') (hb : Below w.heap.size w w1) : RefP c w e w' := by
  obtain ⟨b, h1, h2, h3, h4⟩ := h
  exact ⟨b, h1, h2, Nat.le_trans hb.size h3, below_trans0 hb h4⟩
theorem take_set {w : World} {p o t x : Nat} {T : TypeId} {cur : Array Value} {s : Sta} {v : Value} (r : Rc) (h : SE w p o T cur s v) (hr : r = ⟨1, t, x, zE⟩) :
    Calls Tryz.prog 75 #[.pointer (some ⟨p, o, none⟩), .int .u64 (t : Int), .int .u64 (x : Int)] w fun e w' => TakeP w p o T cur v r (takeS s r) e w' := by
  subst hr
  unfold takeS
  rw [if_pos rfl]
  by_cases hx : 1001 < x
  · rw [if_pos hx]; exact set_bad hx
  · rw [if_neg hx]
    exact (set_any t x h (by omega)).mono fun e w' ⟨h1, h2⟩ => ⟨h1, h2.weak (fun _ => trivial)⟩
theorem take_drop {w : World} {p o t x : Nat} {T : TypeId} {cur : Array Value} {s : Sta} {v : Value} (r : Rc) (h : SE w p o T cur s v) (hs : s.ok) (hr : r = ⟨2, t, x, zE⟩) :
    Calls Tryz.prog 76 #[.pointer (some ⟨p, o, none⟩), .int .u64 (x : Int), .int .u64 (t : Int)] w fun e w' => TakeP w p o T cur v r (takeS s r) e w' := by
  subst hr
  unfold takeS
  rw [if_neg (by simp), if_pos rfl]
  by_cases hx : x < s.base ∨ 4611686018427387904 < x
  · rw [if_pos hx]; exact drop_bad h.sb.at.2.2.1 hx
  · rw [if_neg hx]
    exact (drop_any h hs (by omega)).mono fun e w' ⟨h1, h2⟩ => ⟨h1, h2.weak (fun hh => by simp at hh)⟩
theorem take_cut {w : World} {p o x : Nat} {T : TypeId} {cur : Array Value} {s : Sta} {v : Value} (r : Rc) (h : SE w p o T cur s v) (hs : s.ok) (hr : r = ⟨3, 0, x, zE⟩) :
    Calls Tryz.prog 77 #[.pointer (some ⟨p, o, none⟩), .int .u64 (x : Int)] w fun e w' => TakeP w p o T cur v r (takeS s r) e w' := by
  subst hr
  unfold takeS
  rw [if_neg (by simp), if_neg (by simp), if_pos rfl]
  by_cases hx : x ≤ s.base ∨ s.base + s.es.length + 1 < x
  · rw [if_pos hx]
    obtain ⟨a, k, rfl, _, _⟩ := h.el.slice
    exact cut_bad h.sb.at.2.2.1 h.sb.at.2.2.2.2.1 hs.2.2.1 hs.2.2.2.2.1 hx
  · rw [if_neg hx]
    exact (cut_any h hs (by omega)).mono fun e w' ⟨h1, h2⟩ => ⟨h1, h2.weak (fun hh => by simp at hh)⟩
theorem box_below (w : World) (o : Obj) : Below w.heap.size w (w.alloc o) := (Below.refl _ _).alloc (Nat.le_refl _) _
theorem TakeP.pre {w w1 w' : World} {p o : Nat} {T : TypeId} {cur : Array Value} {v : Value} {r : Rc} {x : Except Nat Sta} {e : Ending} (h : TakeP w1 p o T cur v r x e w') (hb : Below w.heap.size w w1) : TakeP w p o T cur v r x e w' := by
  cases x with
  | ok s' => exact ⟨h.1, h.2.pre hb⟩
  | error c => exact RefP.pre h hb
/-- What it tells is an error or none. -/
theorem TakeP.ends {w w' : World} {p o : Nat} {T : TypeId} {cur : Array Value} {v : Value} {r : Rc} {x : Except Nat Sta} {e : Ending} (h : TakeP w p o T cur v r x e w') : ∃ u, e = .returned u := by
  cases x with
  | ok s' => exact ⟨_, h.1⟩
  | error c => obtain ⟨b, h1, _⟩ := h; exact ⟨_, h1⟩

set_option maxHeartbeats 6400000 in
set_option maxRecDepth 100000 in
theorem take_any {w : World} {p o : Nat} {T : TypeId} {cur : Array Value} {s : Sta} {v : Value} (r : Rc) (h : SE w p o T cur s v) (hs : s.ok) (hr : r.ok) :
    Calls Tryz.prog 58 #[.pointer (some ⟨p, o, none⟩), .agg r.cells] w fun e w' => TakeP w p o T cur v r (takeS s r) e w' := by
  obtain ⟨k, t, x, g⟩ := r
  obtain ⟨h1, h2, h3, h4, h5, h6, h7, h8⟩ := hr
  dsimp only at h1 h2 h3 h4 h5 h6 h7 h8
  by_cases e4 : k = 4
  · subst e4
    obtain ⟨hm, rfl, rfl⟩ := h6 rfl
    refine (take_ent h hs.2.2.2.2.1).mono fun e w' ⟨q1, q2⟩ => ?_
    have : takeS s ⟨4, 0, 0, g⟩ = .ok ⟨s.term, s.vote, s.base, s.bt, s.es ++ [g]⟩ := rfl
    rw [this]
    exact ⟨q1, q2.weak (fun _ => trivial)⟩
  · obtain rfl := h8 e4
    generalize hB : box_below w (.cells (Rc.cells ⟨k, t, x, zE⟩) 84) = B0
    clear hB
    have HB := hide B0
    have H0 := hide (h.below B0)
    unfold Rc.cells at *
    dsimp only [zE] at *
    clear B0
    by_cases e3 : k = 3
    · subst e3
      obtain rfl := h7 rfl
      have HC := hide (take_cut ⟨3, 0, x, zE⟩ (unhide H0) hs rfl)
      clear H0 h hs h6 h8 e4
      go_enter Tryz.func58, Tryz.ntmps58
      go_wp2_with (first
        | (go_at_call 77; refine (unhide HC).mono ?_; intro e w1 h1; obtain ⟨u, rfl⟩ := h1.ends; have H1 := hide (h1.pre (unhide HB)); clear h1 HC))
      go_ret
      exact unhide H1
    · by_cases e2 : k = 2
      · subst e2
        have HC := hide (take_drop ⟨2, t, x, zE⟩ (unhide H0) hs rfl)
        clear H0 h hs h6 h8 e4
        go_enter Tryz.func58, Tryz.ntmps58
        go_wp2_with (first
          | (go_at_call 76; refine (unhide HC).mono ?_; intro e w1 h1; obtain ⟨u, rfl⟩ := h1.ends; have H1 := hide (h1.pre (unhide HB)); clear h1 HC))
        go_ret
        exact unhide H1
      · obtain rfl : k = 1 := by omega
        have HC := hide (take_set ⟨1, t, x, zE⟩ (unhide H0) rfl)
        clear H0 h hs h6 h8 e4
        go_enter Tryz.func58, Tryz.ntmps58
        go_wp2_with (first
          | (go_at_call 75; refine (unhide HC).mono ?_; intro e w1 h1; obtain ⟨u, rfl⟩ := h1.ends; have H1 := hide (h1.pre (unhide HB)); clear h1 HC))
        go_ret
        exact unhide H1
end Go.Proofs.YthphadbcebeoaaaGreatDoor
