/- A region that draws its order, taken by hand: a read's value goes to its slot. -/
import Derived.Test.YthphadbcebeoaaaGreatDoorJPlainDecDDef
import Derived.Deep.RegionHeld3
import Derived.Test.YthphadbcebeoaaaGreatDoorWaDef
import Derived.Test.YthphadbcebeoaaaGreatDoorJDAs2DBeginDBegin2DUsed
import Derived.Test.YthphadbcebeoaaaGreatDoorJBurstWaMath
import Derived.RegionTactic
import Derived.ChangeAlike
import Derived.Test.YthphadbcebeoaaaGreatDoorJVals3Rows2PutRowListOfKnownLenMathLawLengths
import Derived.Test.YthphadbcebeoaaaGreatDoorJCrcMathFrameRef2Ref3DrawRefEnt
namespace Go.Proofs.YthphadbcebeoaaaGreatDoor
open Go.RowKit Go.Lib

/-- Take number i first: its value goes to slot d. -/
theorem hand_to {P : Program} {ops : Array Oper} {Q : Exit → Act → World → Prop} {md : Region.Mode} {S : World → Prop} {i d : Nat} {oi : Oper} {v : Value} {fuel : Nat} {listed : Array Bool} {a : Act} {w : World} (hi : ops[i]? = some oi) (hd : oi.dst = some d)
    (hs : Region.noSelect ops = true) (hf : Region.free md ops listed i = true) (hr : (Region.ready md ops listed).contains i = true)
    (hQ : ∀ c a w, Q (.panic c) (a.put (some d) v) w → Q (.panic c) a w) (hy : YieldsIf P ops S oi v a) (hS : S w)
    (h : wpAnyH P md ops Q S fuel (listed.setIfInBounds i true) (a.put (some d) v) w) : wpAnyH P md ops Q S (fuel + 1) listed a w := by
  rw [← hd] at hQ h
  exact wpAnyH_take hi hs hf hr hQ hy hS h
end Go.Proofs.YthphadbcebeoaaaGreatDoor
/- The wal's state in memory: set, drop, cut. -/
namespace Go.Proofs.YthphadbcebeoaaaGreatDoor
open Go.RowKit Go.Lib Go.Maps

/-- A state's five cells, from cell o of block p on. -/
structure SB (w : World) (p o : Nat) (T : TypeId) (cur : Array Value) (s : Sta) (v : Value) : Prop where
  blk : w.heap[p]? = some (.cells cur T (0, 0))
  c0 : cur[o]? = some (.int .u64 (s.term : Int))
  c1 : cur[o + 1]? = some (.int .u64 (s.vote : Int))
  c2 : cur[o + 2]? = some (.int .u64 (s.base : Int))
  c3 : cur[o + 3]? = some (.int .u64 (s.bt : Int))
  c4 : cur[o + 4]? = some v
theorem SB.at {w : World} {p o : Nat} {T : TypeId} {cur : Array Value} {s : Sta} {v : Value} (h : SB w p o T cur s v) :
    w.cell? ⟨p, o, none⟩ = some (.int .u64 (s.term : Int)) ∧ w.cell? ⟨p, o + 1, none⟩ = some (.int .u64 (s.vote : Int)) ∧ w.cell? ⟨p, o + 2, none⟩ = some (.int .u64 (s.base : Int)) ∧ w.cell? ⟨p, o + 3, none⟩ = some (.int .u64 (s.bt : Int)) ∧ w.cell? ⟨p, o + 4, none⟩ = some v ∧ ∀ i, w.frozen? ⟨p, i, none⟩ = false :=
  ⟨(Dk.cellB h.blk _).1.trans h.c0, (Dk.cellB h.blk _).1.trans h.c1, (Dk.cellB h.blk _).1.trans h.c2, (Dk.cellB h.blk _).1.trans h.c3, (Dk.cellB h.blk _).1.trans h.c4, fun i => (Dk.cellB h.blk i).2⟩
/-- The cells outside a state stay. -/
def Out (o : Nat) (cur cur' : Array Value) : Prop := cur'.size = cur.size ∧ ∀ j, (j < o ∨ o + 5 ≤ j) → cur'[j]? = cur[j]?
theorem Out.refl (o : Nat) (cur : Array Value) : Out o cur cur := ⟨rfl, fun _ _ => rfl⟩
theorem Out.trans {o : Nat} {a b c : Array Value} (h : Out o a b) (h' : Out o b c) : Out o a c := ⟨h'.1.trans h.1, fun j hj => (h'.2 j hj).trans (h.2 j hj)⟩
theorem Out.set {o i : Nat} {a b : Array Value} (h : Out o a b) (hi : o ≤ i ∧ i < o + 5) (u : Value) : Out o a (b.setIfInBounds i u) :=
  ⟨by simpa using h.1, fun j hj => by rw [Array.getElem?_setIfInBounds, if_neg (by omega)]; exact h.2 j hj⟩
theorem getD_lt {cur : Array Value} {i : Nat} {u : Value} (h : cur[i]? = some u) : i < cur.size := (Array.getElem?_eq_some_iff.1 h).1
theorem set_eq {cur : Array Value} {i : Nat} (u : Value) (h : i < cur.size) : (cur.setIfInBounds i u)[i]? = some u := by simp [h]
theorem set_ne {cur : Array Value} {i j : Nat} (u : Value) (h : i ≠ j) : (cur.setIfInBounds i u)[j]? = cur[j]? := by rw [Array.getElem?_setIfInBounds, if_neg h]
theorem SB.set0 {w : World} {p o : Nat} {T : TypeId} {cur : Array Value} {s : Sta} {v : Value} (h : SB w p o T cur s v) (t : Nat) : SB (w.setCell ⟨p, o, none⟩ (.int .u64 (t : Int))) p o T (cur.setIfInBounds o (.int .u64 (t : Int))) ⟨t, s.vote, s.base, s.bt, s.es⟩ v :=
  ⟨Dk.heap_setCell_at h.blk _ _, set_eq _ (getD_lt h.c0), (set_ne _ (by omega)).trans h.c1, (set_ne _ (by omega)).trans h.c2, (set_ne _ (by omega)).trans h.c3, (set_ne _ (by omega)).trans h.c4⟩
theorem SB.set1 {w : World} {p o : Nat} {T : TypeId} {cur : Array Value} {s : Sta} {v : Value} (h : SB w p o T cur s v) (t : Nat) : SB (w.setCell ⟨p, o + 1, none⟩ (.int .u64 (t : Int))) p o T (cur.setIfInBounds (o + 1) (.int .u64 (t : Int))) ⟨s.term, t, s.base, s.bt, s.es⟩ v :=
  ⟨Dk.heap_setCell_at h.blk _ _, (set_ne _ (by omega)).trans h.c0, set_eq _ (getD_lt h.c1), (set_ne _ (by omega)).trans h.c2, (set_ne _ (by omega)).trans h.c3, (set_ne _ (by omega)).trans h.c4⟩
theorem SB.set2 {w : World} {p o : Nat} {T : TypeId} {cur : Array Value} {s : Sta} {v : Value} (h : SB w p o T cur s v) (t : Nat) : SB (w.setCell ⟨p, o + 2, none⟩ (.int .u64 (t : Int))) p o T (cur.setIfInBounds (o + 2) (.int .u64 (t : Int))) ⟨s.term, s.vote, t, s.bt, s.es⟩ v :=
  ⟨Dk.heap_setCell_at h.blk _ _, (set_ne _ (by omega)).trans h.c0, (set_ne _ (by omega)).trans h.c1, set_eq _ (getD_lt h.c2), (set_ne _ (by omega)).trans h.c3, (set_ne _ (by omega)).trans h.c4⟩
theorem SB.set3 {w : World} {p o : Nat} {T : TypeId} {cur : Array Value} {s : Sta} {v : Value} (h : SB w p o T cur s v) (t : Nat) : SB (w.setCell ⟨p, o + 3, none⟩ (.int .u64 (t : Int))) p o T (cur.setIfInBounds (o + 3) (.int .u64 (t : Int))) ⟨s.term, s.vote, s.base, t, s.es⟩ v :=
  ⟨Dk.heap_setCell_at h.blk _ _, (set_ne _ (by omega)).trans h.c0, (set_ne _ (by omega)).trans h.c1, (set_ne _ (by omega)).trans h.c2, set_eq _ (getD_lt h.c3), (set_ne _ (by omega)).trans h.c4⟩
theorem SB.set4 {w : World} {p o : Nat} {T : TypeId} {cur : Array Value} {s : Sta} {v : Value} (h : SB w p o T cur s v) (v' : Value) (es : List GE) : SB (w.setCell ⟨p, o + 4, none⟩ v') p o T (cur.setIfInBounds (o + 4) v') ⟨s.term, s.vote, s.base, s.bt, es⟩ v' :=
  ⟨Dk.heap_setCell_at h.blk _ _, (set_ne _ (by omega)).trans h.c0, (set_ne _ (by omega)).trans h.c1, (set_ne _ (by omega)).trans h.c2, (set_ne _ (by omega)).trans h.c3, set_eq _ (getD_lt h.c4)⟩
theorem SB.keep {w w' : World} {p o : Nat} {T : TypeId} {cur : Array Value} {s : Sta} {v : Value} (h : SB w p o T cur s v) (hk : w'.heap[p]? = w.heap[p]?) : SB w' p o T cur s v := ⟨hk.trans h.blk, h.c0, h.c1, h.c2, h.c3, h.c4⟩
theorem SB.lt {w : World} {p o : Nat} {T : TypeId} {cur : Array Value} {s : Sta} {v : Value} (h : SB w p o T cur s v) : p < w.heap.size := (Array.getElem?_eq_some_iff.1 h.blk).1
/-- The state's variable and its entries; they lie apart. -/
structure SE (w : World) (p o : Nat) (T : TypeId) (cur : Array Value) (s : Sta) (v : Value) : Prop where
  sb : SB w p o T cur s v
  el : EL w v s.es
  apart : ¬ inB v p
/-- What a change of the state at p leaves: all other blocks but the entries' (and there what other first parts have). -/
structure ST2 (w w' : World) (p o : Nat) (T : TypeId) (cur : Array Value) (v : Value) (s' : Sta) (grow : Prop) : Prop where
  now : ∃ cur' v', SE w' p o T cur' s' v' ∧ Out o cur cur' ∧ (∀ g, inB v' g → inB v g ∨ w.heap.size ≤ g) ∧ (grow → ∀ v0 es0, EL w v0 es0 → Pre v0 v → Pre v0 v')
  old : ∀ v0 es0, EL w v0 es0 → Pre v0 v → ¬ inB v0 p → EL w' v0 es0
  blk : ∀ k, k < w.heap.size → k ≠ p → ¬ inB v k → w'.heap[k]? = w.heap[k]?
  size : w.heap.size ≤ w'.heap.size
  env : Dk.Env w w'
theorem evW_ne (b : Nat) : Dk.evW b ≠ .nilIface := by intro h; cases h

set_option maxHeartbeats 1600000 in
theorem refusal_any (s : ByteArray) (c : Int) (w : World) : Calls Tryz.prog 95 #[.string s, .int .i64 c] w fun e w' => e = .returned (Dk.evW w.heap.size) ∧ Dk.ErrW w' w.heap.size c ∧ Below w.heap.size w w' := by
  go_enter Tryz.func95, Tryz.ntmps95
  go_wp2
  go_ret
  refine ⟨rfl, ?_, (Below.refl _ _).alloc (Nat.le_refl _) _⟩
  simp [Dk.ErrW]
set_option maxHeartbeats 1600000 in
set_option maxRecDepth 100000 in
theorem set_any {w : World} {p o : Nat} {T : TypeId} {cur : Array Value} {s : Sta} {v : Value} (t x : Nat) (h : SE w p o T cur s v) (hx : x ≤ 1001) :
    Calls Tryz.prog 75 #[.pointer (some ⟨p, o, none⟩), .int .u64 (t : Int), .int .u64 (x : Int)] w fun e w' => e = .returned .nilIface ∧ ST2 w w' p o T cur v ⟨t, x, s.base, s.bt, s.es⟩ True := by
  obtain ⟨c0, c1, c2, c3, c4, fr⟩ := h.sb.at
  have f0 := fr o
  have f1 := fr (o + 1)
  have hx' : ¬ ((1001 : Int) < (x : Int)) := by omega
  have H := hide h
  clear h fr c2 c3 c4 hx
  go_enter Tryz.func75, Tryz.ntmps75
  go_wp2
  go_ret
  have h := unhide H
  have hh : ∀ k, k ≠ p → ((w.setCell ⟨p, o, none⟩ (.int .u64 (t : Int))).setCell ⟨p, o + 1, none⟩ (.int .u64 (x : Int))).heap[k]? = w.heap[k]? := fun k hk => (Dk.heap_setCell_ne _ _ hk).trans (Dk.heap_setCell_ne _ _ hk)
  refine ⟨rfl, ⟨⟨_, v, ⟨(h.sb.set0 t).set1 x, h.el.keep (fun g hg => hh g (fun e => h.apart (e ▸ hg))), h.apart⟩, ((Out.refl o cur).set (by omega) _).set (by omega) _, fun g hg => .inl hg, fun _ _ _ _ hp => hp⟩, fun v0 es0 h0 _ hn => h0.keep (fun g hg => hh g (fun e => hn (e ▸ hg))), fun k hk hne _ => hh k hne, by simp, rfl, rfl, rfl⟩⟩
end Go.Proofs.YthphadbcebeoaaaGreatDoor
/- The walk of the statement WireFrames: it answers true; nothing old turns. -/
namespace Go.Proofs.YthphadbcebeoaaaGreatDoor
open Go.RowKit Go.Lib

set_option maxHeartbeats 3200000 in
set_option maxRecDepth 100000 in
theorem unframe_fine (b off cap len n : Nat) (w : World) (hl4 : 4 ≤ len) (hl : len ≤ 1000000000000) (hn : n < 4294967296)
    (HW : Hid (Calls Tryz.prog 91 #[.slice (some ⟨b, off, none⟩) len cap] w fun e w' => e = .returned (.int .u32 (n : Int)) ∧ ∃ m, w' = w.drewN m)) (en e8 : Nat) (hen : en = 4 + n) (he8 : e8 = en + 4) (hg : n ≤ 262144)
    (hcap : len ≤ cap) (_hm : cap ≤ 9223372036854775807) (hc : e8 ≤ len) (c1 c2 : Nat) (HS : Hid (∀ W, Below w.heap.size w W → Calls Tryz.prog 92 #[.slice (some ⟨b, off, none⟩) en cap] W fun e w' => e = .returned (.int .u32 (c1 : Int)) ∧ w' = W))
    (HW2 : Hid (∀ W, Below w.heap.size w W → Calls Tryz.prog 91 #[.slice (some ⟨b, off + en, none⟩) (len - en) (cap - en)] W fun e w' => e = .returned (.int .u32 (c2 : Int)) ∧ ∃ m, w' = W.drewN m)) (hx : c1 = c2) (lm : List UInt8)
    (HC : Hid (∀ W, Below w.heap.size w W → Calls Tryz.prog 50 #[.slice (some ⟨b, off + 4, none⟩) (en - 4) (cap - 4)] W fun e w' => ∃ v', e = .returned v' ∧ RBp w' w'.heap.size v' lm ∧ Below W.heap.size W w')) :
    Calls Tryz.prog 73 #[.slice (some ⟨b, off, none⟩) len cap] w fun e w' => ∃ p, e = .returned (.tuple #[p, .int .i64 (e8 : Int), .nilIface]) ∧ RBp w' w'.heap.size p lm ∧ Below w.heap.size w w' := by
  have hl' : ¬ ((len : Int) < 4) := by omega
  have hg' : ¬ ((262144 : Int) < (n : Int)) := by omega
  have hA : (4 : Int) + (n : Int) = (en : Int) := by omega
  have hA8 : (en : Int) + 4 = (e8 : Int) := by omega
  have hc' : ¬ ((len : Int) < (e8 : Int)) := by omega
  have hb8 : e8 ≤ 1000000 := by omega
  have hben : en ≤ 1000000 := by omega
  have hlen : en ≤ len := by omega
  have hce : cap ≠ en := by omega
  have hce4 : cap ≠ 4 := by omega
  have h4n : 4 ≤ en := by omega
  have hcen : en ≤ cap := by omega
  subst hx
  clear hen he8
  go_enter Tryz.func73, Tryz.ntmps73
  go_wp2_with (first | (go_at_call 91; refine (unhide HW).mono ?_; rintro e w1 ⟨rfl, m1, hw1⟩; have hb1 : Below w.heap.size w w1 := (by rw [hw1]; exact drew_below w m1); clear HW hw1))
  go_quiet (first
    | (go_at_call 92; refine Calls.quiet_of_same (unhide HS _ (bt hb1 (drew_below w1 _))))
    | (go_at_call 91; refine Calls.quiet_of (unhide HW2 _ (bt hb1 (drew_below w1 _)))))
  go_wp2_with (first | (go_at_call 50; refine (unhide HC _ (bt hb1 (drew_below w1 _))).mono ?_; rintro e w3 ⟨v3, rfl, hv3, hb3⟩))
  go_ret3
  exact ⟨_, rfl, hv3, bt (bt hb1 (drew_below w1 _)) hb3⟩
theorem unframe_good (v : Value) (l lm : List UInt8) (k : Nat) (w : World) (hT : ST w) (hl3 : l.length ≤ 1000000) (hv : RBp w w.heap.size v l) (hu : unfr l = (lm, k, 0)) :
    Calls Tryz.prog 73 #[v] w fun e w' => ∃ p, e = .returned (.tuple #[p, .int .i64 (k : Int), .nilIface]) ∧ RBp w' w'.heap.size p lm ∧ Below w.heap.size w w' := by
  have hrow := hv
  obtain ⟨ad, kk, rfl⟩ := rb_len hv
  by_cases h4 : l.length < 4
  · simp [unfr, h4] at hu
  obtain ⟨hlen, ⟨hn, hn2⟩ | ⟨b, off, cap, hbB, hcap, hm, hveq, hcell⟩⟩ := hv
  · rw [hn2] at h4; simp at h4
  injection hveq with e1 e2 e3
  subst e1 e3
  have hn := wdOf_lt l
  have HW := hide (word_is (cap := kk) hbB (Below.refl _ _) (by omega) hlen rfl hcell)
  by_cases hg : 262144 < wdOf l
  · simp [unfr, h4, hg] at hu
  by_cases hc : l.length < wdOf l + 8
  · simp [unfr, h4, hg, hc] at hu
  have HS : Hid (∀ W, Below w.heap.size w W → Calls Tryz.prog 92 #[.slice (some ⟨b, off, none⟩) (4 + wdOf l) kk] W fun e w' => e = .returned (.int .u32 ((crc (l.take (4 + wdOf l)) : Nat) : Int)) ∧ w' = W) :=
    hide fun W hW => sum_any _ _ _ W (rb_first (rb_later hrow hW (Nat.le_refl _)) (by omega)) (hT.later hW)
  have hd : (l.drop (4 + wdOf l)).length = l.length - (4 + wdOf l) := by simp
  have HW2 : Hid (∀ W, Below w.heap.size w W → Calls Tryz.prog 91 #[.slice (some ⟨b, off + (4 + wdOf l), none⟩) (l.length - (4 + wdOf l)) (kk - (4 + wdOf l))] W fun e w' => e = .returned (.int .u32 ((wdOf (l.drop (4 + wdOf l)) : Nat) : Int)) ∧ ∃ m, w' = W.drewN m) :=
    hide fun W hW => word_is hbB hW (by omega) (by omega) hd (fun i hi => by
      have := hcell (4 + wdOf l + i) (by rw [hd] at hi; omega)
      rw [Nat.add_assoc, this]
      simp [List.getD_eq_getElem?_getD, List.getElem?_drop])
  have em : wdOf l + 4 = 4 + wdOf l := by omega
  by_cases hx : crc (l.take (4 + wdOf l)) = wdOf (l.drop (4 + wdOf l))
  · have e : unfr l = ((l.drop 4).take (wdOf l), 4 + wdOf l + 4, 0) := by simp [unfr, h4, hg, hc, em, hx]
    rw [e] at hu
    simp only [Prod.mk.injEq] at hu
    obtain ⟨rfl, rfl, _⟩ := hu
    have hmid := rb_mid (a := 4) (n := wdOf l) hbB (by omega) hcap hm hlen hcell
    exact unframe_fine b off kk l.length (wdOf l) w (by omega) hlen hn HW _ _ rfl rfl (by omega) hcap hm (by omega) _ _ HS HW2 hx _ (hide fun W hW => clone_any _ _ _ _ W (by simp; omega) (rb_later hmid hW hW.size))
  · simp [unfr, h4, hg, hc, em, hx] at hu

theorem xor8 (a b : Nat) (ha : a < 256) (hb : b < 256) : bits BinOp.xor IntKind.u8 (a : Int) (b : Int) = ((a ^^^ b : Nat) : Int) := by
  have hx : a ^^^ b < 2 ^ 8 := Nat.xor_lt_two_pow (by omega) (by omega)
  have h1 : (BitVec.ofInt 8 (a : Int)).toNat = a := by
    rw [BitVec.ofInt_natCast, BitVec.toNat_ofNat]; exact Nat.mod_eq_of_lt (by omega)
  have h2 : (BitVec.ofInt 8 (b : Int)).toNat = b := by
    rw [BitVec.ofInt_natCast, BitVec.toNat_ofNat]; exact Nat.mod_eq_of_lt (by omega)
  show IntKind.u8.wrap ((BitVec.ofInt 8 (a : Int) ^^^ BitVec.ofInt 8 (b : Int)).toNat : Int) = _
  rw [BitVec.toNat_xor, h1, h2, IntKind.wrap_u8]
  omega
theorem more_ne (x k : Nat) : (true = true ↔ x + 2 ^ k ≠ 0) := by
  have := Nat.two_pow_pos k
  constructor
  · intro _; omega
  · intro _; rfl
theorem more_lt {x k : Nat} (h : x < 2 ^ k) : x + 2 ^ k < 2 ^ (k + 1) := by rw [Nat.pow_succ]; omega
theorem more_bound {x k a n : Nat} (h : x < 2 ^ k) (ha : a + k < 8 * (n + 4)) : (x + 2 ^ k) * 2 ^ a < 2 ^ (8 * (n + 4)) := by
  have h1 := Nat.mul_lt_mul_of_pos_right (more_lt h) (Nat.two_pow_pos a)
  rw [← Nat.pow_add] at h1
  exact Nat.lt_of_lt_of_le h1 (Nat.pow_le_pow_right (by decide) (by omega))
theorem more_xor {x k m : Nat} (h : x < 2 ^ k) : (x + 2 ^ k) * 2 ^ m = (x * 2 ^ m) ^^^ 2 ^ (m + k) := by
  have h1 := Nat.mul_lt_mul_of_pos_right h (Nat.two_pow_pos m)
  rw [← Nat.pow_add, Nat.add_comm k m] at h1
  have h2 := or_xor (q := 1) h1
  rw [Nat.mul_one] at h2
  rw [Nat.xor_comm, h2, Nat.add_mul, ← Nat.pow_add, Nat.add_comm k m, Nat.add_comm]
theorem more_get (f : List UInt8) (x k a i j r q : Nat) (c z : UInt8) (h : x < 2 ^ k) (hi : i = 32 + a + k) (hj : j = i / 8) (hr : r = i % 8) (hq : q = 2 ^ r) (hc : c = (xorBytes f (x * 2 ^ (32 + a))).getD j 0) (hz : z = c ^^^ q.toUInt8) :
    ∀ n, n < (xorBytes f (x * 2 ^ (32 + a))).length → (xorBytes f ((x + 2 ^ k) * 2 ^ (32 + a))).getD n 0 = if n = j then z else (xorBytes f (x * 2 ^ (32 + a))).getD n 0 := by
  intro n hn
  rw [xorBytes_length] at hn
  rw [more_xor h, ← hi, xor_more f _ i n hn, ← hj]
  by_cases e : n = j
  · rw [if_pos e, if_pos e, hz, hc, hq, hr, e]
  · rw [if_neg e, if_neg e]
/-- A row of bytes of a call's own, as it stands. -/
def GS (w : World) (base gb : Nat) (l : List UInt8) : Prop :=
  gb < w.heap.size ∧ base ≤ gb ∧ ∀ i, i < l.length → w.cell? ⟨gb, i, none⟩ = some (.int .u8 ((l.getD i 0).toNat : Int)) ∧ w.frozen? ⟨gb, i, none⟩ = false
theorem own_gs {w : World} {base : Nat} {v : Value} {n : Nat} {xs : List Value} {l : List UInt8} (h : w.ownsRow base 5 1 v n xs) (hn : n = l.length) (hxs : xs = byteCells l) (hl : 0 < l.length) :
    ∃ gb cap, v = .slice (some ⟨gb, 0, none⟩) l.length cap ∧ l.length ≤ cap ∧ cap ≤ maxLen ∧ GS w base gb l := by
  subst hn hxs
  obtain ⟨h1, ⟨rfl, h2⟩ | ⟨g, cap, cur, rfl, h4, h5, h6, h7, h8, h9⟩⟩ := h
  · omega
  · refine ⟨g, cap, rfl, h6, h7, ?_, h4, fun i hi => ?_⟩
    · rcases Nat.lt_or_ge g w.heap.size with h' | h'
      · exact h'
      · rw [Array.getElem?_eq_none h'] at h5; cases h5
    · have e1 : (byteCells l)[i]? = some (.int .u8 ((l.getD i 0).toNat : Int)) := by simp [byteCells, hi]
      rw [← h9, Nat.mul_one, List.getElem?_take, if_pos hi, Array.getElem?_toList] at e1
      refine ⟨by simp [World.cell?, h5, e1], ?_⟩
      simp [World.frozen?, h5]
theorem GS.rb {w : World} {base gb cap : Nat} {l : List UInt8} (h : GS w base gb l) (h1 : l.length ≤ cap) (h2 : cap ≤ maxLen) (h3 : l.length ≤ 1000000000000) : RBp w w.heap.size (.slice (some ⟨gb, 0, none⟩) l.length cap) l :=
  ⟨h3, .inr ⟨gb, 0, cap, h.1, h1, h2, rfl, fun i hi => by simpa using (h.2.2 i hi).1⟩⟩
theorem GS.drew {w : World} {base gb : Nat} {l : List UInt8} (h : GS w base gb l) : GS w.drew base gb l := h
theorem GS.set {w : World} {base gb j : Nat} {l l' : List UInt8} {c : UInt8} (h : GS w base gb l) (hl : l'.length = l.length) (hg : ∀ i, i < l.length → l'.getD i 0 = if i = j then c else l.getD i 0) : GS (w.setCell ⟨gb, j, none⟩ (.int .u8 (c.toNat : Int))) base gb l' := by
  refine ⟨by simpa using h.1, h.2.1, fun i hi => ?_⟩
  rw [hl] at hi
  obtain ⟨k1, k2⟩ := h.2.2 i hi
  rw [hg i hi]
  refine ⟨?_, by simpa using k2⟩
  by_cases e : i = j
  · subst e
    rw [if_pos rfl]
    exact World.cell?_setCell_same _ _ _ k1
  · rw [if_neg e, World.cell?_setCell_other _ _ _ _ (ne_off (by omega))]
    exact k1

end Go.Proofs.YthphadbcebeoaaaGreatDoor
/- Snapshots as bytes: what package snap packs; what is read of it. -/
namespace Go.Proofs.YthphadbcebeoaaaGreatDoor
open Go.RowKit Go.Lib

/-- A snapshot's bytes, ahead of their frame. -/
def snB (i t : Nat) (l : List UInt8) : List UInt8 := uvarint i ++ uvarint t ++ l
/-- A variable of three cells. -/
def Sn3 (w : World) (p : Nat) (a b c : Value) : Prop := w.cell? ⟨p, 0, none⟩ = some a ∧ w.cell? ⟨p, 1, none⟩ = some b ∧ w.cell? ⟨p, 2, none⟩ = some c
theorem Sn3.lt {w : World} {p : Nat} {a b c : Value} (h : Sn3 w p a b c) : p < w.heap.size := lt_of_cell h.1
theorem Sn3.below {w w' : World} {p B : Nat} {a b c : Value} (h : Sn3 w p a b c) (hb : Below B w w') (hB : p < B) : Sn3 w' p a b c :=
  ⟨(hb.cell (p := ⟨p, 0, none⟩) hB).trans h.1, (hb.cell (p := ⟨p, 1, none⟩) hB).trans h.2.1, (hb.cell (p := ⟨p, 2, none⟩) hB).trans h.2.2⟩
theorem Sn3.later {w w' : World} {p : Nat} {a b c : Value} (h : Sn3 w p a b c) (hb : Below w.heap.size w w') : Sn3 w' p a b c := h.below hb h.lt
theorem Sn3.new (w : World) (a b c : Value) (T : TypeId) : Sn3 (w.alloc (.cells #[a, b, c] T)) w.heap.size a b c := by
  refine ⟨?_, ?_, ?_⟩ <;> simp
theorem below_trans0 {w a b : World} (h : Below w.heap.size w a) (hb : Below a.heap.size a b) : Below w.heap.size w b := h.trans (hb.mono h.size)
theorem own_cast2 {w : World} {B : Nat} {e : TypeId} {sz : Nat} {v : Value} {n n' : Nat} {xs ys : List Value} (h : w.ownsRow B e sz v n xs) (hn : n = n') (hx : xs = ys) : w.ownsRow B e sz v n' ys := by
  subst hn; subst hx; exact h

set_option maxHeartbeats 3200000 in
/-- Frame: a row of its own. -/
theorem frame_own (v : Value) (l : List UInt8) (w : World) (hv : RBp w w.heap.size v l) (hl : l.length ≤ 262144) (hT : ST w) :
    Calls Tryz.prog 80 #[v] w fun e w' => ∃ v', e = .returned (.tuple #[v', .nilIface]) ∧ w'.ownsRow w.heap.size 5 1 v' (frameBytes l).length (byteCells (frameBytes l)) ∧ Below w.heap.size w w' := by
  obtain ⟨i0, hi, hz0, hz1, hz2⟩ := info_parts Tryz.infoB
  have hl' : ¬ ((262144 : Int) < (l.length : Int)) := by omega
  have hfl : (frameBytes l).length = 0 + 4 + l.length + 4 := by simp [frameBytes, word4_length]; omega
  obtain ⟨ad, kk, rfl⟩ := rb_len hv
  have HV := hide hv
  have HT := hide hT
  have hcl := crc_lt (word4 l.length ++ l)
  have HF := hide hfl
  clear hv hT hfl
  go_enter Tryz.func80, Tryz.ntmps80
  go_wp2_with (first
    | (at_make; refine wpList_make_own _ rfl _ _ 22 rfl w.heap.size 5 i0 (.int .u8 0) 1 Tryz.underlying22 hi hz0 hz1 _ _ _ (l.length + 8) rfl rfl (by omega) (by rw [hz2]; omega) (by unfold maxLen; omega) (Nat.le_refl _) ?_; intro w1 ho1 hg1; have hb1 := (Below.refl w.heap.size w).grown hg1 (Nat.le_refl _) (by intro k h; cases h); have z1 := hb1.size; clear hg1)
    | (go_at_call 100; refine (appendWord_any w.heap.size 0 l.length _ [] _ (by omega) (by omega) z1 ho1).mono ?_; rintro e w2 ⟨v2, rfl, ho2, hb2⟩; have c2 := hb1.trans hb2; have z2 := c2.size; clear ho1)
    | (at_builtin; refine wpList_append_rb rfl (.tmp 18) (.tmp 19) rfl w.heap.size _ _ _ rfl ho2 _ _ l rfl (rb_later (unhide HV) c2 (Nat.le_refl _)) (by omega) (by omega) z2 ?_; intro v3 w3 ho3 _ hb3; have c3 := c2.trans hb3; have z3 := c3.size; clear ho2)
    | (go_at_call 92; refine (sum_any _ _ (word4 l.length ++ l) _ (own_rb3 ho3 (by simp [word4_length]) (by simp [byteCells_append]) (by simp [word4_length]; omega)) ((unhide HT).below c3 (unhide HT).lt)).mono ?_; rintro e w3 ⟨rfl, rfl⟩)
    | (go_at_call 100; refine (appendWord_any w.heap.size _ (crc (word4 l.length ++ l)) _ _ _ hcl (by omega) z3 ho3).mono ?_; rintro e w4 ⟨v4, rfl, ho4, hb4⟩; have c4 := c3.trans hb4; clear ho3))
  go_ret2
  have e1 := unhide HF
  exact ⟨_, rfl, own_cast2 ho4 e1.symm (by simp [frameBytes, byteCells_append]), c4⟩

end Go.Proofs.YthphadbcebeoaaaGreatDoor
