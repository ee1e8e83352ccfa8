/- Both disks beside one another. -/
import Derived.Test.YthebgoadeecmpaaDoorJQListQHelp
import Derived.Test.YthebgoadeecmpaaDoorDAbs2
import Derived.Test.YthebgoadeecmpaaDoorDKnown
namespace Go.Proofs.YthebgoadeecmpaaDoor
open Go.RowKit Go.Lib Go.Maps Go.WideMaps

/-- Both disks, alike, apart from one another and from what came in. -/
structure Two (w wr : World) (p r n : Nat) (S : St) (R : RSt) (F : List Ent) (vf : Value) (G : List Ent) (O Q : Nat → Prop) : Prop where
  dx : DX wr p S F O
  rx : RX wr r R vf G Q
  al : Alike S R
  gf : G.map er = F
  ok : ∀ e ∈ F, okN e.name = true
  oB : ∀ k, O k → w.heap.size ≤ k
  qB : ∀ k, Q k → w.heap.size ≤ k
  oq : ∀ k, O k → ¬ Q k
  fr : FrB w.heap.size w wr
  cnt : 0 ≤ S.count ∧ S.count ≤ n
  room : 0 ≤ S.room ∧ S.room ≤ 5000
  lf : S.halting = true → S.left ≤ 9223372036854775807
/-- Blocks of neither. -/
def Out (wr : World) (O Q K : Nat → Prop) : Prop := ∀ k, K k → ¬ O k ∧ ¬ Q k ∧ k < wr.heap.size
/-- Both disks, and blocks K that are of neither. -/
def TX (w wr : World) (p r n : Nat) (K : Nat → Prop) : Prop := ∃ S R F vf G O Q, Two w wr p r n S R F vf G O Q ∧ Out wr O Q K
def KF (K : Nat → Prop) (w w' : World) : Prop := w.heap.size ≤ w'.heap.size ∧ ∀ k, K k → w'.heap[k]? = w.heap[k]?

theorem KF.trans {K : Nat → Prop} {a b c : World} (h : KF K a b) (h' : KF K b c) : KF K a c := ⟨Nat.le_trans h.1 h'.1, fun k hk => (h'.2 k hk).trans (h.2 k hk)⟩
theorem KF.of_below {K : Nat → Prop} {w w' : World} (h : Below w.heap.size w w') (hK : ∀ k, K k → k < w.heap.size) : KF K w w' := ⟨h.size, fun k hk => h.block k (hK k hk)⟩

theorem Two.ris {w wr : World} {p r n : Nat} {S : St} {R : RSt} {F : List Ent} {vf : Value} {G : List Ent} {O Q : Nat → Prop} (h : Two w wr p r n S R F vf G O Q) : Rising G := by
  have := h.dx.rising
  rw [← h.gf] at this
  unfold Rising at this ⊢
  rw [List.pairwise_map] at this
  exact this
theorem Two.okG {w wr : World} {p r n : Nat} {S : St} {R : RSt} {F : List Ent} {vf : Value} {G : List Ent} {O Q : Nat → Prop} (h : Two w wr p r n S R F vf G O Q) : ∀ e ∈ G, okN e.name = true := by
  intro e he
  exact h.ok (er e) (by rw [← h.gf]; exact List.mem_map_of_mem he)
theorem Two.hh {w wr : World} {p r n : Nat} {S : St} {R : RSt} {F : List Ent} {vf : Value} {G : List Ent} {O Q : Nat → Prop} (h : Two w wr p r n S R F vf G O Q) : -1 ≤ R.halt ∧ R.halt ≤ 9223372036854775807 := by
  have h1 := h.al.halt
  by_cases hs : S.halting = true
  · rw [if_pos hs] at h1
    have := h.al.left hs
    have := h.lf hs
    omega
  · rw [if_neg hs] at h1
    omega
theorem Two.hl {w wr : World} {p r n : Nat} {S : St} {R : RSt} {F : List Ent} {vf : Value} {G : List Ent} {O Q : Nat → Prop} (h : Two w wr p r n S R F vf G O Q) : S.halting = true → 0 ≤ S.left ∧ S.left < 9223372036854775808 := fun hs => ⟨h.al.left hs, by have := h.lf hs; omega⟩
theorem Two.hc {w wr : World} {p r n : Nat} {S : St} {R : RSt} {F : List Ent} {vf : Value} {G : List Ent} {O Q : Nat → Prop} (h : Two w wr p r n S R F vf G O Q) (hn : n ≤ 1000) : 0 ≤ S.count ∧ S.count < 1000000000 := by
  have := h.cnt
  omega
theorem Two.hcR {w wr : World} {p r n : Nat} {S : St} {R : RSt} {F : List Ent} {vf : Value} {G : List Ent} {O Q : Nat → Prop} (h : Two w wr p r n S R F vf G O Q) (hn : n ≤ 1000) : 0 ≤ R.count ∧ R.count < 1000000000 := by
  rw [← h.al.count]
  exact h.hc hn
theorem Two.et {w wr : World} {p r n : Nat} {S : St} {R : RSt} {F : List Ent} {vf : Value} {G : List Ent} {O Q : Nat → Prop} (h : Two w wr p r n S R F vf G O Q) (hE : ET w) : ET wr := hE.frB h.fr hE.lt

/-- The document's disk behind a call of the other one. -/
theorem Two.mid {w wr w1 : World} {p r n : Nat} {S : St} {R : RSt} {F : List Ent} {vf : Value} {G : List Ent} {O Q : Nat → Prop} (h : Two w wr p r n S R F vf G O Q) (hf : FrO O wr w1) : RX w1 r R vf G Q :=
  h.rx.keep hf.size (fun k hk => hf.blk k (h.rx.lt k hk) (fun ho => h.oq k ho hk))
theorem Out.kf1 {wr w1 : World} {O Q K : Nat → Prop} (h : Out wr O Q K) (hf : FrO O wr w1) : KF K wr w1 := ⟨hf.size, fun k hk => hf.blk k (h k hk).2.2 (h k hk).1⟩
theorem Out.kf2 {wr w1 w2 : World} {O Q K : Nat → Prop} (h : Out wr O Q K) (hf : FrO O wr w1) (hf2 : FrO Q w1 w2) : KF K wr w2 :=
  (h.kf1 hf).trans ⟨hf2.size, fun k hk => hf2.blk k (Nat.lt_of_lt_of_le (h k hk).2.2 hf.size) (h k hk).2.1⟩
/-- Both disks behind a call of each. -/
theorem two_step {w wr w1 w2 : World} {p r n n' : Nat} {S S' : St} {R R' : RSt} {F F' : List Ent} {vf vf' : Value} {G G' : List Ent} {O O' Q Q' K : Nat → Prop} (h : Two w wr p r n S R F vf G O Q) (hK : Out wr O Q K)
    (hd : DX w1 p S' F' O') (hf1 : FrO O wr w1) (hO' : ∀ k, O' k → O k ∨ wr.heap.size ≤ k) (hx : RX w2 r R' vf' G' Q') (hf2 : FrO Q w1 w2) (hQ' : ∀ q, Q' q → Q q ∨ w1.heap.size ≤ q)
    (hal : Alike S' R') (hgf : G'.map er = F') (hok : ∀ e ∈ F', okN e.name = true) (hcnt : 0 ≤ S'.count ∧ S'.count ≤ n') (hroom : S'.room = S.room) (hlf : S'.halting = true → S'.left ≤ 9223372036854775807) : TX w w2 p r n' K := by
  have hz := h.fr.size
  have hz1 := hf1.size
  have hz2 := hf2.size
  have hO'Q : ∀ k, O' k → ¬ Q k := fun k hk hq => by
    rcases hO' k hk with h1 | h1
    · exact h.oq k h1 hq
    · have := h.rx.lt k hq; omega
  refine ⟨S', R', F', vf', G', O', Q', ⟨hd.fr hz2 (fun k hk => hf2.blk k (hd.lt k hk) (hO'Q k hk)), hx, hal, hgf, hok, fun k hk => ?_, fun k hk => ?_, fun k hk hq => ?_, ?_, hcnt, by rw [hroom]; exact h.room, hlf⟩, fun k hk => ⟨fun ho => ?_, fun hq => ?_, ?_⟩⟩
  · rcases hO' k hk with h1 | h1
    · exact h.oB k h1
    · omega
  · rcases hQ' k hk with h1 | h1
    · exact h.qB k h1
    · omega
  · rcases hQ' k hq with h1 | h1
    · exact hO'Q k hk h1
    · have := hd.lt k hk; omega
  · exact (h.fr.trans (FrB.of_fr hf1 h.oB)).trans (FrB.of_fr hf2 h.qB)
  · have h3 := hK k hk
    rcases hO' k ho with h1 | h1
    · exact h3.1 h1
    · omega
  · have h3 := hK k hk
    rcases hQ' k hq with h1 | h1
    · exact h3.2.1 h1
    · omega
  · have h3 := (hK k hk).2.2
    omega
/-- What turns is of neither: in blocks J among K, or new. -/
theorem TX.fr {w wr w' : World} {p r n : Nat} {K J : Nat → Prop} (h : TX w wr p r n K) (hf : FrO J wr w') (hJ : ∀ k, J k → K k ∧ w.heap.size ≤ k) : TX w w' p r n K := by
  obtain ⟨S, R, F, vf, G, O, Q, h, hK⟩ := h
  have hz := hf.size
  refine ⟨S, R, F, vf, G, O, Q, ⟨h.dx.fr hz (fun k hk => hf.blk k (h.dx.lt k hk) (fun hj => (hK k (hJ k hj).1).1 hk)), h.rx.keep hz (fun k hk => hf.blk k (h.rx.lt k hk) (fun hj => (hK k (hJ k hj).1).2.1 hk)), h.al, h.gf, h.ok, h.oB, h.qB, h.oq, h.fr.trans (FrB.of_fr hf (fun k hk => (hJ k hk).2)), h.cnt, h.room, h.lf⟩, fun k hk => ⟨(hK k hk).1, (hK k hk).2.1, Nat.lt_of_lt_of_le (hK k hk).2.2 hz⟩⟩
theorem TX.below {w wr w' : World} {p r n : Nat} {K : Nat → Prop} (h : TX w wr p r n K) (hb : Below wr.heap.size wr w') : TX w w' p r n K :=
  h.fr (J := fun _ => False) (FrO.of_below hb) (fun _ hh => hh.elim)
/-- What is new is of neither. -/
theorem TX.more {w wr w' : World} {p r n : Nat} {K K' : Nat → Prop} (h : TX w wr p r n K) (hb : Below wr.heap.size wr w') (hK' : ∀ k, K' k → K k ∨ (wr.heap.size ≤ k ∧ k < w'.heap.size)) : TX w w' p r n K' := by
  obtain ⟨S, R, F, vf, G, O, Q, h2, hK2⟩ := h.below hb
  obtain ⟨S, R, F, vf, G, O, Q, h, hK⟩ := h
  have hz := hb.size
  refine ⟨S, R, F, vf, G, O, Q, ⟨h.dx.below hb, h.rx.keep hz (fun k hk => hb.block k (h.rx.lt k hk)), h.al, h.gf, h.ok, h.oB, h.qB, h.oq, h.fr.trans (FrB.of_below hb), h.cnt, h.room, h.lf⟩, fun k hk => ?_⟩
  rcases hK' k hk with h1 | h1
  · exact ⟨(hK k h1).1, (hK k h1).2.1, Nat.lt_of_lt_of_le (hK k h1).2.2 hz⟩
  · exact ⟨fun ho => absurd (h.dx.lt k ho) (by omega), fun hq => absurd (h.rx.lt k hq) (by omega), h1.2⟩
theorem TX.less {w wr : World} {p r n : Nat} {K K' : Nat → Prop} (h : TX w wr p r n K) (hK : ∀ k, K' k → K k) : TX w wr p r n K' := by
  obtain ⟨S, R, F, vf, G, O, Q, h, hk⟩ := h
  exact ⟨S, R, F, vf, G, O, Q, h, fun k hh => hk k (hK k hh)⟩
theorem TX.lt {w wr : World} {p r n : Nat} {K : Nat → Prop} (h : TX w wr p r n K) : ∀ k, K k → k < wr.heap.size := by
  obtain ⟨S, R, F, vf, G, O, Q, h, hk⟩ := h
  exact fun k hh => (hk k hh).2.2
theorem TX.env {w wr : World} {p r n : Nat} {K : Nat → Prop} (h : TX w wr p r n K) : FrB w.heap.size w wr := by
  obtain ⟨S, R, F, vf, G, O, Q, h, hk⟩ := h
  exact h.fr
theorem TX.et {w wr : World} {p r n : Nat} {K : Nat → Prop} (h : TX w wr p r n K) (hE : ET w) : ET wr := hE.frB h.env hE.lt

theorem TX.up {w wr : World} {p r n : Nat} {K : Nat → Prop} (h : TX w wr p r n K) : TX w wr p r (n + 1) K := by
  obtain ⟨S, R, F, vf, G, O, Q, h, hk⟩ := h
  exact ⟨S, R, F, vf, G, O, Q, ⟨h.dx, h.rx, h.al, h.gf, h.ok, h.oB, h.qB, h.oq, h.fr, ⟨h.cnt.1, by have := h.cnt.2; omega⟩, h.room, h.lf⟩, hk⟩
/-- Both disks begin. -/
theorem tx_new {w w1 w2 w3 : World} {p r : Nat} {room : Int} (hb1 : Below w.heap.size w w1) (hd : DX w2 p ⟨max room 0, 0, false, false, 0⟩ [] (fun k => k = p)) (hb2 : Below w1.heap.size w1 w2) (hx : RX w3 r ⟨max room 0, false, -1, 0⟩ (.slice none 0 0) [] (fun k => k = r)) (hb3 : Below w2.heap.size w2 w3) (hp : p = w1.heap.size) (hr : r = w2.heap.size) (hroom : room ≤ 5000) : TX w w3 p r 0 (fun _ => False) := by
  have hz1 := hb1.size
  have hz2 := hb2.size
  have hpl : p < w2.heap.size := hd.lt p rfl
  refine ⟨_, _, _, _, _, _, _, ⟨hd.below hb3, hx, ⟨rfl, rfl, rfl, rfl, fun hs => (by cases hs)⟩, rfl, fun e he => (by cases he), fun k hk => by omega, fun k hk => by omega, fun k hk hq => by omega, ((FrB.of_below hb1).trans (FrB.of_below hb2)).trans (FrB.of_below hb3), ⟨by show (0 : Int) ≤ 0; omega, by show (0 : Int) ≤ ((0 : Nat) : Int); omega⟩, ⟨by show 0 ≤ max room 0; omega, by show max room 0 ≤ 5000; omega⟩, fun hs => by cases hs⟩, fun k hk => hk.elim⟩

/-- An error that lies in a new block lasts. -/
theorem err_last {wr w1 w2 : World} {Q : Nat → Prop} {v : Value} {c : Int} (h : ErrOut (Old wr) w1 v c) (hf : FrO Q w1 w2) (hQ : ∀ k, Q k → k < wr.heap.size) : ErrV w2 v c := by
  rcases h with h | ⟨hc, b, hv, hw, hn⟩
  · exact .inl h
  · exact .inr ⟨hc, b, hv, hw.fr hf (fun hq => hn (hQ b hq))⟩
theorem beginS_count {S : St} {c : Int} {n : Nat} (h : 0 ≤ S.count ∧ S.count ≤ n) : 0 ≤ (beginS S c).1.count ∧ (beginS S c).1.count ≤ ((n + 1 : Nat) : Int) := by
  unfold beginS
  split
  · show 0 ≤ S.count ∧ S.count ≤ _; omega
  · split
    · show 0 ≤ S.count ∧ S.count ≤ _; omega
    · split
      · show 0 ≤ S.count ∧ S.count ≤ _; omega
      · show 0 ≤ S.count + 1 ∧ S.count + 1 ≤ _; omega
theorem beginS_left {S : St} {c : Int} (h : S.halting = true → S.left ≤ 9223372036854775807) : (beginS S c).1.halting = true → (beginS S c).1.left ≤ 9223372036854775807 := by
  unfold beginS
  split
  · exact h
  · split
    · exact h
    · split
      · exact h
      · intro hs
        have := h hs
        show (if S.halting = true then S.left - 1 else S.left) ≤ _
        split <;> omega
theorem okN_len {n : List UInt8} (h : okN n = true) : n.length ≤ 40 := by
  unfold okN at h
  simp only [Bool.and_eq_true, decide_eq_true_eq] at h
  exact h.1.2
end Go.Proofs.YthebgoadeecmpaaDoor
