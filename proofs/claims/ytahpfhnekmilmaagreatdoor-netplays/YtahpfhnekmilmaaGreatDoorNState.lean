/- A net as its statements see it: ends and numbers of what is in flight; each call. -/
import Derived.Test.YtahpfhnekmilmaaGreatDoorJNPeekNTake
namespace Go.Proofs.YtahpfhnekmilmaaGreatDoor
open Go.RowKit Go.Lib Go.Maps

/-- Flights whose messages have these ends and numbers. -/
def FL (L : List Fl) (A : List (Int × Nat)) : Prop := L.length = A.length ∧ ∀ (i : Nat) (e : Fl) (a : Int × Nat), L[i]? = some e → A[i]? = some a → e.to' = a.1 ∧ GF e a.2
theorem FL.nil : FL [] [] := ⟨rfl, fun i e a h => by simp at h⟩
theorem FL.snoc {L : List Fl} {A : List (Int × Nat)} (h : FL L A) {e : Fl} {a : Int × Nat} (h1 : e.to' = a.1) (h2 : GF e a.2) : FL (L ++ [e]) (A ++ [a]) := by
  refine ⟨by simp [h.1], fun i x b hx hb => ?_⟩
  rcases Nat.lt_or_ge i L.length with hi | hi
  · rw [List.getElem?_append_left hi] at hx
    rw [List.getElem?_append_left (by rw [← h.1]; exact hi)] at hb
    exact h.2 i x b hx hb
  · rw [List.getElem?_append_right hi] at hx
    rw [List.getElem?_append_right (by rw [← h.1]; exact hi), ← h.1] at hb
    cases hk : i - L.length with
    | zero => rw [hk] at hx hb; simp at hx hb; subst hx hb; exact ⟨h1, h2⟩
    | succ k => rw [hk] at hx; simp at hx
theorem FL.at {L : List Fl} {A : List (Int × Nat)} (h : FL L A) {i : Nat} {a : Int × Nat} (ha : A[i]? = some a) : ∃ e, L[i]? = some e ∧ e.to' = a.1 ∧ GF e a.2 := by
  have hi := (List.getElem?_eq_some_iff.1 ha).1
  obtain ⟨e, he⟩ : ∃ e, L[i]? = some e := ⟨_, List.getElem?_eq_getElem (by rw [h.1]; exact hi)⟩
  exact ⟨e, he, h.2 i e a he ha⟩
theorem FL.erase {L : List Fl} {A : List (Int × Nat)} (h : FL L A) (i : Nat) : FL (L.eraseIdx i) (A.eraseIdx i) := by
  refine ⟨by rw [List.length_eraseIdx, List.length_eraseIdx, h.1], fun j e a he ha => ?_⟩
  rw [List.getElem?_eraseIdx] at he ha
  split at he
  · rename_i hj; rw [if_pos hj] at ha; exact h.2 _ e a he ha
  · rename_i hj; rw [if_neg hj] at ha; exact h.2 _ e a he ha

/-- A net at block p, made since w0; K: blocks that are not its own. -/
def NS (w0 w : World) (p : Nat) (A : List (Int × Nat)) (K : Nat → Prop) : Prop :=
  (∃ vf L O, NX w p vf L O ∧ FL L A ∧ ∀ k, O k → w0.heap.size ≤ k ∧ ¬ K k) ∧ Below w0.heap.size w0 w ∧ ∀ k, K k → k < w.heap.size
/-- Blocks of K stay. -/
def KK (K : Nat → Prop) (w w' : World) : Prop := ∀ k, K k → w'.heap[k]? = w.heap[k]?
theorem KK.trans {K : Nat → Prop} {a b c : World} (h : KK K a b) (h' : KK K b c) : KK K a c := fun k hk => (h' k hk).trans (h k hk)
theorem NS.bel {w0 w : World} {p : Nat} {A : List (Int × Nat)} {K : Nat → Prop} (h : NS w0 w p A K) : Below w0.heap.size w0 w := h.2.1
theorem NS.few {w0 w : World} {p : Nat} {A : List (Int × Nat)} {K : Nat → Prop} (h : NS w0 w p A K) : A.length ≤ 4096 := by
  obtain ⟨⟨vf, L, O, hx, hf, _⟩, _⟩ := h
  rw [← hf.1]; exact hx.few
theorem NS.below {w0 w w' : World} {p : Nat} {A : List (Int × Nat)} {K : Nat → Prop} (h : NS w0 w p A K) (hb : Below w.heap.size w w') : NS w0 w' p A K ∧ KK K w w' := by
  obtain ⟨⟨vf, L, O, hx, hf, hO⟩, h2, h3⟩ := h
  exact ⟨⟨⟨vf, L, O, hx.below hb, hf, hO⟩, h2.trans (hb.mono h2.size), fun k hk => Nat.lt_of_lt_of_le (h3 k hk) hb.size⟩, fun k hk => hb.block k (h3 k hk)⟩
theorem NS.lt {w0 w : World} {p : Nat} {A : List (Int × Nat)} {K : Nat → Prop} (h : NS w0 w p A K) {k : Nat} (hk : K k) : k < w.heap.size := h.2.2 k hk
theorem FrO.below0 {O : Nat → Prop} {w0 w w' : World} (h : Below w0.heap.size w0 w) (hf : FrO O w w') (hO : ∀ k, O k → w0.heap.size ≤ k) : Below w0.heap.size w0 w' :=
  ⟨hf.env.1.trans h.os, hf.env.2.1.trans h.tape, hf.env.2.2.trans h.output, Nat.le_trans h.size hf.size, fun k hk => (hf.blk k (Nat.lt_of_lt_of_le hk h.size) (fun hh => by have := hO k hh; omega)).trans (h.block k hk)⟩
theorem NS.step {w0 w w' : World} {p : Nat} {A' : List (Int × Nat)} {K : Nat → Prop} {vf' : Value} {L' : List Fl} {O O' : Nat → Prop} (h2 : Below w0.heap.size w0 w) (h3 : ∀ k, K k → k < w.heap.size) (hO : ∀ k, O k → w0.heap.size ≤ k ∧ ¬ K k)
    (hx : NX w' p vf' L' O') (hf : FrO O w w') (hO' : ∀ k, O' k → O k ∨ w.heap.size ≤ k) (hL : FL L' A') : NS w0 w' p A' K ∧ KK K w w' := by
  refine ⟨⟨⟨vf', L', O', hx, hL, fun k hk => ?_⟩, FrO.below0 h2 hf (fun k hk => (hO k hk).1), fun k hk => Nat.lt_of_lt_of_le (h3 k hk) hf.size⟩, fun k hk => hf.blk k (h3 k hk) (fun hh => (hO k hh).2 hk)⟩
  rcases hO' k hk with h | h
  · exact hO k h
  · exact ⟨Nat.le_trans h2.size h, fun hh => by have := h3 k hh; omega⟩

theorem ns_new (w : World) : Calls Tryz.prog 5 #[] w fun e w' => e = .returned (.pointer (some ⟨w.heap.size, 0, none⟩)) ∧ NS w w' w.heap.size [] (fun _ => False) := by
  refine (nnew_any w).mono ?_
  rintro e w' ⟨rfl, hx, hb⟩
  exact ⟨rfl, ⟨_, _, _, hx, FL.nil, fun k hk => ⟨by omega, fun h => h⟩⟩, hb, fun k hk => hk.elim⟩
theorem ns_len {w0 w : World} {p : Nat} {A : List (Int × Nat)} {K : Nat → Prop} (h : NS w0 w p A K) : Calls Tryz.prog 12 #[.pointer (some ⟨p, 0, none⟩)] w fun e w' => e = .returned (.int .i64 (A.length : Int)) ∧ w' = w := by
  obtain ⟨⟨vf, L, O, hx, hf, _⟩, _⟩ := h
  rw [← hf.1]
  exact nlen_any hx
theorem ns_send {w0 w : World} {p : Nat} {A : List (Int × Nat)} {K : Nat → Prop} (to' : Int) (sq : Nat) (hto : -1 ≤ to' ∧ to' ≤ 1000) (hsq : sq < 18446744073709551616) (h : NS w0 w p A K) (hfew : A.length < 4096) :
    Calls Tryz.prog 6 #[.pointer (some ⟨p, 0, none⟩), .agg (mL to' sq).toArray] w fun e w' => e = .returned .nilIface ∧ NS w0 w' p (A ++ [(to', sq)]) K ∧ KK K w w' := by
  obtain ⟨⟨vf, L, O, hx, hf, hO⟩, h2, h3⟩ := h
  obtain ⟨d, hd⟩ := nmsg_some to' sq hto hsq
  refine (nsend_any to' sq d hsq hd hx (by rw [hf.1]; exact hfew)).mono ?_
  rintro e w' ⟨vf', O', v, rfl, hx', hfr, hO'⟩
  exact ⟨rfl, NS.step h2 h3 hO hx' hfr hO' (hf.snoc (a := (to', sq)) rfl ⟨rfl, hsq, hd⟩)⟩
theorem ns_copy {w0 w : World} {p i : Nat} {A : List (Int × Nat)} {K : Nat → Prop} (a : Int × Nat) (h : NS w0 w p A K) (ha : A[i]? = some a) (hfew : A.length < 4096) :
    Calls Tryz.prog 11 #[.pointer (some ⟨p, 0, none⟩), .int .i64 (i : Int)] w fun e w' => e = .returned .nilIface ∧ NS w0 w' p (A ++ [a]) K ∧ KK K w w' := by
  obtain ⟨⟨vf, L, O, hx, hf, hO⟩, h2, h3⟩ := h
  obtain ⟨e, he, e1, e2⟩ := hf.at ha
  refine (ncopy_any i e hx he (by rw [hf.1]; exact hfew)).mono ?_
  rintro ev w' ⟨vf', O', rfl, hx', hfr, hO'⟩
  exact ⟨rfl, NS.step h2 h3 hO hx' hfr hO' (hf.snoc e1 e2)⟩
theorem ns_copy_full {w0 w : World} {p i : Nat} {A : List (Int × Nat)} {K : Nat → Prop} (a : Int × Nat) (h : NS w0 w p A K) (ha : A[i]? = some a) (hfull : A.length = 4096) :
    Calls Tryz.prog 11 #[.pointer (some ⟨p, 0, none⟩), .int .i64 (i : Int)] w fun e w' => e = .returned (.iface 35 (.int .i64 31)) ∧ NS w0 w' p A K ∧ KK K w w' := by
  have h0 := h
  obtain ⟨⟨vf, L, O, hx, hf, hO⟩, h2, h3⟩ := h
  obtain ⟨e, he, _⟩ := hf.at ha
  refine (ncopy_full i e hx he (by rw [hf.1]; exact hfull)).mono ?_
  rintro ev w' ⟨rfl, hb⟩
  exact ⟨rfl, h0.below hb⟩
theorem ns_peek {w0 w : World} {p i : Nat} {A : List (Int × Nat)} {K : Nat → Prop} (a : Int × Nat) (hE : ET w) (h : NS w0 w p A K) (ha : A[i]? = some a) :
    Calls Tryz.prog 14 #[.pointer (some ⟨p, 0, none⟩), .int .i64 (i : Int)] w fun ev w' => ∃ M, ev = .returned (.tuple #[.agg M.toArray, .nilIface]) ∧ MS M a.1 a.2 ∧ NS w0 w' p A K ∧ KK K w w' := by
  have h0 := h
  obtain ⟨⟨vf, L, O, hx, hf, hO⟩, h2, h3⟩ := h
  obtain ⟨e, he, e1, e2⟩ := hf.at ha
  refine (npeek_any e hE hx he e2).mono ?_
  rintro ev w' ⟨M, rfl, hM, hb⟩
  rw [e1] at hM
  exact ⟨M, rfl, hM, h0.below hb⟩
theorem ns_take {w0 w : World} {p i : Nat} {A : List (Int × Nat)} {K : Nat → Prop} (a : Int × Nat) (hE : ET w) (h : NS w0 w p A K) (ha : A[i]? = some a) :
    Calls Tryz.prog 9 #[.pointer (some ⟨p, 0, none⟩), .int .i64 (i : Int)] w fun ev w' => ∃ M, ev = .returned (.tuple #[.agg M.toArray, .nilIface]) ∧ MS M a.1 a.2 ∧ NS w0 w' p (A.eraseIdx i) K ∧ KK K w w' := by
  obtain ⟨⟨vf, L, O, hx, hf, hO⟩, h2, h3⟩ := h
  obtain ⟨e, he, e1, e2⟩ := hf.at ha
  refine (ntake_any e hE hx he e2).mono ?_
  rintro ev w' ⟨M, vf', rfl, hM, hx', hfr⟩
  rw [e1] at hM
  exact ⟨M, rfl, hM, NS.step h2 h3 hO hx' hfr (fun k hk => .inl hk) (hf.erase i)⟩
theorem ns_drop {w0 w : World} {p i : Nat} {A : List (Int × Nat)} {K : Nat → Prop} (a : Int × Nat) (h : NS w0 w p A K) (ha : A[i]? = some a) :
    Calls Tryz.prog 10 #[.pointer (some ⟨p, 0, none⟩), .int .i64 (i : Int)] w fun ev w' => ev = .returned .nilIface ∧ NS w0 w' p (A.eraseIdx i) K ∧ KK K w w' := by
  obtain ⟨⟨vf, L, O, hx, hf, hO⟩, h2, h3⟩ := h
  obtain ⟨e, he, _⟩ := hf.at ha
  refine (ndrop_any e hx he).mono ?_
  rintro ev w' ⟨vf', rfl, hx', hfr⟩
  exact ⟨rfl, NS.step h2 h3 hO hx' hfr (fun k hk => .inl hk) (hf.erase i)⟩
/-- A new block: it may be one of K. -/
theorem NS.new {w0 w : World} {p : Nat} {A : List (Int × Nat)} {K : Nat → Prop} (h : NS w0 w p A K) (o : Obj) : NS w0 (w.alloc o) p A (fun k => K k ∨ k = w.heap.size) := by
  have hb : Below w.heap.size w (w.alloc o) := (Below.refl _ _).alloc (Nat.le_refl _) _
  obtain ⟨⟨vf, L, O, hx, hf, hO⟩, h2, h3⟩ := h
  refine ⟨⟨vf, L, O, hx.below hb, hf, fun k hk => ⟨(hO k hk).1, fun hh => hh.elim (hO k hk).2 (fun e => by have := hx.lt k hk; omega)⟩⟩, h2.trans (hb.mono h2.size), fun k hk => ?_⟩
  simp
  rcases hk with hk | hk
  · have := h3 k hk; omega
  · omega
theorem NS.less {w0 w : World} {p : Nat} {A : List (Int × Nat)} {K K' : Nat → Prop} (h : NS w0 w p A K) (hK : ∀ k, K' k → K k) : NS w0 w p A K' := by
  obtain ⟨⟨vf, L, O, hx, hf, hO⟩, h2, h3⟩ := h
  exact ⟨⟨vf, L, O, hx, hf, fun k hk => ⟨(hO k hk).1, fun hh => (hO k hk).2 (hK k hh)⟩⟩, h2, fun k hk => h3 k (hK k hk)⟩
/-- A cell of a block of K is written. -/
theorem NS.set {w0 w : World} {p : Nat} {A : List (Int × Nat)} {K : Nat → Prop} (h : NS w0 w p A K) {b : Nat} (hb : K b) (h0 : w0.heap.size ≤ b) (i : Nat) (v : Value) : NS w0 (w.setCell ⟨b, i, none⟩ v) p A K := by
  obtain ⟨⟨vf, L, O, hx, hf, hO⟩, h2, h3⟩ := h
  refine ⟨⟨vf, L, O, hx.swap (by simp) (fun k hk => heap_setCell_ne i v (fun e => (hO k hk).2 (e ▸ hb))), hf, hO⟩, h2.setCell h0 _, fun k hk => by simpa using h3 k hk⟩
theorem NS.et {w0 w : World} {p : Nat} {A : List (Int × Nat)} {K : Nat → Prop} (h : NS w0 w p A K) (hE : ET w0) : ET w := hE.below h.bel hE.lt
end Go.Proofs.YtahpfhnekmilmaaGreatDoor
