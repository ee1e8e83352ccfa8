/- SnapPlays: Save, Spoil, Class of one round. -/
import Derived.Test.YtpminalccnhkjaaGreatDoorJSXHelpSXRound
namespace Go.Proofs.YtpminalccnhkjaaGreatDoor
open Go.RowKit Go.Lib

/-- The state behind Save: the disk has o1; what was told last, the step, the data that they read. -/
def RST (w W : World) (p q bx m : Nat) (o1 : Option Sn) (A : Sn) (va : Value) (X : Obj) (vx : Value) (l : List UInt8) (kv : Value) (ks : List Int) : Prop :=
  ∃ S g O, Dk.DX W p S (FS o1 g) O ∧ gOk g ∧ Okk S m ∧ (∀ k, O k → w.heap.size ≤ k ∧ k ≠ q ∧ k ≠ bx) ∧ Below w.heap.size w W ∧ Sv W q (.int .u64 (A.1 : Int)) (.int .u64 (A.2.1 : Int)) va ∧ W.heap[bx]? = some X ∧ DT W O va A.2.2 vx l kv ks
theorem RST.below {w W W' : World} {p q bx m : Nat} {o1 : Option Sn} {A : Sn} {va vx kv : Value} {X : Obj} {l : List UInt8} {ks : List Int} (h : RST w W p q bx m o1 A va X vx l kv ks) (hb : Below W.heap.size W W') : RST w W' p q bx m o1 A va X vx l kv ks := by
  obtain ⟨S, g, O, h1, h2, h3, h4, h5, h6, h7, h8⟩ := h
  exact ⟨S, g, O, h1.below hb, h2, h3, h4, bt h5 hb, h6.below hb h6.lt, (hb.block _ (Array.getElem?_eq_some_iff.1 h7).1).trans h7, h8.re (dk_below hb) (fun k hk => .inl hk)⟩
theorem sn_saved {o : Option Sn} {s : Sn} (ho : oOk o) (hs : SnOk s) : oOk (savedO o s) := by
  intro y hy
  unfold savedO at hy
  cases o with
  | none => injection hy with hy; subst hy; exact hs
  | some x =>
    simp only at hy
    split at hy
    · injection hy with hy; subst hy; exact ho x rfl
    · injection hy with hy; subst hy; exact hs
/-- The next one is what the disk has behind a Save that is done. -/
theorem now_saved (o : Option Sn) (s : Sn) : nowS (savedO o s) = (if o = none ∨ (nowS o).1 ≤ s.1 then s else nowS o) := by
  unfold nowS savedO
  cases o with
  | none => simp
  | some x =>
    by_cases h : s.1 < x.1
    · simp only [h, if_true, Option.getD_some]
      rw [if_neg]
      simp; omega
    · simp only [h, if_false, Option.getD_some]
      rw [if_pos]
      right; omega
theorem is_saved (o : Option Sn) (s : Sn) : (savedO o s).isSome = true := by
  unfold savedO
  cases o with
  | none => rfl
  | some x =>
    simp only
    split <;> rfl
/-- Crash and Load behind the next one's variable. -/
theorem rst_next {w W8 : World} {p q bx m : Nat} {o1 : Option Sn} {A B : Sn} {va vb vx kv : Value} {X : Obj} {l : List UInt8} {ks : List Int} (h : RST w W8 p q bx m o1 A va X vx l kv ks) (ho : oOk o1) (hq : w.heap.size ≤ q) (hE : ET w) (hT : ST w) (hkl : ks.length ≤ 80) (hB : (B = A ∧ vb = va) ∨ (B.2.2 = l ∧ vb = vx)) :
    Calls Tryz.prog 11 #[.pointer (some ⟨p, 0, none⟩), .agg #[kv]] (W8.alloc (.cells #[.int .u64 (B.1 : Int), .int .u64 (B.2.1 : Int), vb] 34)) fun e W10 => e = .returned (.tuple #[]) ∧ Hid (Calls Tryz.prog 12 #[.pointer (some ⟨p, 0, none⟩)] W10 fun e W11 => ∃ sa sn sk, e = .returned (.tuple #[.agg #[.int .u64 ((nowS o1).1 : Int), .int .u64 ((nowS o1).2.1 : Int), .slice sa sn sk], .bool o1.isSome, .nilIface]) ∧ Hid (LD w W11 p q m W8.heap.size o1 A B va vb sa sn sk)) := by
  have hb : Below W8.heap.size W8 (W8.alloc (.cells #[.int .u64 (B.1 : Int), .int .u64 (B.2.1 : Int), vb] 34)) := below_alloc _ (Nat.le_refl _)
  obtain ⟨S, g, O, h1, h2, h3, h4, h5, h6, h7, h8⟩ := h
  have d := h8.re (dk_below (O := O) hb) (fun k hk => .inl hk)
  have rB : RZ (W8.alloc (.cells #[.int .u64 (B.1 : Int), .int .u64 (B.2.1 : Int), vb] 34)) O vb B.2.2 := by
    rcases hB with ⟨rfl, rfl⟩ | ⟨e, rfl⟩
    · exact d.1
    · rw [e]; exact d.2.1
  exact crash_load (h1.below hb) h2 ho h3 (fun k hk => ⟨(h4 k hk).1, (h4 k hk).2.1, fun e => absurd (h1.lt k hk) (by rw [e]; exact Nat.lt_irrefl _)⟩) (bt h5 hb) hq hE hT (h6.below hb h6.lt) (Sv.new W8 _ _ _) d.1 rB d.2.2 hkl
section
variable {w W5 : World} {p q bx bl m i t n k4 : Nat} {S : Dk.St} {o : Option Sn} {g : Option (List UInt8 × Nat)} {O : Nat → Prop} {A : Sn} {va vx kv : Value} {X : Obj} {l : List UInt8} {ks : List Int} {a4 : Option Addr}
/-- What Save finds. -/
structure SF (w W5 : World) (p q bx bl m i t n k4 : Nat) (S : Dk.St) (o : Option Sn) (g : Option (List UInt8 × Nat)) (O : Nat → Prop) (A : Sn) (va vx kv : Value) (X : Obj) (l : List UInt8) (ks : List Int) (a4 : Option Addr) : Prop where
  dx : Dk.DX W5 p S (FS o g) O
  hg : gOk g
  ho : oOk o
  hS : Okk S (m + 4)
  off : S.off = false
  oO : ∀ k, O k → w.heap.size ≤ k ∧ k ≠ q ∧ k ≠ bx ∧ k ≠ bl
  bel : Below w.heap.size w W5
  sA : Sv W5 q (.int .u64 (A.1 : Int)) (.int .u64 (A.2.1 : Int)) va
  xv : W5.heap[bx]? = some X
  sl : Sv W5 bl (.int .u64 (i : Int)) (.int .u64 (t : Int)) (.slice a4 n k4)
  own : W5.ownsRow 0 5 1 (.slice a4 n k4) n (byteCells l)
  k0 : ∀ k, (Value.slice a4 n k4).ownBlock = some k → ¬ O k ∧ k ≠ q ∧ k ≠ bx ∧ k ≠ bl ∧ w.heap.size ≤ k
  dt : DT W5 (fun k => O k ∨ (Value.slice a4 n k4).ownBlock = some k) va A.2.2 vx l kv ks
  hn : n = l.length
  hs : SnOk (i, t, l)
theorem own_bl {w : World} {B : Nat} {T : TypeId} {v : Value} {n : Nat} {xs : List Value} (h : w.ownsRow B T 1 v n xs) : ∀ k, v.ownBlock = some k → k < w.heap.size := fun k hk => (h.lt k hk).2
/-- Spoil behind Save. -/
theorem spoil_round {S' : Dk.St} {o1 : Option Sn} {g' : Option (List UInt8 × Nat)} {O' : Nat → Prop} {W6 : World} (F : SF w W5 p q bx bl m i t n k4 S o g O A va vx kv X l ks a4) (hg' : gOk g') (hS' : Okk S' m) (hd : Dk.DX W6 p S' (FS o1 g') O') (hf : Dk.FrO O W5 W6) (ho' : ∀ k, O' k → O k ∨ W5.heap.size ≤ k) :
    Sv W6 bl (.int .u64 (i : Int)) (.int .u64 (t : Int)) (.slice a4 n k4) ∧ Calls Tryz.prog 16 #[.slice a4 n k4] W6 fun e W7 => e = .returned (.tuple #[]) ∧ Dk.FrO (fun k => (Value.slice a4 n k4).ownBlock = some k) W6 W7 ∧ RST w W7 p q bx m o1 A va X vx l kv ks := by
  have hnb : ∀ b, b < W5.heap.size → ¬ O b → ¬ O' b := fun b hb hn hh => (ho' b hh).elim hn (fun hx => absurd hb (Nat.not_lt.2 hx))
  have nq : ¬ O q := fun hh => (F.oO q hh).2.1 rfl
  have nx' : ¬ O bx := fun hh => (F.oO bx hh).2.2.1 rfl
  have nl : ¬ O bl := fun hh => (F.oO bl hh).2.2.2 rfl
  have hown6 : W6.ownsRow 0 5 1 (.slice a4 n k4) n (byteCells l) := by
    have h := F.own
    rcases h.2 with ⟨h1, h2⟩ | ⟨gg, cap, cur, h1, hB, hc, rest⟩
    · exact ⟨h.1, .inl ⟨h1, h2⟩⟩
    · exact ⟨h.1, .inr ⟨gg, cap, cur, h1, hB, (hf.blk gg (Array.getElem?_eq_some_iff.1 hc).1 (F.k0 gg (by rw [h1]; rfl)).1).trans hc, rest⟩⟩
  have sA6 := F.sA.kept hf nq
  have xv6 := blk_kept F.xv hf nx'
  refine ⟨F.sl.kept hf nl, ?_⟩
  have hl : n ≤ 2000000 := by rw [F.hn]; have := (sn_parts F.hs).2.2; omega
  have d6 : DT W6 (fun k => O' k ∨ (Value.slice a4 n k4).ownBlock = some k) va A.2.2 vx l kv ks := F.dt.re (fro_weak hf (fun k hk => .inl hk)) (fun k hk => hk.elim (fun hh => (ho' k hh).elim (fun hx => .inl (.inl hx)) .inr) (fun hh => .inl (.inr hh)))
  refine (spoil_any hown6 hl).mono ?_
  rintro e W7 ⟨rfl, hf7⟩
  have hb6 : Below w.heap.size w W6 := below_fro F.bel hf (fun k hk => (F.oO k hk).1) (Nat.le_refl _)
  refine ⟨rfl, hf7, S', g', O', hd.fr hf7.size (fun k hk => hf7.blk k (hd.lt k hk) (fun hh => hnb k (own_bl F.own k hh) (F.k0 k hh).1 hk)), hg', hS', fun k hk => ?_, below_fro hb6 hf7 (fun k hk => (F.k0 k hk).2.2.2.2) (Nat.le_refl _), sA6.kept hf7 (fun hh => (F.k0 q hh).2.1 rfl), blk_kept xv6 hf7 (fun hh => (F.k0 bx hh).2.2.1 rfl), ?_⟩
  · rcases ho' k hk with hh | hh
    · exact ⟨(F.oO k hh).1, (F.oO k hh).2.1, (F.oO k hh).2.2.1⟩
    · have e1 := F.sA.lt
      have e2 := (Array.getElem?_eq_some_iff.1 F.xv).1
      have e3 := F.bel.size
      exact ⟨by omega, by omega, by omega⟩
  · exact (d6.re (fro_weak hf7 (fun k hk => .inr hk)) (fun k hk => .inl hk)).less (fun k hk => .inl hk)
/-- Save that is done, and Spoil. -/
theorem round_done (F : SF w W5 p q bx bl m i t n k4 S o g O A va vx kv X l ks a4) (hE : ET w) (hT : ST w) (q' : ¬ SaveBad S o g i) :
    Calls Tryz.prog 10 #[.pointer (some ⟨p, 0, none⟩), .agg #[.int .u64 (i : Int), .int .u64 (t : Int), .slice a4 n k4]] W5 fun e W6 => e = .returned .nilIface ∧ Hid (Sv W6 bl (.int .u64 (i : Int)) (.int .u64 (t : Int)) (.slice a4 n k4)) ∧
      Hid (Calls Tryz.prog 16 #[.slice a4 n k4] W6 fun e W7 => e = .returned (.tuple #[]) ∧ Hid (RST w W7 p q bx m (savedO o (i, t, l)) A va X vx l kv ks)) := by
  have hE5 := hE.below F.bel hE.lt
  have hv : RBp W5 W5.heap.size (.slice a4 n k4) l := rb_own (by rw [← F.hn]; exact F.own) (by have := (sn_parts F.hs).2.2; omega)
  refine (save_done (n := m) F.dx hE5 (hT.below F.bel hT.lt) (fun hh => absurd hE.lt (Nat.not_lt.2 (F.oO _ hh).1)) F.hS F.off F.ho F.hg F.hs hv q').mono ?_
  rintro e W6 ⟨rfl, S', g', O', h1, h2, h3, h4, h5⟩
  obtain ⟨r1, r2⟩ := spoil_round F h1 h2 h3 h4 h5
  refine ⟨rfl, r1, r2.mono ?_⟩
  rintro e W7 ⟨rfl, _, hr⟩
  exact ⟨rfl, hr⟩
/-- Save that is cut off, Spoil and Class. -/
theorem round_cut (F : SF w W5 p q bx bl m i t n k4 S o g O A va vx kv X l ks a4) (hE : ET w) (hT : ST w) (q' : SaveBad S o g i) :
    Calls Tryz.prog 10 #[.pointer (some ⟨p, 0, none⟩), .agg #[.int .u64 (i : Int), .int .u64 (t : Int), .slice a4 n k4]] W5 fun e W6 => ∃ b, e = .returned (Dk.evW b) ∧ Hid (Sv W6 bl (.int .u64 (i : Int)) (.int .u64 (t : Int)) (.slice a4 n k4)) ∧
      Hid (Calls Tryz.prog 16 #[.slice a4 n k4] W6 fun e W7 => e = .returned (.tuple #[]) ∧ Hid (Calls Tryz.prog 17 #[Dk.evW b] W7 fun e W8 => e = .returned (.int .i64 32) ∧ Hid (RST w W8 p q bx m o A va X vx l kv ks))) := by
  have hE5 := hE.below F.bel hE.lt
  have hv : RBp W5 W5.heap.size (.slice a4 n k4) l := rb_own (by rw [← F.hn]; exact F.own) (by have := (sn_parts F.hs).2.2; omega)
  refine (save_bad (n := m) F.dx hE5 (hT.below F.bel hT.lt) (fun hh => absurd hE.lt (Nat.not_lt.2 (F.oO _ hh).1)) F.hS F.off F.ho F.hg F.hs hv q').mono ?_
  rintro e W6 ⟨b, rfl, S', g', O', e1, e2, h1, h2, h3, h4, h5⟩
  obtain ⟨r1, r2⟩ := spoil_round F h1 h2 h3 h4 h5
  refine ⟨b, rfl, r1, r2.mono ?_⟩
  rintro e W7 ⟨rfl, hf7, hr⟩
  have hw7 : Dk.ErrW W7 b 32 := by
    have hb6 : b < W6.heap.size := Dk.lt_of_cell e1
    have := hf7.blk b hb6 (fun hh => absurd (own_bl F.own b hh) (Nat.not_lt.2 e2))
    exact (Dk.cell_same this _).trans e1
  have hE7 : Dk.ET W7 := by
    obtain ⟨_, _, _, _, _, _, _, hb, _⟩ := hr
    exact hE.below hb hE.lt
  refine ⟨rfl, (Dk.class_at b 32 W7 hE7 hw7).mono ?_⟩
  rintro e W8 ⟨rfl, hb8⟩
  exact ⟨rfl, hr.below hb8⟩
end
end Go.Proofs.YtpminalccnhkjaaGreatDoor
