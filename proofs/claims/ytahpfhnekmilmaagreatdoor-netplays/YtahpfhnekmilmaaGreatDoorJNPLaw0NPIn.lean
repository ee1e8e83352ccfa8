/- NetPlays: what the calls of a round do. -/
import Derived.Test.YtahpfhnekmilmaaGreatDoorJNPSendNPState
import Derived.Test.YtahpfhnekmilmaaGreatDoorVErr
import Derived.Test.YtahpfhnekmilmaaGreatDoorJLawNumbersCrcMathFrameLaidBytesIn
import Derived.Deep.Strs
namespace Go.Proofs.YtahpfhnekmilmaaGreatDoor
open Go.RowKit Go.Lib Go.Proofs Go.Maps

/-- The row of steps that comes in. -/
def InN (w : World) (la : Option Addr) (gs : List NG) : Prop :=
  ∀ (j : Nat) (s : NG), gs[j]? = some s → s.sq < 18446744073709551616 ∧ (-9223372036854775808 ≤ s.i ∧ s.i ≤ 9223372036854775807) ∧ ∃ b off, la = some ⟨b, off, none⟩ ∧ b < w.heap.size ∧ ∀ k v, s.cells.toList[k]? = some v → w.cell? ⟨b, off + j * 5 + k, none⟩ = some v
theorem PH.start {w0 w : World} {p : Nat} (h : NS w0 w p [] (fun _ => False)) : PH w0 w p (.slice none 0 0) [] := ⟨h.less (fun k hk => by simp [Value.ownBlock] at hk), MR.nil _ _⟩
theorem MS.more {M : List Value} {a : Int × Nat} (h : MS M a.1 a.2) : MC M [a] := MC.single h
theorem ps_peek {w0 w : World} {p sb q : Nat} {v : Value} {A Am : List (Int × Nat)} {s : NG} (a : Int × Nat) (hE : ET w0) (h : PS w0 w p sb v A Am s) (ha : A[q]? = some a) :
    Calls Tryz.prog 14 #[.pointer (some ⟨p, 0, none⟩), .int .i64 (q : Int)] w fun e w' => ∃ M, e = .returned (.tuple #[.agg M.toArray, .nilIface]) ∧ MS M a.1 a.2 ∧ PS w0 w' p sb v A Am s := by
  refine (ns_peek a (h.et hE) h.ns ha).mono ?_
  rintro e w' ⟨M, rfl, hM, h1, h2⟩
  exact ⟨M, rfl, hM, h.call h1 h2⟩
theorem ps_len {w0 w : World} {p sb : Nat} {v : Value} {A Am : List (Int × Nat)} {s : NG} (h : PS w0 w p sb v A Am s) :
    Calls Tryz.prog 12 #[.pointer (some ⟨p, 0, none⟩)] w fun e w' => e = .returned (.int .i64 (A.length : Int)) ∧ w' = w := ns_len h.ns
theorem ps_find {w0 w : World} {p sb : Nat} {v : Value} {A Am : List (Int × Nat)} {s : NG} (t : Int) (h : PS w0 w p sb v A Am s) :
    Calls Tryz.prog 13 #[.pointer (some ⟨p, 0, none⟩), .int .i64 1, .int .i64 t] w fun e w' => e = .returned (.int .i64 (fnd t A 0)) ∧ PS w0 w' p sb v A Am s := by
  refine (ns_find t h.ns).mono ?_
  rintro e w' ⟨rfl, h1, h2⟩
  exact ⟨rfl, h.call h1 h2⟩
theorem ps_send {w0 w : World} {p sb : Nat} {v : Value} {A Am : List (Int × Nat)} {s : NG} (to' : Int) (sq : Nat) (bad : Bool) (hmay : mayS bad to' = true) (hsq : sq < 18446744073709551616) (h : PS w0 w p sb v A Am s) (hf : A.length < 4096) :
    Calls Tryz.prog 6 #[.pointer (some ⟨p, 0, none⟩), .agg (xL bad to' sq).toArray] w fun e w' => e = .returned .nilIface ∧ PS w0 w' p sb v (A ++ [(to', sq)]) Am s := by
  cases bad with
  | true => cases hmay
  | false =>
    have hto : -1 ≤ to' ∧ to' ≤ 1000 := by
      simp [mayS] at hmay
      exact hmay
    refine (ns_send to' sq hto hsq h.ns hf).mono ?_
    rintro e w' ⟨rfl, h1, h2⟩
    exact ⟨rfl, h.call h1 h2⟩
theorem ps_send_bad {w0 w : World} {p sb : Nat} {v : Value} {A Am : List (Int × Nat)} {s : NG} (to' : Int) (sq : Nat) (bad : Bool) (hmay : mayS bad to' = false) (hsq : sq < 18446744073709551616) (hE : ET w0) (hP : PT w0) (hG : 1 < w0.heap.size) (h : PS w0 w p sb v A Am s) :
    Calls Tryz.prog 6 #[.pointer (some ⟨p, 0, none⟩), .agg (xL bad to' sq).toArray] w fun e w' => ∃ b, e = .returned (Dk.evW b) ∧ PS w0 w' p sb v A Am s ∧ Hid (Calls Tryz.prog 8 #[Dk.evW b] w' fun e w2 => e = .returned (.int .i64 20) ∧ PS w0 w2 p sb v A Am s) := by
  refine (ns_send_bad bad to' sq hmay hsq (h.et hE) (fun W hW => hP.below (one_b h.bel hW) hG) h.ns).mono ?_
  rintro e w' ⟨b, rfl, he, h1, h2, _⟩
  have h3 := h.call h1 h2
  refine ⟨b, rfl, h3, (Dk.class_at b 20 w' (h3.et hE) he).mono ?_⟩
  rintro e w2 ⟨rfl, hb2⟩
  exact ⟨rfl, h3.below hb2⟩
theorem ps_take {w0 w : World} {p sb q : Nat} {v : Value} {A Am : List (Int × Nat)} {s : NG} (a : Int × Nat) (hE : ET w0) (h : PS w0 w p sb v A Am s) (ha : A[q]? = some a) :
    Calls Tryz.prog 9 #[.pointer (some ⟨p, 0, none⟩), .int .i64 (q : Int)] w fun e w' => ∃ M, e = .returned (.tuple #[.agg M.toArray, .nilIface]) ∧ MS M a.1 a.2 ∧ PS w0 w' p sb v (A.eraseIdx q) Am s := by
  refine (ns_take a (h.et hE) h.ns ha).mono ?_
  rintro e w' ⟨M, rfl, hM, h1, h2⟩
  exact ⟨M, rfl, hM, h.call h1 h2⟩
theorem ps_drop {w0 w : World} {p sb q : Nat} {v : Value} {A Am : List (Int × Nat)} {s : NG} (a : Int × Nat) (h : PS w0 w p sb v A Am s) (ha : A[q]? = some a) :
    Calls Tryz.prog 10 #[.pointer (some ⟨p, 0, none⟩), .int .i64 (q : Int)] w fun e w' => e = .returned .nilIface ∧ PS w0 w' p sb v (A.eraseIdx q) Am s := by
  refine (ns_drop a h.ns ha).mono ?_
  rintro e w' ⟨rfl, h1, h2⟩
  exact ⟨rfl, h.call h1 h2⟩
theorem ps_copy {w0 w : World} {p sb q : Nat} {v : Value} {A Am : List (Int × Nat)} {s : NG} (a : Int × Nat) (h : PS w0 w p sb v A Am s) (ha : A[q]? = some a) (hf : A.length < 4096) :
    Calls Tryz.prog 11 #[.pointer (some ⟨p, 0, none⟩), .int .i64 (q : Int)] w fun e w' => e = .returned .nilIface ∧ PS w0 w' p sb v (A ++ [a]) Am s := by
  refine (ns_copy a h.ns ha hf).mono ?_
  rintro e w' ⟨rfl, h1, h2⟩
  exact ⟨rfl, h.call h1 h2⟩
theorem ps_class {w0 w : World} {p sb b : Nat} {v : Value} {A Am : List (Int × Nat)} {s : NG} (i c : Int) (hE : ET w0) (h : PS w0 w p sb v A Am s) (he : ErrAt w b i c) :
    Calls Tryz.prog 8 #[ev b] w fun e w' => e = .returned (.int .i64 c) ∧ PS w0 w' p sb v A Am s := by
  refine (class_at b i c w (h.et hE) he).mono ?_
  rintro e w' hh
  exact ⟨hh.1, h.below (by first | exact hh.2 | exact hh.2.1)⟩
theorem PS.drew {w0 w : World} {p sb : Nat} {v : Value} {A Am : List (Int × Nat)} {s : NG} (h : PS w0 w p sb v A Am s) : PS w0 w.drew p sb v A Am s := h.below ⟨rfl, rfl, rfl, Nat.le_refl _, fun _ _ => rfl⟩
theorem PS.alloc {w0 w : World} {p sb : Nat} {v : Value} {A Am : List (Int × Nat)} {s : NG} (h : PS w0 w p sb v A Am s) (o : Obj) : PS w0 (w.alloc o) p sb v A Am s := h.below (below_alloc _ (Nat.le_refl _))
theorem ms_kind {w : World} {M : List Value} {to' : Int} {sq : Nat} (h : MS M to' sq) : (w.alloc (.cells M.toArray 43)).cell? ⟨w.heap.size, 0, none⟩ = some (.int .i64 1) := by
  have := range_new w 43 M 0 _ h.kind
  exact this
end Go.Proofs.YtahpfhnekmilmaaGreatDoor
/- The row of steps that comes in to NetPlays. -/
namespace Go.Proofs.YtahpfhnekmilmaaGreatDoor
open Go.ChangeShapes Go.WideShapes Go.ChangeAt Go.RowKit Go.Lib

theorem Tryz.ncellsInt : Tryz.prog.cellsOf 3 = 1 := by kernel_rfl
theorem Tryz.ncellsU : Tryz.prog.cellsOf 27 = 1 := by kernel_rfl
theorem Tryz.ncellsB : Tryz.prog.cellsOf 4 = 1 := by kernel_rfl
theorem Tryz.ncellsSt : Tryz.prog.cellsOf 29 = 5 := by kernel_rfl
theorem nfields_some {α : Type} {xs : List α} {fs : Array Field} {T : Field → Option α} (hlen : xs.length = fs.size) (hf : ∀ (i : Nat) (f : Field), fs[i]? = some f → T f = xs[i]?) (i : Nat) (f : Field) (h : fs[i]? = some f) : ∃ y, T f = some y := by
  have : i < xs.length := by rw [hlen]; exact (Array.getElem?_eq_some_iff.1 h).1
  exact ⟨xs[i], (hf i f h).trans (List.getElem?_eq_getElem this)⟩
theorem nlist5 {α : Type} {cs : List α} (h : cs.length = 5) : ∃ a b c d e, cs = [a, b, c, d, e] := by
  match cs, h with
  | [a, b, c, d, e], _ => exact ⟨a, b, c, d, e, rfl⟩
theorem nlist_of {α : Type} (Q : Nat → α → Prop) : ∀ n, (∀ i, i < n → ∃ g, Q i g) → ∃ gs : List α, gs.length = n ∧ ∀ i g, gs[i]? = some g → Q i g := by
  intro n
  induction n with
  | zero => intro _; exact ⟨[], rfl, fun i g h => by simp at h⟩
  | succ n ih =>
    intro h
    obtain ⟨gs, hl, hg⟩ := ih fun i hi => h i (by omega)
    obtain ⟨g, hq⟩ := h n (by omega)
    refine ⟨gs ++ [g], by simp [hl], fun i x hx => ?_⟩
    by_cases hi : i < n
    · rw [List.getElem?_append_left (by omega)] at hx
      exact hg i x hx
    · rw [List.getElem?_append_right (by omega)] at hx
      have : i = n := by
        have := (List.getElem?_eq_some_iff.1 hx).1
        simp at this; omega
      subst this
      simp [hl] at hx
      subst hx; exact hq
section
variable {H : Type} {enc : TypeId × Value → H} {W : World} {base : Nat} {hd : Bool}
set_option maxRecDepth 100000 in
theorem nstep_cells {fuel : Nat} {cs : List Value} {x : DataW H × List MemPlace} (h : DataW.trod enc Tryz.prog W base (fun _ => true) hd fuel 29 cs = some x) :
    ∃ s : NG, (s.sq < 18446744073709551616 ∧ (-9223372036854775808 ≤ s.i ∧ s.i ≤ 9223372036854775807)) ∧ cs = s.cells.toList := by
  obtain ⟨xs, n, _, _, hl, hlen, hf⟩ := DataW.trod_struct Tryz.underlying29 h
  rw [Tryz.ncellsSt] at hl
  obtain ⟨c0, c1, c2, c3, c4, rfl⟩ := nlist5 hl
  have g := nfields_some hlen hf
  clear h
  obtain ⟨y0, h0⟩ := g 0 _ rfl
  simp [Tryz.ncellsInt] at h0
  obtain ⟨y1, h1⟩ := g 1 _ rfl
  simp [Tryz.ncellsInt] at h1
  obtain ⟨y2, h2⟩ := g 2 _ rfl
  simp [Tryz.ncellsInt] at h2
  obtain ⟨y3, h3⟩ := g 3 _ rfl
  simp [Tryz.ncellsU] at h3
  obtain ⟨y4, h4⟩ := g 4 _ rfl
  simp [Tryz.ncellsB] at h4
  clear g hf hlen
  obtain ⟨z0, e0, _, b0⟩ := DataW.trod_int Tryz.underlying3 h0
  obtain ⟨z1, e1, _, b1⟩ := DataW.trod_int Tryz.underlying3 h1
  obtain ⟨z2, e2, _, b2⟩ := DataW.trod_int Tryz.underlying3 h2
  obtain ⟨z3, e3, _, b3⟩ := DataW.trod_int Tryz.underlying27 h3
  obtain ⟨z4, e4, _⟩ := DataW.trod_bool Tryz.underlying4 h4
  simp at e0 e1 e2 e3 e4
  subst e0 e1 e2 e3 e4
  have r1 := bounds_i64 b1
  have r3 := bounds_u64 b3
  obtain ⟨I, rfl⟩ := Int.eq_ofNat_of_zero_le r3.1
  refine ⟨⟨z0, z1, z2, I, z4⟩, ⟨by dsimp only; omega, by dsimp only; omega⟩, ?_⟩
  unfold NG.cells
  rfl
set_option maxRecDepth 100000 in
theorem nsteps_addr {b0 : Nat} {a : Addr} {len cap : Nat} (h : Value.okWide Tryz.prog W .any b0 22 (.slice (some a) len cap)) : a.spot = none ∧ a.block < W.heap.size := by
  simp only [Value.okWide, Tryz.underlying22, Cell.okWide, Cell.ok] at h
  obtain ⟨_, _, _, h2, row, cells, h3, _⟩ := h
  refine ⟨h2, ?_⟩
  rcases Nat.lt_or_ge a.block W.heap.size with h' | h'
  · exact h'
  · simp [World.shape?, Array.getElem?_eq_none h'] at h3
set_option maxRecDepth 100000 in
theorem nsteps_in {b0 : Nat} {a : Option Addr} {len cap : Nat} {d : DataW H} {ps : List MemPlace}
    (hv : Value.okWide Tryz.prog W .any b0 22 (.slice a len cap)) (hT : DataW.Trod enc Tryz.prog W base (fun _ => true) hd 22 (.slice a len cap) d ps) :
    ∃ gs, gs.length = len ∧ len ≤ maxLen ∧ InN W a gs := by
  obtain ⟨fuel, hf⟩ := hT
  rcases DataW.trod_slice Tryz.underlying22 hf with ⟨hcs, _⟩ | ⟨x, l, c, elems, rest, n, _, hcs, _, hb, hl, hm, hlen, hel, _⟩
  · simp [Value.cells] at hcs
    obtain ⟨rfl, rfl, rfl⟩ := hcs
    exact ⟨[], rfl, Nat.zero_le _, fun i s hi => by simp at hi⟩
  · simp [Value.cells] at hcs
    obtain ⟨rfl, rfl, rfl⟩ := hcs
    obtain ⟨hs, hblk⟩ := nsteps_addr hv
    obtain ⟨b, off, spot⟩ := x
    simp only at hs
    subst hs
    rw [Tryz.ncellsSt] at hel
    have each : ∀ i, i < len → ∃ s : NG, (s.sq < 18446744073709551616 ∧ (-9223372036854775808 ≤ s.i ∧ s.i ≤ 9223372036854775807)) ∧ ∀ j v, s.cells.toList[j]? = some v → W.cell? ⟨b, off + i * 5 + j, none⟩ = some v := by
      intro i hi
      have he := hel i hi
      rw [List.getElem?_eq_getElem (by omega), Option.bind_eq_some_iff] at he
      obtain ⟨cs, hc, ht⟩ := he
      obtain ⟨s, hs, rfl⟩ := nstep_cells ht
      obtain ⟨_, hl6, hcell⟩ := World.cells?_some hc
      rw [Go.WideShapes.add_plain] at hcell
      refine ⟨s, hs, fun j v hj => ?_⟩
      have hjl : j < 5 := (List.getElem?_eq_some_iff.1 hj).1
      have := hcell j hjl
      rw [Go.WideShapes.add_plain] at this
      rw [this, hj]
    obtain ⟨gs, hgl, hgs⟩ := nlist_of _ len each
    exact ⟨gs, hgl, by omega, fun i s hi => ⟨(hgs i s hi).1.1, (hgs i s hi).1.2, b, off, rfl, hblk, (hgs i s hi).2⟩⟩
end
end Go.Proofs.YtahpfhnekmilmaaGreatDoor
