/- The message that comes in as an argument, as the walks ask for it; the walk of the statement WireMessages at every argument. -/
import Derived.Test.YtklclbegmpafpaaGreatDoorMsgLaw2
import Derived.Test.YtklclbegmpafpaaGreatDoorLawRows
namespace Go.Proofs.YtklclbegmpafpaaGreatDoor
open Go.ChangeShapes Go.WideShapes Go.ChangeAt Go.RowKit Go.Lib

theorem law_any (kd fr tgt : Int) (tm ix lt : Nat) (aE : Option Addr) (kE : Nat) (cm rd : Nat) (ok : Bool) (off : Int) (aD : Option Addr) (kD : Nat) (dn : Bool) (cl sq : Nat) (sql : ByteArray) (rsq : Nat) (rcl : Int) (aC : Option Addr) (kC : Nat) (aR : Option Addr) (kR : Nat) (rct : Int) (rix : Nat) (hint : Int) (es : List GE) (lb : List UInt8) (cs : List ByteArray) (rs : List (Value × List GV)) (at' : Int) (by' : Nat) (cut' : Int) (w : World) (htm : tm < 18446744073709551616) (hix : ix < 18446744073709551616) (hlt : lt < 18446744073709551616) (hcm : cm < 18446744073709551616) (hrd : rd < 18446744073709551616) (hcl : cl < 18446744073709551616) (hsq : sq < 18446744073709551616) (hrsq : rsq < 18446744073709551616) (hrix : rix < 18446744073709551616) (hS : sql.size ≤ maxLen)
    (hE : ET w) (hT : ST w) (hEs : SlE w w.heap.size (.slice aE es.length kE) es) (hD : lb.length ≤ maxLen) (hDb : lb.length ≤ 1000000000000 → RBp w w.heap.size (.slice aD lb.length kD) lb) (hCs : SlS w w.heap.size (.slice aC cs.length kC) cs) (hRs : SlR w w.heap.size (.slice aR rs.length kR) rs) (hby : by' < 256) :
    Calls Tryz.prog 3 #[.agg #[.int .i64 kd, .int .i64 fr, .int .i64 tgt, .int .u64 (tm : Nat), .int .u64 (ix : Nat), .int .u64 (lt : Nat), .slice aE es.length kE, .int .u64 (cm : Nat), .int .u64 (rd : Nat), .bool ok, .int .i64 off, .slice aD lb.length kD, .bool dn, .int .u64 (cl : Nat), .int .u64 (sq : Nat), .string sql, .int .u64 (rsq : Nat), .int .i64 rcl, .slice aC cs.length kC, .slice aR rs.length kR, .int .i64 rct, .int .u64 (rix : Nat), .int .i64 hint], .int .i64 at', .int .u8 by', .int .i64 cut'] w fun e w' => e = .returned (.bool true) ∧ Below w.heap.size w w' := by
  cases hs : eMsg (kd, fr, tgt, tm, ix, lt, es, cm, rd, ok, off, lb, dn, cl, sq, sql, (rsq, rcl, cs, rs.map Prod.snd, rct, rix), hint) with
  | none => exact law_none kd fr tgt tm ix lt aE kE cm rd ok off aD kD dn cl sq sql rsq rcl aC kC aR kR rct rix hint es lb cs rs at' by' cut' w htm hix hlt hcm hrd hcl hsq hrsq hrix hS hE hT hEs hD hDb hCs hRs hs
  | some bs => exact law_some kd fr tgt tm ix lt aE kE cm rd ok off aD kD dn cl sq sql rsq rcl aC kC aR kR rct rix hint es lb cs rs at' by' cut' w htm hix hlt hcm hrd hcl hsq hrsq hrix hS hE hT hEs hD hDb hCs hRs hby bs hs

theorem Tryz.cells4 : Tryz.prog.cellsOf 4 = 1 := by kernel_rfl
theorem Tryz.cells23 : Tryz.prog.cellsOf 23 = 1 := by kernel_rfl
theorem Tryz.cells24 : Tryz.prog.cellsOf 24 = 1 := by kernel_rfl
theorem Tryz.cells26 : Tryz.prog.cellsOf 26 = 1 := by kernel_rfl
theorem Tryz.cells27 : Tryz.prog.cellsOf 27 = 1 := by kernel_rfl
theorem Tryz.cells25 : Tryz.prog.cellsOf 25 = 1 := by kernel_rfl
theorem Tryz.cells29 : Tryz.prog.cellsOf 29 = 3 := by kernel_rfl
theorem Tryz.cells31 : Tryz.prog.cellsOf 31 = 6 := by kernel_rfl
theorem Tryz.cells33 : Tryz.prog.cellsOf 33 = 23 := by kernel_rfl
theorem Tryz.typesM : Tryz.prog.cellTypes Tryz.prog.depth 33 = some [3, 3, 3, 22, 22, 22, 23, 22, 22, 4, 3, 24, 4, 22, 22, 9, 22, 25, 26, 27, 3, 22, 3] := by kernel_rfl
theorem fields_some {α : Type} {xs : List α} {fs : Array Field} {T : Field → Option α} (hlen : xs.length = fs.size) (hf : ∀ (i : Nat) (f : Field), fs[i]? = some f → T f = xs[i]?) (i : Nat) (f : Field) (h : fs[i]? = some f) : ∃ y, T f = some y := by
  have : i < xs.length := by rw [hlen]; exact (Array.getElem?_eq_some_iff.1 h).1
  exact ⟨xs[i], (hf i f h).trans (List.getElem?_eq_getElem this)⟩
theorem array23 {α : Type} {cs : Array α} (h : cs.size = 23) : ∃ c0 c1 c2 c3 c4 c5 c6 c7 c8 c9 c10 c11 c12 c13 c14 c15 c16 c17 c18 c19 c20 c21 c22, cs = #[c0, c1, c2, c3, c4, c5, c6, c7, c8, c9, c10, c11, c12, c13, c14, c15, c16, c17, c18, c19, c20, c21, c22] := by
  obtain ⟨l⟩ := cs
  match l, h with
  | [c0, c1, c2, c3, c4, c5, c6, c7, c8, c9, c10, c11, c12, c13, c14, c15, c16, c17, c18, c19, c20, c21, c22], _ => exact ⟨c0, c1, c2, c3, c4, c5, c6, c7, c8, c9, c10, c11, c12, c13, c14, c15, c16, c17, c18, c19, c20, c21, c22, rfl⟩
set_option maxRecDepth 100000 in
theorem data_ok {W : World} {b0 : Nat} {c0 c1 c2 c3 c4 c5 c6 c7 c8 c9 c10 c11 c12 c13 c14 c15 c16 c17 c18 c19 c20 c21 c22 : Value} (h : Value.okWide Tryz.prog W .any b0 33 (.agg #[c0, c1, c2, c3, c4, c5, c6, c7, c8, c9, c10, c11, c12, c13, c14, c15, c16, c17, c18, c19, c20, c21, c22])) : Value.okWide Tryz.prog W .any b0 24 c11 := by
  simp only [Value.okWide, Tryz.underlying33] at h
  obtain ⟨cs, h1, _, ts, h2, _, h3⟩ := h
  injection h1 with h1
  subst h1
  rw [Tryz.typesM] at h2
  injection h2 with h2
  subst h2
  obtain ⟨u, hu, hc⟩ := h3 11 c11 rfl
  have : u = 24 := by simpa using hu.symm
  subst this
  simp only [Value.okWide, Tryz.underlying24]
  exact hc
section
variable {H : Type} {enc : TypeId × Value → H} {W : World} {base : Nat} {sp : Nat → Bool} {hd : Bool}

set_option maxRecDepth 100000 in
theorem ents_cells {fuel : Nat} {cs : List Value} {x : DataW H × List MemPlace} (h : DataW.trod enc Tryz.prog W base sp hd fuel 23 cs = some x) :
    ∃ (a : Option Addr) (k : Nat) (es : List (GE)), cs = [.slice a es.length k] ∧ SlE W W.heap.size (.slice a es.length k) es := by
  rcases DataW.trod_slice Tryz.underlying23 h with ⟨hcs, _⟩ | ⟨y, len, cap, elems, rest, n, _, hcs, _, hb, hl, hm, hlen, hel, _⟩
  · exact ⟨none, 0, [], hcs, by simp, by simp, none, 0, rfl, fun h => absurd rfl h⟩
  · rw [Tryz.cells63] at hel
    cases len with
    | zero => exact ⟨some y, cap, [], hcs, by simp, by simp, some y, cap, rfl, fun h => absurd rfl h⟩
    | succ len =>
      have first : ∃ u, W.cell? y = some u := by
        have he := hel 0 (by omega)
        rw [List.getElem?_eq_getElem (by omega), Option.bind_eq_some_iff] at he
        obtain ⟨cs', hc, ht⟩ := he
        obtain ⟨g, hg, rfl⟩ := ent_cells ht
        obtain ⟨_, _, hcell⟩ := World.cells?_some hc
        have c0 := hcell 0 (by omega)
        exact ⟨_, by simpa [Addr.add] using c0⟩
      obtain ⟨u0, hy⟩ := first
      have hspot := World.cell?_spot hy
      have hblk : y.block < W.heap.size := lt_of_cell hy
      obtain ⟨b, off, spot⟩ := y
      dsimp only at hspot hblk
      subst hspot
      have each : ∀ i, i < len + 1 → ∃ g : GE, (g.ok) ∧ W.cell? ⟨b, off + i * 5, none⟩ = some (.int .u64 g.term) ∧ W.cell? ⟨b, off + i * 5 + 1, none⟩ = some (.int .i64 g.kind) ∧ W.cell? ⟨b, off + i * 5 + 2, none⟩ = some (.int .u64 g.client) ∧ W.cell? ⟨b, off + i * 5 + 3, none⟩ = some (.int .u64 g.seq) ∧ W.cell? ⟨b, off + i * 5 + 4, none⟩ = some (.string g.sql) := by
        intro i hi
        have he := hel i hi
        rw [List.getElem?_eq_getElem (by omega), Option.bind_eq_some_iff] at he
        obtain ⟨cs', hc, ht⟩ := he
        obtain ⟨g, hg, rfl⟩ := ent_cells ht
        obtain ⟨_, _, hcell⟩ := World.cells?_some hc
        rw [Go.WideShapes.add_plain] at hcell
        have k0 := hcell 0 (by omega)
        have k1 := hcell 1 (by omega)
        have k2 := hcell 2 (by omega)
        have k3 := hcell 3 (by omega)
        have k4 := hcell 4 (by omega)
        rw [Go.WideShapes.add_plain] at k0 k1 k2 k3 k4
        exact ⟨g, hg, by simpa using k0, by simpa using k1, by simpa using k2, by simpa using k3, by simpa using k4⟩
      obtain ⟨es, hgl, hgs⟩ := list_of _ (len + 1) each
      refine ⟨some ⟨b, off, none⟩, cap, es, by rw [hgl]; exact hcs, by omega, fun g hg => ?_, some ⟨b, off, none⟩, cap, rfl, fun _ => ⟨b, off, rfl, hblk, fun i g hg => (hgs i g hg).2⟩⟩
      obtain ⟨i, hi⟩ := List.mem_iff_getElem?.1 hg
      exact (hgs i g hi).1

set_option maxRecDepth 100000 in
theorem strs_cells {fuel : Nat} {cs : List Value} {x : DataW H × List MemPlace} (h : DataW.trod enc Tryz.prog W base sp hd fuel 26 cs = some x) :
    ∃ (a : Option Addr) (k : Nat) (es : List (ByteArray)), cs = [.slice a es.length k] ∧ SlS W W.heap.size (.slice a es.length k) es := by
  rcases DataW.trod_slice Tryz.underlying26 h with ⟨hcs, _⟩ | ⟨y, len, cap, elems, rest, n, _, hcs, _, hb, hl, hm, hlen, hel, _⟩
  · exact ⟨none, 0, [], hcs, by simp, by simp, none, 0, rfl, fun h => absurd rfl h⟩
  · rw [Tryz.cells9] at hel
    cases len with
    | zero => exact ⟨some y, cap, [], hcs, by simp, by simp, some y, cap, rfl, fun h => absurd rfl h⟩
    | succ len =>
      have first : ∃ u, W.cell? y = some u := by
        have he := hel 0 (by omega)
        rw [List.getElem?_eq_getElem (by omega), Option.bind_eq_some_iff] at he
        obtain ⟨cs', hc, ht⟩ := he
        obtain ⟨g, rfl, _, hg⟩ := DataW.trod_string Tryz.underlying9 ht
        obtain ⟨_, _, hcell⟩ := World.cells?_some hc
        have c0 := hcell 0 (by omega)
        exact ⟨_, by simpa [Addr.add] using c0⟩
      obtain ⟨u0, hy⟩ := first
      have hspot := World.cell?_spot hy
      have hblk : y.block < W.heap.size := lt_of_cell hy
      obtain ⟨b, off, spot⟩ := y
      dsimp only at hspot hblk
      subst hspot
      have each : ∀ i, i < len + 1 → ∃ g : ByteArray, (g.size ≤ maxLen) ∧ W.cell? ⟨b, off + i, none⟩ = some (.string g) := by
        intro i hi
        have he := hel i hi
        rw [List.getElem?_eq_getElem (by omega), Option.bind_eq_some_iff] at he
        obtain ⟨cs', hc, ht⟩ := he
        obtain ⟨g, rfl, _, hg⟩ := DataW.trod_string Tryz.underlying9 ht
        obtain ⟨_, _, hcell⟩ := World.cells?_some hc
        rw [Go.WideShapes.add_plain] at hcell
        have k0 := hcell 0 (by omega)
        rw [Go.WideShapes.add_plain] at k0
        exact ⟨g, hg, by simpa using k0⟩
      obtain ⟨es, hgl, hgs⟩ := list_of _ (len + 1) each
      refine ⟨some ⟨b, off, none⟩, cap, es, by rw [hgl]; exact hcs, by omega, fun g hg => ?_, some ⟨b, off, none⟩, cap, rfl, fun _ => ⟨b, off, rfl, hblk, fun i g hg => (hgs i g hg).2⟩⟩
      obtain ⟨i, hi⟩ := List.mem_iff_getElem?.1 hg
      exact (hgs i g hi).1

set_option maxRecDepth 100000 in
theorem rows_cells {fuel : Nat} {cs : List Value} {x : DataW H × List MemPlace} (h : DataW.trod enc Tryz.prog W base sp hd fuel 27 cs = some x) :
    ∃ (a : Option Addr) (k : Nat) (es : List (Value × List GV)), cs = [.slice a es.length k] ∧ SlR W W.heap.size (.slice a es.length k) es := by
  rcases DataW.trod_slice Tryz.underlying27 h with ⟨hcs, _⟩ | ⟨y, len, cap, elems, rest, n, _, hcs, _, hb, hl, hm, hlen, hel, _⟩
  · exact ⟨none, 0, [], hcs, by simp, by simp, none, 0, rfl, fun h => absurd rfl h⟩
  · rw [Tryz.cells49] at hel
    cases len with
    | zero => exact ⟨some y, cap, [], hcs, by simp, by simp, some y, cap, rfl, fun h => absurd rfl h⟩
    | succ len =>
      have first : ∃ u, W.cell? y = some u := by
        have he := hel 0 (by omega)
        rw [List.getElem?_eq_getElem (by omega), Option.bind_eq_some_iff] at he
        obtain ⟨cs', hc, ht⟩ := he
        obtain ⟨v, gs, rfl, hr⟩ := vals_cells ht
        obtain ⟨_, _, hcell⟩ := World.cells?_some hc
        have c0 := hcell 0 (by omega)
        exact ⟨_, by simpa [Addr.add] using c0⟩
      obtain ⟨u0, hy⟩ := first
      have hspot := World.cell?_spot hy
      have hblk : y.block < W.heap.size := lt_of_cell hy
      obtain ⟨b, off, spot⟩ := y
      dsimp only at hspot hblk
      subst hspot
      have each : ∀ i, i < len + 1 → ∃ g : Value × List GV, (RVe W W.heap.size g.1 g.2) ∧ W.cell? ⟨b, off + i, none⟩ = some (g.1) := by
        intro i hi
        have he := hel i hi
        rw [List.getElem?_eq_getElem (by omega), Option.bind_eq_some_iff] at he
        obtain ⟨cs', hc, ht⟩ := he
        obtain ⟨v, gs, rfl, hr⟩ := vals_cells ht
        obtain ⟨_, _, hcell⟩ := World.cells?_some hc
        rw [Go.WideShapes.add_plain] at hcell
        have k0 := hcell 0 (by omega)
        rw [Go.WideShapes.add_plain] at k0
        exact ⟨(v, gs), hr, by simpa using k0⟩
      obtain ⟨es, hgl, hgs⟩ := list_of _ (len + 1) each
      refine ⟨some ⟨b, off, none⟩, cap, es, by rw [hgl]; exact hcs, by omega, fun g hg => ?_, some ⟨b, off, none⟩, cap, rfl, fun _ => ⟨b, off, rfl, hblk, fun i g hg => (hgs i g hg).2⟩⟩
      obtain ⟨i, hi⟩ := List.mem_iff_getElem?.1 hg
      exact (hgs i g hi).1

end
set_option maxHeartbeats 3200000 in
set_option maxRecDepth 100000 in
theorem law_in {H : Type} {enc : TypeId × Value → H} {W : World} {base b0 : Nat} {hd : Bool} {v : Value} {d : DataW H} {ps : List MemPlace} (at' : Int) (by' : Nat) (cut' : Int) (hE : ET W) (hT : ST W) (hby : by' < 256)
    (hv : Value.okWide Tryz.prog W .any b0 33 v) (hTr : DataW.Trod enc Tryz.prog W base (fun _ => true) hd 33 v d ps) :
    Calls Tryz.prog 3 #[v, .int .i64 at', .int .u8 by', .int .i64 cut'] W fun e w' => e = .returned (.bool true) ∧ Below W.heap.size W w' := by
  obtain ⟨cs0, rfl, hsz⟩ := okWide_struct Tryz.underlying33 hv
  rw [Tryz.cells33] at hsz
  obtain ⟨c0, c1, c2, c3, c4, c5, c6, c7, c8, c9, c10, c11, c12, c13, c14, c15, c16, c17, c18, c19, c20, c21, c22, rfl⟩ := array23 hsz
  have hdat := data_ok hv
  clear hv hsz
  obtain ⟨fuel, hf0⟩ := hTr
  obtain ⟨xs, n, _, _, _, hlen, hf⟩ := DataW.trod_struct Tryz.underlying33 hf0
  have g := fields_some hlen hf
  clear hf0
  obtain ⟨y0, h0⟩ := g 0 _ rfl
  simp [Value.cells, Tryz.cells3] at h0
  obtain ⟨y1, h1⟩ := g 1 _ rfl
  simp [Value.cells, Tryz.cells3] at h1
  obtain ⟨y2, h2⟩ := g 2 _ rfl
  simp [Value.cells, Tryz.cells3] at h2
  obtain ⟨y3, h3⟩ := g 3 _ rfl
  simp [Value.cells, Tryz.cells22] at h3
  obtain ⟨y4, h4⟩ := g 4 _ rfl
  simp [Value.cells, Tryz.cells22] at h4
  obtain ⟨y5, h5⟩ := g 5 _ rfl
  simp [Value.cells, Tryz.cells22] at h5
  obtain ⟨y6, h6⟩ := g 6 _ rfl
  simp [Value.cells, Tryz.cells23] at h6
  obtain ⟨y7, h7⟩ := g 7 _ rfl
  simp [Value.cells, Tryz.cells22] at h7
  obtain ⟨y8, h8⟩ := g 8 _ rfl
  simp [Value.cells, Tryz.cells22] at h8
  obtain ⟨y9, h9⟩ := g 9 _ rfl
  simp [Value.cells, Tryz.cells4] at h9
  obtain ⟨y10, h10⟩ := g 10 _ rfl
  simp [Value.cells, Tryz.cells3] at h10
  obtain ⟨y11, h11⟩ := g 11 _ rfl
  simp [Value.cells, Tryz.cells24] at h11
  obtain ⟨y12, h12⟩ := g 12 _ rfl
  simp [Value.cells, Tryz.cells4] at h12
  obtain ⟨y13, h13⟩ := g 13 _ rfl
  simp [Value.cells, Tryz.cells22] at h13
  obtain ⟨y14, h14⟩ := g 14 _ rfl
  simp [Value.cells, Tryz.cells22] at h14
  obtain ⟨y15, h15⟩ := g 15 _ rfl
  simp [Value.cells, Tryz.cells9] at h15
  obtain ⟨y16, h16⟩ := g 16 _ rfl
  simp [Value.cells, Tryz.cells31] at h16
  obtain ⟨y17, h17⟩ := g 17 _ rfl
  simp [Value.cells, Tryz.cells3] at h17
  clear g hf hlen
  obtain ⟨kd, e0, _, _⟩ := DataW.trod_int Tryz.underlying3 h0
  obtain ⟨fr, e1, _, _⟩ := DataW.trod_int Tryz.underlying3 h1
  obtain ⟨tgt, e2, _, _⟩ := DataW.trod_int Tryz.underlying3 h2
  obtain ⟨tm, e3, _, b3⟩ := DataW.trod_int Tryz.underlying22 h3
  obtain ⟨ix, e4, _, b4⟩ := DataW.trod_int Tryz.underlying22 h4
  obtain ⟨lt, e5, _, b5⟩ := DataW.trod_int Tryz.underlying22 h5
  obtain ⟨aE, kE, es, e6, hEs⟩ := ents_cells h6
  obtain ⟨cm, e7, _, b7⟩ := DataW.trod_int Tryz.underlying22 h7
  obtain ⟨rd, e8, _, b8⟩ := DataW.trod_int Tryz.underlying22 h8
  obtain ⟨ok, e9, _⟩ := DataW.trod_bool Tryz.underlying4 h9
  obtain ⟨off, e10, _, _⟩ := DataW.trod_int Tryz.underlying3 h10
  obtain ⟨dn, e12, _⟩ := DataW.trod_bool Tryz.underlying4 h12
  obtain ⟨cl, e13, _, b13⟩ := DataW.trod_int Tryz.underlying22 h13
  obtain ⟨sq, e14, _, b14⟩ := DataW.trod_int Tryz.underlying22 h14
  obtain ⟨sql, e15, _, hS⟩ := DataW.trod_string Tryz.underlying9 h15
  obtain ⟨hint, e22, _, _⟩ := DataW.trod_int Tryz.underlying3 h17
  obtain ⟨xs2, n2, _, _, _, hlen2, hf2⟩ := DataW.trod_struct Tryz.underlying31 h16
  have g2 := fields_some hlen2 hf2
  obtain ⟨z0, r0⟩ := g2 0 _ rfl
  simp [Tryz.cells22] at r0
  obtain ⟨z1, r1⟩ := g2 1 _ rfl
  simp [Tryz.cells25] at r1
  obtain ⟨z2, r2⟩ := g2 2 _ rfl
  simp [Tryz.cells29] at r2
  obtain ⟨z3, r3⟩ := g2 3 _ rfl
  simp [Tryz.cells22] at r3
  clear g2 hf2 hlen2
  obtain ⟨rsq, e16, _, b16⟩ := DataW.trod_int Tryz.underlying22 r0
  obtain ⟨rcl, e17, _, _⟩ := DataW.trod_int Tryz.underlying25 r1
  obtain ⟨rix, e21, _, b21⟩ := DataW.trod_int Tryz.underlying22 r3
  obtain ⟨z4, z5, z6, n3, _, _, q0, q1, q2⟩ := Go.Deep.trod_struct3 Tryz.underlying29 r2
  simp [Tryz.cells26] at q0
  simp [Tryz.cells27] at q1
  simp [Tryz.cells3] at q2
  obtain ⟨aC, kC, cs, e18, hCs⟩ := strs_cells q0
  obtain ⟨aR, kR, rs, e19, hRs⟩ := rows_cells q1
  obtain ⟨rct, e20, _, _⟩ := DataW.trod_int Tryz.underlying3 q2
  simp at e0 e1 e2 e3 e4 e5 e6 e7 e8 e9 e10 e12 e13 e14 e15 e16 e17 e18 e19 e20 e21 e22
  subst e0 e1 e2 e3 e4 e5 e6 e7 e8 e9 e10 e12 e13 e14 e15 e16 e17 e18 e19 e20 e21 e22
  have b3 := bounds_u64 b3
  obtain ⟨tm, rfl⟩ := Int.eq_ofNat_of_zero_le b3.1
  have b4 := bounds_u64 b4
  obtain ⟨ix, rfl⟩ := Int.eq_ofNat_of_zero_le b4.1
  have b5 := bounds_u64 b5
  obtain ⟨lt, rfl⟩ := Int.eq_ofNat_of_zero_le b5.1
  have b7 := bounds_u64 b7
  obtain ⟨cm, rfl⟩ := Int.eq_ofNat_of_zero_le b7.1
  have b8 := bounds_u64 b8
  obtain ⟨rd, rfl⟩ := Int.eq_ofNat_of_zero_le b8.1
  have b13 := bounds_u64 b13
  obtain ⟨cl, rfl⟩ := Int.eq_ofNat_of_zero_le b13.1
  have b14 := bounds_u64 b14
  obtain ⟨sq, rfl⟩ := Int.eq_ofNat_of_zero_le b14.1
  have b16 := bounds_u64 b16
  obtain ⟨rsq, rfl⟩ := Int.eq_ofNat_of_zero_le b16.1
  have b21 := bounds_u64 b21
  obtain ⟨rix, rfl⟩ := Int.eq_ofNat_of_zero_le b21.1
  obtain ⟨a11, n11, k11, rfl⟩ := okWide_slice Tryz.underlying24 hdat
  obtain ⟨lb, hl, hm, hrb⟩ := bytes_in hdat ⟨n, h11⟩
  subst hl
  exact law_any kd fr tgt tm ix lt aE kE cm rd ok off a11 k11 dn cl sq sql rsq rcl aC kC aR kR rct rix hint es lb cs rs at' by' cut' W (by omega) (by omega) (by omega) (by omega) (by omega) (by omega) (by omega) (by omega) (by omega) hS hE hT hEs hm (fun h => hrb.rb h) hCs hRs hby
end Go.Proofs.YtklclbegmpafpaaGreatDoor
