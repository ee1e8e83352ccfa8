/- Both writers' posts in one form: bytes, and a class. -/
import Derived.Test.YthphadbcebeoaaaGreatDoorJRefEn2RefEn3
import Derived.Test.YthphadbcebeoaaaGreatDoorJRdMathRdMath2
import Derived.Laws.ResultCell
import Derived.Test.YthphadbcebeoaaaGreatDoorJRef1IntTextLawNumbersLaidBytesIn
import Derived.Deep.Strs
namespace Go.Proofs.YthphadbcebeoaaaGreatDoor
open Go.RowKit Go.Lib

/-- An error of this class; none: 0. -/
def EO (w : World) (er : Value) (c : Int) : Prop := (er = .nilIface ∧ c = 0) ∨ ∃ b pl, er = ev b ∧ ErrAt w b pl c
def clsOf (s : Option (List UInt8)) : Int := match s with | some _ => 0 | none => 20
theorem EO.later {w w' : World} {er : Value} {c : Int} (h : EO w er c) (hb : Below w.heap.size w w') : EO w' er c := by
  rcases h with h | ⟨b, pl, h1, h2⟩
  · exact .inl h
  · exact .inr ⟨b, pl, h1, h2.below hb h2.lt⟩
theorem class_eo (er : Value) (c : Int) (w : World) (hE : ET w) (h : EO w er c) :
    Calls Tryz.prog 22 #[er] w fun e w' => e = .returned (.int .i64 c) ∧ Below w.heap.size w w' := by
  rcases h with ⟨rfl, rfl⟩ | ⟨b, pl, rfl, h2⟩
  · exact (class_nil w).mono fun e w' ⟨h1, h2⟩ => ⟨h1, by rw [h2]; exact Below.refl _ _⟩
  · exact class_at b pl c w hE h2
/-- What a writer tells. -/
def WP (s : Option (List UInt8)) (w : World) (e : Ending) (w' : World) : Prop :=
  ∃ p er, e = .returned (.tuple #[p, er]) ∧ RBp w' w'.heap.size p (s.getD []) ∧ EO w' er (clsOf s) ∧ Below w.heap.size w w'
def WR (s : Option (List UInt8)) (w : World) (e : Ending) (w' : World) : Prop :=
  ∃ p, e = .returned (.tuple #[p, .int .i64 (clsOf s)]) ∧ RBp w' w'.heap.size p (s.getD []) ∧ Below w.heap.size w w'
theorem done_wp {s : Option (List UInt8)} {w w' : World} {e : Ending} (hs : ∀ l, s = some l → l.length ≤ 1000000000000) (h : DonePost s w.heap.size w e w') : WP s w e w' := by
  cases s with
  | some l =>
    obtain ⟨a, k, rfl, ho, hb⟩ := h
    exact ⟨_, _, rfl, rb_own ho (hs l rfl), .inl ⟨rfl, rfl⟩, hb⟩
  | none =>
    obtain ⟨b, pl, rfl, hB, he, hb⟩ := h
    exact ⟨_, _, rfl, ⟨Nat.zero_le _, .inl ⟨rfl, rfl⟩⟩, .inr ⟨b, pl, rfl, he⟩, hb⟩
theorem ref_wr {s : Option (List UInt8)} {w w' : World} {e : Ending} (h : RefPost s w e w') : WR s w e w' := by
  cases s with
  | some l =>
    obtain ⟨a, k, rfl, hr, hb⟩ := h
    exact ⟨_, rfl, hr, hb⟩
  | none =>
    obtain ⟨rfl, hb⟩ := h
    exact ⟨_, rfl, ⟨Nat.zero_le _, .inl ⟨rfl, rfl⟩⟩, hb⟩

/-- The bytes of a row, if it may be. -/
def rowBytes (gs : List GV) : Option (List UInt8) := putVals gs (putLen gs.length 64 (some []))
theorem rowBytes_len {gs : List GV} (hg : ∀ g ∈ gs, g.ok) : ∀ l, rowBytes gs = some l → l.length ≤ 1000000000000 := by
  intro l h
  unfold rowBytes at h
  by_cases h64 : gs.length ≤ 64
  · rw [putLen, if_pos (by omega)] at h
    have h1 := putVals_len hg l h
    have h2 := uvarint_length64 (x := gs.length) (by omega)
    simp at h1
    omega
  · rw [putVals_long (by omega)] at h; cases h
theorem RV.later {w w' : World} {B B' : Nat} {v : Value} {gs : List GV} (h : RV w B v gs) (hb : Below B w w') (hB : B ≤ B') : RV w' B' v gs := by
  obtain ⟨h1, h2, h3 | ⟨b, off, cap, hbB, rfl, hc⟩⟩ := h
  · exact ⟨h1, h2, .inl h3⟩
  · refine ⟨h1, h2, .inr ⟨b, off, cap, by omega, rfl, fun i g hg => ?_⟩⟩
    obtain ⟨c0, c1, c2⟩ := hc i g hg
    exact ⟨(hb.cell (p := ⟨b, off + i * 3, none⟩) hbB).trans c0, (hb.cell (p := ⟨b, off + i * 3 + 1, none⟩) hbB).trans c1, (hb.cell (p := ⟨b, off + i * 3 + 2, none⟩) hbB).trans c2⟩
/-- The bytes of an entry, if it may be. -/
def entBytes (g : GE) : Option (List UInt8) := putEnt g (some [])
theorem ge_bytes_len {g : GE} (hg : g.ok) (hm : g.may = true) : g.bytes.length ≤ 100000 := by
  obtain ⟨h1, h2, h3, h4⟩ := hg
  have h5 : g.sql.size ≤ 2000 := by simp [GE.may] at hm; exact hm.2
  have hk : g.kind = 0 ∨ g.kind = 1 := by
    simp [GE.may] at hm
    rcases hm.1 with h | h
    · exact .inl h.1.1.1
    · exact .inr h
  have e1 := uvarint_length64 h1
  have e2 := uvarint_length64 h2
  have e3 := uvarint_length64 h3
  have e4 := uvarint_length64 (x := g.sql.size) (by omega)
  have e5 := uvarint_length64 (x := g.kind.toNat) (by rcases hk with h | h <;> rw [h] <;> decide)
  unfold GE.bytes
  split
  · simp only [List.length_append, bytes_length]; omega
  · simp only [List.length_append, List.length_nil]; omega
theorem entBytes_len {g : GE} (hg : g.ok) : ∀ l, entBytes g = some l → l.length ≤ 1000000000000 := by
  intro l h
  unfold entBytes at h
  cases hm : g.may with
  | false => rw [putEnt_no hm] at h; cases h
  | true =>
    rw [putEnt_yes hm] at h
    injection h with h
    rw [← h]
    have := ge_bytes_len hg hm
    omega
theorem putEntry_wp (g : GE) (w : World) (hg : g.ok) : Calls Tryz.prog 79 #[.agg #[.int .u64 g.term, .int .i64 g.kind, .int .u64 g.client, .int .u64 g.seq, .string g.sql]] w fun e w' => WP (entBytes g) w e w' :=
  (putEntry_any g w hg).mono fun _ _ h => done_wp (entBytes_len hg) h
theorem refPutEntry_wr (g : GE) (w : World) (hg : g.ok) : Calls Tryz.prog 41 #[.agg #[.int .u64 g.term, .int .i64 g.kind, .int .u64 g.client, .int .u64 g.seq, .string g.sql]] w fun e w' => WR (entBytes g) w e w' := by
  cases hm : g.may with
  | false =>
    have e : entBytes g = none := putEnt_no hm
    rw [e]
    exact (refPutEntry_no g w hg hm).mono fun _ _ h => ref_wr h
  | true =>
    have e : entBytes g = some g.bytes := putEnt_yes hm
    rw [e]
    obtain ⟨te, k, c, q, t⟩ := g
    obtain ⟨h1, h2, h3, h4⟩ := hg
    dsimp only at *
    by_cases hk0 : k = 0
    · subst hk0
      simp [GE.may] at hm
      obtain ⟨⟨⟨rfl, rfl⟩, hE⟩, hs⟩ := hm
      have hz : t.size = 0 := by
        have : t.toList.isEmpty = true := by simp [hE]
        exact isEmpty_size t this
      have e2 : GE.bytes ⟨te, 0, 0, 0, t⟩ = uvarint te ++ uvarint 0 := by simp [GE.bytes]
      rw [e2]
      exact (refPutEntry_none te w t h1 (by simp [hE]) hz).mono fun _ _ h => ref_wr h
    · have hk1 : k = 1 := by
        have b0 : (k == 0) = false := by simp [hk0]
        simp [GE.may, b0] at hm; exact hm.1
      subst hk1
      have hs : t.size ≤ 2000 := by simp [GE.may] at hm; exact hm
      have e2 : GE.bytes ⟨te, 1, c, q, t⟩ = uvarint te ++ uvarint 1 ++ uvarint c ++ uvarint q ++ textBytes t := by simp [GE.bytes, textBytes]
      rw [e2]
      exact (refPutEntry_cmd te c q t w h1 h2 h3 hs).mono fun _ _ h => ref_wr h
end Go.Proofs.YthphadbcebeoaaaGreatDoor
/- The document's own readers of a number, a text, a value. -/
namespace Go.Proofs.YthphadbcebeoaaaGreatDoor
open Go.RowKit Go.Lib

/-- What it tells. -/
def UR (r : Nat × Nat × Nat × Nat) : Ending := .returned (.tuple #[.int .u64 r.1, .int .i64 r.2.1, .int .i64 r.2.2.1])
theorem ur_form {r : Nat × Nat × Nat × Nat} {c k : Nat} (h : r = (0, 0, c, k)) : (.returned (.tuple #[.int .u64 0, .int .i64 0, .int .i64 (c : Int)]) : Ending) = UR r := by
  subst h; rfl
theorem ur_done {r : Nat × Nat × Nat × Nat} {n : Int} {k a p : Nat} (h : r = (a, k + 1, 0, p)) (hn : n = (a : Int)) : (.returned (.tuple #[.int .u64 n, .int .i64 ((k : Int) + 1), .int .i64 0]) : Ending) = UR r := by
  subst h; subst hn; rfl

theorem unzig_two (n : Nat) (h : n % 2 = 1) : -((n / 2 : Nat) : Int) - 1 = unzig n := by
  unfold unzig; rw [if_neg (by omega)]
theorem unzig_even (n : Nat) (h : n % 2 = 0) : ((n / 2 : Nat) : Int) = unzig n := by
  unfold unzig; rw [if_pos h]

end Go.Proofs.YthphadbcebeoaaaGreatDoor
namespace Go.Proofs.YthphadbcebeoaaaGreatDoor
open Go.RowKit Go.Lib

end Go.Proofs.YthphadbcebeoaaaGreatDoor
namespace Go.Proofs.YthphadbcebeoaaaGreatDoor
open Go.RowKit Go.Lib

theorem results_cell3 {fn : Func} {p u x : Tmp} {ty : TypeId} (h : fn.results = #[.cell p ty, .tmp u, .tmp x]) (tmps : Array Value) (P : Program) (w : World) :
    (results fn tmps).run P w =
      ((asAddr (tmps.getD p undef)).run P w).andThen fun a w₁ => ((loadVar ty a).run P w₁).andThen fun v w₂ => .ok (.tuple #[v, tmps.getD u undef, tmps.getD x undef]) w₂ := by
  simp only [results, h]
  simp [Sem.run_bind, Result.andThen]

/-- What it tells. -/
def VR (r : GV × Nat × Nat) : Ending := .returned (.tuple #[r.1.agg, .int .i64 (r.2.1 : Int), .int .i64 (r.2.2 : Int)])
end Go.Proofs.YthphadbcebeoaaaGreatDoor
namespace Go.Proofs.YthphadbcebeoaaaGreatDoor
open Go.RowKit Go.Lib

end Go.Proofs.YthphadbcebeoaaaGreatDoor
namespace Go.Proofs.YthphadbcebeoaaaGreatDoor
open Go.RowKit Go.Lib

theorem cell_zero {w : World} {b off : Nat} {c : UInt8} {r : List UInt8} (h : ∀ i, i < (c :: r).length → w.cell? ⟨b, off + i, none⟩ = some (.int .u8 (((c :: r).getD i 0).toNat : Int))) : w.cell? ⟨b, off, none⟩ = some (.int .u8 (c.toNat : Int)) := by
  simpa using h 0 (by simp)
theorem cell_one {w : World} {b off : Nat} {c t : UInt8} {r : List UInt8} (h : ∀ i, i < (c :: t :: r).length → w.cell? ⟨b, off + i, none⟩ = some (.int .u8 (((c :: t :: r).getD i 0).toNat : Int))) : w.cell? ⟨b, off + 1, none⟩ = some (.int .u8 (t.toNat : Int)) := by
  simpa using h 1 (by simp)

theorem ind_toList (l : List UInt8) : (⟨l.toArray⟩ : ByteArray).data.toList = l := by simp
theorem ba_size (l : List UInt8) : (⟨l.toArray⟩ : ByteArray).size = l.length := by simp [ByteArray.size]
end Go.Proofs.YthphadbcebeoaaaGreatDoor
/- The document's own reader of a row. -/
namespace Go.Proofs.YthphadbcebeoaaaGreatDoor
open Go.RowKit Go.Lib

end Go.Proofs.YthphadbcebeoaaaGreatDoor
/- Rows of values and entries that come in as arguments, as the walks ask for them. -/
namespace Go.Proofs.YthphadbcebeoaaaGreatDoor
open Go.ChangeShapes Go.WideShapes Go.ChangeAt Go.RowKit Go.Lib

theorem list_of {α : Type} (Q : Nat → α → Prop) : ∀ n, (∀ i, i < n → ∃ g, Q i g) → ∃ gs : List α, gs.length = n ∧ ∀ i g, gs[i]? = some g → Q i g := by
  intro n
  induction n with
  | zero => intro _; exact ⟨[], rfl, fun i g h => by simp at h⟩
  | succ n ih =>
    intro h
    obtain ⟨gs, hl, hg⟩ := ih fun i hi => h i (by omega)
    obtain ⟨g, hq⟩ := h n (by omega)
    refine ⟨gs ++ [g], by simp [hl], fun i x hx => ?_⟩
    rcases Nat.lt_trichotomy i n with hi | hi | hi
    · rw [List.getElem?_append_left (by omega)] at hx; exact hg i x hx
    · subst hi
      rw [List.getElem?_append_right (by omega), hl] at hx
      simp at hx; subst hx; exact hq
    · rw [List.getElem?_eq_none (by simp; omega)] at hx; cases hx
theorem list3 {α : Type} {cs : List α} (h : cs.length = 3) : ∃ a b c, cs = [a, b, c] := by
  match cs, h with
  | [a, b, c], _ => exact ⟨a, b, c, rfl⟩
theorem array5 {α : Type} {cs : Array α} (h : cs.size = 5) : ∃ a b c d e, cs = #[a, b, c, d, e] := by
  obtain ⟨l⟩ := cs
  match l, h with
  | [a, b, c, d, e], _ => exact ⟨a, b, c, d, e, rfl⟩

/-- A row of values, whatever its length. -/
def RVu (w : World) (B : Nat) (v : Value) (gs : List GV) : Prop :=
  gs.length ≤ maxLen ∧ (∀ g ∈ gs, g.ok) ∧ ((v = .slice none 0 0 ∧ gs = []) ∨
    ∃ b off cap, b < B ∧ v = .slice (some ⟨b, off, none⟩) gs.length cap ∧ ∀ i g, gs[i]? = some g → w.cell? ⟨b, off + i * 3, none⟩ = some (.int .i64 g.kind) ∧ w.cell? ⟨b, off + i * 3 + 1, none⟩ = some (.int .i64 g.int) ∧ w.cell? ⟨b, off + i * 3 + 2, none⟩ = some (.string g.text))
theorem RVu.rv {w : World} {B : Nat} {v : Value} {gs : List GV} (h : RVu w B v gs) (hl : gs.length ≤ 1000) : RV w B v gs := ⟨by omega, h.2.1, h.2.2⟩

theorem RVu.later {w w' : World} {B B' : Nat} {v : Value} {gs : List GV} (h : RVu w B v gs) (hb : Below B w w') (hB : B ≤ B') : RVu w' B' v gs := by
  obtain ⟨h1, h2, h3 | ⟨b, off, cap, hbB, rfl, hc⟩⟩ := h
  · exact ⟨h1, h2, .inl h3⟩
  · refine ⟨h1, h2, .inr ⟨b, off, cap, by omega, rfl, fun i g hg => ?_⟩⟩
    obtain ⟨c0, c1, c2⟩ := hc i g hg
    exact ⟨(hb.cell (p := ⟨b, off + i * 3, none⟩) hbB).trans c0, (hb.cell (p := ⟨b, off + i * 3 + 1, none⟩) hbB).trans c1, (hb.cell (p := ⟨b, off + i * 3 + 2, none⟩) hbB).trans c2⟩

theorem Tryz.cells37 : Tryz.prog.cellsOf 37 = 5 := by kernel_rfl
theorem Tryz.cells9 : Tryz.prog.cellsOf 9 = 1 := by kernel_rfl
theorem Tryz.cells2 : Tryz.prog.cellsOf 2 = 1 := by kernel_rfl
theorem Tryz.cells35 : Tryz.prog.cellsOf 35 = 1 := by kernel_rfl
theorem Tryz.cells3 : Tryz.prog.cellsOf 3 = 1 := by kernel_rfl

section
variable {H : Type} {enc : TypeId × Value → H} {W : World} {base : Nat} {sp : Nat → Bool} {hd : Bool}

theorem trod_struct5 {P : Program} {t : TypeId} {f0 f1 f2 f3 f4 : Field} {fuel : Nat} {cs : List Value} {x : DataW H × List MemPlace} (ht : P.underlying t = some (.struct #[f0, f1, f2, f3, f4])) (h : DataW.trod enc P W base sp hd fuel t cs = some x) :
    ∃ y0 y1 y2 y3 y4 n, cs.length = P.cellsOf t ∧ DataW.trod enc P W base sp hd n f0.type ((cs.drop f0.offset).take (P.cellsOf f0.type)) = some y0 ∧ DataW.trod enc P W base sp hd n f1.type ((cs.drop f1.offset).take (P.cellsOf f1.type)) = some y1 ∧
      DataW.trod enc P W base sp hd n f2.type ((cs.drop f2.offset).take (P.cellsOf f2.type)) = some y2 ∧ DataW.trod enc P W base sp hd n f3.type ((cs.drop f3.offset).take (P.cellsOf f3.type)) = some y3 ∧
      DataW.trod enc P W base sp hd n f4.type ((cs.drop f4.offset).take (P.cellsOf f4.type)) = some y4 := by
  obtain ⟨xs, n, _, rfl, hl, hlen, hf⟩ := DataW.trod_struct ht h
  match xs, hlen with
  | [y0, y1, y2, y3, y4], _ => exact ⟨y0, y1, y2, y3, y4, n, hl, by simpa using hf 0 f0 rfl, by simpa using hf 1 f1 rfl, by simpa using hf 2 f2 rfl, by simpa using hf 3 f3 rfl, by simpa using hf 4 f4 rfl⟩

set_option maxRecDepth 100000 in
theorem entry_in {b0 : Nat} {v : Value} {d : DataW H} {ps : List MemPlace}
    (hv : Value.okWide Tryz.prog W .any b0 37 v) (hT : DataW.Trod enc Tryz.prog W base sp hd 37 v d ps) :
    ∃ g : GE, g.ok ∧ v = .agg #[.int .u64 g.term, .int .i64 g.kind, .int .u64 g.client, .int .u64 g.seq, .string g.sql] := by
  obtain ⟨cs, rfl, hsz⟩ := okWide_struct Tryz.underlying37 hv
  rw [Tryz.cells37] at hsz
  obtain ⟨a, b, c, e, s, rfl⟩ := array5 hsz
  obtain ⟨fuel, hf⟩ := hT
  obtain ⟨y0, y1, y2, y3, y4, n, _, h0, h1, h2, h3, h4⟩ := trod_struct5 Tryz.underlying37 hf
  simp [Value.cells, Tryz.cells9, Tryz.cells35, Tryz.cells3] at h0 h1 h2 h3 h4
  obtain ⟨te, e0, _, w0⟩ := DataW.trod_int Tryz.underlying35 h0
  obtain ⟨k, e1, _, _⟩ := DataW.trod_int Tryz.underlying3 h1
  obtain ⟨cl, e2, _, w2⟩ := DataW.trod_int Tryz.underlying35 h2
  obtain ⟨q, e3, _, w3⟩ := DataW.trod_int Tryz.underlying35 h3
  obtain ⟨t, e4, _, w4⟩ := DataW.trod_string Tryz.underlying9 h4
  simp at e0 e1 e2 e3 e4
  subst e0 e1 e2 e3 e4
  have b0 := bounds_u64 w0
  have b2 := bounds_u64 w2
  have b3 := bounds_u64 w3
  obtain ⟨te, rfl⟩ := Int.eq_ofNat_of_zero_le b0.1
  obtain ⟨cl, rfl⟩ := Int.eq_ofNat_of_zero_le b2.1
  obtain ⟨q, rfl⟩ := Int.eq_ofNat_of_zero_le b3.1
  exact ⟨⟨te, k, cl, q, t⟩, ⟨by dsimp only; omega, by dsimp only; omega, by dsimp only; omega, w4⟩, rfl⟩
end
end Go.Proofs.YthphadbcebeoaaaGreatDoor
/- The walk of the statement WireWrites: it answers true; nothing old turns. -/
namespace Go.Proofs.YthphadbcebeoaaaGreatDoor
open Go.RowKit Go.Lib

theorem ET.later {w w' : World} (h : ET w) (hb : Below w.heap.size w w') : ET w' := h.below hb h.lt
theorem ST.later {w w' : World} (h : ST w) (hb : Below w.heap.size w w') : ST w' := h.below hb h.lt

end Go.Proofs.YthphadbcebeoaaaGreatDoor
