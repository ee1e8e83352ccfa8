/- Both writers' posts in one form: bytes, and a class. -/
import Derived.Test.YtpminalccnhkjaaGreatDoorJRef2Ref3DrawRefEntRefEn2RefEn3
import Derived.Test.YtpminalccnhkjaaGreatDoorRdMath2
import Derived.Laws.ResultCell
namespace Go.Proofs.YtpminalccnhkjaaGreatDoor
open Go.RowKit Go.Lib

/-- An error of this class; none: 0. -/
def EO (w : World) (er : Value) (c : Int) : Prop := (er = .nilIface ∧ c = 0) ∨ ∃ b pl, er = ev b ∧ ErrAt w b pl c
def clsOf (s : Option (List UInt8)) : Int := match s with | some _ => 0 | none => 20
theorem EO.later {w w' : World} {er : Value} {c : Int} (h : EO w er c) (hb : Below w.heap.size w w') : EO w' er c := by
  rcases h with h | ⟨b, pl, h1, h2⟩
  · exact .inl h
  · exact .inr ⟨b, pl, h1, h2.below hb h2.lt⟩
theorem class_eo (er : Value) (c : Int) (w : World) (hE : ET w) (h : EO w er c) :
    Calls Tryz.prog 17 #[er] w fun e w' => e = .returned (.int .i64 c) ∧ Below w.heap.size w w' := by
  rcases h with ⟨rfl, rfl⟩ | ⟨b, pl, rfl, h2⟩
  · exact (class_nil w).mono fun e w' ⟨h1, h2⟩ => ⟨h1, by rw [h2]; exact Below.refl _ _⟩
  · exact class_at b pl c w hE h2
/-- What a writer tells. -/
def WP (s : Option (List UInt8)) (w : World) (e : Ending) (w' : World) : Prop :=
  ∃ p er, e = .returned (.tuple #[p, er]) ∧ RBp w' w'.heap.size p (s.getD []) ∧ EO w' er (clsOf s) ∧ Below w.heap.size w w'
def WR (s : Option (List UInt8)) (w : World) (e : Ending) (w' : World) : Prop :=
  ∃ p, e = .returned (.tuple #[p, .int .i64 (clsOf s)]) ∧ RBp w' w'.heap.size p (s.getD []) ∧ Below w.heap.size w w'
theorem done_wp {s : Option (List UInt8)} {w w' : World} {e : Ending} (hs : ∀ l, s = some l → l.length ≤ 1000000000000) (h : DonePost s w.heap.size w e w') : WP s w e w' := by
  cases s with
  | some l =>
    obtain ⟨a, k, rfl, ho, hb⟩ := h
    exact ⟨_, _, rfl, rb_own ho (hs l rfl), .inl ⟨rfl, rfl⟩, hb⟩
  | none =>
    obtain ⟨b, pl, rfl, hB, he, hb⟩ := h
    exact ⟨_, _, rfl, ⟨Nat.zero_le _, .inl ⟨rfl, rfl⟩⟩, .inr ⟨b, pl, rfl, he⟩, hb⟩
theorem ref_wr {s : Option (List UInt8)} {w w' : World} {e : Ending} (h : RefPost s w e w') : WR s w e w' := by
  cases s with
  | some l =>
    obtain ⟨a, k, rfl, hr, hb⟩ := h
    exact ⟨_, rfl, hr, hb⟩
  | none =>
    obtain ⟨rfl, hb⟩ := h
    exact ⟨_, rfl, ⟨Nat.zero_le _, .inl ⟨rfl, rfl⟩⟩, hb⟩

/-- The bytes of a row, if it may be. -/
def rowBytes (gs : List GV) : Option (List UInt8) := putVals gs (putLen gs.length 64 (some []))
theorem rowBytes_len {gs : List GV} (hg : ∀ g ∈ gs, g.ok) : ∀ l, rowBytes gs = some l → l.length ≤ 1000000000000 := by
  intro l h
  unfold rowBytes at h
  by_cases h64 : gs.length ≤ 64
  · rw [putLen, if_pos (by omega)] at h
    have h1 := putVals_len hg l h
    have h2 := uvarint_length64 (x := gs.length) (by omega)
    simp at h1
    omega
  · rw [putVals_long (by omega)] at h; cases h
theorem RV.later {w w' : World} {B B' : Nat} {v : Value} {gs : List GV} (h : RV w B v gs) (hb : Below B w w') (hB : B ≤ B') : RV w' B' v gs := by
  obtain ⟨h1, h2, h3 | ⟨b, off, cap, hbB, rfl, hc⟩⟩ := h
  · exact ⟨h1, h2, .inl h3⟩
  · refine ⟨h1, h2, .inr ⟨b, off, cap, by omega, rfl, fun i g hg => ?_⟩⟩
    obtain ⟨c0, c1, c2⟩ := hc i g hg
    exact ⟨(hb.cell (p := ⟨b, off + i * 3, none⟩) hbB).trans c0, (hb.cell (p := ⟨b, off + i * 3 + 1, none⟩) hbB).trans c1, (hb.cell (p := ⟨b, off + i * 3 + 2, none⟩) hbB).trans c2⟩
/-- The bytes of an entry, if it may be. -/
def entBytes (g : GE) : Option (List UInt8) := putEnt g (some [])
theorem ge_bytes_len {g : GE} (hg : g.ok) (hm : g.may = true) : g.bytes.length ≤ 100000 := by
  obtain ⟨h1, h2, h3, h4⟩ := hg
  have h5 : g.sql.size ≤ 2000 := by simp [GE.may] at hm; exact hm.2
  have hk : g.kind = 0 ∨ g.kind = 1 := by
    simp [GE.may] at hm
    rcases hm.1 with h | h
    · exact .inl h.1.1.1
    · exact .inr h
  have e1 := uvarint_length64 h1
  have e2 := uvarint_length64 h2
  have e3 := uvarint_length64 h3
  have e4 := uvarint_length64 (x := g.sql.size) (by omega)
  have e5 := uvarint_length64 (x := g.kind.toNat) (by rcases hk with h | h <;> rw [h] <;> decide)
  unfold GE.bytes
  split
  · simp only [List.length_append, bytes_length]; omega
  · simp only [List.length_append, List.length_nil]; omega
theorem entBytes_len {g : GE} (hg : g.ok) : ∀ l, entBytes g = some l → l.length ≤ 1000000000000 := by
  intro l h
  unfold entBytes at h
  cases hm : g.may with
  | false => rw [putEnt_no hm] at h; cases h
  | true =>
    rw [putEnt_yes hm] at h
    injection h with h
    rw [← h]
    have := ge_bytes_len hg hm
    omega
end Go.Proofs.YtpminalccnhkjaaGreatDoor
/- The document's own readers of a number, a text, a value. -/
namespace Go.Proofs.YtpminalccnhkjaaGreatDoor
open Go.RowKit Go.Lib

/-- What it tells. -/
def UR (r : Nat × Nat × Nat × Nat) : Ending := .returned (.tuple #[.int .u64 r.1, .int .i64 r.2.1, .int .i64 r.2.2.1])
theorem ur_form {r : Nat × Nat × Nat × Nat} {c k : Nat} (h : r = (0, 0, c, k)) : (.returned (.tuple #[.int .u64 0, .int .i64 0, .int .i64 (c : Int)]) : Ending) = UR r := by
  subst h; rfl
theorem ur_done {r : Nat × Nat × Nat × Nat} {n : Int} {k a p : Nat} (h : r = (a, k + 1, 0, p)) (hn : n = (a : Int)) : (.returned (.tuple #[.int .u64 n, .int .i64 ((k : Int) + 1), .int .i64 0]) : Ending) = UR r := by
  subst h; subst hn; rfl

theorem unzig_two (n : Nat) (h : n % 2 = 1) : -((n / 2 : Nat) : Int) - 1 = unzig n := by
  unfold unzig; rw [if_neg (by omega)]
theorem unzig_even (n : Nat) (h : n % 2 = 0) : ((n / 2 : Nat) : Int) = unzig n := by
  unfold unzig; rw [if_pos h]

end Go.Proofs.YtpminalccnhkjaaGreatDoor
namespace Go.Proofs.YtpminalccnhkjaaGreatDoor
open Go.RowKit Go.Lib

end Go.Proofs.YtpminalccnhkjaaGreatDoor
namespace Go.Proofs.YtpminalccnhkjaaGreatDoor
open Go.RowKit Go.Lib

theorem results_cell3 {fn : Func} {p u x : Tmp} {ty : TypeId} (h : fn.results = #[.cell p ty, .tmp u, .tmp x]) (tmps : Array Value) (P : Program) (w : World) :
    (results fn tmps).run P w =
      ((asAddr (tmps.getD p undef)).run P w).andThen fun a w₁ => ((loadVar ty a).run P w₁).andThen fun v w₂ => .ok (.tuple #[v, tmps.getD u undef, tmps.getD x undef]) w₂ := by
  simp only [results, h]
  simp [Sem.run_bind, Result.andThen]

/-- What it tells. -/
def VR (r : GV × Nat × Nat) : Ending := .returned (.tuple #[r.1.agg, .int .i64 (r.2.1 : Int), .int .i64 (r.2.2 : Int)])
end Go.Proofs.YtpminalccnhkjaaGreatDoor
namespace Go.Proofs.YtpminalccnhkjaaGreatDoor
open Go.RowKit Go.Lib

end Go.Proofs.YtpminalccnhkjaaGreatDoor
namespace Go.Proofs.YtpminalccnhkjaaGreatDoor
open Go.RowKit Go.Lib

theorem cell_zero {w : World} {b off : Nat} {c : UInt8} {r : List UInt8} (h : ∀ i, i < (c :: r).length → w.cell? ⟨b, off + i, none⟩ = some (.int .u8 (((c :: r).getD i 0).toNat : Int))) : w.cell? ⟨b, off, none⟩ = some (.int .u8 (c.toNat : Int)) := by
  simpa using h 0 (by simp)
theorem cell_one {w : World} {b off : Nat} {c t : UInt8} {r : List UInt8} (h : ∀ i, i < (c :: t :: r).length → w.cell? ⟨b, off + i, none⟩ = some (.int .u8 (((c :: t :: r).getD i 0).toNat : Int))) : w.cell? ⟨b, off + 1, none⟩ = some (.int .u8 (t.toNat : Int)) := by
  simpa using h 1 (by simp)

theorem ind_toList (l : List UInt8) : (⟨l.toArray⟩ : ByteArray).data.toList = l := by simp
theorem ba_size (l : List UInt8) : (⟨l.toArray⟩ : ByteArray).size = l.length := by simp [ByteArray.size]
end Go.Proofs.YtpminalccnhkjaaGreatDoor
/- The document's own reader of a row. -/
namespace Go.Proofs.YtpminalccnhkjaaGreatDoor
open Go.RowKit Go.Lib

end Go.Proofs.YtpminalccnhkjaaGreatDoor
/- The program's reader of an entry. -/
namespace Go.Proofs.YtpminalccnhkjaaGreatDoor
open Go.RowKit Go.Lib

/-- Bytes behind their number. -/
def rdData (l : List UInt8) (most : Nat) (s : Except Nat Nat) : List UInt8 × Except Nat Nat := rdTake l (rdBetween l 0 (most : Int) s).1.toNat (rdBetween l 0 (most : Int) s).2
theorem rdBetween_nat (l : List UInt8) (most : Nat) (s : Except Nat Nat) : ((rdBetween l 0 (most : Int) s).1.toNat : Int) = (rdBetween l 0 (most : Int) s).1 := by
  cases h : (rdBetween l 0 (most : Int) s).2 with
  | ok a => obtain ⟨n, e, _⟩ := rdBetween_ok (by omega) h; rw [e]; simp
  | error c => rw [rdBetween_err h]; rfl

/-- Five cells of a variable of a call's own. -/
structure B5 (w : World) (E : Nat) (a b c d e : Value) : Prop where
  lt : E < w.heap.size
  c0 : w.cell? ⟨E, 0, none⟩ = some a
  c1 : w.cell? ⟨E, 1, none⟩ = some b
  c2 : w.cell? ⟨E, 2, none⟩ = some c
  c3 : w.cell? ⟨E, 3, none⟩ = some d
  c4 : w.cell? ⟨E, 4, none⟩ = some e
  f0 : w.frozen? ⟨E, 0, none⟩ = false
  f1 : w.frozen? ⟨E, 1, none⟩ = false
  f2 : w.frozen? ⟨E, 2, none⟩ = false
  f3 : w.frozen? ⟨E, 3, none⟩ = false
  f4 : w.frozen? ⟨E, 4, none⟩ = false
theorem B5.new (w : World) (T : TypeId) (a b c d e : Value) : B5 (w.alloc (.cells #[a, b, c, d, e] T)) w.heap.size a b c d e := by
  constructor <;> simp
theorem B5.fq {w w' : World} {p E : Nat} {a b c d e : Value} (h : B5 w E a b c d e) (hf : Fq p w w') (hp : p < E) : B5 w' E a b c d e := by
  have hne : E ≠ p := by omega
  exact ⟨Nat.lt_of_lt_of_le h.lt hf.1.size, (hf.cell (a := ⟨E, 0, none⟩) h.lt hne).trans h.c0, (hf.cell (a := ⟨E, 1, none⟩) h.lt hne).trans h.c1, (hf.cell (a := ⟨E, 2, none⟩) h.lt hne).trans h.c2, (hf.cell (a := ⟨E, 3, none⟩) h.lt hne).trans h.c3, (hf.cell (a := ⟨E, 4, none⟩) h.lt hne).trans h.c4,
    (hf.frozen (a := ⟨E, 0, none⟩) h.lt hne).trans h.f0, (hf.frozen (a := ⟨E, 1, none⟩) h.lt hne).trans h.f1, (hf.frozen (a := ⟨E, 2, none⟩) h.lt hne).trans h.f2, (hf.frozen (a := ⟨E, 3, none⟩) h.lt hne).trans h.f3, (hf.frozen (a := ⟨E, 4, none⟩) h.lt hne).trans h.f4⟩
theorem B5.alloc {w : World} {E : Nat} {a b c d e : Value} (h : B5 w E a b c d e) (o : Obj) : B5 (w.alloc o) E a b c d e := by
  have hl := h.lt
  have hne := Nat.ne_of_lt hl
  exact ⟨by simp; omega, (World.cell?_alloc_lt _ _ ⟨E, 0, none⟩ hl).trans h.c0, (World.cell?_alloc_lt _ _ ⟨E, 1, none⟩ hl).trans h.c1, (World.cell?_alloc_lt _ _ ⟨E, 2, none⟩ hl).trans h.c2, (World.cell?_alloc_lt _ _ ⟨E, 3, none⟩ hl).trans h.c3, (World.cell?_alloc_lt _ _ ⟨E, 4, none⟩ hl).trans h.c4,
    (World.frozen?_alloc_old _ _ ⟨E, 0, none⟩ hne).trans h.f0, (World.frozen?_alloc_old _ _ ⟨E, 1, none⟩ hne).trans h.f1, (World.frozen?_alloc_old _ _ ⟨E, 2, none⟩ hne).trans h.f2, (World.frozen?_alloc_old _ _ ⟨E, 3, none⟩ hne).trans h.f3, (World.frozen?_alloc_old _ _ ⟨E, 4, none⟩ hne).trans h.f4⟩
theorem ne_off {b i j : Nat} (h : i ≠ j) : (⟨b, i, none⟩ : Addr) ≠ ⟨b, j, none⟩ := by intro e; injection e; contradiction
theorem ne_blk {b c i j : Nat} (h : b ≠ c) : (⟨b, i, none⟩ : Addr) ≠ ⟨c, j, none⟩ := by intro e; injection e; contradiction
theorem B5.other {w : World} {E k j : Nat} {a b c d e : Value} (h : B5 w E a b c d e) (hk : k ≠ E) (u : Value) : B5 (w.setCell ⟨k, j, none⟩ u) E a b c d e :=
  ⟨by simpa using h.lt, (World.cell?_setCell_other _ _ _ _ (ne_blk hk)).trans h.c0, (World.cell?_setCell_other _ _ _ _ (ne_blk hk)).trans h.c1, (World.cell?_setCell_other _ _ _ _ (ne_blk hk)).trans h.c2, (World.cell?_setCell_other _ _ _ _ (ne_blk hk)).trans h.c3, (World.cell?_setCell_other _ _ _ _ (ne_blk hk)).trans h.c4,
    by simpa using h.f0, by simpa using h.f1, by simpa using h.f2, by simpa using h.f3, by simpa using h.f4⟩
theorem B5.set1 {w : World} {E : Nat} {a b c d e : Value} (h : B5 w E a b c d e) (u : Value) : B5 (w.setCell ⟨E, 1, none⟩ u) E a u c d e :=
  ⟨by simpa using h.lt, (World.cell?_setCell_other _ _ _ _ (ne_off (by decide))).trans h.c0, World.cell?_setCell_same _ _ _ h.c1, (World.cell?_setCell_other _ _ _ _ (ne_off (by decide))).trans h.c2, (World.cell?_setCell_other _ _ _ _ (ne_off (by decide))).trans h.c3, (World.cell?_setCell_other _ _ _ _ (ne_off (by decide))).trans h.c4,
    by simpa using h.f0, by simpa using h.f1, by simpa using h.f2, by simpa using h.f3, by simpa using h.f4⟩
theorem B5.set2 {w : World} {E : Nat} {a b c d e : Value} (h : B5 w E a b c d e) (u : Value) : B5 (w.setCell ⟨E, 2, none⟩ u) E a b u d e :=
  ⟨by simpa using h.lt, (World.cell?_setCell_other _ _ _ _ (ne_off (by decide))).trans h.c0, (World.cell?_setCell_other _ _ _ _ (ne_off (by decide))).trans h.c1, World.cell?_setCell_same _ _ _ h.c2, (World.cell?_setCell_other _ _ _ _ (ne_off (by decide))).trans h.c3, (World.cell?_setCell_other _ _ _ _ (ne_off (by decide))).trans h.c4,
    by simpa using h.f0, by simpa using h.f1, by simpa using h.f2, by simpa using h.f3, by simpa using h.f4⟩
theorem B5.set3 {w : World} {E : Nat} {a b c d e : Value} (h : B5 w E a b c d e) (u : Value) : B5 (w.setCell ⟨E, 3, none⟩ u) E a b c u e :=
  ⟨by simpa using h.lt, (World.cell?_setCell_other _ _ _ _ (ne_off (by decide))).trans h.c0, (World.cell?_setCell_other _ _ _ _ (ne_off (by decide))).trans h.c1, (World.cell?_setCell_other _ _ _ _ (ne_off (by decide))).trans h.c2, World.cell?_setCell_same _ _ _ h.c3, (World.cell?_setCell_other _ _ _ _ (ne_off (by decide))).trans h.c4,
    by simpa using h.f0, by simpa using h.f1, by simpa using h.f2, by simpa using h.f3, by simpa using h.f4⟩
theorem B5.set4 {w : World} {E : Nat} {a b c d e : Value} (h : B5 w E a b c d e) (u : Value) : B5 (w.setCell ⟨E, 4, none⟩ u) E a b c d u :=
  ⟨by simpa using h.lt, (World.cell?_setCell_other _ _ _ _ (ne_off (by decide))).trans h.c0, (World.cell?_setCell_other _ _ _ _ (ne_off (by decide))).trans h.c1, (World.cell?_setCell_other _ _ _ _ (ne_off (by decide))).trans h.c2, (World.cell?_setCell_other _ _ _ _ (ne_off (by decide))).trans h.c3, World.cell?_setCell_same _ _ _ h.c4,
    by simpa using h.f0, by simpa using h.f1, by simpa using h.f2, by simpa using h.f3, by simpa using h.f4⟩
/-- Five cells written over. -/
abbrev over5 (w : World) (E : Nat) (a b c d e : Value) : World := ((((w.setCell ⟨E, 0, none⟩ a).setCell ⟨E, 1, none⟩ b).setCell ⟨E, 2, none⟩ c).setCell ⟨E, 3, none⟩ d).setCell ⟨E, 4, none⟩ e
theorem RS.over5 {w : World} {p E : Nat} {l : List UInt8} {s : Except Nat Nat} {x y : Int} {a0 c0 d0 e0 : Value} (h : RS w p l s) (hb : B5 w E a0 (.int .i64 x) c0 d0 e0) (hp : p < E) (a c d e : Value) : RS (over5 w E a (.int .i64 y) c d e) p l s := by
  have b0 : (w.setCell ⟨E, 0, none⟩ a).cell? ⟨E, 1, none⟩ = some (.int .i64 x) := (World.cell?_setCell_other _ _ _ _ (ne_off (by decide))).trans hb.c1
  have b1 : ((w.setCell ⟨E, 0, none⟩ a).setCell ⟨E, 1, none⟩ (.int .i64 y)).cell? ⟨E, 1, none⟩ = some (.int .i64 y) := World.cell?_setCell_same _ _ _ b0
  have b2 : (((w.setCell ⟨E, 0, none⟩ a).setCell ⟨E, 1, none⟩ (.int .i64 y)).setCell ⟨E, 2, none⟩ c).cell? ⟨E, 1, none⟩ = some (.int .i64 y) := (World.cell?_setCell_other _ _ _ _ (ne_off (by decide))).trans b1
  have b3 : ((((w.setCell ⟨E, 0, none⟩ a).setCell ⟨E, 1, none⟩ (.int .i64 y)).setCell ⟨E, 2, none⟩ c).setCell ⟨E, 3, none⟩ d).cell? ⟨E, 1, none⟩ = some (.int .i64 y) := (World.cell?_setCell_other _ _ _ _ (ne_off (by decide))).trans b2
  exact ((((h.setOther hp hb.c1 0 a).setOther hp b0 1 _).setOther hp b1 2 c).setOther hp b2 3 d).setOther hp b3 4 e
theorem Fq.over5 {p : Nat} {a0 w : World} (h : Fq p a0 w) {E : Nat} (hE : a0.heap.size ≤ E) (hp : p ≤ E) (a b c d e : Value) : Fq p a0 (over5 w E a b c d e) :=
  ((((h.setNew hE hp 0 a).setNew hE hp 1 b).setNew hE hp 2 c).setNew hE hp 3 d).setNew hE hp 4 e

theorem results_cell1 {fn : Func} {p : Tmp} {ty : TypeId} (h : fn.results = #[.cell p ty]) (tmps : Array Value) (P : Program) (w : World) :
    (results fn tmps).run P w = ((asAddr (tmps.getD p undef)).run P w).andThen fun a w₁ => (loadVar ty a).run P w₁ := by
  simp only [results, h]
  simp [Sem.run_bind, Result.andThen]

end Go.Proofs.YtpminalccnhkjaaGreatDoor
