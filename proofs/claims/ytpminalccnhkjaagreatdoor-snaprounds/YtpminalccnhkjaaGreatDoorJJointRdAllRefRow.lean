/- Both writers' posts in one form: bytes, and a class. -/
import Derived.Test.YtpminalccnhkjaaGreatDoorJRef2Ref3DrawRefEntRefEn2RefEn3
import Derived.Test.YtpminalccnhkjaaGreatDoorRdMath2
import Derived.Laws.ResultCell
namespace Go.Proofs.YtpminalccnhkjaaGreatDoor
open Go.RowKit Go.Lib

/-- An error of this class; none: 0. -/
def EO (w : World) (er : Value) (c : Int) : Prop := (er = .nilIface ∧ c = 0) ∨ ∃ b pl, er = ev b ∧ ErrAt w b pl c
def clsOf (s : Option (List UInt8)) : Int := match s with | some _ => 0 | none => 20
theorem EO.later {w w' : World} {er : Value} {c : Int} (h : EO w er c) (hb : Below w.heap.size w w') : EO w' er c := by
  rcases h with h | ⟨b, pl, h1, h2⟩
  · exact .inl h
  · exact .inr ⟨b, pl, h1, h2.below hb h2.lt⟩
theorem class_eo (er : Value) (c : Int) (w : World) (hE : ET w) (h : EO w er c) :
    Calls Tryz.prog 17 #[er] w fun e w' => e = .returned (.int .i64 c) ∧ Below w.heap.size w w' := by
  rcases h with ⟨rfl, rfl⟩ | ⟨b, pl, rfl, h2⟩
  · exact (class_nil w).mono fun e w' ⟨h1, h2⟩ => ⟨h1, by rw [h2]; exact Below.refl _ _⟩
  · exact class_at b pl c w hE h2
/-- What a writer tells. -/
def WP (s : Option (List UInt8)) (w : World) (e : Ending) (w' : World) : Prop :=
  ∃ p er, e = .returned (.tuple #[p, er]) ∧ RBp w' w'.heap.size p (s.getD []) ∧ EO w' er (clsOf s) ∧ Below w.heap.size w w'
def WR (s : Option (List UInt8)) (w : World) (e : Ending) (w' : World) : Prop :=
  ∃ p, e = .returned (.tuple #[p, .int .i64 (clsOf s)]) ∧ RBp w' w'.heap.size p (s.getD []) ∧ Below w.heap.size w w'
theorem done_wp {s : Option (List UInt8)} {w w' : World} {e : Ending} (hs : ∀ l, s = some l → l.length ≤ 1000000000000) (h : DonePost s w.heap.size w e w') : WP s w e w' := by
  cases s with
  | some l =>
    obtain ⟨a, k, rfl, ho, hb⟩ := h
    exact ⟨_, _, rfl, rb_own ho (hs l rfl), .inl ⟨rfl, rfl⟩, hb⟩
  | none =>
    obtain ⟨b, pl, rfl, hB, he, hb⟩ := h
    exact ⟨_, _, rfl, ⟨Nat.zero_le _, .inl ⟨rfl, rfl⟩⟩, .inr ⟨b, pl, rfl, he⟩, hb⟩
theorem ref_wr {s : Option (List UInt8)} {w w' : World} {e : Ending} (h : RefPost s w e w') : WR s w e w' := by
  cases s with
  | some l =>
    obtain ⟨a, k, rfl, hr, hb⟩ := h
    exact ⟨_, rfl, hr, hb⟩
  | none =>
    obtain ⟨rfl, hb⟩ := h
    exact ⟨_, rfl, ⟨Nat.zero_le _, .inl ⟨rfl, rfl⟩⟩, hb⟩

/-- The bytes of a row, if it may be. -/
def rowBytes (gs : List GV) : Option (List UInt8) := putVals gs (putLen gs.length 64 (some []))
theorem rowBytes_len {gs : List GV} (hg : ∀ g ∈ gs, g.ok) : ∀ l, rowBytes gs = some l → l.length ≤ 1000000000000 := by
  intro l h
  unfold rowBytes at h
  by_cases h64 : gs.length ≤ 64
  · rw [putLen, if_pos (by omega)] at h
    have h1 := putVals_len hg l h
    have h2 := uvarint_length64 (x := gs.length) (by omega)
    simp at h1
    omega
  · rw [putVals_long (by omega)] at h; cases h
theorem RV.later {w w' : World} {B B' : Nat} {v : Value} {gs : List GV} (h : RV w B v gs) (hb : Below B w w') (hB : B ≤ B') : RV w' B' v gs := by
  obtain ⟨h1, h2, h3 | ⟨b, off, cap, hbB, rfl, hc⟩⟩ := h
  · exact ⟨h1, h2, .inl h3⟩
  · refine ⟨h1, h2, .inr ⟨b, off, cap, by omega, rfl, fun i g hg => ?_⟩⟩
    obtain ⟨c0, c1, c2⟩ := hc i g hg
    exact ⟨(hb.cell (p := ⟨b, off + i * 3, none⟩) hbB).trans c0, (hb.cell (p := ⟨b, off + i * 3 + 1, none⟩) hbB).trans c1, (hb.cell (p := ⟨b, off + i * 3 + 2, none⟩) hbB).trans c2⟩
/-- The bytes of an entry, if it may be. -/
def entBytes (g : GE) : Option (List UInt8) := putEnt g (some [])
theorem ge_bytes_len {g : GE} (hg : g.ok) (hm : g.may = true) : g.bytes.length ≤ 100000 := by
  obtain ⟨h1, h2, h3, h4⟩ := hg
  have h5 : g.sql.size ≤ 2000 := by simp [GE.may] at hm; exact hm.2
  have hk : g.kind = 0 ∨ g.kind = 1 := by
    simp [GE.may] at hm
    rcases hm.1 with h | h
    · exact .inl h.1.1.1
    · exact .inr h
  have e1 := uvarint_length64 h1
  have e2 := uvarint_length64 h2
  have e3 := uvarint_length64 h3
  have e4 := uvarint_length64 (x := g.sql.size) (by omega)
  have e5 := uvarint_length64 (x := g.kind.toNat) (by rcases hk with h | h <;> rw [h] <;> decide)
  unfold GE.bytes
  split
  · simp only [List.length_append, bytes_length]; omega
  · simp only [List.length_append, List.length_nil]; omega
theorem entBytes_len {g : GE} (hg : g.ok) : ∀ l, entBytes g = some l → l.length ≤ 1000000000000 := by
  intro l h
  unfold entBytes at h
  cases hm : g.may with
  | false => rw [putEnt_no hm] at h; cases h
  | true =>
    rw [putEnt_yes hm] at h
    injection h with h
    rw [← h]
    have := ge_bytes_len hg hm
    omega
end Go.Proofs.YtpminalccnhkjaaGreatDoor
/- The document's own readers of a number, a text, a value. -/
namespace Go.Proofs.YtpminalccnhkjaaGreatDoor
open Go.RowKit Go.Lib

/-- What it tells. -/
def UR (r : Nat × Nat × Nat × Nat) : Ending := .returned (.tuple #[.int .u64 r.1, .int .i64 r.2.1, .int .i64 r.2.2.1])
theorem ur_form {r : Nat × Nat × Nat × Nat} {c k : Nat} (h : r = (0, 0, c, k)) : (.returned (.tuple #[.int .u64 0, .int .i64 0, .int .i64 (c : Int)]) : Ending) = UR r := by
  subst h; rfl
theorem ur_done {r : Nat × Nat × Nat × Nat} {n : Int} {k a p : Nat} (h : r = (a, k + 1, 0, p)) (hn : n = (a : Int)) : (.returned (.tuple #[.int .u64 n, .int .i64 ((k : Int) + 1), .int .i64 0]) : Ending) = UR r := by
  subst h; subst hn; rfl

theorem unzig_two (n : Nat) (h : n % 2 = 1) : -((n / 2 : Nat) : Int) - 1 = unzig n := by
  unfold unzig; rw [if_neg (by omega)]
theorem unzig_even (n : Nat) (h : n % 2 = 0) : ((n / 2 : Nat) : Int) = unzig n := by
  unfold unzig; rw [if_pos h]

end Go.Proofs.YtpminalccnhkjaaGreatDoor
namespace Go.Proofs.YtpminalccnhkjaaGreatDoor
open Go.RowKit Go.Lib

end Go.Proofs.YtpminalccnhkjaaGreatDoor
namespace Go.Proofs.YtpminalccnhkjaaGreatDoor
open Go.RowKit Go.Lib

theorem results_cell3 {fn : Func} {p u x : Tmp} {ty : TypeId} (h : fn.results = #[.cell p ty, .tmp u, .tmp x]) (tmps : Array Value) (P : Program) (w : World) :
    (results fn tmps).run P w =
      ((asAddr (tmps.getD p undef)).run P w).andThen fun a w₁ => ((loadVar ty a).run P w₁).andThen fun v w₂ => .ok (.tuple #[v, tmps.getD u undef, tmps.getD x undef]) w₂ := by
  simp only [results, h]
  simp [Sem.run_bind, Result.andThen]

/-- What it tells. -/
def VR (r : GV × Nat × Nat) : Ending := .returned (.tuple #[r.1.agg, .int .i64 (r.2.1 : Int), .int .i64 (r.2.2 : Int)])
end Go.Proofs.YtpminalccnhkjaaGreatDoor
namespace Go.Proofs.YtpminalccnhkjaaGreatDoor
open Go.RowKit Go.Lib

end Go.Proofs.YtpminalccnhkjaaGreatDoor
namespace Go.Proofs.YtpminalccnhkjaaGreatDoor
open Go.RowKit Go.Lib

theorem cell_zero {w : World} {b off : Nat} {c : UInt8} {r : List UInt8} (h : ∀ i, i < (c :: r).length → w.cell? ⟨b, off + i, none⟩ = some (.int .u8 (((c :: r).getD i 0).toNat : Int))) : w.cell? ⟨b, off, none⟩ = some (.int .u8 (c.toNat : Int)) := by
  simpa using h 0 (by simp)
theorem cell_one {w : World} {b off : Nat} {c t : UInt8} {r : List UInt8} (h : ∀ i, i < (c :: t :: r).length → w.cell? ⟨b, off + i, none⟩ = some (.int .u8 (((c :: t :: r).getD i 0).toNat : Int))) : w.cell? ⟨b, off + 1, none⟩ = some (.int .u8 (t.toNat : Int)) := by
  simpa using h 1 (by simp)

theorem ind_toList (l : List UInt8) : (⟨l.toArray⟩ : ByteArray).data.toList = l := by simp
theorem ba_size (l : List UInt8) : (⟨l.toArray⟩ : ByteArray).size = l.length := by simp [ByteArray.size]
end Go.Proofs.YtpminalccnhkjaaGreatDoor
/- The document's own reader of a row. -/
namespace Go.Proofs.YtpminalccnhkjaaGreatDoor
open Go.RowKit Go.Lib

end Go.Proofs.YtpminalccnhkjaaGreatDoor
