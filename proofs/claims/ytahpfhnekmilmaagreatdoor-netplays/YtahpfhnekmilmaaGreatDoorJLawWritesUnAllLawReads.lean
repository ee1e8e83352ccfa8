/- The walk of the statement WireWrites: it answers true; nothing old turns. -/
import Derived.Test.YtahpfhnekmilmaaGreatDoorJJointRdAllRefRowValsIn
import Derived.Test.YtahpfhnekmilmaaGreatDoorJEntry2ErAll
import Derived.Test.YtahpfhnekmilmaaGreatDoorJLawNumbersCrcMathFrameLaidBytesIn
import Derived.BigQuiet
import Derived.Lib.BufferMore
import Derived.Deep.RegionHeld3
import Derived.Deep.RegionWith
namespace Go.Proofs.YtahpfhnekmilmaaGreatDoor
open Go.RowKit Go.Lib

theorem ET.later {w w' : World} (h : ET w) (hb : Below w.heap.size w w') : ET w' := h.below hb h.lt
end Go.Proofs.YtahpfhnekmilmaaGreatDoor
/- Frames read: wire.Unframe and the document's own. -/
namespace Go.Proofs.YtahpfhnekmilmaaGreatDoor
open Go.RowKit Go.Lib

/-- The number of four bytes, the lowest first. -/
def wd4 (x0 x1 x2 x3 : Nat) : Nat := x0 + 256 * x1 + 65536 * x2 + 16777216 * x3
theorem or32 (k a b : Nat) (ha : a < 2 ^ k) (hb : b * 2 ^ k < 4294967296) (ha2 : a < 4294967296) : bits BinOp.or IntKind.u32 (a : Int) ((b * 2 ^ k : Nat) : Int) = ((a + b * 2 ^ k : Nat) : Int) := by
  have hx : a ||| (b * 2 ^ k) < 2 ^ 32 := Nat.or_lt_two_pow (by omega) (by omega)
  have h1 : (BitVec.ofInt 32 (a : Int)).toNat = a := by
    rw [BitVec.ofInt_natCast, BitVec.toNat_ofNat]; exact Nat.mod_eq_of_lt (by omega)
  have h2 : (BitVec.ofInt 32 ((b * 2 ^ k : Nat) : Int)).toNat = b * 2 ^ k := by
    rw [BitVec.ofInt_natCast, BitVec.toNat_ofNat]; exact Nat.mod_eq_of_lt (by omega)
  show IntKind.u32.wrap ((BitVec.ofInt 32 (a : Int) ||| BitVec.ofInt 32 ((b * 2 ^ k : Nat) : Int)).toNat : Int) = _
  rw [BitVec.toNat_or, h1, h2]
  have e : a ||| (b * 2 ^ k) = a + b * 2 ^ k := by rw [Nat.or_comm, Nat.mul_comm b, ← Nat.two_pow_add_eq_or_of_lt ha, Nat.add_comm]
  rw [e] at hx ⊢
  rw [IntKind.wrap_u32]
  omega

end Go.Proofs.YtahpfhnekmilmaaGreatDoor
namespace Go.Proofs.YtahpfhnekmilmaaGreatDoor
open Go.RowKit Go.Lib

theorem own_empty (w : World) : (w.alloc (.cells #[] 5)).ownsRow w.heap.size 5 1 (.slice (some ⟨w.heap.size, 0, none⟩) 0 0) 0 [] :=
  ⟨rfl, .inr ⟨w.heap.size, 0, #[], rfl, Nat.le_refl _, heap_alloc_new _ _, Nat.le_refl _, Nat.zero_le _, rfl, rfl⟩⟩
theorem empty_app {w' : World} {v : Value} {B n : Nat} {l : List UInt8} (ho : w'.ownsRow B 5 1 v (0 + n) ([] ++ byteCells l)) (hn : n = l.length) (hl : l.length ≤ 1000000000000) : RBp w' w'.heap.size v l :=
  own_rb3 ho (by omega) rfl hl
set_option maxHeartbeats 1600000 in
set_option maxRecDepth 100000 in
theorem clone_any (a : Addr) (n cap : Nat) (l : List UInt8) (w : World) (hl : l.length ≤ 1000000000) (hv : RBp w w.heap.size (.slice (some a) n cap) l) :
    Calls Tryz.prog 59 #[.slice (some a) n cap] w fun e w' => ∃ v', e = .returned v' ∧ RBp w' w'.heap.size v' l ∧ Below w.heap.size w w' := by
  have hb0 := below_alloc (B := w.heap.size) (.cells #[] 5) (Nat.le_refl w.heap.size)
  have HO := hide (own_empty w)
  have HV := hide (hv.below hb0 (Nat.le_refl _))
  have HB0 := hide hb0
  have hnil := run_eql_slice_some_nil (P := Tryz.prog) w a n cap Tryz.underlying34
  clear hv hb0
  go_enter Tryz.func59, Tryz.ntmps59
  go_wp2_with (first
    | (at_builtin; refine wpList_append_rb rfl (.tmp 5) (.tmp 6) rfl w.heap.size _ 0 [] rfl (unhide HO) _ _ l rfl (unhide HV) (by omega) hl (by simp) ?_; intro v3 w3 ho3 _ hb3; have HO3 := hide ho3; clear ho3))
  go_ret
  exact ⟨_, rfl, empty_app (unhide HO3) rfl (by omega), (unhide HB0).trans hb3⟩
end Go.Proofs.YtahpfhnekmilmaaGreatDoor
namespace Go.Proofs.YtahpfhnekmilmaaGreatDoor
open Go.RowKit Go.Lib

def wdOf (m : List UInt8) : Nat := wd4 (m.getD 0 0).toNat (m.getD 1 0).toNat (m.getD 2 0).toNat (m.getD 3 0).toNat
theorem wdOf_lt (m : List UInt8) : wdOf m < 4294967296 := by
  have h0 := (m.getD 0 0).toNat_lt
  have h1 := (m.getD 1 0).toNat_lt
  have h2 := (m.getD 2 0).toNat_lt
  have h3 := (m.getD 3 0).toNat_lt
  unfold wdOf wd4; omega
/-- What a frame at the beginning holds, its size, the class. -/
def unfr (l : List UInt8) : List UInt8 × Nat × Nat :=
  if l.length < 4 then ([], 0, 22) else if 262144 < wdOf l then ([], 0, 20) else if l.length < wdOf l + 8 then ([], 0, 22)
  else if crc (l.take (wdOf l + 4)) = wdOf (l.drop (wdOf l + 4)) then ((l.drop 4).take (wdOf l), wdOf l + 8, 0) else ([], 0, 21)
/-- What wire.Unframe tells. -/
def UnPost (r : List UInt8 × Nat × Nat) (w : World) (e : Ending) (w' : World) : Prop :=
  ∃ p er, e = .returned (.tuple #[p, .int .i64 (r.2.1 : Int), er]) ∧ RBp w' w'.heap.size p r.1 ∧ EO w' er (r.2.2 : Int) ∧ Below w.heap.size w w'
theorem un_err {w w' : World} {b : Nat} {pl : Int} {c : Nat} (he : ErrAt w' b pl (c : Int)) (hb : Below w.heap.size w w') : UnPost ([], 0, c) w (.returned (.tuple #[.slice none 0 0, .int .i64 0, ev b])) w' :=
  ⟨_, _, rfl, ⟨Nat.zero_le _, .inl ⟨rfl, rfl⟩⟩, .inr ⟨b, pl, rfl, he⟩, hb⟩
theorem drew_below (w : World) (n : Nat) : Below w.heap.size w (w.drewN n) := below_drewN (Below.refl _ _) n

end Go.Proofs.YtahpfhnekmilmaaGreatDoor
namespace Go.Proofs.YtahpfhnekmilmaaGreatDoor
open Go.RowKit Go.Lib
attribute [local go_sem ↓] Go.wp_at_zero Go.wp_at_succ

/-- What it tells. -/
def URPost (r : List UInt8 × Nat × Nat) (w : World) (e : Ending) (w' : World) : Prop :=
  ∃ p, e = .returned (.tuple #[p, .int .i64 (r.2.1 : Int), .int .i64 (r.2.2 : Int)]) ∧ RBp w' w'.heap.size p r.1 ∧ Below w.heap.size w w'
theorem ur_err {w w' : World} {c : Nat} (hb : Below w.heap.size w w') : URPost ([], 0, c) w (.returned (.tuple #[.slice none 0 0, .int .i64 0, .int .i64 (c : Int)])) w' :=
  ⟨_, rfl, ⟨Nat.zero_le _, .inl ⟨rfl, rfl⟩⟩, hb⟩

theorem word4_wd (m : List UInt8) (hm : m.length = 4) : m = word4 (wdOf m) := by
  match m, hm with
  | [a, b, c, d], _ =>
    have h0 := a.toNat_lt
    have h1 := b.toNat_lt
    have h2 := c.toNat_lt
    have h3 := d.toNat_lt
    simp only [wdOf, wd4, word4, List.getD_cons_zero, List.getD_cons_succ]
    have e0 : (a.toNat + 256 * b.toNat + 65536 * c.toNat + 16777216 * d.toNat) % 256 = a.toNat := by omega
    have e1 : (a.toNat + 256 * b.toNat + 65536 * c.toNat + 16777216 * d.toNat) / 256 % 256 = b.toNat := by omega
    have e2 : (a.toNat + 256 * b.toNat + 65536 * c.toNat + 16777216 * d.toNat) / 65536 % 256 = c.toNat := by omega
    have e3 : (a.toNat + 256 * b.toNat + 65536 * c.toNat + 16777216 * d.toNat) / 16777216 % 256 = d.toNat := by omega
    rw [e0, e1, e2, e3]
    simp
theorem wd_word4 (n : Nat) (hn : n < 4294967296) : wdOf (word4 n) = n := by
  simp only [wdOf, wd4, word4, List.getD_cons_zero, List.getD_cons_succ]
  rw [toUInt8_toNat (by omega), toUInt8_toNat (by omega), toUInt8_toNat (by omega), toUInt8_toNat (by omega)]
  omega
theorem wdOf_take (m : List UInt8) (k : Nat) (hk : 4 ≤ k) : wdOf (m.take k) = wdOf m := by
  unfold wdOf
  have e : ∀ i, i < 4 → (m.take k).getD i 0 = m.getD i 0 := by
    intro i hi
    simp [List.getD_eq_getElem?_getD, show i < k by omega]
  rw [e 0 (by omega), e 1 (by omega), e 2 (by omega), e 3 (by omega)]

end Go.Proofs.YtahpfhnekmilmaaGreatDoor
/- Values, on two rows that read the same; the walk of the statement WireReads: it answers true; nothing old turns. -/
namespace Go.Proofs.YtahpfhnekmilmaaGreatDoor
open Go.RowKit Go.Lib

/-- A row that reads as these values. -/
def RW (w : World) (v : Value) (gs : List GV) : Prop :=
  (v = .slice none 0 0 ∧ gs = []) ∨ ∃ b off cap, b < w.heap.size ∧ v = .slice (some ⟨b, off, none⟩) gs.length cap ∧ ∀ i g, gs[i]? = some g → w.cell? ⟨b, off + i * 3, none⟩ = some (.int .i64 g.kind) ∧ w.cell? ⟨b, off + i * 3 + 1, none⟩ = some (.int .i64 g.int) ∧ w.cell? ⟨b, off + i * 3 + 2, none⟩ = some (.string g.text)
theorem RW.later {w w' : World} {v : Value} {gs : List GV} (h : RW w v gs) (hb : Below w.heap.size w w') : RW w' v gs := by
  rcases h with h | ⟨b, off, cap, hbB, rfl, hc⟩
  · exact .inl h
  · refine .inr ⟨b, off, cap, Nat.lt_of_lt_of_le hbB hb.size, rfl, fun i g hg => ?_⟩
    obtain ⟨c0, c1, c2⟩ := hc i g hg
    exact ⟨(hb.cell (p := ⟨b, off + i * 3, none⟩) hbB).trans c0, (hb.cell (p := ⟨b, off + i * 3 + 1, none⟩) hbB).trans c1, (hb.cell (p := ⟨b, off + i * 3 + 2, none⟩) hbB).trans c2⟩
theorem gvs_get : ∀ (gs : List GV) (i j : Nat) (g : GV), gs[i]? = some g → j < 3 → (gvsCells gs)[i * 3 + j]? = (gvCells g)[j]?
  | [], i, j, g, h, hj => by simp at h
  | x :: r, 0, j, g, h, hj => by
    simp at h; subst h
    rw [gvsCells, List.flatMap_cons, List.getElem?_append_left (by simp [gvCells]; omega)]
    simp
  | x :: r, i + 1, j, g, h, hj => by
    have h' : r[i]? = some g := by simpa using h
    have ih := gvs_get r i j g h' hj
    rw [gvsCells, List.flatMap_cons, List.getElem?_append_right (by simp [gvCells]; omega)]
    have e : (i + 1) * 3 + j - (gvCells x).length = i * 3 + j := by simp [gvCells]; omega
    rw [e]; exact ih
theorem own_rw {w : World} {B : Nat} {v : Value} {gs : List GV} (h : w.ownsRow B 143 3 v gs.length (gvsCells gs)) : RW w v gs := by
  obtain ⟨h1, ⟨rfl, h2⟩ | ⟨g, cap, cur, rfl, h4, h5, h6, h7, h8, h9⟩⟩ := h
  · exact .inl ⟨rfl, List.eq_nil_of_length_eq_zero h2⟩
  · refine .inr ⟨g, 0, cap, ?_, rfl, fun i x hx => ?_⟩
    · rcases Nat.lt_or_ge g w.heap.size with h' | h'
      · exact h'
      · rw [Array.getElem?_eq_none h'] at h5; cases h5
    · have cell : ∀ j u, j < 3 → (gvCells x)[j]? = some u → w.cell? ⟨g, 0 + i * 3 + j, none⟩ = some u := by
        intro j u hj hu
        have e1 := gvs_get gs i j x hx hj
        rw [hu, ← h9] at e1
        have hlt : i * 3 + j < gs.length * 3 := by
          have := (List.getElem?_eq_some_iff.1 hx).1
          omega
        rw [List.getElem?_take, if_pos hlt, Array.getElem?_toList] at e1
        simp [World.cell?, h5, e1]
      have c0 := cell 0 _ (by omega) rfl
      have c1 := cell 1 _ (by omega) rfl
      have c2 := cell 2 _ (by omega) rfl
      exact ⟨by simpa using c0, c1, c2⟩

end Go.Proofs.YtahpfhnekmilmaaGreatDoor
namespace Go.Proofs.YtahpfhnekmilmaaGreatDoor
open Go.RowKit Go.Lib

/-- What a reader of the program tells; and the document's own. -/
def PP (V : Value) (k c : Nat) (W : World) (e : Ending) (w' : World) : Prop := ∃ er, e = .returned (.tuple #[V, .int .i64 (k : Int), er]) ∧ EO w' er (c : Int) ∧ Below W.heap.size W w'
def PR (V : Value) (k c : Nat) (W : World) (e : Ending) (w' : World) : Prop := e = .returned (.tuple #[V, .int .i64 (k : Int), .int .i64 (c : Int)]) ∧ Below W.heap.size W w'
theorem pp_ok {V : Value} {k : Nat} {W : World} {e : Ending} {w' : World} (h : e = .returned (.tuple #[V, .int .i64 (k : Int), .nilIface]) ∧ w' = W) : PP V k 0 W e w' := by
  obtain ⟨rfl, rfl⟩ := h
  exact ⟨_, rfl, .inl ⟨rfl, rfl⟩, Below.refl _ _⟩
theorem pp_bad {V : Value} {c b : Nat} {pl : Int} {W : World} {e : Ending} {w' : World} (h : e = .returned (.tuple #[V, .int .i64 0, ev b]) ∧ ErrAt w' b pl (c : Int) ∧ Below W.heap.size W w') : PP V 0 c W e w' := by
  obtain ⟨rfl, h1, h2⟩ := h
  exact ⟨_, rfl, .inr ⟨b, pl, rfl, h1⟩, h2⟩
theorem pr_same {V : Value} {k c : Nat} {W : World} {e : Ending} {w' : World} (h : e = .returned (.tuple #[V, .int .i64 (k : Int), .int .i64 (c : Int)]) ∧ w' = W) : PR V k c W e w' := by
  obtain ⟨rfl, rfl⟩ := h
  exact ⟨rfl, Below.refl _ _⟩

theorem rdVals_len (l : List UInt8) (s : Except Nat Nat) : ∀ n, (rdVals l n s).1.length ≤ n := by
  intro n
  induction n with
  | zero => simp [rdVals]
  | succ n ih =>
    unfold rdVals
    split
    · simp
    · split
      · simp
      · simp; omega
theorem rdRow_len (l : List UInt8) : (rdRow l (.ok 0)).1.length ≤ 1000000 := by
  unfold rdRow
  split
  · simp
  · rename_i a h
    obtain ⟨n, e, hn⟩ := rdBetween_ok (by omega) h
    have := rdVals_len l (.ok a) (rdBetween l 0 64 (.ok 0)).1.toNat
    rw [e] at this ⊢
    simp at this hn ⊢
    omega
end Go.Proofs.YtahpfhnekmilmaaGreatDoor
