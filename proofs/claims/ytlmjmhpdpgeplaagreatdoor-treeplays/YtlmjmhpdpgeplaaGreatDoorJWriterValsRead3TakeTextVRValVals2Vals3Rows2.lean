/- Contracts of package wire's writer: what it has gathered, or that it failed. -/
import Derived.Test.YtlmjmhpdpgeplaaGreatDoorJNumsFaultsUint
import Derived.Lib.AppendStr
import Derived.Lib.Bytealg
import Derived.Test.YtlmjmhpdpgeplaaGreatDoorJReaderUptoUpto2
import Derived.Lib.BytesEntry
import Derived.Laws.BytesArg
import Derived.Lib.IndexLaws
namespace Go.Proofs.YtlmjmhpdpgeplaaGreatDoor
open Go.RowKit Go.Lib

/-- An int of 64 bits. -/
abbrev I6 : Type := {p : Int // -9223372036854775808 ≤ p ∧ p < 9223372036854775808}
/-- A writer at block p: it has gathered these bytes (in a row of its own), or it has failed with a fault of class 20. -/
def WS (w : World) (p : Nat) (s : Option (List UInt8)) : Prop :=
  w.frozen? ⟨p, 0, none⟩ = false ∧ w.frozen? ⟨p, 1, none⟩ = false ∧
  match s with
  | some l => ∃ v, w.cell? ⟨p, 0, none⟩ = some v ∧ w.cell? ⟨p, 1, none⟩ = some .nilIface ∧ w.ownsRow (p + 1) 5 1 v l.length (byteCells l)
  | none => ∃ (b : Nat) (pl : I6), w.cell? ⟨p, 0, none⟩ = some (.slice none 0 0) ∧ w.cell? ⟨p, 1, none⟩ = some (ev b) ∧ p < b ∧ ErrAt w b pl 20

theorem WS.lt {w : World} {p : Nat} {s : Option (List UInt8)} (h : WS w p s) : p < w.heap.size := by
  cases s with
  | none => obtain ⟨_, _, b, pl, h0, _⟩ := h; exact lt_of_cell h0
  | some l => obtain ⟨_, _, v, h0, _⟩ := h; exact lt_of_cell h0

theorem ne01 (p : Nat) : (⟨p, 0, none⟩ : Addr) ≠ ⟨p, 1, none⟩ := by intro h; injection h; contradiction

theorem WS.more {w w1 : World} {p : Nat} {v v' : Value} {l' : List UInt8} (h1 : w.cell? ⟨p, 0, none⟩ = some v) (h2 : w.cell? ⟨p, 1, none⟩ = some .nilIface) (f1 : w.frozen? ⟨p, 0, none⟩ = false) (f2 : w.frozen? ⟨p, 1, none⟩ = false)
    (hb : Below (p + 1) w w1) (hk : KeepT 5 w w1) (ho : w1.ownsRow (p + 1) 5 1 v' l'.length (byteCells l')) : WS (w1.setCell ⟨p, 0, none⟩ v') p (some l') ∧ Fr 5 p w (w1.setCell ⟨p, 0, none⟩ v') := by
  have c0 : w1.cell? ⟨p, 0, none⟩ = some v := (hb.cell (p := ⟨p, 0, none⟩) (by simp)).trans h1
  have c1 : w1.cell? ⟨p, 1, none⟩ = some .nilIface := (hb.cell (p := ⟨p, 1, none⟩) (by simp)).trans h2
  have g0 : w1.frozen? ⟨p, 0, none⟩ = false := (hb.frozen (p := ⟨p, 0, none⟩) (by simp)).trans f1
  have g1 : w1.frozen? ⟨p, 1, none⟩ = false := (hb.frozen (p := ⟨p, 1, none⟩) (by simp)).trans f2
  refine ⟨⟨by simpa using g0, by simpa using g1, v', World.cell?_setCell_same _ _ _ c0, ?_, ownsRow_setCell_below ho (by simp) _⟩, (Fr.of (hb.mono (by omega)) hk).setCell 0 _⟩
  rw [World.cell?_setCell_other _ _ _ _ (ne01 p)]; exact c1

theorem own_slice {w : World} {B : Nat} {e : TypeId} {sz : Nat} {v : Value} {n : Nat} {xs : List Value} (h : w.ownsRow B e sz v n xs) : ∃ a k, v = .slice a n k := by
  rcases h.2 with ⟨rfl, rfl⟩ | ⟨g, cap, cur, rfl, _⟩
  · exact ⟨none, 0, rfl⟩
  · exact ⟨_, _, rfl⟩
theorem appendUint_s (B m x : Nat) (v : Value) (xs : List Value) (w : World) (hx : x < 18446744073709551616) (hm : m ≤ 1000000000) (hB : B ≤ w.heap.size)
    (hown : w.ownsRow B 5 1 v m xs) :
    Calls Tryz.prog 44 #[v, .int .u64 x] w fun e w' =>
      ∃ a k, e = .returned (.slice a (m + (uvarint x).length) k) ∧ w'.ownsRow B 5 1 (.slice a (m + (uvarint x).length) k) (m + (uvarint x).length) (xs ++ byteCells (uvarint x)) ∧ Below B w w' ∧ KeepT 5 w w' := by
  refine (appendUint_any B m x v xs w hx hm hB hown).mono ?_
  rintro e w' ⟨v', rfl, ho, hb, hk⟩
  obtain ⟨a, k, rfl⟩ := own_slice ho
  exact ⟨a, k, rfl, ho, hb, hk⟩

theorem own_i6 {w : World} {B : Nat} {v : Value} {l : List UInt8} (h : w.ownsRow B 5 1 v l.length (byteCells l)) : -9223372036854775808 ≤ (l.length : Int) ∧ (l.length : Int) < 9223372036854775808 := by
  rcases h.2 with ⟨_, e⟩ | ⟨g, cap, cur, _, _, _, h1, h2, _⟩
  · omega
  · unfold maxLen at h2
    omega

theorem WS.fail {w : World} {p : Nat} {v x : Value} (hp : p < w.heap.size) (h0 : w.cell? ⟨p, 0, none⟩ = some v) (h1 : w.cell? ⟨p, 1, none⟩ = some x) (f0 : w.frozen? ⟨p, 0, none⟩ = false) (f1 : w.frozen? ⟨p, 1, none⟩ = false) (pl : Int) (hpl : -9223372036854775808 ≤ pl ∧ pl < 9223372036854775808) :
    WS (((w.setCell ⟨p, 0, none⟩ (.slice none 0 0)).setCell ⟨p, 1, none⟩ (ev w.heap.size)).alloc (.cells #[.int .i64 pl, .iface 67 (.int .i64 20)] 102)) p none ∧
    Fr 5 p w (((w.setCell ⟨p, 0, none⟩ (.slice none 0 0)).setCell ⟨p, 1, none⟩ (ev w.heap.size)).alloc (.cells #[.int .i64 pl, .iface 67 (.int .i64 20)] 102)) := by
  have e : ((w.setCell ⟨p, 0, none⟩ (.slice none 0 0)).setCell ⟨p, 1, none⟩ (ev w.heap.size)).heap.size = w.heap.size := by simp
  have hE := ErrAt.new ((w.setCell ⟨p, 0, none⟩ (.slice none 0 0)).setCell ⟨p, 1, none⟩ (ev w.heap.size)) pl 20
  rw [e] at hE
  refine ⟨⟨?_, ?_, w.heap.size, ⟨pl, hpl⟩, ?_, ?_, hp, hE⟩, ?_⟩
  · rw [World.frozen?_alloc_old _ _ _ (by simp; omega)]; simpa using f0
  · rw [World.frozen?_alloc_old _ _ _ (by simp; omega)]; simpa using f1
  · rw [World.cell?_alloc_lt _ _ _ (by simpa using hp), World.cell?_setCell_other _ _ _ _ (ne01 p).symm]; exact World.cell?_setCell_same _ _ _ h0
  · rw [World.cell?_alloc_lt _ _ _ (by simpa using hp)]; exact World.cell?_setCell_same _ _ _ ((World.cell?_setCell_other _ _ _ _ (ne01 p)).trans h1)
  · exact (((Fr.refl _ p w).setCell 0 _).setCell 1 _).alloc (by simp; omega) _

end Go.Proofs.YtlmjmhpdpgeplaaGreatDoor
/- Contracts of package wire's writer of values. -/
namespace Go.Proofs.YtlmjmhpdpgeplaaGreatDoor
open Go.RowKit Go.Lib

/-- An api.Value. -/
structure GV where
  kind : Int
  int : Int
  text : ByteArray
def GV.agg (g : GV) : Value := .agg #[.int .i64 g.kind, .int .i64 g.int, .string g.text]
def GV.ok (g : GV) : Prop := -9223372036854775808 ≤ g.int ∧ g.int < 9223372036854775808 ∧ g.text.size ≤ maxLen
/-- It may be (P1.2). -/
def GV.may (g : GV) : Bool :=
  (g.kind == 0 && g.int == 0 && g.text.toList.isEmpty) || (g.kind == 1 && (g.int == 0 || g.int == 1) && g.text.toList.isEmpty) || (g.kind == 2 && g.text.toList.isEmpty) ||
  (g.kind == 3 && g.int == 0 && g.text.size ≤ 40 && indexByte g.text.data.toList 0 < 0)
/-- Its bytes. -/
def GV.bytes (g : GV) : List UInt8 :=
  uvarint g.kind.toNat ++ (if g.kind = 1 then uvarint g.int.toNat else if g.kind = 2 then uvarint (zigzag g.int) else if g.kind = 3 then uvarint g.text.size ++ g.text.data.toList else [])

theorem ret_bool {a b : Bool} (h : a = b) : Ending.returned (.bool a) = .returned (.bool b) := by rw [h]
end Go.Proofs.YtlmjmhpdpgeplaaGreatDoor
/- Contracts of the reader's between, number, take, text and value. -/
namespace Go.Proofs.YtlmjmhpdpgeplaaGreatDoor
open Go.RowKit Go.Lib

theorem rdUp_le {l : List UInt8} {most a : Nat} {s : Except Nat Nat} (h : (rdUp l most s).2 = .ok a) : (rdUp l most s).1 ≤ most := by
  cases s with
  | error c => simp [rdUp] at h
  | ok b =>
    unfold rdUp at h ⊢
    dsimp only at h ⊢
    by_cases h1 : (decU (l.drop b)).2.2.1 = 0
    · by_cases h2 : (decU (l.drop b)).1 ≤ most
      · simp [h1, h2]
      · simp [h1, h2] at h
    · rw [if_neg h1] at h; split at h <;> cases h

def rdBetween (l : List UInt8) (lo hi : Int) (s : Except Nat Nat) : Int × Except Nat Nat :=
  match (rdUp l (hi - lo).toNat s).2 with
  | .ok a => (lo + (rdUp l (hi - lo).toNat s).1, .ok a)
  | .error c => (0, .error c)

theorem RS.cells_ok {w : World} {p a : Nat} {l : List UInt8} (h : RS w p l (.ok a)) : w.cell? ⟨p, 1, none⟩ = some (.int .i64 (a : Int)) ∧ w.cell? ⟨p, 2, none⟩ = some .nilIface ∧ a ≤ l.length := by
  obtain ⟨_, _, _, _, _, h0, h1, h2⟩ := h; exact ⟨h1, h2, h0⟩
theorem RS.cells_err {w : World} {p c : Nat} {l : List UInt8} (h : RS w p l (.error c)) : ∃ b, w.cell? ⟨p, 2, none⟩ = some (ev b) := by
  obtain ⟨_, _, _, _, _, a, b, pl, _, _, h2, _⟩ := h; exact ⟨b, h2⟩

/-- Taking n bytes. -/
def rdTake (l : List UInt8) (n : Nat) : Except Nat Nat → List UInt8 × Except Nat Nat
  | .error c => ([], .error c)
  | .ok a => if n ≤ l.length - a then ((l.drop a).take n, .ok (a + n)) else ([], .error 22)
end Go.Proofs.YtlmjmhpdpgeplaaGreatDoor
/- Contracts of the reader's take and of string(bytes). -/
namespace Go.Proofs.YtlmjmhpdpgeplaaGreatDoor
open Go.RowKit Go.Lib

theorem nums_eq (l : List UInt8) : strOfNums (l.map fun c => (c.toNat : Int)) = ⟨l.toArray⟩ := by
  apply ByteArray.ext
  apply Array.ext'
  have e : ((fun n : Int => UInt8.ofNat n.toNat) ∘ fun c : UInt8 => (c.toNat : Int)) = id := by funext c; simp
  rw [strOfNums_data, List.map_map, e, List.map_id]
theorem conv_any (v : Value) (B : Nat) (l : List UInt8) (w : World) (hv : RBp w B v l) : (convert 30 9 v).run Tryz.prog w = .ok (.string ⟨l.toArray⟩) w := by
  obtain ⟨hlen, ⟨rfl, rfl⟩ | ⟨b, off, cap, hbB, hcap, hm, rfl, hcell⟩⟩ := hv
  · exact run_convert_bytes_nil w _ _ Tryz.underlying30 Tryz.underlying5 0 0 _ Tryz.underlying9
  · have h := run_convert_bytes_arg (P := Tryz.prog) w 30 5 Tryz.underlying30 Tryz.underlying5 b off l.length cap (l.map fun c => (c.toNat : Int)) (by simp) (fun i hi => by
      rw [hcell i hi]; simp [hi]) 9 Tryz.underlying9
    rw [h, nums_eq]

theorem rb_len {w : World} {B : Nat} {v : Value} {l : List UInt8} (h : RBp w B v l) : ∃ a k, v = .slice a l.length k := by
  obtain ⟨hlen, ⟨rfl, rfl⟩ | ⟨b, off, cap, hbB, hcap, hm, rfl, hcell⟩⟩ := h
  · exact ⟨none, 0, rfl⟩
  · exact ⟨_, _, rfl⟩
theorem rb_take {w : World} {B b off cap a n : Nat} {l : List UInt8} (hbB : b < B) (hl : a ≤ l.length) (hn : n ≤ l.length - a) (hcap : l.length ≤ cap) (hm : cap ≤ maxLen) (hlen : l.length ≤ 1000000000000)
    (hcell : ∀ i, i < l.length → w.cell? ⟨b, off + i, none⟩ = some (.int .u8 ((l.getD i 0).toNat : Int))) : RBp w B (.slice (some ⟨b, off + a, none⟩) (a + n - a) (cap - a)) ((l.drop a).take n) := by
  have e0 : ((l.drop a).take n).length = a + n - a := by simp; omega
  refine ⟨by omega, .inr ⟨b, off + a, cap - a, hbB, by omega, by omega, by rw [e0], fun i hi => ?_⟩⟩
  have hi' : i < n := by omega
  have e : ((l.drop a).take n).getD i 0 = l.getD (a + i) 0 := by
    simp [List.getD_eq_getElem?_getD, hi']
  rw [e, Nat.add_assoc]; exact hcell (a + i) (by omega)
theorem rb_take0 {w : World} {B b off cap a n : Nat} {l : List UInt8} (hbB : b < B) (hn : n ≤ l.length - a) (hcap : l.length ≤ cap) (hce : cap = a) (k : Nat) (hk : k ≤ maxLen) :
    RBp w B (.slice (some ⟨b, off, none⟩) (a + n - a) k) ((l.drop a).take n) := by
  have hn0 : n = 0 := by omega
  subst hn0
  refine ⟨by simp, .inr ⟨b, off, k, hbB, by simp, hk, by simp, fun i hi => by simp at hi⟩⟩

end Go.Proofs.YtlmjmhpdpgeplaaGreatDoor
/- Contracts of bytes.IndexByte and of the reader's textValue. -/
namespace Go.Proofs.YtlmjmhpdpgeplaaGreatDoor
open Go.RowKit Go.Lib

theorem bytesOf_map (l : List UInt8) : bytesOf (l.map fun c => (c.toNat : Int)) = l := by
  induction l with
  | nil => rfl
  | cons c r ih =>
    have e : bytesOf ((c.toNat : Int) :: r.map fun c => (c.toNat : Int)) = ((c.toNat : Int).toNat.toUInt8) :: bytesOf (r.map fun c => (c.toNat : Int)) := rfl
    rw [List.map_cons, e, ih]
    simp [Nat.toUInt8]

theorem indexByte_le : ∀ (l : List UInt8) (c : UInt8), indexByte l c ≤ l.length := by
  intro l c
  rcases Int.lt_or_le (indexByte l c) 0 with h | h
  · omega
  · obtain ⟨o, ho⟩ := Int.eq_ofNat_of_zero_le h
    have := (indexByte_some ho).1
    have h2 := (List.getElem?_eq_some_iff.1 this).1
    omega
theorem rb_first {w : World} {B k n : Nat} {ad : Option Addr} {l : List UInt8} (h : RBp w B (.slice ad l.length k) l) (hn : n ≤ l.length) : RBp w B (.slice ad n k) (l.take n) := by
  obtain ⟨hlen, ⟨hv, rfl⟩ | ⟨b, off, cap, hbB, hcap, hm, hv, hcell⟩⟩ := h
  · injection hv with h1 h2 h3
    have hn0 : n = 0 := by simpa using hn
    subst h1; subst h3; subst hn0
    exact ⟨by simp, .inl ⟨rfl, rfl⟩⟩
  · injection hv with h1 h2 h3
    subst h1; subst h3
    have e : (l.take n).length = n := by simp; omega
    refine ⟨by omega, .inr ⟨b, off, k, hbB, by omega, hm, by rw [e], fun i hi => ?_⟩⟩
    have hi' : i < n := by omega
    have e : (l.take n).getD i 0 = l.getD i 0 := by simp [List.getD_eq_getElem?_getD, hi']
    rw [e]; exact hcell i (by omega)

theorem rb_len' {w : World} {B : Nat} {v : Value} {l : List UInt8} (h : RBp w B v l) : ∃ a k, v = .slice a l.length k ∧ l.length ≤ k := by
  obtain ⟨hlen, ⟨rfl, rfl⟩ | ⟨b, off, cap, hbB, hcap, hm, rfl, hcell⟩⟩ := h
  · exact ⟨none, 0, rfl, by simp⟩
  · exact ⟨_, _, rfl, hcap⟩
theorem rb_first' {w : World} {B k n a : Nat} {ad : Option Addr} {l : List UInt8} (h : RBp w B (.slice ad (l.length - a) k) (l.drop a)) (hn : n ≤ l.length - a) : RBp w B (.slice ad n k) ((l.drop a).take n) :=
  rb_first (l := l.drop a) (by simpa using h) (by simpa using hn)

/-- Reading a text of a row. -/
def rdText (l : List UInt8) (s : Except Nat Nat) : List UInt8 × Except Nat Nat :=
  match (rdBetween l 0 40 s).2 with
  | .error c => ([], .error c)
  | .ok a => if 0 ≤ indexByte ((l.drop a).take (rdBetween l 0 40 s).1.toNat) 0 then ([], .error 20) else rdTake l (rdBetween l 0 40 s).1.toNat (.ok a)

theorem rdBetween_ok {l : List UInt8} {lo hi : Int} {s : Except Nat Nat} {a : Nat} (hlh : lo ≤ hi) (h : (rdBetween l lo hi s).2 = .ok a) : ∃ n : Nat, rdBetween l lo hi s = (lo + n, .ok a) ∧ (n : Int) ≤ hi - lo := by
  unfold rdBetween at h ⊢
  cases hr : (rdUp l (hi - lo).toNat s).2 with
  | error c => rw [hr] at h; cases h
  | ok b =>
    rw [hr] at h
    dsimp only at h ⊢
    have := rdUp_le hr
    injection h with h
    subst h
    exact ⟨_, rfl, by omega⟩
theorem rdBetween_err {l : List UInt8} {lo hi : Int} {s : Except Nat Nat} {c : Nat} (h : (rdBetween l lo hi s).2 = .error c) : rdBetween l lo hi s = (0, .error c) := by
  unfold rdBetween at h ⊢
  cases hr : (rdUp l (hi - lo).toNat s).2 with
  | error c' => rw [hr] at h; dsimp only at h ⊢; injection h with h; subst h; rfl
  | ok b => rw [hr] at h; cases h

end Go.Proofs.YtlmjmhpdpgeplaaGreatDoor
/- Contract of the reader's value. -/
namespace Go.Proofs.YtlmjmhpdpgeplaaGreatDoor
open Go.RowKit Go.Lib

def unzig (n : Nat) : Int := if n % 2 = 0 then ((n / 2 : Nat) : Int) else -((n / 2 : Nat) : Int) - 1

theorem xor_zero_i64 (x : Nat) (hx : x < 9223372036854775808) : bits BinOp.xor IntKind.i64 (x : Int) 0 = (x : Int) := by
  show IntKind.i64.wrap ((BitVec.ofInt 64 (x : Int) ^^^ BitVec.ofInt 64 0).toNat : Int) = _
  have h2 : (BitVec.ofInt 64 (x : Int)).toNat = x := by
    rw [BitVec.ofInt_natCast, BitVec.toNat_ofNat]; exact Nat.mod_eq_of_lt (by omega)
  have h1 : (BitVec.ofInt 64 0).toNat = 0 := by decide
  rw [BitVec.toNat_xor, h1, h2, Nat.xor_zero, IntKind.wrap_i64]
  omega
theorem unzig_walk (n : Nat) (hn : n < 18446744073709551616) :
    bits BinOp.xor IntKind.i64 ((n : Int) / 2) (wrap64 (-wrap64 (bits BinOp.and IntKind.u64 (n : Int) 1))) = unzig n := by
  rw [u64_and1 (n : Int) (by omega) (by omega)]
  have e : ((n : Int) / 2) = ((n / 2 : Nat) : Int) := by omega
  unfold unzig
  by_cases h : n % 2 = 0
  · have e2 : ((n : Int) % 2) = 0 := by omega
    rw [if_pos h, e2, e, show wrap64 (-wrap64 0) = 0 by decide +kernel, xor_zero_i64 _ (by omega)]
  · have e2 : ((n : Int) % 2) = 1 := by omega
    have hc : bits BinOp.xor IntKind.i64 ((n / 2 : Nat) : Int) (-1) = bits BinOp.xor IntKind.i64 (-1) ((n / 2 : Nat) : Int) := by simp only [bits, BitVec.xor_comm]
    rw [if_neg h, e2, e, show wrap64 (-wrap64 1) = -1 by decide +kernel, hc, i64_not _ (by omega)]
theorem new_box {w w1 : World} {p : Nat} {T : TypeId} {a b c : Value} (hp : p < w.heap.size) (hf : Fq p (w.alloc (.cells #[a, b, c] T)) w1) :
    w1.cell? ⟨w.heap.size, 0, none⟩ = some a ∧ w1.cell? ⟨w.heap.size, 1, none⟩ = some b ∧ w1.cell? ⟨w.heap.size, 2, none⟩ = some c ∧
    w1.frozen? ⟨w.heap.size, 0, none⟩ = false ∧ w1.frozen? ⟨w.heap.size, 1, none⟩ = false ∧ w1.frozen? ⟨w.heap.size, 2, none⟩ = false ∧ w.heap.size < w1.heap.size := by
  have hz := hf.1.size
  have hne : w.heap.size ≠ p := by omega
  refine ⟨?_, ?_, ?_, ?_, ?_, ?_, by simp at hz; omega⟩
  · rw [hf.cell (a := ⟨w.heap.size, 0, none⟩) (by simp) hne]; simp
  · rw [hf.cell (a := ⟨w.heap.size, 1, none⟩) (by simp) hne]; simp
  · rw [hf.cell (a := ⟨w.heap.size, 2, none⟩) (by simp) hne]; simp
  · rw [hf.frozen (a := ⟨w.heap.size, 0, none⟩) (by simp) hne]; simp
  · rw [hf.frozen (a := ⟨w.heap.size, 1, none⟩) (by simp) hne]; simp
  · rw [hf.frozen (a := ⟨w.heap.size, 2, none⟩) (by simp) hne]; simp

theorem Fq.setNew {p : Nat} {a w : World} (h : Fq p a w) {k : Nat} (hk : a.heap.size ≤ k) (hp : p ≤ k) (j : Nat) (u : Value) : Fq p a (w.setCell ⟨k, j, none⟩ u) :=
  ⟨h.1.setCell (p := ⟨k, j, none⟩) hp u, fun i hi hip => (Below.heap_setCell w ⟨k, j, none⟩ u i (show i ≠ k by omega)).trans (h.2 i hi hip)⟩
theorem RS.setOther {w : World} {p k : Nat} {l : List UInt8} {s : Except Nat Nat} {x : Int} (h : RS w p l s) (hk : p < k) (hx : w.cell? ⟨k, 1, none⟩ = some (.int .i64 x)) (j : Nat) (u : Value) : RS (w.setCell ⟨k, j, none⟩ u) p l s := by
  obtain ⟨hE, hG, f1, f2, ⟨v, h0, hv⟩, hs⟩ := h
  have hb := (Below.refl (p + 1) w).setCell (p := ⟨k, j, none⟩) hk u
  refine ⟨hE.below hb (by omega), hG, by simpa using f1, by simpa using f2, ⟨v, (hb.cell (p := ⟨p, 0, none⟩) (by simp)).trans h0, hv.below hb (by omega)⟩, ?_⟩
  cases s with
  | ok a => exact ⟨hs.1, (hb.cell (p := ⟨p, 1, none⟩) (by simp)).trans hs.2.1, (hb.cell (p := ⟨p, 2, none⟩) (by simp)).trans hs.2.2⟩
  | error c =>
    obtain ⟨a, b, pl, g1, g2, g3, g4, g5⟩ := hs
    have hbk : b ≠ k := by
      intro e
      subst e
      have := g5.2
      rw [hx] at this
      injection this with this
      cases this
    refine ⟨a, b, pl, g1, (hb.cell (p := ⟨p, 1, none⟩) (by simp)).trans g2, (hb.cell (p := ⟨p, 2, none⟩) (by simp)).trans g3, g4, ?_, ?_⟩
    · rw [World.cell?_setCell_other _ _ _ _ (by intro h; injection h; omega)]; exact g5.1
    · rw [World.cell?_setCell_other _ _ _ _ (by intro h; injection h; omega)]; exact g5.2
theorem RS.set3 {w : World} {p k : Nat} {l : List UInt8} {s : Except Nat Nat} {x y : Int} (h : RS w p l s) (hk : p < k) (hx : w.cell? ⟨k, 1, none⟩ = some (.int .i64 x)) (A C : Value) :
    RS (((w.setCell ⟨k, 0, none⟩ A).setCell ⟨k, 1, none⟩ (.int .i64 y)).setCell ⟨k, 2, none⟩ C) p l s := by
  have c1 : (w.setCell ⟨k, 0, none⟩ A).cell? ⟨k, 1, none⟩ = some (.int .i64 x) := (World.cell?_setCell_other _ _ _ _ (ne01 k)).trans hx
  have c2 : ((w.setCell ⟨k, 0, none⟩ A).setCell ⟨k, 1, none⟩ (.int .i64 y)).cell? ⟨k, 1, none⟩ = some (.int .i64 y) := World.cell?_setCell_same _ _ _ c1
  exact ((h.setOther hk hx 0 A).setOther hk c1 1 _).setOther hk c2 2 C
theorem Fq.set3 {p : Nat} {a w : World} (h : Fq p a w) {k : Nat} (hk : a.heap.size ≤ k) (hp : p ≤ k) (A B C : Value) : Fq p a (((w.setCell ⟨k, 0, none⟩ A).setCell ⟨k, 1, none⟩ B).setCell ⟨k, 2, none⟩ C) :=
  ((h.setNew hk hp 0 A).setNew hk hp 1 B).setNew hk hp 2 C

/-- Reading a value. -/
def rdVal (l : List UInt8) (s : Except Nat Nat) : GV × Except Nat Nat :=
  if (rdBetween l 0 3 s).1 = 1 then (⟨1, (rdBetween l 0 1 (rdBetween l 0 3 s).2).1, ⟨#[]⟩⟩, (rdBetween l 0 1 (rdBetween l 0 3 s).2).2)
  else if (rdBetween l 0 3 s).1 = 2 then (⟨2, unzig (rdUp l 18446744073709551615 (rdBetween l 0 3 s).2).1, ⟨#[]⟩⟩, (rdUp l 18446744073709551615 (rdBetween l 0 3 s).2).2)
  else if (rdBetween l 0 3 s).1 = 3 then (⟨3, 0, ⟨(rdText l (rdBetween l 0 3 s).2).1.toArray⟩⟩, (rdText l (rdBetween l 0 3 s).2).2)
  else (⟨(rdBetween l 0 3 s).1, 0, ⟨#[]⟩⟩, (rdBetween l 0 3 s).2)

theorem old_box {w1 w2 : World} {p r : Nat} {a b c : Value} (hr : r < w1.heap.size) (hrp : r ≠ p) {o : Obj} (hf : Fq p (w1.alloc o) w2)
    (h1 : w1.cell? ⟨r, 0, none⟩ = some a) (h2 : w1.cell? ⟨r, 1, none⟩ = some b) (h3 : w1.cell? ⟨r, 2, none⟩ = some c) (g1 : w1.frozen? ⟨r, 0, none⟩ = false) (g2 : w1.frozen? ⟨r, 1, none⟩ = false) (g3 : w1.frozen? ⟨r, 2, none⟩ = false) :
    w2.cell? ⟨r, 0, none⟩ = some a ∧ w2.cell? ⟨r, 1, none⟩ = some b ∧ w2.cell? ⟨r, 2, none⟩ = some c ∧ w2.frozen? ⟨r, 0, none⟩ = false ∧ w2.frozen? ⟨r, 1, none⟩ = false ∧ w2.frozen? ⟨r, 2, none⟩ = false := by
  have hs : r < (w1.alloc o).heap.size := by simp; omega
  refine ⟨?_, ?_, ?_, ?_, ?_, ?_⟩
  · rw [hf.cell (a := ⟨r, 0, none⟩) hs hrp, World.cell?_alloc_lt _ _ ⟨r, 0, none⟩ hr]; exact h1
  · rw [hf.cell (a := ⟨r, 1, none⟩) hs hrp, World.cell?_alloc_lt _ _ ⟨r, 1, none⟩ hr]; exact h2
  · rw [hf.cell (a := ⟨r, 2, none⟩) hs hrp, World.cell?_alloc_lt _ _ ⟨r, 2, none⟩ hr]; exact h3
  · rw [hf.frozen (a := ⟨r, 0, none⟩) hs hrp, World.frozen?_alloc_old _ _ ⟨r, 0, none⟩ (Nat.ne_of_lt hr)]; exact g1
  · rw [hf.frozen (a := ⟨r, 1, none⟩) hs hrp, World.frozen?_alloc_old _ _ ⟨r, 1, none⟩ (Nat.ne_of_lt hr)]; exact g2
  · rw [hf.frozen (a := ⟨r, 2, none⟩) hs hrp, World.frozen?_alloc_old _ _ ⟨r, 2, none⟩ (Nat.ne_of_lt hr)]; exact g3

theorem rdUp_lt {l : List UInt8} {s : Except Nat Nat} {most : Nat} (hm : most < 18446744073709551616) : (rdUp l most s).1 < 18446744073709551616 := by
  cases hr : (rdUp l most s).2 with
  | ok a => have := rdUp_le hr; omega
  | error c =>
    cases s with
    | error c' => simp [rdUp]
    | ok b =>
      unfold rdUp at hr ⊢
      dsimp only at hr ⊢
      by_cases h1 : (decU (l.drop b)).2.2.1 = 0
      · by_cases h2 : (decU (l.drop b)).1 ≤ most
        · simp [h1, h2] at hr
        · simp [h1, h2]
      · rw [if_neg h1]; split <;> simp

end Go.Proofs.YtlmjmhpdpgeplaaGreatDoor
/- Contracts of package wire's writer: texts, values. -/
namespace Go.Proofs.YtlmjmhpdpgeplaaGreatDoor
open Go.RowKit Go.Lib

theorem strCells_eq (t : ByteArray) : strCells t = byteCells t.data.toList := rfl
theorem bytes_length (t : ByteArray) : t.data.toList.length = t.size := by simp

/-- What a writer has behind a text. -/
def putText (t : ByteArray) (most : Int) (s : Option (List UInt8)) : Option (List UInt8) :=
  if (t.size : Int) ≤ most then s.map (· ++ (uvarint t.size ++ t.data.toList)) else none

end Go.Proofs.YtlmjmhpdpgeplaaGreatDoor
/- Contract of package wire's writer of one value. -/
namespace Go.Proofs.YtlmjmhpdpgeplaaGreatDoor
open Go.RowKit Go.Lib

theorem WS.alloc {w : World} {p : Nat} {s : Option (List UInt8)} (h : WS w p s) (o : Obj) : WS (w.alloc o) p s := by
  have hp := h.lt
  cases s with
  | none =>
    obtain ⟨f0, f1, b, pl, h0, h1, hb, he⟩ := h
    exact ⟨by rw [World.frozen?_alloc_old _ _ _ (Nat.ne_of_lt hp)]; exact f0, by rw [World.frozen?_alloc_old _ _ _ (Nat.ne_of_lt hp)]; exact f1, b, pl, (World.cell?_alloc_lt _ _ ⟨p, 0, none⟩ hp).trans h0, (World.cell?_alloc_lt _ _ ⟨p, 1, none⟩ hp).trans h1, hb, he.alloc o⟩
  | some l =>
    obtain ⟨f0, f1, v, h0, h1, ho⟩ := h
    exact ⟨by rw [World.frozen?_alloc_old _ _ _ (Nat.ne_of_lt hp)]; exact f0, by rw [World.frozen?_alloc_old _ _ _ (Nat.ne_of_lt hp)]; exact f1, v, (World.cell?_alloc_lt _ _ ⟨p, 0, none⟩ hp).trans h0, (World.cell?_alloc_lt _ _ ⟨p, 1, none⟩ hp).trans h1, ho.alloc o⟩

/-- What a writer has behind a value. -/
def putVal (g : GV) (s : Option (List UInt8)) : Option (List UInt8) := if g.may then s.map (· ++ g.bytes) else none
theorem bind_len {s : Option (List UInt8)} {x : List UInt8} (h : ∀ l, s = some l → l.length ≤ 800000000) (hx : x.length ≤ 100) : ∀ l, s.map (· ++ x) = some l → l.length ≤ 900000000 := by
  intro l e
  cases s with
  | none => cases e
  | some l0 => simp at e; subst e; have := h l0 rfl; simp; omega
theorem uv_small (x : Nat) (h : x < 18446744073709551616) : (uvarint x).length ≤ 100 := Nat.le_trans (uvarint_length64 h) (by decide)
theorem map_map (s : Option (List UInt8)) (x y : List UInt8) : (s.map (· ++ x)).map (· ++ y) = s.map (· ++ (x ++ y)) := by
  cases s <;> simp

end Go.Proofs.YtlmjmhpdpgeplaaGreatDoor
/- Contracts of package wire's writer of rows: list, row, done, PutRow. -/
namespace Go.Proofs.YtlmjmhpdpgeplaaGreatDoor
open Go.RowKit Go.Lib

/-- A slice of values that reads as these. -/
def RV (w : World) (B : Nat) (v : Value) (gs : List GV) : Prop :=
  gs.length * 32 ≤ 140737488351232 ∧ (∀ g ∈ gs, g.ok) ∧ ((v = .slice none 0 0 ∧ gs = []) ∨
    ∃ b off cap, b < B ∧ v = .slice (some ⟨b, off, none⟩) gs.length cap ∧ ∀ i g, gs[i]? = some g → w.cell? ⟨b, off + i * 3, none⟩ = some (.int .i64 g.kind) ∧ w.cell? ⟨b, off + i * 3 + 1, none⟩ = some (.int .i64 g.int) ∧ w.cell? ⟨b, off + i * 3 + 2, none⟩ = some (.string g.text))

def putVals (gs : List GV) (s : Option (List UInt8)) : Option (List UInt8) := gs.foldl (fun s g => putVal g s) s
theorem putVal_none (g : GV) : putVal g none = none := by unfold putVal; split <;> rfl
theorem putVals_none (gs : List GV) : putVals gs none = none := by
  induction gs with
  | nil => rfl
  | cons g r ih => simp only [putVals, List.foldl_cons, putVal_none]; exact ih
theorem putVals_snoc (gs : List GV) (s : Option (List UInt8)) (k : Nat) (g : GV) (h : gs[k]? = some g) : putVals (gs.take (k + 1)) s = putVal g (putVals (gs.take k) s) := by
  rw [List.take_add_one, h, putVals, List.foldl_append]; rfl
theorem putVals_split (gs : List GV) (s : Option (List UInt8)) (k : Nat) : putVals gs s = putVals (gs.drop k) (putVals (gs.take k) s) := by
  rw [putVals, putVals, putVals, ← List.foldl_append, List.take_append_drop]
theorem may_len {g : GV} (h : g.may = true) (hg : g.ok) : g.bytes.length ≤ 100 := by
  obtain ⟨k, n, t⟩ := g
  obtain ⟨h1, h2, h3⟩ := hg
  dsimp only at h1 h2 h3
  by_cases hk0 : k = 0
  · subst hk0; simp [GV.bytes]; exact uv_small 0 (by decide)
  · by_cases hk1 : k = 1
    · subst hk1
      have hb : n = 0 ∨ n = 1 := by simp [GV.may] at h; exact h.1
      have a1 := uvarint_length64 (x := 1) (by decide)
      have a0 := uvarint_length64 (x := 0) (by decide)
      rcases hb with rfl | rfl <;> simp [GV.bytes] <;> omega
    · by_cases hk2 : k = 2
      · subst hk2
        have a1 := uvarint_length64 (x := 2) (by decide)
        have a0 := uvarint_length64 (zigzag_lt h1 (by omega : n ≤ 9223372036854775807))
        simp [GV.bytes]; omega
      · have b0 : (k == 0) = false := by simp [hk0]
        have b1 : (k == 1) = false := by simp [hk1]
        have b2 : (k == 2) = false := by simp [hk2]
        simp [GV.may, b0, b1, b2] at h
        obtain ⟨⟨⟨rfl, _⟩, h40⟩, _⟩ := h
        have a1 := uvarint_length64 (x := 3) (by decide)
        have a0 := uvarint_length64 (x := t.size) (by omega)
        simp [GV.bytes]; omega
theorem putVals_len {gs : List GV} (hg : ∀ g ∈ gs, g.ok) {l0 : List UInt8} : ∀ l, putVals gs (some l0) = some l → l.length ≤ l0.length + 100 * gs.length := by
  induction gs generalizing l0 with
  | nil => intro l h; simp [putVals] at h; subst h; simp
  | cons g r ih =>
    intro l h
    have e : putVals (g :: r) (some l0) = putVals r (putVal g (some l0)) := rfl
    rw [e] at h
    unfold putVal at h
    by_cases hm : g.may = true
    · rw [if_pos hm] at h
      have := ih (fun g hg' => hg g (List.mem_cons_of_mem _ hg')) l h
      have hb := may_len hm (hg g (List.mem_cons_self))
      simp at this ⊢; omega
    · rw [if_neg hm, putVals_none] at h; cases h

/-- What a writer has behind the number of a list. -/
def putLen (n : Nat) (most : Int) (s : Option (List UInt8)) : Option (List UInt8) := if (n : Int) ≤ most then s.map (· ++ uvarint n) else none

end Go.Proofs.YtlmjmhpdpgeplaaGreatDoor
