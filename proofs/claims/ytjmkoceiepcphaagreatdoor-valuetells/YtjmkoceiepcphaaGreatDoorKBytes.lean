/- Slices of bytes that are read: string(bytes), bytes.IndexByte. -/
import Derived.Test.YtjmkoceiepcphaaGreatDoorVKnown
import Derived.Test.YtjmkoceiepcphaaGreatDoorNums
import Derived.Laws.BytesArg
import Derived.Lib.IndexLaws
import Derived.Lib.BytesEntry
import Derived.Lib.EndianBits
namespace Go.Proofs.YtjmkoceiepcphaaGreatDoor
open Go.RowKit Go.Lib

/-- A slice's value that reads as these bytes, in blocks below B. -/
def RBp (w : World) (B : Nat) (v : Value) (l : List UInt8) : Prop :=
  l.length ≤ 1000000000000 ∧ ((v = .slice none 0 0 ∧ l = []) ∨
    ∃ b off cap, b < B ∧ l.length ≤ cap ∧ cap ≤ maxLen ∧ v = .slice (some ⟨b, off, none⟩) l.length cap ∧ ∀ i, i < l.length → w.cell? ⟨b, off + i, none⟩ = some (.int .u8 ((l.getD i 0).toNat : Int)))
theorem RBp.below {w w' : World} {B B' : Nat} {v : Value} {l : List UInt8} (h : RBp w B v l) (hb : Below B' w w') (hB : B ≤ B') : RBp w' B v l := by
  obtain ⟨h1, h2 | ⟨b, off, cap, hbB, hc, hm, rfl, hcell⟩⟩ := h
  · exact ⟨h1, .inl h2⟩
  · exact ⟨h1, .inr ⟨b, off, cap, hbB, hc, hm, rfl, fun i hi => (hb.cell (p := ⟨b, off + i, none⟩) (Nat.lt_of_lt_of_le hbB hB)).trans (hcell i hi)⟩⟩

theorem rb_drop {w : World} {B b off cap at' : Nat} {l : List UInt8} (hbB : b < B) (hl : at' ≤ l.length) (hcap : l.length ≤ cap) (hm : cap ≤ maxLen) (hlen : l.length ≤ 1000000000000)
    (hcell : ∀ i, i < l.length → w.cell? ⟨b, off + i, none⟩ = some (.int .u8 ((l.getD i 0).toNat : Int))) : RBp w B (.slice (some ⟨b, off + at', none⟩) (l.length - at') (cap - at')) (l.drop at') := by
  refine ⟨by simp; omega, .inr ⟨b, off + at', cap - at', hbB, by simp; omega, by omega, by simp, fun i hi => ?_⟩⟩
  have hi' : i < l.length - at' := by simpa using hi
  have e : (l.drop at').getD i 0 = l.getD (at' + i) 0 := by simp [List.getD_eq_getElem?_getD]
  rw [e, Nat.add_assoc]; exact hcell (at' + i) (by omega)
theorem rb_end {w : World} {B b cap at' : Nat} {l : List UInt8} (hbB : b < B) (hl : at' ≤ l.length) (hcap : l.length ≤ cap) (hce : cap = at') (off : Nat) :
    RBp w B (.slice (some ⟨b, off, none⟩) (l.length - at') 0) (l.drop at') := by
  refine ⟨by simp; omega, .inr ⟨b, off, 0, hbB, by simp; omega, by unfold maxLen; omega, by simp, fun i hi => ?_⟩⟩
  have hi' : i < l.length - at' := by simpa using hi
  omega

theorem nums_eq (l : List UInt8) : strOfNums (l.map fun c => (c.toNat : Int)) = ⟨l.toArray⟩ := by
  apply ByteArray.ext
  apply Array.ext'
  have e : ((fun n : Int => UInt8.ofNat n.toNat) ∘ fun c : UInt8 => (c.toNat : Int)) = id := by funext c; simp
  rw [strOfNums_data, List.map_map, e, List.map_id]
theorem conv_any (v : Value) (B : Nat) (l : List UInt8) (w : World) (hv : RBp w B v l) : (convert 43 9 v).run Tryz.prog w = .ok (.string ⟨l.toArray⟩) w := by
  obtain ⟨hlen, ⟨rfl, rfl⟩ | ⟨b, off, cap, hbB, hcap, hm, rfl, hcell⟩⟩ := hv
  · exact run_convert_bytes_nil w _ _ Tryz.underlying43 Tryz.underlying5 0 0 _ Tryz.underlying9
  · have h := run_convert_bytes_arg (P := Tryz.prog) w 43 5 Tryz.underlying43 Tryz.underlying5 b off l.length cap (l.map fun c => (c.toNat : Int)) (by simp) (fun i hi => by
      rw [hcell i hi]; simp [hi]) 9 Tryz.underlying9
    rw [h, nums_eq]

theorem bytesOf_map (l : List UInt8) : bytesOf (l.map fun c => (c.toNat : Int)) = l := by
  induction l with
  | nil => rfl
  | cons c r ih =>
    have e : bytesOf ((c.toNat : Int) :: r.map fun c => (c.toNat : Int)) = ((c.toNat : Int).toNat.toUInt8) :: bytesOf (r.map fun c => (c.toNat : Int)) := rfl
    rw [List.map_cons, e, ih]
    simp [Nat.toUInt8]

theorem indexByte_le : ∀ (l : List UInt8) (c : UInt8), indexByte l c ≤ l.length := by
  intro l c
  rcases Int.lt_or_le (indexByte l c) 0 with h | h
  · omega
  · obtain ⟨o, ho⟩ := Int.eq_ofNat_of_zero_le h
    have := (indexByte_some ho).1
    have h2 := (List.getElem?_eq_some_iff.1 this).1
    omega
theorem rb_first {w : World} {B k n : Nat} {ad : Option Addr} {l : List UInt8} (h : RBp w B (.slice ad l.length k) l) (hn : n ≤ l.length) : RBp w B (.slice ad n k) (l.take n) := by
  obtain ⟨hlen, ⟨hv, rfl⟩ | ⟨b, off, cap, hbB, hcap, hm, hv, hcell⟩⟩ := h
  · injection hv with h1 h2 h3
    have hn0 : n = 0 := by simpa using hn
    subst h1; subst h3; subst hn0
    exact ⟨by simp, .inl ⟨rfl, rfl⟩⟩
  · injection hv with h1 h2 h3
    subst h1; subst h3
    have e : (l.take n).length = n := by simp; omega
    refine ⟨by omega, .inr ⟨b, off, k, hbB, by omega, hm, by rw [e], fun i hi => ?_⟩⟩
    have hi' : i < n := by omega
    have e : (l.take n).getD i 0 = l.getD i 0 := by simp [List.getD_eq_getElem?_getD, hi']
    rw [e]; exact hcell i (by omega)

theorem rb_len' {w : World} {B : Nat} {v : Value} {l : List UInt8} (h : RBp w B v l) : ∃ a k, v = .slice a l.length k ∧ l.length ≤ k := by
  obtain ⟨hlen, ⟨rfl, rfl⟩ | ⟨b, off, cap, hbB, hcap, hm, rfl, hcell⟩⟩ := h
  · exact ⟨none, 0, rfl, by simp⟩
  · exact ⟨_, _, rfl, hcap⟩
theorem rb_own {w : World} {B : Nat} {v : Value} {l : List UInt8} (h : w.ownsRow B 5 1 v l.length (byteCells l)) (hl : l.length ≤ 1000000000000) : RBp w w.heap.size v l := by
  have hh := h
  obtain ⟨h1, ⟨h2, h2'⟩ | ⟨g, cap, cur, h3, h4, h5, h6, h7, h8, h9⟩⟩ := h
  · exact ⟨hl, .inl ⟨h2, List.eq_nil_of_length_eq_zero h2'⟩⟩
  · have hg : g < w.heap.size := by
      rcases Nat.lt_or_ge g w.heap.size with h' | h'
      · exact h'
      · rw [Array.getElem?_eq_none h'] at h5; cases h5
    refine ⟨hl, .inr ⟨g, 0, cap, hg, h6, h7, h3, fun i hi => ?_⟩⟩
    have e2 : (byteCells l)[i]? = some (.int .u8 ((l.getD i 0).toNat : Int)) := by
      simp [byteCells, hi]
    have := hh.cells (g := g) (by rw [h3]; rfl) i _ e2
    have e3 : (⟨g, 0, none⟩ : Addr).add i = ⟨g, 0 + i, none⟩ := by unfold Addr.add; split <;> simp_all
    rw [e3] at this; exact this
theorem rb_later {w w' : World} {B B' : Nat} {v : Value} {l : List UInt8} (h : RBp w B v l) (hb : Below B w w') (hB : B ≤ B') : RBp w' B' v l := by
  obtain ⟨h1, h2 | ⟨b, off, cap, hbB, hc, hm, rfl, hcell⟩⟩ := h
  · exact ⟨h1, .inl h2⟩
  · exact ⟨h1, .inr ⟨b, off, cap, by omega, hc, hm, rfl, fun i hi => (hb.cell (p := ⟨b, off + i, none⟩) hbB).trans (hcell i hi)⟩⟩


theorem rb_some {w : World} {B : Nat} {v : Value} {l : List UInt8} (h : RBp w B v l) (hl : l ≠ []) : ∃ b off cap, b < B ∧ l.length ≤ cap ∧ cap ≤ maxLen ∧ v = .slice (some ⟨b, off, none⟩) l.length cap ∧ ∀ i, i < l.length → w.cell? ⟨b, off + i, none⟩ = some (.int .u8 ((l.getD i 0).toNat : Int)) := by
  obtain ⟨_, ⟨_, e⟩ | h⟩ := h
  · exact absurd e hl
  · exact h
/-- How many bytes the value at the beginning has. -/
def szG (l : List UInt8) : Nat :=
  if (l.getD 0 0).toNat = 1 then 2 else if (l.getD 0 0).toNat = 2 then 9 else if (l.getD 0 0).toNat = 3 then (if indexByte l 0 < 0 then l.length + 1 else (indexByte l 0).toNat + 1) else 1

/-- The number that bytes are, the highest first. -/
def decN (l : List UInt8) : Nat := l.foldl (fun x c => x * 256 + c.toNat) 0
theorem decN_snoc (l : List UInt8) (k : Nat) (c : UInt8) (h : l[k]? = some c) : decN (l.take (k + 1)) = decN (l.take k) * 256 + c.toNat := by
  rw [List.take_add_one, h]; simp [decN]
theorem decN_lt : ∀ (l : List UInt8), decN l < 256 ^ l.length := by
  intro l
  have : ∀ (l : List UInt8) (x n : Nat), x < 256 ^ n → l.foldl (fun x c => x * 256 + c.toNat) x < 256 ^ (n + l.length) := by
    intro l
    induction l with
    | nil => intro x n h; simpa using h
    | cons c r ih =>
      intro x n h
      have hc := UInt8.toNat_lt c
      have := ih (x * 256 + c.toNat) (n + 1) (by rw [Nat.pow_succ]; omega)
      rw [List.foldl_cons, List.length_cons]
      have e : n + 1 + r.length = n + (r.length + 1) := by omega
      rwa [e] at this
  have h := this l 0 0 (by simp)
  simpa [decN] using h
theorem or_low {x c : Nat} (hx : x < 72057594037927936) (hc : c < 256) : bits BinOp.or IntKind.u64 ((x : Int) * 256) (c : Int) = ((x * 256 + c : Nat) : Int) := by
  have e : ((x : Int) * 256) = ((x * 256 : Nat) : Int) := by omega
  rw [e, bits_or_u64_nat _ _ (by omega) (by omega)]
  have : x * 256 ||| c = x * 256 + c := by
    have := Nat.shiftLeft_add_eq_or_of_lt (b := c) (i := 8) hc x
    rw [Nat.shiftLeft_eq] at this
    exact this.symm
  rw [this]

end Go.Proofs.YtjmkoceiepcphaaGreatDoor
