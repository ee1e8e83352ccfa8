/- Contracts of the reader's take and of string(bytes). -/
import Derived.Test.YtmahkhpmaenkhaaDoorJValsRead3Vals2Vals3Rows2
import Derived.Laws.BytesArg
import Derived.Lib.IndexLaws
namespace Go.Proofs.YtmahkhpmaenkhaaDoor
open Go.RowKit Go.Lib

theorem nums_eq (l : List UInt8) : strOfNums (l.map fun c => (c.toNat : Int)) = ⟨l.toArray⟩ := by
  apply ByteArray.ext
  apply Array.ext'
  have e : ((fun n : Int => UInt8.ofNat n.toNat) ∘ fun c : UInt8 => (c.toNat : Int)) = id := by funext c; simp
  rw [strOfNums_data, List.map_map, e, List.map_id]
theorem conv_any (v : Value) (B : Nat) (l : List UInt8) (w : World) (hv : RBp w B v l) : (convert 27 9 v).run Tryd.prog w = .ok (.string ⟨l.toArray⟩) w := by
  obtain ⟨hlen, ⟨rfl, rfl⟩ | ⟨b, off, cap, hbB, hcap, hm, rfl, hcell⟩⟩ := hv
  · exact run_convert_bytes_nil w _ _ Tryd.underlying27 Tryd.underlying5 0 0 _ Tryd.underlying9
  · have h := run_convert_bytes_arg (P := Tryd.prog) w 27 5 Tryd.underlying27 Tryd.underlying5 b off l.length cap (l.map fun c => (c.toNat : Int)) (by simp) (fun i hi => by
      rw [hcell i hi]; simp [hi]) 9 Tryd.underlying9
    rw [h, nums_eq]

theorem rb_len {w : World} {B : Nat} {v : Value} {l : List UInt8} (h : RBp w B v l) : ∃ a k, v = .slice a l.length k := by
  obtain ⟨hlen, ⟨rfl, rfl⟩ | ⟨b, off, cap, hbB, hcap, hm, rfl, hcell⟩⟩ := h
  · exact ⟨none, 0, rfl⟩
  · exact ⟨_, _, rfl⟩
theorem rb_take {w : World} {B b off cap a n : Nat} {l : List UInt8} (hbB : b < B) (hl : a ≤ l.length) (hn : n ≤ l.length - a) (hcap : l.length ≤ cap) (hm : cap ≤ maxLen) (hlen : l.length ≤ 1000000000000)
    (hcell : ∀ i, i < l.length → w.cell? ⟨b, off + i, none⟩ = some (.int .u8 ((l.getD i 0).toNat : Int))) : RBp w B (.slice (some ⟨b, off + a, none⟩) (a + n - a) (cap - a)) ((l.drop a).take n) := by
  have e0 : ((l.drop a).take n).length = a + n - a := by simp; omega
  refine ⟨by omega, .inr ⟨b, off + a, cap - a, hbB, by omega, by omega, by rw [e0], fun i hi => ?_⟩⟩
  have hi' : i < n := by omega
  have e : ((l.drop a).take n).getD i 0 = l.getD (a + i) 0 := by
    simp [List.getD_eq_getElem?_getD, hi']
  rw [e, Nat.add_assoc]; exact hcell (a + i) (by omega)
theorem rb_take0 {w : World} {B b off cap a n : Nat} {l : List UInt8} (hbB : b < B) (hn : n ≤ l.length - a) (hcap : l.length ≤ cap) (hce : cap = a) (k : Nat) (hk : k ≤ maxLen) :
    RBp w B (.slice (some ⟨b, off, none⟩) (a + n - a) k) ((l.drop a).take n) := by
  have hn0 : n = 0 := by omega
  subst hn0
  refine ⟨by simp, .inr ⟨b, off, k, hbB, by simp, hk, by simp, fun i hi => by simp at hi⟩⟩

end Go.Proofs.YtmahkhpmaenkhaaDoor
/- Contracts of bytes.IndexByte and of the reader's textValue. -/
namespace Go.Proofs.YtmahkhpmaenkhaaDoor
open Go.RowKit Go.Lib

theorem bytesOf_map (l : List UInt8) : bytesOf (l.map fun c => (c.toNat : Int)) = l := by
  induction l with
  | nil => rfl
  | cons c r ih =>
    have e : bytesOf ((c.toNat : Int) :: r.map fun c => (c.toNat : Int)) = ((c.toNat : Int).toNat.toUInt8) :: bytesOf (r.map fun c => (c.toNat : Int)) := rfl
    rw [List.map_cons, e, ih]
    simp [Nat.toUInt8]

theorem indexByte_le : ∀ (l : List UInt8) (c : UInt8), indexByte l c ≤ l.length := by
  intro l c
  rcases Int.lt_or_le (indexByte l c) 0 with h | h
  · omega
  · obtain ⟨o, ho⟩ := Int.eq_ofNat_of_zero_le h
    have := (indexByte_some ho).1
    have h2 := (List.getElem?_eq_some_iff.1 this).1
    omega
theorem rb_first {w : World} {B k n : Nat} {ad : Option Addr} {l : List UInt8} (h : RBp w B (.slice ad l.length k) l) (hn : n ≤ l.length) : RBp w B (.slice ad n k) (l.take n) := by
  obtain ⟨hlen, ⟨hv, rfl⟩ | ⟨b, off, cap, hbB, hcap, hm, hv, hcell⟩⟩ := h
  · injection hv with h1 h2 h3
    have hn0 : n = 0 := by simpa using hn
    subst h1; subst h3; subst hn0
    exact ⟨by simp, .inl ⟨rfl, rfl⟩⟩
  · injection hv with h1 h2 h3
    subst h1; subst h3
    have e : (l.take n).length = n := by simp; omega
    refine ⟨by omega, .inr ⟨b, off, k, hbB, by omega, hm, by rw [e], fun i hi => ?_⟩⟩
    have hi' : i < n := by omega
    have e : (l.take n).getD i 0 = l.getD i 0 := by simp [List.getD_eq_getElem?_getD, hi']
    rw [e]; exact hcell i (by omega)

theorem rb_len' {w : World} {B : Nat} {v : Value} {l : List UInt8} (h : RBp w B v l) : ∃ a k, v = .slice a l.length k ∧ l.length ≤ k := by
  obtain ⟨hlen, ⟨rfl, rfl⟩ | ⟨b, off, cap, hbB, hcap, hm, rfl, hcell⟩⟩ := h
  · exact ⟨none, 0, rfl, by simp⟩
  · exact ⟨_, _, rfl, hcap⟩
theorem rb_first' {w : World} {B k n a : Nat} {ad : Option Addr} {l : List UInt8} (h : RBp w B (.slice ad (l.length - a) k) (l.drop a)) (hn : n ≤ l.length - a) : RBp w B (.slice ad n k) ((l.drop a).take n) :=
  rb_first (l := l.drop a) (by simpa using h) (by simpa using hn)

/-- Reading a text of a row. -/
def rdText (l : List UInt8) (s : Except Nat Nat) : List UInt8 × Except Nat Nat :=
  match (rdBetween l 0 40 s).2 with
  | .error c => ([], .error c)
  | .ok a => if 0 ≤ indexByte ((l.drop a).take (rdBetween l 0 40 s).1.toNat) 0 then ([], .error 20) else rdTake l (rdBetween l 0 40 s).1.toNat (.ok a)

theorem rdBetween_ok {l : List UInt8} {lo hi : Int} {s : Except Nat Nat} {a : Nat} (hlh : lo ≤ hi) (h : (rdBetween l lo hi s).2 = .ok a) : ∃ n : Nat, rdBetween l lo hi s = (lo + n, .ok a) ∧ (n : Int) ≤ hi - lo := by
  unfold rdBetween at h ⊢
  cases hr : (rdUp l (hi - lo).toNat s).2 with
  | error c => rw [hr] at h; cases h
  | ok b =>
    rw [hr] at h
    dsimp only at h ⊢
    have := rdUp_le hr
    injection h with h
    subst h
    exact ⟨_, rfl, by omega⟩
theorem rdBetween_err {l : List UInt8} {lo hi : Int} {s : Except Nat Nat} {c : Nat} (h : (rdBetween l lo hi s).2 = .error c) : rdBetween l lo hi s = (0, .error c) := by
  unfold rdBetween at h ⊢
  cases hr : (rdUp l (hi - lo).toNat s).2 with
  | error c' => rw [hr] at h; dsimp only at h ⊢; injection h with h; subst h; rfl
  | ok b => rw [hr] at h; cases h

end Go.Proofs.YtmahkhpmaenkhaaDoor
