/- The document's lexer: letters, digits. -/
import Derived.Test.YtehgoioinogmkaaGreatDoorProg
import Derived.Test.YtehgoioinogmkaaGreatDoorJPlainDecNBigListOpsListOp2ListOp3
import Derived.Test.YtehgoioinogmkaaGreatDoorLMath3
import Derived.Test.YtehgoioinogmkaaGreatDoorJVSum3VTest2VKnownVLaid
import Derived.Test.YtehgoioinogmkaaGreatDoorJNumsFaultsVErr
import Derived.Laws.BytesArg
import Derived.Lib.IndexLaws
import Derived.Lib.BytesEntry
import Derived.Lib.EndianBits
import Derived.Deep.RegionHeld3
import Derived.OwnWalk
import Derived.Deep.CutRange
import Derived.Deep.CutBlock
import Derived.Deep.MidRow
namespace Go.Proofs.YtehgoioinogmkaaGreatDoor
open Go.RowKit Go.Lib

theorem ret_bool {a b : Bool} (h : a = b) : Ending.returned (.bool a) = .returned (.bool b) := by rw [h]
theorem letter_any (c : UInt8) (w : World) : Calls Tryz.prog 147 #[.int .u8 (c.toNat : Int)] w fun e w' => e = .returned (.bool (kd c == 2)) ∧ w' = w := by
  obtain ⟨n, hn⟩ : ∃ n, n = c.toNat := ⟨_, rfl⟩
  obtain ⟨b, hb⟩ : ∃ b, b = (kd c == 2) := ⟨_, rfl⟩
  have hk : b = decide ((97 ≤ n ∧ n ≤ 122) ∨ (65 ≤ n ∧ n ≤ 90) ∨ n = 95) := by
    rw [hb]
    unfold kd kdN
    rw [← hn]
    by_cases h : (97 ≤ n ∧ n ≤ 122) ∨ (65 ≤ n ∧ n ≤ 90) ∨ n = 95
    · simp [h]
    · rw [if_neg h, decide_eq_false h]
      repeat' split
      all_goals rfl
  rw [← hb, ← hn]
  have HK := hide hk
  clear hb hn hk
  go_enter Tryz.func147, Tryz.ntmps147
  go_wp2_with fail
  all_goals
    go_ret
    exact ⟨ret_bool (by rw [unhide HK]; by_cases h : (97 ≤ n ∧ n ≤ 122) ∨ (65 ≤ n ∧ n ≤ 90) ∨ n = 95 <;> simp [h] <;> omega), rfl⟩
theorem digit_any (c : UInt8) (w : World) : Calls Tryz.prog 139 #[.int .u8 (c.toNat : Int)] w fun e w' => e = .returned (.bool (kd c == 3)) ∧ w' = w := by
  obtain ⟨n, hn⟩ : ∃ n, n = c.toNat := ⟨_, rfl⟩
  obtain ⟨b, hb⟩ : ∃ b, b = (kd c == 3) := ⟨_, rfl⟩
  have hk : b = decide (48 ≤ n ∧ n ≤ 57) := by
    rw [hb]
    unfold kd kdN
    rw [← hn]
    by_cases h : 48 ≤ n ∧ n ≤ 57
    · rw [if_neg (by omega), if_pos h, decide_eq_true h]; rfl
    · rw [if_neg h, decide_eq_false h]
      repeat' split
      all_goals rfl
  rw [← hb, ← hn]
  have HK := hide hk
  clear hb hn hk
  go_enter Tryz.func139, Tryz.ntmps139
  go_wp2_with fail
  all_goals
    go_ret
    exact ⟨ret_bool (by rw [unhide HK]; by_cases h : 48 ≤ n ∧ n ≤ 57 <;> simp [h] <;> omega), rfl⟩

end Go.Proofs.YtehgoioinogmkaaGreatDoor
/- The document's words. -/
namespace Go.Proofs.YtehgoioinogmkaaGreatDoor
open Go.RowKit Go.Lib

def sv (l : List UInt8) : Value := .string ⟨l.toArray⟩
theorem words_any (w : World) : Calls Tryz.prog 180 #[] w fun e w' => e = .returned (.slice (some ⟨w.heap.size, 0, none⟩) 49 49) ∧ w' = w.alloc (.cells (wordsL.map sv).toArray 9) := by
  go_enter Tryz.func180, Tryz.ntmps180
  go_wp2_with fail
  go_ret
  exact ⟨rfl, rfl⟩
theorem words_len : wordsL.length = 49 := rfl
theorem words_cell (w : World) (k : Nat) (g : List UInt8) (h : wordsL[k]? = some g) : (w.alloc (.cells (wordsL.map sv).toArray 9)).cell? ⟨w.heap.size, k, none⟩ = some (sv g) := by
  rw [World.cell?_alloc_new] <;> simp [h]
theorem isWord_any (t : List UInt8) (w : World) : Calls Tryz.prog 140 #[sv t] w fun e w' => e = .returned (.bool (wordsL.contains t)) ∧ Below w.heap.size w w' := by
  obtain ⟨W, hW⟩ : ∃ W, W = w.alloc (.cells (wordsL.map sv).toArray 9) := ⟨_, rfl⟩
  have HC : Hid (∀ k g, wordsL[k]? = some g → W.cell? ⟨w.heap.size, k, none⟩ = some (sv g)) := by rw [hW]; exact fun k g h => words_cell w k g h
  have HB : Hid (Below w.heap.size w W) := by rw [hW]; exact (Below.refl _ _).alloc (Nat.le_refl _) _
  have HW : Hid (Calls Tryz.prog 180 #[] w fun e w' => e = .returned (.slice (some ⟨w.heap.size, 0, none⟩) 49 49) ∧ w' = W) := by rw [hW]; exact words_any w
  clear hW
  unfold sv
  go_enter Tryz.func140, Tryz.ntmps140
  go_wp2_with (go_at_call 180; refine (unhide HW).mono ?_; clear HW; rintro e w1 ⟨rfl, rfl⟩)
  go_loopw [4] (fun i wr => ∃ k : Nat, k ≤ 49 ∧ i = .int .i64 k ∧ wr = w1 ∧ Hid ((wordsL.take k).contains t = false)) (fun i _ => 49 - (intOf i).toNat)
  case atStart => exact ⟨0, by omega, rfl, rfl, rfl⟩
  case round =>
    obtain ⟨k, hk, rfl, rfl, HN⟩ := hrel
    by_cases hlt : k < 49
    · obtain ⟨g, hg⟩ : ∃ g, wordsL[k]? = some g := ⟨wordsL[k], List.getElem?_eq_getElem (by rw [words_len]; exact hlt)⟩
      have HG := hide hg
      have c0 := unhide HC k g hg
      unfold sv at c0
      have hki : (k : Int) < 49 := by omega
      have hk0 : (0 : Int) ≤ (k : Int) := by omega
      clear hg HC
      by_cases he : g = t
      · have hq : (g == t) = true := by simp [he]
        go_wp2_with fail
        go_ret
        refine ⟨ret_bool ?_, unhide HB⟩
        rw [← he]
        exact (List.contains_iff_mem.2 (List.mem_of_getElem? (unhide HG))).symm
      · have hq : (g == t) = false := by simp [he]
        go_wp2_with fail
        go_roundw
        case rel => exact ⟨k + 1, by omega, by go_num, trivial, by
          have h := unhide HN
          show (wordsL.take (k + 1)).contains t = false
          rw [List.take_add_one, unhide HG, Option.toList_some, List.contains_eq_mem] at *
          simp at h ⊢
          exact ⟨h, fun e => he e.symm⟩⟩
        case measure => simp [intOf]; omega
    · go_wp2_with fail
      go_ret
      refine ⟨ret_bool ?_, unhide HB⟩
      have h := unhide HN
      rw [List.take_of_length_le (by rw [words_len]; omega)] at h
      exact h.symm
end Go.Proofs.YtehgoioinogmkaaGreatDoor
/- Slices of bytes that are read: string(bytes), bytes.IndexByte. -/
namespace Go.Proofs.YtehgoioinogmkaaGreatDoor
open Go.RowKit Go.Lib

/-- A slice's value that reads as these bytes, in blocks below B. -/
def RBp (w : World) (B : Nat) (v : Value) (l : List UInt8) : Prop :=
  l.length ≤ 1000000000000 ∧ ((v = .slice none 0 0 ∧ l = []) ∨
    ∃ b off cap, b < B ∧ l.length ≤ cap ∧ cap ≤ maxLen ∧ v = .slice (some ⟨b, off, none⟩) l.length cap ∧ ∀ i, i < l.length → w.cell? ⟨b, off + i, none⟩ = some (.int .u8 ((l.getD i 0).toNat : Int)))
theorem RBp.below {w w' : World} {B B' : Nat} {v : Value} {l : List UInt8} (h : RBp w B v l) (hb : Below B' w w') (hB : B ≤ B') : RBp w' B v l := by
  obtain ⟨h1, h2 | ⟨b, off, cap, hbB, hc, hm, rfl, hcell⟩⟩ := h
  · exact ⟨h1, .inl h2⟩
  · exact ⟨h1, .inr ⟨b, off, cap, hbB, hc, hm, rfl, fun i hi => (hb.cell (p := ⟨b, off + i, none⟩) (Nat.lt_of_lt_of_le hbB hB)).trans (hcell i hi)⟩⟩

theorem rb_drop {w : World} {B b off cap at' : Nat} {l : List UInt8} (hbB : b < B) (hl : at' ≤ l.length) (hcap : l.length ≤ cap) (hm : cap ≤ maxLen) (hlen : l.length ≤ 1000000000000)
    (hcell : ∀ i, i < l.length → w.cell? ⟨b, off + i, none⟩ = some (.int .u8 ((l.getD i 0).toNat : Int))) : RBp w B (.slice (some ⟨b, off + at', none⟩) (l.length - at') (cap - at')) (l.drop at') := by
  refine ⟨by simp; omega, .inr ⟨b, off + at', cap - at', hbB, by simp; omega, by omega, by simp, fun i hi => ?_⟩⟩
  have hi' : i < l.length - at' := by simpa using hi
  have e : (l.drop at').getD i 0 = l.getD (at' + i) 0 := by simp [List.getD_eq_getElem?_getD]
  rw [e, Nat.add_assoc]; exact hcell (at' + i) (by omega)
theorem rb_end {w : World} {B b cap at' : Nat} {l : List UInt8} (hbB : b < B) (hl : at' ≤ l.length) (hcap : l.length ≤ cap) (hce : cap = at') (off : Nat) :
    RBp w B (.slice (some ⟨b, off, none⟩) (l.length - at') 0) (l.drop at') := by
  refine ⟨by simp; omega, .inr ⟨b, off, 0, hbB, by simp; omega, by unfold maxLen; omega, by simp, fun i hi => ?_⟩⟩
  have hi' : i < l.length - at' := by simpa using hi
  omega

theorem nums_eq (l : List UInt8) : strOfNums (l.map fun c => (c.toNat : Int)) = ⟨l.toArray⟩ := by
  apply ByteArray.ext
  apply Array.ext'
  have e : ((fun n : Int => UInt8.ofNat n.toNat) ∘ fun c : UInt8 => (c.toNat : Int)) = id := by funext c; simp
  rw [strOfNums_data, List.map_map, e, List.map_id]
theorem conv_any (v : Value) (B : Nat) (l : List UInt8) (w : World) (hv : RBp w B v l) : (convert 57 9 v).run Tryz.prog w = .ok (.string ⟨l.toArray⟩) w := by
  obtain ⟨hlen, ⟨rfl, rfl⟩ | ⟨b, off, cap, hbB, hcap, hm, rfl, hcell⟩⟩ := hv
  · exact run_convert_bytes_nil w _ _ Tryz.underlying57 Tryz.underlying5 0 0 _ Tryz.underlying9
  · have h := run_convert_bytes_arg (P := Tryz.prog) w 57 5 Tryz.underlying57 Tryz.underlying5 b off l.length cap (l.map fun c => (c.toNat : Int)) (by simp) (fun i hi => by
      rw [hcell i hi]; simp [hi]) 9 Tryz.underlying9
    rw [h, nums_eq]

theorem bytesOf_map (l : List UInt8) : bytesOf (l.map fun c => (c.toNat : Int)) = l := by
  induction l with
  | nil => rfl
  | cons c r ih =>
    have e : bytesOf ((c.toNat : Int) :: r.map fun c => (c.toNat : Int)) = ((c.toNat : Int).toNat.toUInt8) :: bytesOf (r.map fun c => (c.toNat : Int)) := rfl
    rw [List.map_cons, e, ih]
    simp [Nat.toUInt8]

theorem indexByte_le : ∀ (l : List UInt8) (c : UInt8), indexByte l c ≤ l.length := by
  intro l c
  rcases Int.lt_or_le (indexByte l c) 0 with h | h
  · omega
  · obtain ⟨o, ho⟩ := Int.eq_ofNat_of_zero_le h
    have := (indexByte_some ho).1
    have h2 := (List.getElem?_eq_some_iff.1 this).1
    omega
theorem rb_first {w : World} {B k n : Nat} {ad : Option Addr} {l : List UInt8} (h : RBp w B (.slice ad l.length k) l) (hn : n ≤ l.length) : RBp w B (.slice ad n k) (l.take n) := by
  obtain ⟨hlen, ⟨hv, rfl⟩ | ⟨b, off, cap, hbB, hcap, hm, hv, hcell⟩⟩ := h
  · injection hv with h1 h2 h3
    have hn0 : n = 0 := by simpa using hn
    subst h1; subst h3; subst hn0
    exact ⟨by simp, .inl ⟨rfl, rfl⟩⟩
  · injection hv with h1 h2 h3
    subst h1; subst h3
    have e : (l.take n).length = n := by simp; omega
    refine ⟨by omega, .inr ⟨b, off, k, hbB, by omega, hm, by rw [e], fun i hi => ?_⟩⟩
    have hi' : i < n := by omega
    have e : (l.take n).getD i 0 = l.getD i 0 := by simp [List.getD_eq_getElem?_getD, hi']
    rw [e]; exact hcell i (by omega)

theorem rb_len' {w : World} {B : Nat} {v : Value} {l : List UInt8} (h : RBp w B v l) : ∃ a k, v = .slice a l.length k ∧ l.length ≤ k := by
  obtain ⟨hlen, ⟨rfl, rfl⟩ | ⟨b, off, cap, hbB, hcap, hm, rfl, hcell⟩⟩ := h
  · exact ⟨none, 0, rfl, by simp⟩
  · exact ⟨_, _, rfl, hcap⟩
theorem rb_own {w : World} {B : Nat} {v : Value} {l : List UInt8} (h : w.ownsRow B 5 1 v l.length (byteCells l)) (hl : l.length ≤ 1000000000000) : RBp w w.heap.size v l := by
  have hh := h
  obtain ⟨h1, ⟨h2, h2'⟩ | ⟨g, cap, cur, h3, h4, h5, h6, h7, h8, h9⟩⟩ := h
  · exact ⟨hl, .inl ⟨h2, List.eq_nil_of_length_eq_zero h2'⟩⟩
  · have hg : g < w.heap.size := by
      rcases Nat.lt_or_ge g w.heap.size with h' | h'
      · exact h'
      · rw [Array.getElem?_eq_none h'] at h5; cases h5
    refine ⟨hl, .inr ⟨g, 0, cap, hg, h6, h7, h3, fun i hi => ?_⟩⟩
    have e2 : (byteCells l)[i]? = some (.int .u8 ((l.getD i 0).toNat : Int)) := by
      simp [byteCells, hi]
    have := hh.cells (g := g) (by rw [h3]; rfl) i _ e2
    have e3 : (⟨g, 0, none⟩ : Addr).add i = ⟨g, 0 + i, none⟩ := by unfold Addr.add; split <;> simp_all
    rw [e3] at this; exact this
theorem rb_later {w w' : World} {B B' : Nat} {v : Value} {l : List UInt8} (h : RBp w B v l) (hb : Below B w w') (hB : B ≤ B') : RBp w' B' v l := by
  obtain ⟨h1, h2 | ⟨b, off, cap, hbB, hc, hm, rfl, hcell⟩⟩ := h
  · exact ⟨h1, .inl h2⟩
  · exact ⟨h1, .inr ⟨b, off, cap, by omega, hc, hm, rfl, fun i hi => (hb.cell (p := ⟨b, off + i, none⟩) hbB).trans (hcell i hi)⟩⟩


theorem rb_some {w : World} {B : Nat} {v : Value} {l : List UInt8} (h : RBp w B v l) (hl : l ≠ []) : ∃ b off cap, b < B ∧ l.length ≤ cap ∧ cap ≤ maxLen ∧ v = .slice (some ⟨b, off, none⟩) l.length cap ∧ ∀ i, i < l.length → w.cell? ⟨b, off + i, none⟩ = some (.int .u8 ((l.getD i 0).toNat : Int)) := by
  obtain ⟨_, ⟨_, e⟩ | h⟩ := h
  · exact absurd e hl
  · exact h
/-- How many bytes the value at the beginning has. -/
def szG (l : List UInt8) : Nat :=
  if (l.getD 0 0).toNat = 1 then 2 else if (l.getD 0 0).toNat = 2 then 9 else if (l.getD 0 0).toNat = 3 then (if indexByte l 0 < 0 then l.length + 1 else (indexByte l 0).toNat + 1) else 1

/-- The number that bytes are, the highest first. -/
def decN (l : List UInt8) : Nat := l.foldl (fun x c => x * 256 + c.toNat) 0
theorem decN_snoc (l : List UInt8) (k : Nat) (c : UInt8) (h : l[k]? = some c) : decN (l.take (k + 1)) = decN (l.take k) * 256 + c.toNat := by
  rw [List.take_add_one, h]; simp [decN]
theorem decN_lt : ∀ (l : List UInt8), decN l < 256 ^ l.length := by
  intro l
  have : ∀ (l : List UInt8) (x n : Nat), x < 256 ^ n → l.foldl (fun x c => x * 256 + c.toNat) x < 256 ^ (n + l.length) := by
    intro l
    induction l with
    | nil => intro x n h; simpa using h
    | cons c r ih =>
      intro x n h
      have hc := UInt8.toNat_lt c
      have := ih (x * 256 + c.toNat) (n + 1) (by rw [Nat.pow_succ]; omega)
      rw [List.foldl_cons, List.length_cons]
      have e : n + 1 + r.length = n + (r.length + 1) := by omega
      rwa [e] at this
  have h := this l 0 0 (by simp)
  simpa [decN] using h
theorem or_low {x c : Nat} (hx : x < 72057594037927936) (hc : c < 256) : bits BinOp.or IntKind.u64 ((x : Int) * 256) (c : Int) = ((x * 256 + c : Nat) : Int) := by
  have e : ((x : Int) * 256) = ((x * 256 : Nat) : Int) := by omega
  rw [e, bits_or_u64_nat _ _ (by omega) (by omega)]
  have : x * 256 ||| c = x * 256 + c := by
    have := Nat.shiftLeft_add_eq_or_of_lt (b := c) (i := 8) hc x
    rw [Nat.shiftLeft_eq] at this
    exact this.symm
  rw [this]

end Go.Proofs.YtehgoioinogmkaaGreatDoor
/- A region that draws its order, taken by hand: a read's value goes to its slot. -/
namespace Go.Proofs.YtehgoioinogmkaaGreatDoor
open Go.RowKit Go.Lib

/-- Take number i first: its value goes to slot d. -/
theorem hand_to {P : Program} {ops : Array Oper} {Q : Exit → Act → World → Prop} {md : Region.Mode} {S : World → Prop} {i d : Nat} {oi : Oper} {v : Value} {fuel : Nat} {listed : Array Bool} {a : Act} {w : World} (hi : ops[i]? = some oi) (hd : oi.dst = some d)
    (hs : Region.noSelect ops = true) (hf : Region.free md ops listed i = true) (hr : (Region.ready md ops listed).contains i = true)
    (hQ : ∀ c a w, Q (.panic c) (a.put (some d) v) w → Q (.panic c) a w) (hy : YieldsIf P ops S oi v a) (hS : S w)
    (h : wpAnyH P md ops Q S fuel (listed.setIfInBounds i true) (a.put (some d) v) w) : wpAnyH P md ops Q S (fuel + 1) listed a w := by
  rw [← hd] at hQ h
  exact wpAnyH_take hi hs hf hr hQ hy hS h
end Go.Proofs.YtehgoioinogmkaaGreatDoor
/- Plain facts on blocks: they serve the proofs about the document's lexer, parser and what follows. -/
namespace Go.Proofs.YtehgoioinogmkaaGreatDoor
open Go.RowKit Go.Lib

theorem blkX {w w' : World} {b : Nat} {o : Obj} (h : w.heap[b]? = some o) (hb : Below w.heap.size w w') : w'.heap[b]? = some o := (hb.block b (Array.getElem?_eq_some_iff.1 h).1).trans h
theorem ltX {w : World} {b : Nat} {o : Obj} (h : w.heap[b]? = some o) : b < w.heap.size := (Array.getElem?_eq_some_iff.1 h).1
theorem cellX {w : World} {b : Nat} {cur : Array Value} {T : TypeId} (h : w.heap[b]? = some (.cells cur T (0, 0))) (i : Nat) : w.cell? ⟨b, i, none⟩ = cur[i]? := by
  rw [World.cell?]
  simp [h]
theorem frzX {w : World} {b : Nat} {cur : Array Value} {T : TypeId} (h : w.heap[b]? = some (.cells cur T (0, 0))) (i : Nat) : w.frozen? ⟨b, i, none⟩ = false := by
  simp [World.frozen?, h]
theorem setX {w : World} {p : Nat} {cur : Array Value} {T : TypeId} (h : w.heap[p]? = some (.cells cur T (0, 0))) (i : Nat) (v : Value) : (w.setCell ⟨p, i, none⟩ v).heap[p]? = some (.cells (cur.setIfInBounds i v) T (0, 0)) := by
  simp only [World.setCell]
  rw [Array.getElem?_modify, if_pos rfl, h]
  rfl
theorem newX (w : World) (a : Array Value) (T : TypeId) : (w.alloc (.cells a T)).heap[w.heap.size]? = some (.cells a T (0, 0)) := heap_alloc_new _ _
theorem trX {w a b : World} (h : Below w.heap.size w a) (hb : Below a.heap.size a b) : Below w.heap.size w b := h.trans (hb.mono h.size)
theorem alX {w a : World} (h : Below w.heap.size w a) (o : Obj) : Below w.heap.size w (a.alloc o) := h.alloc h.size o
theorem res1X {fn : Func} {p : Tmp} {ty : TypeId} (h : fn.results = #[.cell p ty]) (tmps : Array Value) (P : Program) (w : World) :
    (results fn tmps).run P w = ((asAddr (tmps.getD p undef)).run P w).andThen fun a w₁ => (loadVar ty a).run P w₁ := by
  simp only [results, h]
  simp [Sem.run_bind, Result.andThen]
/-- Nothing but block p turns, of what is there; new blocks may come. -/
structure FrX (p : Nat) (w w' : World) : Prop where
  os : w'.os = w.os
  tape : w'.tape = w.tape
  output : w'.output = w.output
  size : w.heap.size ≤ w'.heap.size
  blk : ∀ k, k < w.heap.size → k ≠ p → w'.heap[k]? = w.heap[k]?
theorem FrX.refl (p : Nat) (w : World) : FrX p w w := ⟨rfl, rfl, rfl, Nat.le_refl _, fun _ _ _ => rfl⟩
theorem FrX.trans {p : Nat} {a b c : World} (h : FrX p a b) (k : FrX p b c) : FrX p a c :=
  ⟨k.os.trans h.os, k.tape.trans h.tape, k.output.trans h.output, Nat.le_trans h.size k.size, fun i hi hp => (k.blk i (Nat.lt_of_lt_of_le hi h.size) hp).trans (h.blk i hi hp)⟩
theorem FrX.of_below {p : Nat} {w w' : World} (h : Below w.heap.size w w') : FrX p w w' := ⟨h.os, h.tape, h.output, h.size, fun k hk _ => h.block k hk⟩
theorem FrX.set {p : Nat} {a w : World} (h : FrX p a w) (i : Nat) (v : Value) : FrX p a (w.setCell ⟨p, i, none⟩ v) :=
  ⟨h.os, h.tape, h.output, by simpa using h.size, fun k hk hp => (Below.heap_setCell w ⟨p, i, none⟩ v k hp).trans (h.blk k hk hp)⟩
theorem FrX.alloc {p : Nat} {a w : World} (h : FrX p a w) (o : Obj) : FrX p a (w.alloc o) :=
  ⟨h.os, h.tape, h.output, by have := h.size; simp; omega, fun k hk hp => (Below.heap_alloc w o k (Nat.lt_of_lt_of_le hk h.size)).trans (h.blk k hk hp)⟩
/-- A block below p's new part. -/
theorem FrX.setNew {p b : Nat} {a w : World} (h : FrX p a w) (hb : a.heap.size ≤ b) (i : Nat) (v : Value) : FrX p a (w.setCell ⟨b, i, none⟩ v) :=
  ⟨h.os, h.tape, h.output, by simpa using h.size, fun k hk hp => (Below.heap_setCell w ⟨b, i, none⟩ v k (by show k ≠ b; omega)).trans (h.blk k hk hp)⟩
theorem FrX.keep {p b : Nat} {o : Obj} {w w' : World} (h : FrX p w w') (hb : w.heap[b]? = some o) (hp : b ≠ p) : w'.heap[b]? = some o := (h.blk b (ltX hb) hp).trans hb
/-- Where p itself is new. -/
theorem FrX.below {p : Nat} {w0 w w' : World} (h : FrX p w w') (h0 : Below w0.heap.size w0 w) (hp : w0.heap.size ≤ p) : Below w0.heap.size w0 w' :=
  ⟨h.os.trans h0.os, h.tape.trans h0.tape, h.output.trans h0.output, Nat.le_trans h0.size h.size, fun k hk => (h.blk k (Nat.lt_of_lt_of_le hk h0.size) (by omega)).trans (h0.block k hk)⟩
end Go.Proofs.YtehgoioinogmkaaGreatDoor
