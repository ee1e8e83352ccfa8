/- Slices of bytes that are read: string(bytes), bytes.IndexByte. -/
import Derived.Test.YtehgoioinogmkaaGreatDoorJVKnownKRefVDigitsVLaidXBin
import Derived.Test.YtehgoioinogmkaaGreatDoorJNumsDecFaultsVErr
import Derived.Laws.BytesArg
import Derived.Lib.IndexLaws
import Derived.Lib.BytesEntry
import Derived.Lib.EndianBits
import Derived.Test.YtehgoioinogmkaaGreatDoorJPlainLMath2LMath3XLex1XLex2NBigListOpsListOp2ListOp3
import Derived.Deep.RegionHeld3
import Derived.OwnWalk
import Derived.Deep.CutRange
import Derived.Deep.CutBlock
import Derived.Deep.MidRow
import Derived.Laws.IdiomStrings
namespace Go.Proofs.YtehgoioinogmkaaGreatDoor
open Go.RowKit Go.Lib

/-- A slice's value that reads as these bytes, in blocks below B. -/
def RBp (w : World) (B : Nat) (v : Value) (l : List UInt8) : Prop :=
  l.length ≤ 1000000000000 ∧ ((v = .slice none 0 0 ∧ l = []) ∨
    ∃ b off cap, b < B ∧ l.length ≤ cap ∧ cap ≤ maxLen ∧ v = .slice (some ⟨b, off, none⟩) l.length cap ∧ ∀ i, i < l.length → w.cell? ⟨b, off + i, none⟩ = some (.int .u8 ((l.getD i 0).toNat : Int)))
theorem RBp.below {w w' : World} {B B' : Nat} {v : Value} {l : List UInt8} (h : RBp w B v l) (hb : Below B' w w') (hB : B ≤ B') : RBp w' B v l := by
  obtain ⟨h1, h2 | ⟨b, off, cap, hbB, hc, hm, rfl, hcell⟩⟩ := h
  · exact ⟨h1, .inl h2⟩
  · exact ⟨h1, .inr ⟨b, off, cap, hbB, hc, hm, rfl, fun i hi => (hb.cell (p := ⟨b, off + i, none⟩) (Nat.lt_of_lt_of_le hbB hB)).trans (hcell i hi)⟩⟩

theorem nums_eq (l : List UInt8) : strOfNums (l.map fun c => (c.toNat : Int)) = ⟨l.toArray⟩ := by
  apply ByteArray.ext
  apply Array.ext'
  have e : ((fun n : Int => UInt8.ofNat n.toNat) ∘ fun c : UInt8 => (c.toNat : Int)) = id := by funext c; simp
  rw [strOfNums_data, List.map_map, e, List.map_id]
theorem conv_any (v : Value) (B : Nat) (l : List UInt8) (w : World) (hv : RBp w B v l) : (convert 57 9 v).run Tryz.prog w = .ok (.string ⟨l.toArray⟩) w := by
  obtain ⟨hlen, ⟨rfl, rfl⟩ | ⟨b, off, cap, hbB, hcap, hm, rfl, hcell⟩⟩ := hv
  · exact run_convert_bytes_nil w _ _ Tryz.underlying57 Tryz.underlying5 0 0 _ Tryz.underlying9
  · have h := run_convert_bytes_arg (P := Tryz.prog) w 57 5 Tryz.underlying57 Tryz.underlying5 b off l.length cap (l.map fun c => (c.toNat : Int)) (by simp) (fun i hi => by
      rw [hcell i hi]; simp [hi]) 9 Tryz.underlying9
    rw [h, nums_eq]

theorem rb_own {w : World} {B : Nat} {v : Value} {l : List UInt8} (h : w.ownsRow B 5 1 v l.length (byteCells l)) (hl : l.length ≤ 1000000000000) : RBp w w.heap.size v l := by
  have hh := h
  obtain ⟨h1, ⟨h2, h2'⟩ | ⟨g, cap, cur, h3, h4, h5, h6, h7, h8, h9⟩⟩ := h
  · exact ⟨hl, .inl ⟨h2, List.eq_nil_of_length_eq_zero h2'⟩⟩
  · have hg : g < w.heap.size := by
      rcases Nat.lt_or_ge g w.heap.size with h' | h'
      · exact h'
      · rw [Array.getElem?_eq_none h'] at h5; cases h5
    refine ⟨hl, .inr ⟨g, 0, cap, hg, h6, h7, h3, fun i hi => ?_⟩⟩
    have e2 : (byteCells l)[i]? = some (.int .u8 ((l.getD i 0).toNat : Int)) := by
      simp [byteCells, hi]
    have := hh.cells (g := g) (by rw [h3]; rfl) i _ e2
    have e3 : (⟨g, 0, none⟩ : Addr).add i = ⟨g, 0 + i, none⟩ := by unfold Addr.add; split <;> simp_all
    rw [e3] at this; exact this
end Go.Proofs.YtehgoioinogmkaaGreatDoor
/- A region that draws its order, taken by hand: a read's value goes to its slot. -/
namespace Go.Proofs.YtehgoioinogmkaaGreatDoor
open Go.RowKit Go.Lib

/-- Take number i first: its value goes to slot d. -/
theorem hand_to {P : Program} {ops : Array Oper} {Q : Exit → Act → World → Prop} {md : Region.Mode} {S : World → Prop} {i d : Nat} {oi : Oper} {v : Value} {fuel : Nat} {listed : Array Bool} {a : Act} {w : World} (hi : ops[i]? = some oi) (hd : oi.dst = some d)
    (hs : Region.noSelect ops = true) (hf : Region.free md ops listed i = true) (hr : (Region.ready md ops listed).contains i = true)
    (hQ : ∀ c a w, Q (.panic c) (a.put (some d) v) w → Q (.panic c) a w) (hy : YieldsIf P ops S oi v a) (hS : S w)
    (h : wpAnyH P md ops Q S fuel (listed.setIfInBounds i true) (a.put (some d) v) w) : wpAnyH P md ops Q S (fuel + 1) listed a w := by
  rw [← hd] at hQ h
  exact wpAnyH_take hi hs hf hr hQ hy hS h
end Go.Proofs.YtehgoioinogmkaaGreatDoor
/- Plain facts on blocks: they serve the proofs about the document's lexer, parser and what follows. -/
namespace Go.Proofs.YtehgoioinogmkaaGreatDoor
open Go.RowKit Go.Lib

theorem blkX {w w' : World} {b : Nat} {o : Obj} (h : w.heap[b]? = some o) (hb : Below w.heap.size w w') : w'.heap[b]? = some o := (hb.block b (Array.getElem?_eq_some_iff.1 h).1).trans h
theorem ltX {w : World} {b : Nat} {o : Obj} (h : w.heap[b]? = some o) : b < w.heap.size := (Array.getElem?_eq_some_iff.1 h).1
theorem cellX {w : World} {b : Nat} {cur : Array Value} {T : TypeId} (h : w.heap[b]? = some (.cells cur T (0, 0))) (i : Nat) : w.cell? ⟨b, i, none⟩ = cur[i]? := by
  rw [World.cell?]
  simp [h]
theorem frzX {w : World} {b : Nat} {cur : Array Value} {T : TypeId} (h : w.heap[b]? = some (.cells cur T (0, 0))) (i : Nat) : w.frozen? ⟨b, i, none⟩ = false := by
  simp [World.frozen?, h]
theorem setX {w : World} {p : Nat} {cur : Array Value} {T : TypeId} (h : w.heap[p]? = some (.cells cur T (0, 0))) (i : Nat) (v : Value) : (w.setCell ⟨p, i, none⟩ v).heap[p]? = some (.cells (cur.setIfInBounds i v) T (0, 0)) := by
  simp only [World.setCell]
  rw [Array.getElem?_modify, if_pos rfl, h]
  rfl
theorem trX {w a b : World} (h : Below w.heap.size w a) (hb : Below a.heap.size a b) : Below w.heap.size w b := h.trans (hb.mono h.size)
theorem alX {w a : World} (h : Below w.heap.size w a) (o : Obj) : Below w.heap.size w (a.alloc o) := h.alloc h.size o
theorem res1X {fn : Func} {p : Tmp} {ty : TypeId} (h : fn.results = #[.cell p ty]) (tmps : Array Value) (P : Program) (w : World) :
    (results fn tmps).run P w = ((asAddr (tmps.getD p undef)).run P w).andThen fun a w₁ => (loadVar ty a).run P w₁ := by
  simp only [results, h]
  simp [Sem.run_bind, Result.andThen]
/-- Nothing but block p turns, of what is there; new blocks may come. -/
structure FrX (p : Nat) (w w' : World) : Prop where
  os : w'.os = w.os
  tape : w'.tape = w.tape
  output : w'.output = w.output
  size : w.heap.size ≤ w'.heap.size
  blk : ∀ k, k < w.heap.size → k ≠ p → w'.heap[k]? = w.heap[k]?
theorem FrX.refl (p : Nat) (w : World) : FrX p w w := ⟨rfl, rfl, rfl, Nat.le_refl _, fun _ _ _ => rfl⟩
theorem FrX.trans {p : Nat} {a b c : World} (h : FrX p a b) (k : FrX p b c) : FrX p a c :=
  ⟨k.os.trans h.os, k.tape.trans h.tape, k.output.trans h.output, Nat.le_trans h.size k.size, fun i hi hp => (k.blk i (Nat.lt_of_lt_of_le hi h.size) hp).trans (h.blk i hi hp)⟩
theorem FrX.of_below {p : Nat} {w w' : World} (h : Below w.heap.size w w') : FrX p w w' := ⟨h.os, h.tape, h.output, h.size, fun k hk _ => h.block k hk⟩
theorem FrX.set {p : Nat} {a w : World} (h : FrX p a w) (i : Nat) (v : Value) : FrX p a (w.setCell ⟨p, i, none⟩ v) :=
  ⟨h.os, h.tape, h.output, by simpa using h.size, fun k hk hp => (Below.heap_setCell w ⟨p, i, none⟩ v k hp).trans (h.blk k hk hp)⟩
theorem FrX.alloc {p : Nat} {a w : World} (h : FrX p a w) (o : Obj) : FrX p a (w.alloc o) :=
  ⟨h.os, h.tape, h.output, by have := h.size; simp; omega, fun k hk hp => (Below.heap_alloc w o k (Nat.lt_of_lt_of_le hk h.size)).trans (h.blk k hk hp)⟩
/-- A block below p's new part. -/
theorem FrX.setNew {p b : Nat} {a w : World} (h : FrX p a w) (hb : a.heap.size ≤ b) (i : Nat) (v : Value) : FrX p a (w.setCell ⟨b, i, none⟩ v) :=
  ⟨h.os, h.tape, h.output, by simpa using h.size, fun k hk hp => (Below.heap_setCell w ⟨b, i, none⟩ v k (by show k ≠ b; omega)).trans (h.blk k hk hp)⟩
theorem FrX.keep {p b : Nat} {o : Obj} {w w' : World} (h : FrX p w w') (hb : w.heap[b]? = some o) (hp : b ≠ p) : w'.heap[b]? = some o := (h.blk b (ltX hb) hp).trans hb
/-- Where p itself is new. -/
theorem FrX.below {p : Nat} {w0 w w' : World} (h : FrX p w w') (h0 : Below w0.heap.size w0 w) (hp : w0.heap.size ≤ p) : Below w0.heap.size w0 w' :=
  ⟨h.os.trans h0.os, h.tape.trans h0.tape, h.output.trans h0.output, Nat.le_trans h0.size h.size, fun k hk => (h.blk k (Nat.lt_of_lt_of_le hk h0.size) (by omega)).trans (h0.block k hk)⟩
end Go.Proofs.YtehgoioinogmkaaGreatDoor
/- The document's lexer: cased. -/
namespace Go.Proofs.YtehgoioinogmkaaGreatDoor
open Go.RowKit Go.Lib

/-- A row that was made of a string: its first bytes. -/
def BWX (w : World) (b : Nat) (l : List UInt8) : Prop :=
  ∃ C m, w.heap[b]? = some (.cells C 5 (m, m + 1)) ∧ l.length ≤ m ∧ C.size = m ∧ ∀ i, i < l.length → C[i]? = some (.int .u8 ((l.getD i 0).toNat : Int))
theorem BWX.lt {w : World} {b : Nat} {l : List UInt8} (h : BWX w b l) : b < w.heap.size := by obtain ⟨_, _, h, _⟩ := h; exact ltX h
theorem BWX.cell {w : World} {b i : Nat} {l : List UInt8} (h : BWX w b l) (hi : i < l.length) : w.cell? ⟨b, i, none⟩ = some (.int .u8 ((l.getD i 0).toNat : Int)) ∧ w.frozen? ⟨b, i, none⟩ = false := by
  obtain ⟨C, m, h1, h2, h3, h4⟩ := h
  refine ⟨?_, ?_⟩
  · rw [World.cell?]; simp [h1, h4 i hi]
  · simp [World.frozen?, h1]; omega
theorem BWX.set {w : World} {b i : Nat} {l : List UInt8} (h : BWX w b l) (hi : i < l.length) (c : UInt8) : BWX (w.setCell ⟨b, i, none⟩ (.int .u8 (c.toNat : Int))) b (l.set i c) := by
  obtain ⟨C, m, h1, h2, h3, h4⟩ := h
  refine ⟨C.setIfInBounds i (.int .u8 (c.toNat : Int)), m, ?_, by simpa using h2, by simpa using h3, fun j hj => ?_⟩
  · simp only [World.setCell]
    rw [Array.getElem?_modify, if_pos rfl, h1]
    rfl
  · rw [List.length_set] at hj
    by_cases e : i = j
    · subst e
      rw [Array.getElem?_setIfInBounds_self_of_lt (by omega)]
      simp [List.getD_eq_getElem?_getD, hi]
    · rw [Array.getElem?_setIfInBounds_ne e, h4 j hj]
      simp [List.getD_eq_getElem?_getD, List.getElem?_set_ne e]
theorem strBytes_any (l : List UInt8) (w : World) : ∃ cap W, (convert 9 57 (.string ⟨l.toArray⟩)).run Tryz.prog w = .ok (.slice (some ⟨w.heap.size, 0, none⟩) l.length cap) W ∧ Below w.heap.size w W ∧ BWX W w.heap.size l := by
  have h := run_bytes_of_string (P := Tryz.prog) w 9 57 5 ⟨l.toArray⟩ Tryz.underlying9 Tryz.underlying57 Tryz.underlying5
  have hs : (⟨l.toArray⟩ : ByteArray).size = l.length := by simp [ByteArray.size]
  rw [hs] at h
  obtain ⟨cap, hcap⟩ : ∃ cap, cap = grownCap w l.length 0 5 := ⟨_, rfl⟩
  rw [← hcap] at h
  refine ⟨cap, _, h, ((Below.refl _ _).drew).alloc (by simp) _, bytesRow ⟨l.toArray⟩ cap, _, heap_alloc_new _ _, ?_, rfl, fun i hi => ?_⟩
  · simp [bytesRow, ByteArray.size]
  · rw [bytesRow, Array.getElem?_append_left (by simp; omega)]
    simp [List.getD_eq_getElem?_getD, hi]
theorem BWX.back {w : World} {b cap : Nat} {l : List UInt8} (h : BWX w b l) (n : Nat) (hn : n = l.length) : (convert 57 9 (.slice (some ⟨b, 0, none⟩) n cap)).run Tryz.prog w = .ok (.string ⟨l.toArray⟩) w := by
  subst hn
  refine run_convert_bytes_back w 57 9 5 _ cap l Tryz.underlying57 Tryz.underlying5 Tryz.underlying9 (fun j hj => ?_)
  rw [Go.WideShapes.add_plain, Nat.zero_add, (h.cell hj).1]
  simp [List.getD_eq_getElem?_getD, hj]
def fX (g : Bool) (c : UInt8) : UInt8 := if g then upperB c else lowerB c
def mixX (g : Bool) (k : Nat) (l : List UInt8) : List UInt8 := (l.take k).map (fX g) ++ l.drop k
theorem mix_len (g : Bool) (k : Nat) (l : List UInt8) : (mixX g k l).length = l.length := by simp [mixX]; omega
theorem mix_at {g : Bool} {k : Nat} {l : List UInt8} (h : k < l.length) : (mixX g k l).getD k 0 = l[k] := by
  unfold mixX
  rw [List.getD_eq_getElem?_getD, List.getElem?_append_right (by simp; omega)]
  simp [Nat.min_eq_left (Nat.le_of_lt h), h]
theorem mix_set {g : Bool} {k : Nat} {l : List UInt8} (h : k < l.length) : (mixX g k l).set k (fX g l[k]) = mixX g (k + 1) l := by
  unfold mixX
  rw [List.set_append_right _ _ (by simp; omega), List.drop_eq_getElem_cons h, List.length_map, List.length_take, Nat.min_eq_left (Nat.le_of_lt h), Nat.sub_self, List.set_cons_zero, List.take_succ_eq_append_getElem h, List.map_append, List.append_assoc]
  rfl
theorem mix_same {g : Bool} {k : Nat} {l : List UInt8} (h : k < l.length) (hf : fX g l[k] = l[k]) : mixX g k l = mixX g (k + 1) l := by
  rw [← mix_set h, hf]
  apply List.ext_getElem?
  intro j
  by_cases e : k = j
  · subst e
    have := mix_at (g := g) h
    rw [List.getD_eq_getElem?_getD] at this
    rw [List.getElem?_set_self (by rw [mix_len]; exact h), ← this, List.getElem?_eq_getElem (by rw [mix_len]; exact h)]; rfl
  · rw [List.getElem?_set_ne e]
theorem mix_all (g : Bool) (l : List UInt8) : mixX g l.length l = if g then upL l else loL l := by
  unfold mixX
  rw [List.take_length, List.drop_length, List.append_nil]
  cases g <;> rfl
set_option maxRecDepth 10000 in
theorem cased_any (g : Bool) (l : List UInt8) (w : World) (hl : l.length ≤ 1000000) : Calls Tryz.prog 141 #[sv l, .bool g] w fun e w' => e = .returned (sv (if g then upL l else loL l)) ∧ Below w.heap.size w w' := by
  obtain ⟨cap, W, hc, hb, hw⟩ := strBytes_any l w
  have HB := hide hb
  have HW := hide hw
  have hl' : (l.length : Int) ≤ 1000000 := by omega
  clear hb hw
  obtain ⟨r, hr⟩ : ∃ r, r = (if g = true then upL l else loL l) := ⟨_, rfl⟩
  rw [← hr]
  have HRR := hide hr
  clear hr
  unfold sv
  go_enter Tryz.func141, Tryz.ntmps141
  go_wp2_with fail
  go_loopw [6] (fun i wr => ∃ k : Nat, k ≤ l.length ∧ i = .int .i64 k ∧ Hid (Below w.heap.size w wr ∧ BWX wr w.heap.size (mixX g k l))) (fun i _ => l.length - (intOf i).toNat)
  case atStart => exact ⟨0, by omega, rfl, unhide HB, by simpa [mixX] using unhide HW⟩
  case round =>
    obtain ⟨k, hk, rfl, HR⟩ := hrel
    by_cases hlt : k < l.length
    · have hki : (k : Int) < (l.length : Int) := by omega
      have hk0 : (0 : Int) ≤ (k : Int) := by omega
      obtain ⟨c, hcc⟩ : ∃ c, c = l[k] := ⟨_, rfl⟩
      have hr := unhide HR
      have hcell := hr.2.cell (i := k) (by rw [mix_len]; exact hlt)
      rw [mix_at hlt, ← hcc] at hcell
      obtain ⟨c0, f0⟩ := hcell
      have HCC := hide hcc
      clear hr hcc hc
      have HS : Hid (∀ d : UInt8, d = fX g c → BWX (wr.setCell ⟨w.heap.size, k, none⟩ (.int .u8 (d.toNat : Int))) w.heap.size (mixX g (k + 1) l)) := fun d hd => by
        have h := (unhide HR).2.set (i := k) (by rw [mix_len]; exact hlt) d
        rw [hd, unhide HCC, mix_set hlt, ← unhide HCC] at h
        rw [hd]; exact h
      have HT : Hid (fX g c = c → BWX wr w.heap.size (mixX g (k + 1) l)) := fun hf => by
        rw [unhide HCC] at hf
        rw [← mix_same hlt hf]; exact (unhide HR).2
      have HBr := hide (unhide HR).1
      cases g with
      | true =>
        by_cases hlow : 97 ≤ c.toNat ∧ c.toNat ≤ 122
        · have e1 : (97 : Int) ≤ (c.toNat : Int) := by omega
          have e2 : (c.toNat : Int) ≤ 122 := by omega
          have hL : isLowerB c = true := by simp [isLowerB, UInt8.le_iff_toNat_le]; exact hlow
          have hd : ((upperB c).toNat : Int) = (c.toNat : Int) - 32 := upperB_int c hL
          have HD := hide hd
          clear hlow hL hd
          go_wp2_with fail
          go_roundw
          case rel => exact ⟨k + 1, by omega, by go_num, (unhide HBr).setCell (p := ⟨w.heap.size, k, none⟩) (Nat.le_refl _) _, by have h := unhide HS (upperB c) rfl; rw [unhide HD] at h; exact h⟩
          case measure => simp [intOf]; omega
        · have hL : isLowerB c = false := by simp [isLowerB, UInt8.le_iff_toNat_le]; omega
          have hf : fX true c = c := by show upperB c = c; exact upperB_of_not c hL
          have HF := hide hf
          clear hL hf
          have e3 : (c.toNat : Int) < 97 ∨ 122 < (c.toNat : Int) := by omega
          clear hlow
          rcases e3 with e3 | e3 <;>
          · go_wp2_with fail
            go_roundw
            case rel => exact ⟨k + 1, by omega, by go_num, unhide HBr, unhide HT (unhide HF)⟩
            case measure => simp [intOf]; omega
      | false =>
        by_cases hlow : 65 ≤ c.toNat ∧ c.toNat ≤ 90
        · have e1 : (65 : Int) ≤ (c.toNat : Int) := by omega
          have e2 : (c.toNat : Int) ≤ 90 := by omega
          have hL : isUpperB c = true := by simp [isUpperB, UInt8.le_iff_toNat_le]; exact hlow
          have hd : ((lowerB c).toNat : Int) = (c.toNat : Int) + 32 := lowerB_int c hL
          have HD := hide hd
          clear hlow hL hd
          go_wp2_with fail
          go_roundw
          case rel => exact ⟨k + 1, by omega, by go_num, (unhide HBr).setCell (p := ⟨w.heap.size, k, none⟩) (Nat.le_refl _) _, by have h := unhide HS (lowerB c) rfl; rw [unhide HD] at h; exact h⟩
          case measure => simp [intOf]; omega
        · have hL : isUpperB c = false := by simp [isUpperB, UInt8.le_iff_toNat_le]; omega
          have hf : fX false c = c := by show lowerB c = c; exact lowerB_of_not c hL
          have HF := hide hf
          clear hL hf
          have e3 : (c.toNat : Int) < 65 ∨ 90 < (c.toNat : Int) := by omega
          clear hlow
          rcases e3 with e3 | e3 <;>
          · go_wp2_with fail
            go_roundw
            case rel => exact ⟨k + 1, by omega, by go_num, unhide HBr, unhide HT (unhide HF)⟩
            case measure => simp [intOf]; omega
    · have he : k = l.length := by omega
      have hb := (unhide HR).2
      rw [he, mix_all] at hb
      have hcv := hb.back (cap := cap) l.length (by cases g <;> simp [upL, loL])
      have HBr := hide (unhide HR).1
      rw [← unhide HRR] at hcv
      clear hb HR hc he
      go_wp2_with fail
      go_ret
      exact ⟨rfl, unhide HBr⟩
end Go.Proofs.YtehgoioinogmkaaGreatDoor
