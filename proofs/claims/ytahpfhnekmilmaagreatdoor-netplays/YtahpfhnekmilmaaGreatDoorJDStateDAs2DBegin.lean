/- A disk in memory; find, Halt, Count, New. -/
import Derived.Test.YtahpfhnekmilmaaGreatDoorJPlainDDef
import Derived.Test.YtahpfhnekmilmaaGreatDoorDErrs
import Derived.Deep.RegionWith
import Derived.Test.YtahpfhnekmilmaaGreatDoorDAs
namespace Go.Proofs.YtahpfhnekmilmaaGreatDoor.Dk
open Go.RowKit Go.Lib Go.Maps Go.WideShapes Go.WideMaps

structure St where
  room : Int
  count : Int
  off : Bool
  halting : Bool
  left : Int

def cellsOf (S : St) (mb : Option Nat) : Array Value := #[.int .i64 S.room, .map mb, .int .i64 S.count, .bool S.off, .bool S.halting, .int .i64 S.left]

/-- Apart: two files share nothing. -/
def Apart (a b : Ent) : Prop := a.fp ≠ b.fp ∧ ∀ k, a.v.ownBlock = some k → b.v.ownBlock ≠ some k

theorem Tryz.law : Keyed Tryz.prog 9 := string_keyed Tryz.underlying9
theorem cellB {w : World} {p : Nat} {cur : Array Value} {T : TypeId} (h : w.heap[p]? = some (.cells cur T (0, 0))) (i : Nat) : w.cell? ⟨p, i, none⟩ = cur[i]? ∧ w.frozen? ⟨p, i, none⟩ = false := by
  constructor
  · simp [World.cell?, h]
  · simp [World.frozen?, h]
theorem ownsRow_of_same {w w' : World} {B : Nat} {T : TypeId} {v : Value} {n : Nat} {xs : List Value} (h : w.ownsRow B T 1 v n xs) (hs : ∀ k, v.ownBlock = some k → w'.heap[k]? = w.heap[k]?) : w'.ownsRow B T 1 v n xs := by
  obtain ⟨h1, h2 | ⟨g, cap, cur, rfl, hb, hc, r⟩⟩ := h
  · exact ⟨h1, .inl h2⟩
  · exact ⟨h1, .inr ⟨g, cap, cur, rfl, hb, (hs g rfl).trans hc, r⟩⟩
theorem ownsMap_of_same {P : Program} {k : TypeId} {w w' : World} {b n : Nat} {D : DataW Nat} (h : w.ownsMap P k RP b n D) (hs : w'.heap[b]? = w.heap[b]?) : w'.ownsMap P k RP b n D := by
  obtain ⟨es, clock, hb, r⟩ := h
  exact ⟨es, clock, hs.trans hb, r⟩
/-- What is around stays. -/
def Env (w w' : World) : Prop := w'.os = w.os ∧ w'.tape = w.tape ∧ w'.output = w.output
theorem Env.trans {a b c : World} (h : Env a b) (h' : Env b c) : Env a c := ⟨h'.1.trans h.1, h'.2.1.trans h.2.1, h'.2.2.trans h.2.2⟩
/-- Nothing but blocks of O turns. -/
structure FrO (O : Nat → Prop) (w w' : World) : Prop where
  size : w.heap.size ≤ w'.heap.size
  blk : ∀ k, k < w.heap.size → ¬ O k → w'.heap[k]? = w.heap[k]?
  env : Env w w'
theorem FrO.refl (O : Nat → Prop) (w : World) : FrO O w w := ⟨Nat.le_refl _, fun _ _ _ => rfl, rfl, rfl, rfl⟩
theorem FrO.of_below {O : Nat → Prop} {w w' : World} (h : Below w.heap.size w w') : FrO O w w' := ⟨h.size, fun k hk _ => h.block k hk, h.os, h.tape, h.output⟩
/-- O, and what is new. -/
def Up (O : Nat → Prop) (w w' : World) (k : Nat) : Prop := O k ∨ (w.heap.size ≤ k ∧ k < w'.heap.size)
theorem FrO.trans {O O' : Nat → Prop} {a b c : World} (h : FrO O a b) (h' : FrO O' b c) (ho : ∀ k, k < a.heap.size → O' k → O k) : FrO O a c :=
  ⟨Nat.le_trans h.size h'.size, fun k hk hn => (h'.blk k (Nat.lt_of_lt_of_le hk h.size) (fun hk' => hn (ho k hk hk'))).trans (h.blk k hk hn), h.env.trans h'.env⟩

/-- What find tells. -/
def FindRes (L : List Ent) (n : List UInt8) : Value := match look L n with
  | some e => .tuple #[.pointer (some ⟨e.fp, 0, none⟩), .nilIface]
  | none => .tuple #[.pointer none, .iface 35 (.int .i64 30)]

theorem heap_setCell_at {w : World} {p : Nat} {cur : Array Value} {T : TypeId} (h : w.heap[p]? = some (.cells cur T (0, 0))) (i : Nat) (v : Value) : (w.setCell ⟨p, i, none⟩ v).heap[p]? = some (.cells (cur.setIfInBounds i v) T (0, 0)) := by
  simp only [World.setCell]
  rw [Array.getElem?_modify, if_pos rfl, h]
  rfl

theorem heap_setCell_ne {w : World} {p k : Nat} (i : Nat) (v : Value) (h : k ≠ p) : (w.setCell ⟨p, i, none⟩ v).heap[k]? = w.heap[k]? := Below.heap_setCell w ⟨p, i, none⟩ v k h
theorem FrO.set {O : Nat → Prop} {a w : World} {p : Nat} (h : FrO O a w) (hp : O p) (i : Nat) (v : Value) : FrO O a (w.setCell ⟨p, i, none⟩ v) :=
  ⟨by simpa using h.size, fun k hk hn => (heap_setCell_ne i v (fun e => hn (by rw [e]; exact hp))).trans (h.blk k hk hn), h.env.trans ⟨rfl, rfl, rfl⟩⟩
theorem FrO.alloc {O : Nat → Prop} {a w : World} (h : FrO O a w) (o : Obj) : FrO O a (w.alloc o) :=
  ⟨by have := h.size; simp; omega, fun k hk hn => (Below.heap_alloc w o k (Nat.lt_of_lt_of_le hk h.size)).trans (h.blk k hk hn), h.env.trans ⟨rfl, rfl, rfl⟩⟩

abbrev evW (b : Nat) : Value := .iface 84 (.pointer (some ⟨b, 0, none⟩))
abbrev evC (c : Int) : Value := .iface 35 (.int .i64 c)
/-- A wrapped class in memory. -/
def ErrW (w : World) (b : Nat) (c : Int) : Prop := w.cell? ⟨b, 1, none⟩ = some (evC c)
/-- The variable errors.errorType as the program's text lays it. -/
def ET (w : World) : Prop := w.cell? ⟨0, 0, none⟩ = some (.iface 118 (.agg #[.pointer (some ⟨5, 31, none⟩)]))
theorem lt_of_cell {w : World} {a : Addr} {v : Value} (h : w.cell? a = some v) : a.block < w.heap.size := by
  rcases Nat.lt_or_ge a.block w.heap.size with h' | h'
  · exact h'
  · simp [World.cell?, Array.getElem?_eq_none h'] at h
theorem ET.lt {w : World} (h : ET w) : 0 < w.heap.size := lt_of_cell h
theorem ET.below {w w' : World} {B : Nat} (h : ET w) (hb : Below B w w') (hB : 0 < B) : ET w' := by
  unfold ET; rw [hb.cell (p := ⟨0, 0, none⟩) hB]; exact h
theorem ET.alloc {w : World} (h : ET w) (o : Obj) : ET (w.alloc o) := by
  unfold ET; rw [World.cell?_alloc_lt _ _ ⟨0, 0, none⟩ h.lt]; exact h
theorem ErrW.lt {w : World} {b : Nat} {c : Int} (h : ErrW w b c) : b < w.heap.size := lt_of_cell h
theorem ErrW.below {w w' : World} {B b : Nat} {c : Int} (h : ErrW w b c) (hb : Below B w w') (hB : b < B) : ErrW w' b c := (hb.cell (p := ⟨b, 1, none⟩) hB).trans h
theorem ErrW.alloc {w : World} {b : Nat} {c : Int} (h : ErrW w b c) (o : Obj) : ErrW (w.alloc o) b c := (World.cell?_alloc_lt _ _ ⟨b, 1, none⟩ h.lt).trans h
theorem cell_same {w w' : World} {k : Nat} (h : w'.heap[k]? = w.heap[k]?) (i : Nat) : w'.cell? ⟨k, i, none⟩ = w.cell? ⟨k, i, none⟩ := World.cell?_of_block (w := w) (a := ⟨k, i, none⟩) h
theorem ErrW.fr {O : Nat → Prop} {w w' : World} {b : Nat} {c : Int} (h : ErrW w b c) (hf : FrO O w w') (hb : ¬ O b) : ErrW w' b c := (cell_same (hf.blk b h.lt hb) 1).trans h
theorem ET.fr {O : Nat → Prop} {w w' : World} (h : ET w) (hf : FrO O w w') (hb : ¬ O 0) : ET w' := (cell_same (hf.blk _ h.lt hb) 0).trans h
end Go.Proofs.YtahpfhnekmilmaaGreatDoor.Dk
/- errors.As at a bare class for the target **api.Within, errors.Is at a bare class; and the help's Class of a wrapped class. -/
namespace Go.Proofs.YtahpfhnekmilmaaGreatDoor.Dk
open Go.RowKit Go.Extern.Stop Go.Stop Go.Extern Go.Lib

theorem Tryz.notAssignableCW (w : World) : (ReflectliteType.relation "AssignableTo" ReflectliteType.assignableTo #[.agg #[.pointer (some ⟨5, 35, none⟩)], .iface 118 (.agg #[.pointer (some ⟨5, 84, none⟩)])]).run Tryz.prog w = .ok (.bool false) w := by kernel_rfl

set_option maxHeartbeats 4000000 in
/-- errors.Is at a bare class. -/
theorem is_class (c t : Int) (w : World) :
    Calls Tryz.prog 19 #[.iface 35 (.int .i64 c), .iface 35 (.int .i64 t)] w fun e w' => e = .returned (.bool (c == t)) ∧ w' = w := by
  have hTO := @run_callFunc_extern Tryz.prog 37 _ Extern.ReflectliteType.typeOf Tryz.func37 (by kernel_rfl) (by kernel_rfl) (by kernel_rfl) (by kernel_rfl)
  have tT := Tryz.isTypeOfC
  have cT := Tryz.isComparableC
  have mR := Tryz.isMethodComparable
  have nE := Tryz.noIsC
  have uE := Tryz.noUnwrapC
  have vE := Tryz.noUnwrapsC
  have heq := run_eql_iface_int (P := Tryz.prog) (k := .i64) w c t Tryz.underlying31 Tryz.isCompC Tryz.underlying35
  by_cases hct : (c == t) = true
  · go_enter Tryz.func19, Tryz.ntmps19
    go_wp2
    refine wp_loop_rounds 1 ?_
    rw [rounds_succ]
    go_wp2
    go_ret
    exact ⟨by rw [hct]; rfl, rfl⟩
  · have hct' : (c == t) = false := by simpa using hct
    go_enter Tryz.func19, Tryz.ntmps19
    go_wp2
    refine wp_loop_rounds 1 ?_
    rw [rounds_succ]
    go_wp2
    go_ret
    exact ⟨by rw [hct']; rfl, rfl⟩
end Go.Proofs.YtahpfhnekmilmaaGreatDoor.Dk
/- Wrapped classes; what begins a changing call. -/
namespace Go.Proofs.YtahpfhnekmilmaaGreatDoor.Dk
open Go.RowKit Go.Lib Go.Maps

theorem set_post {w W : World} {t : Addr} {v old : Value} (hb : Below w.heap.size w W) (ht0 : w.cell? t = some old) :
    (W.setCell t v).cell? t = some v ∧ Below t.block w (W.setCell t v) ∧ w.heap.size ≤ (W.setCell t v).heap.size := by
  have hl := lt_of_cell ht0
  refine ⟨World.cell?_setCell_same _ _ _ (u := old) ?_, (hb.mono (Nat.le_of_lt hl)).setCell (Nat.le_refl _) _, by simpa using hb.size⟩
  rw [hb.cell hl]; exact ht0
theorem as_class (b : Nat) (c : Int) (t : Addr) (old : Value) (w : World) (hE : ET w) (he : ErrW w b c) (ht0 : w.cell? t = some old) (hf0 : w.frozen? t = false) :
    Calls Tryz.prog 18 #[evW b, .iface 62 (.pointer (some t))] w fun e w' =>
      e = .returned (.bool true) ∧ w'.cell? t = some (.int .i64 c) ∧ Below t.block w w' ∧ w.heap.size ≤ w'.heap.size := by
  refine (as_C b c t old w hE ht0 hf0 he).mono ?_
  rintro e w' ⟨rfl, W, hb, rfl⟩
  exact ⟨rfl, set_post hb ht0⟩
/-- consistoryhelp.Class of no error. -/
theorem class_nil (w : World) : Calls Tryz.prog 8 #[.nilIface] w fun e w' => e = .returned (.int .i64 0) ∧ w' = w := by
  go_enter Tryz.func8, Tryz.ntmps8
  go_wp2
  go_ret
  exact ⟨rfl, rfl⟩

set_option maxHeartbeats 1600000 in
/-- consistoryhelp.Class of a wrapped class. -/
theorem class_at (b : Nat) (c : Int) (w : World) (hE : ET w) (he : ErrW w b c) :
    Calls Tryz.prog 8 #[evW b] w fun e w' => e = .returned (.int .i64 c) ∧ Below w.heap.size w w' := by
  have hbl := he.lt
  have hE1 := hE.alloc (.cells #[.int .i64 0] 35)
  have he1 := he.alloc (.cells #[.int .i64 0] 35)
  have ht1 : (w.alloc (.cells #[.int .i64 0] 35)).cell? ⟨w.heap.size, 0, none⟩ = some (.int .i64 0) := by simp
  have hf1 : (w.alloc (.cells #[.int .i64 0] 35)).frozen? ⟨w.heap.size, 0, none⟩ = false := by simp
  have hp1 : Hid (∀ w1, Below w.heap.size (w.alloc (.cells #[.int .i64 0] 35)) w1 → w1.cell? ⟨b, 1, none⟩ = some (.iface 35 (.int .i64 c)) ∧ Below w.heap.size w w1) :=
    fun w1 hb => ⟨(hb.cell (p := ⟨b, 1, none⟩) hbl).trans he1, ((Below.refl _ _).alloc (Nat.le_refl _) _).trans hb⟩
  have hAs := hide (as_class b c ⟨w.heap.size, 0, none⟩ _ _ hE1 he1 ht1 hf1)
  clear hE1 he1 ht1 hf1 hE he
  go_enter Tryz.func8, Tryz.ntmps8
  go_wp2_with (first | (go_at_call 18; refine (unhide hAs).mono ?_; rintro e w1 ⟨rfl, hc1, hb1, _⟩; have hq1 := (unhide hp1 w1 hb1).1) | (go_at_call 19; refine (is_placed b c c _ hq1).mono ?_; rintro e w2 ⟨rfl, rfl⟩))
  go_ret
  exact ⟨rfl, (unhide hp1 _ hb1).2⟩

end Go.Proofs.YtahpfhnekmilmaaGreatDoor.Dk
