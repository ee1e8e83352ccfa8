/- Contracts of what package wire and the help do with faults: placeOf, shifted, Class. -/
import Derived.Test.YtmahkhpmaenkhaaDoorAs
import Derived.Test.YtmahkhpmaenkhaaDoorJNumsUint
import Derived.Test.YtmahkhpmaenkhaaDoorJDecLenMath
import Derived.Deep.RegionWith
import Derived.Lib.AppendStr
namespace Go.Proofs.YtmahkhpmaenkhaaDoor
open Go.RowKit Go.Extern.Stop Go.Stop Go.Extern Go.Lib

/-- The variable errors.errorType as the program's text lays it. -/
def ET (w : World) : Prop := w.cell? ⟨0, 0, none⟩ = some (.iface 121 (.agg #[.pointer (some ⟨5, 35, none⟩)]))
/-- A placed error in memory: its place, its class. -/
def ErrAt (w : World) (b : Nat) (p c : Int) : Prop := w.cell? ⟨b, 0, none⟩ = some (.int .i64 p) ∧ w.cell? ⟨b, 1, none⟩ = some (.iface 60 (.int .i64 c))
abbrev ev (b : Nat) : Value := .iface 95 (.pointer (some ⟨b, 0, none⟩))

theorem lt_of_cell {w : World} {a : Addr} {v : Value} (h : w.cell? a = some v) : a.block < w.heap.size := by
  rcases Nat.lt_or_ge a.block w.heap.size with h' | h'
  · exact h'
  · simp [World.cell?, Array.getElem?_eq_none h'] at h
theorem set_post {w W : World} {t : Addr} {v old : Value} (hb : Below w.heap.size w W) (ht0 : w.cell? t = some old) :
    (W.setCell t v).cell? t = some v ∧ Below t.block w (W.setCell t v) ∧ w.heap.size ≤ (W.setCell t v).heap.size := by
  have hl := lt_of_cell ht0
  refine ⟨World.cell?_setCell_same _ _ _ (u := old) ?_, (hb.mono (Nat.le_of_lt hl)).setCell (Nat.le_refl _) _, by simpa using hb.size⟩
  rw [hb.cell hl]; exact ht0

theorem ET.lt {w : World} (h : ET w) : 0 < w.heap.size := lt_of_cell h
theorem ET.below {w w' : World} {B : Nat} (h : ET w) (hb : Below B w w') (hB : 0 < B) : ET w' := by
  unfold ET; rw [hb.cell (p := ⟨0, 0, none⟩) hB]; exact h
theorem ET.alloc {w : World} (h : ET w) (o : Obj) : ET (w.alloc o) := by
  unfold ET; rw [World.cell?_alloc_lt _ _ ⟨0, 0, none⟩ h.lt]; exact h
theorem ErrAt.below {w w' : World} {B b : Nat} {p c : Int} (h : ErrAt w b p c) (hb : Below B w w') (hB : b < B) : ErrAt w' b p c :=
  ⟨(hb.cell (p := ⟨b, 0, none⟩) hB).trans h.1, (hb.cell (p := ⟨b, 1, none⟩) hB).trans h.2⟩
theorem ErrAt.lt {w : World} {b : Nat} {p c : Int} (h : ErrAt w b p c) : b < w.heap.size := lt_of_cell h.1
theorem ErrAt.alloc {w : World} {b : Nat} {p c : Int} (h : ErrAt w b p c) (o : Obj) : ErrAt (w.alloc o) b p c :=
  ⟨(World.cell?_alloc_lt _ _ ⟨b, 0, none⟩ h.lt).trans h.1, (World.cell?_alloc_lt _ _ ⟨b, 1, none⟩ h.lt).trans h.2⟩
theorem ErrAt.new (w : World) (p c : Int) : ErrAt (w.alloc (.cells #[.int .i64 p, .iface 60 (.int .i64 c)] 98)) w.heap.size p c := by
  constructor <;> simp
theorem ErrAt.drew {w : World} {b : Nat} {p c : Int} (h : ErrAt w b p c) : ErrAt w.drew b p c := h
theorem ET.drew {w : World} (h : ET w) : ET w.drew := h

theorem as_class (b : Nat) (p c : Int) (t : Addr) (old : Value) (w : World) (hE : ET w) (he : ErrAt w b p c) (ht0 : w.cell? t = some old) (hf0 : w.frozen? t = false) :
    Calls Tryd.prog 28 #[ev b, .iface 73 (.pointer (some t))] w fun e w' =>
      e = .returned (.bool true) ∧ w'.cell? t = some (.int .i64 c) ∧ Below t.block w w' ∧ w.heap.size ≤ w'.heap.size := by
  refine (as_C b c t old w hE ht0 hf0 he.2).mono ?_
  rintro e w' ⟨rfl, W, hb, rfl⟩
  exact ⟨rfl, set_post hb ht0⟩
theorem as_place (b : Nat) (t : Addr) (old : Value) (w : World) (hE : ET w) (ht0 : w.cell? t = some old) (hf0 : w.frozen? t = false) :
    Calls Tryd.prog 28 #[ev b, .iface 96 (.pointer (some t))] w fun e w' =>
      e = .returned (.bool true) ∧ w'.cell? t = some (.pointer (some ⟨b, 0, none⟩)) ∧ Below t.block w w' ∧ w.heap.size ≤ w'.heap.size := by
  refine (as_P b t old w hE ht0 hf0).mono ?_
  rintro e w' ⟨rfl, W, hb, rfl⟩
  exact ⟨rfl, set_post hb ht0⟩

/-- consistoryhelp.Class of no error. -/
theorem class_nil (w : World) : Calls Tryd.prog 15 #[.nilIface] w fun e w' => e = .returned (.int .i64 0) ∧ w' = w := by
  go_enter Tryd.func15, Tryd.ntmps15
  go_wp2
  go_ret
  exact ⟨rfl, rfl⟩

set_option maxHeartbeats 1600000 in
/-- consistoryhelp.Class of a placed error: its class. -/
theorem class_at (b : Nat) (p c : Int) (w : World) (hE : ET w) (he : ErrAt w b p c) :
    Calls Tryd.prog 15 #[ev b] w fun e w' => e = .returned (.int .i64 c) ∧ Below w.heap.size w w' := by
  have hbl := he.lt
  have hE1 := hE.alloc (.cells #[.int .i64 0] 60)
  have he1 := he.alloc (.cells #[.int .i64 0] 60)
  have ht1 : (w.alloc (.cells #[.int .i64 0] 60)).cell? ⟨w.heap.size, 0, none⟩ = some (.int .i64 0) := by simp
  have hf1 : (w.alloc (.cells #[.int .i64 0] 60)).frozen? ⟨w.heap.size, 0, none⟩ = false := by simp
  have hp1 : Hid (∀ w1, Below w.heap.size (w.alloc (.cells #[.int .i64 0] 60)) w1 → w1.cell? ⟨b, 1, none⟩ = some (.iface 60 (.int .i64 c)) ∧ Below w.heap.size w w1) :=
    fun w1 hb => ⟨(hb.cell (p := ⟨b, 1, none⟩) hbl).trans he1.2, ((Below.refl _ _).alloc (Nat.le_refl _) _).trans hb⟩
  have hAs := hide (as_class b p c ⟨w.heap.size, 0, none⟩ _ _ hE1 he1 ht1 hf1)
  clear hE1 he1 ht1 hf1 hE he
  go_enter Tryd.func15, Tryd.ntmps15
  go_wp2_with (first | (go_at_call 28; refine (unhide hAs).mono ?_; rintro e w1 ⟨rfl, hc1, hb1, _⟩; have hq1 := (unhide hp1 w1 hb1).1) | (go_at_call 21; refine (is_placed b c c _ hq1).mono ?_; rintro e w2 ⟨rfl, rfl⟩))
  go_ret
  exact ⟨rfl, (unhide hp1 _ hb1).2⟩

end Go.Proofs.YtmahkhpmaenkhaaDoor
/- Contracts of package wire's writer: what it has gathered, or that it failed. -/
namespace Go.Proofs.YtmahkhpmaenkhaaDoor
open Go.RowKit Go.Lib

/-- An int of 64 bits. -/
abbrev I6 : Type := {p : Int // -9223372036854775808 ≤ p ∧ p < 9223372036854775808}
/-- A writer at block p: it has gathered these bytes (in a row of its own), or it has failed with a fault of class 20. -/
def WS (w : World) (p : Nat) (s : Option (List UInt8)) : Prop :=
  w.frozen? ⟨p, 0, none⟩ = false ∧ w.frozen? ⟨p, 1, none⟩ = false ∧
  match s with
  | some l => ∃ v, w.cell? ⟨p, 0, none⟩ = some v ∧ w.cell? ⟨p, 1, none⟩ = some .nilIface ∧ w.ownsRow (p + 1) 5 1 v l.length (byteCells l)
  | none => ∃ (b : Nat) (pl : I6), w.cell? ⟨p, 0, none⟩ = some (.slice none 0 0) ∧ w.cell? ⟨p, 1, none⟩ = some (ev b) ∧ p < b ∧ ErrAt w b pl 20

theorem WS.lt {w : World} {p : Nat} {s : Option (List UInt8)} (h : WS w p s) : p < w.heap.size := by
  cases s with
  | none => obtain ⟨_, _, b, pl, h0, _⟩ := h; exact lt_of_cell h0
  | some l => obtain ⟨_, _, v, h0, _⟩ := h; exact lt_of_cell h0

theorem ne01 (p : Nat) : (⟨p, 0, none⟩ : Addr) ≠ ⟨p, 1, none⟩ := by intro h; injection h; contradiction

theorem WS.more {w w1 : World} {p : Nat} {v v' : Value} {l' : List UInt8} (h1 : w.cell? ⟨p, 0, none⟩ = some v) (h2 : w.cell? ⟨p, 1, none⟩ = some .nilIface) (f1 : w.frozen? ⟨p, 0, none⟩ = false) (f2 : w.frozen? ⟨p, 1, none⟩ = false)
    (hb : Below (p + 1) w w1) (hk : KeepT 5 w w1) (ho : w1.ownsRow (p + 1) 5 1 v' l'.length (byteCells l')) : WS (w1.setCell ⟨p, 0, none⟩ v') p (some l') ∧ Fr 5 p w (w1.setCell ⟨p, 0, none⟩ v') := by
  have c0 : w1.cell? ⟨p, 0, none⟩ = some v := (hb.cell (p := ⟨p, 0, none⟩) (by simp)).trans h1
  have c1 : w1.cell? ⟨p, 1, none⟩ = some .nilIface := (hb.cell (p := ⟨p, 1, none⟩) (by simp)).trans h2
  have g0 : w1.frozen? ⟨p, 0, none⟩ = false := (hb.frozen (p := ⟨p, 0, none⟩) (by simp)).trans f1
  have g1 : w1.frozen? ⟨p, 1, none⟩ = false := (hb.frozen (p := ⟨p, 1, none⟩) (by simp)).trans f2
  refine ⟨⟨by simpa using g0, by simpa using g1, v', World.cell?_setCell_same _ _ _ c0, ?_, ownsRow_setCell_below ho (by simp) _⟩, (Fr.of (hb.mono (by omega)) hk).setCell 0 _⟩
  rw [World.cell?_setCell_other _ _ _ _ (ne01 p)]; exact c1

theorem own_slice {w : World} {B : Nat} {e : TypeId} {sz : Nat} {v : Value} {n : Nat} {xs : List Value} (h : w.ownsRow B e sz v n xs) : ∃ a k, v = .slice a n k := by
  rcases h.2 with ⟨rfl, rfl⟩ | ⟨g, cap, cur, rfl, _⟩
  · exact ⟨none, 0, rfl⟩
  · exact ⟨_, _, rfl⟩
theorem appendUint_s (B m x : Nat) (v : Value) (xs : List Value) (w : World) (hx : x < 18446744073709551616) (hm : m ≤ 1000000000) (hB : B ≤ w.heap.size)
    (hown : w.ownsRow B 5 1 v m xs) :
    Calls Tryd.prog 41 #[v, .int .u64 x] w fun e w' =>
      ∃ a k, e = .returned (.slice a (m + (uvarint x).length) k) ∧ w'.ownsRow B 5 1 (.slice a (m + (uvarint x).length) k) (m + (uvarint x).length) (xs ++ byteCells (uvarint x)) ∧ Below B w w' ∧ KeepT 5 w w' := by
  refine (appendUint_any B m x v xs w hx hm hB hown).mono ?_
  rintro e w' ⟨v', rfl, ho, hb, hk⟩
  obtain ⟨a, k, rfl⟩ := own_slice ho
  exact ⟨a, k, rfl, ho, hb, hk⟩

theorem own_i6 {w : World} {B : Nat} {v : Value} {l : List UInt8} (h : w.ownsRow B 5 1 v l.length (byteCells l)) : -9223372036854775808 ≤ (l.length : Int) ∧ (l.length : Int) < 9223372036854775808 := by
  rcases h.2 with ⟨_, e⟩ | ⟨g, cap, cur, _, _, _, h1, h2, _⟩
  · omega
  · unfold maxLen at h2
    omega

theorem WS.fail {w : World} {p : Nat} {v x : Value} (hp : p < w.heap.size) (h0 : w.cell? ⟨p, 0, none⟩ = some v) (h1 : w.cell? ⟨p, 1, none⟩ = some x) (f0 : w.frozen? ⟨p, 0, none⟩ = false) (f1 : w.frozen? ⟨p, 1, none⟩ = false) (pl : Int) (hpl : -9223372036854775808 ≤ pl ∧ pl < 9223372036854775808) :
    WS (((w.setCell ⟨p, 0, none⟩ (.slice none 0 0)).setCell ⟨p, 1, none⟩ (ev w.heap.size)).alloc (.cells #[.int .i64 pl, .iface 60 (.int .i64 20)] 98)) p none ∧
    Fr 5 p w (((w.setCell ⟨p, 0, none⟩ (.slice none 0 0)).setCell ⟨p, 1, none⟩ (ev w.heap.size)).alloc (.cells #[.int .i64 pl, .iface 60 (.int .i64 20)] 98)) := by
  have e : ((w.setCell ⟨p, 0, none⟩ (.slice none 0 0)).setCell ⟨p, 1, none⟩ (ev w.heap.size)).heap.size = w.heap.size := by simp
  have hE := ErrAt.new ((w.setCell ⟨p, 0, none⟩ (.slice none 0 0)).setCell ⟨p, 1, none⟩ (ev w.heap.size)) pl 20
  rw [e] at hE
  refine ⟨⟨?_, ?_, w.heap.size, ⟨pl, hpl⟩, ?_, ?_, hp, hE⟩, ?_⟩
  · rw [World.frozen?_alloc_old _ _ _ (by simp; omega)]; simpa using f0
  · rw [World.frozen?_alloc_old _ _ _ (by simp; omega)]; simpa using f1
  · rw [World.cell?_alloc_lt _ _ _ (by simpa using hp), World.cell?_setCell_other _ _ _ _ (ne01 p).symm]; exact World.cell?_setCell_same _ _ _ h0
  · rw [World.cell?_alloc_lt _ _ _ (by simpa using hp)]; exact World.cell?_setCell_same _ _ _ ((World.cell?_setCell_other _ _ _ _ (ne01 p)).trans h1)
  · exact (((Fr.refl _ p w).setCell 0 _).setCell 1 _).alloc (by simp; omega) _

end Go.Proofs.YtmahkhpmaenkhaaDoor
