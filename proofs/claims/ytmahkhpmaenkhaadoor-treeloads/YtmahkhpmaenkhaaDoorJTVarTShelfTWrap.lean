/- Variables of a node's type. -/
import Derived.Test.YtmahkhpmaenkhaaDoorTCat
import Derived.Shelf.Strconv.Itoa3
import Derived.Ground.NamesProg
import Derived.Test.YtmahkhpmaenkhaaDoorProg
import Derived.Test.YtmahkhpmaenkhaaDoorJErrsTErr
namespace Go.Proofs.YtmahkhpmaenkhaaDoor
open Go.RowKit Go.Lib

theorem blk_below {w w' : World} {b : Nat} {o : Obj} (h : w.heap[b]? = some o) (hb : Below w.heap.size w w') : w'.heap[b]? = some o := (hb.block b (Array.getElem?_eq_some_iff.1 h).1).trans h
theorem blk_lt {w : World} {b : Nat} {o : Obj} (h : w.heap[b]? = some o) : b < w.heap.size := (Array.getElem?_eq_some_iff.1 h).1
theorem RN.below {w w' : World} {B : Nat} {v : Value} {l : List (Value × Value)} (h : RN w B v l) (hb : Below w.heap.size w w') : RN w' B v l := ⟨h.1.below hb, h.2⟩
theorem frzB2 {w : World} {b : Nat} {cur : Array Value} {T : TypeId} (h : w.heap[b]? = some (.cells cur T (0, 0))) (i : Nat) : w.frozen? ⟨b, i, none⟩ = false := by
  simp [World.frozen?, h]
theorem heap_set_at {w : World} {p : Nat} {cur : Array Value} {T : TypeId} (h : w.heap[p]? = some (.cells cur T (0, 0))) (i : Nat) (v : Value) : (w.setCell ⟨p, i, none⟩ v).heap[p]? = some (.cells (cur.setIfInBounds i v) T (0, 0)) := by
  simp only [World.setCell]
  rw [Array.getElem?_modify, if_pos rfl, h]
  rfl
/-- Two cells of a variable written. -/
theorem set2_at {w : World} {b : Nat} {x y u v : Value} {T : TypeId} (h : w.heap[b]? = some (.cells #[x, y] T (0, 0))) : ((w.setCell ⟨b, 0, none⟩ u).setCell ⟨b, 1, none⟩ v).heap[b]? = some (.cells #[u, v] T (0, 0)) := (heap_set_at (heap_set_at h _ _) _ _).trans rfl
theorem set2_ne {w : World} {b k : Nat} {u v : Value} (h : k ≠ b) : ((w.setCell ⟨b, 0, none⟩ u).setCell ⟨b, 1, none⟩ v).heap[k]? = w.heap[k]? := (Below.heap_setCell _ ⟨b, 1, none⟩ v k h).trans (Below.heap_setCell w ⟨b, 0, none⟩ u k h)
theorem set2_size {w : World} {b : Nat} {u v : Value} : ((w.setCell ⟨b, 0, none⟩ u).setCell ⟨b, 1, none⟩ v).heap.size = w.heap.size := by simp
theorem set2_below {w0 w : World} {B b : Nat} {u v : Value} (h : Below B w0 w) (hb : B ≤ b) : Below B w0 ((w.setCell ⟨b, 0, none⟩ u).setCell ⟨b, 1, none⟩ v) := (h.setCell (p := ⟨b, 0, none⟩) hb u).setCell (p := ⟨b, 1, none⟩) hb v
theorem results_cell1' {fn : Func} {p : Tmp} {ty : TypeId} (h : fn.results = #[.cell p ty]) (tmps : Array Value) (P : Program) (w : World) :
    (results fn tmps).run P w = ((asAddr (tmps.getD p undef)).run P w).andThen fun a w₁ => (loadVar ty a).run P w₁ := by
  simp only [results, h]
  simp [Sem.run_bind, Result.andThen]
/-- A variable of a node's type. -/
def NV (w : World) (b : Nat) (x y : Value) : Prop := w.heap[b]? = some (.cells #[x, y] 48 (0, 0))
theorem NV.below {w w' : World} {b : Nat} {x y : Value} (h : NV w b x y) (hb : Below w.heap.size w w') : NV w' b x y := blk_below h hb
theorem NV.cells {w : World} {b : Nat} {x y : Value} (h : NV w b x y) : w.cell? ⟨b, 0, none⟩ = some x ∧ w.cell? ⟨b, 1, none⟩ = some y ∧ w.frozen? ⟨b, 0, none⟩ = false ∧ w.frozen? ⟨b, 1, none⟩ = false := ⟨cellB2 h 0, cellB2 h 1, frzB2 h 0, frzB2 h 1⟩
theorem NV.new (w : World) (x y : Value) : NV (w.alloc (.cells #[x, y] 48)) w.heap.size x y := heap_alloc_new _ _
theorem below_al {w0 w : World} {B : Nat} (h : Below B w0 w) (hb : B ≤ w.heap.size) (o : Obj) : Below B w0 (w.alloc o) := h.alloc hb o
end Go.Proofs.YtmahkhpmaenkhaaDoor
/- The library's contracts on strconv.Itoa of small numbers: its laying at this program's numbers (by the library's own tool, in plain words). -/
namespace Go.Proofs.YtmahkhpmaenkhaaDoor
open Go.Shelf
def Tryd.lays171_ren : Go.Shelf.Ren := ⟨fun | 171 => 56 | 243 => 64 | 246 => 67 | 283 => 68 | 284 => 69 | 285 => 70 | 286 => 71 | 129 => 73 | 317 => 72 | 318 => 74 | 319 => 75 | 320 => 76 | 337 => 77 | 338 => 78 | n => n, fun | 3 => 3 | 9 => 9 | 2 => 2 | 4 => 4 | 171 => 145 | 0 => 0 | 53 => 63 | 37 => 27 | 5 => 5 | 173 => 148 | 212 => 151 | 51 => 152 | 20 => 20 | 213 => 153 | 46 => 56 | 232 => 157 | 233 => 158 | n => n, fun | 17 => 2 | 18 => 3 | 19 => 4 | n => n⟩

theorem Tryd.lays171 : Go.Proofs.Lays.n171 Tryd.prog Tryd.lays171_ren := {
  mixed := by kernel_rfl
  f129 := Tryd.func73.trans (congrArg some (by kernel_rfl))
  f171 := Tryd.func56.trans (congrArg some (by kernel_rfl))
  f243 := Tryd.func64.trans (congrArg some (by kernel_rfl))
  f246 := Tryd.func67.trans (congrArg some (by kernel_rfl))
  f283 := Tryd.func68.trans (congrArg some (by kernel_rfl))
  f284 := Tryd.func69.trans (congrArg some (by kernel_rfl))
  f285 := Tryd.func70.trans (congrArg some (by kernel_rfl))
  f286 := Tryd.func71.trans (congrArg some (by kernel_rfl))
  f317 := Tryd.func72.trans (congrArg some (by kernel_rfl))
  f318 := Tryd.func74.trans (congrArg some (by kernel_rfl))
  f319 := Tryd.func75.trans (congrArg some (by kernel_rfl))
  f320 := Tryd.func76.trans (congrArg some (by kernel_rfl))
  f337 := Tryd.func77.trans (congrArg some (by kernel_rfl))
  f338 := Tryd.func78.trans (congrArg some (by kernel_rfl))
  t0 := Tryd.underlying0
  a0 := Tryd.isAgg0
  z0 := Tryd.sizeOf0
  v0 := Tryd.zeroValue0
  t2 := Tryd.underlying2
  a2 := Tryd.isAgg2
  z2 := Tryd.sizeOf2
  v2 := Tryd.zeroValue2
  t3 := Tryd.underlying3
  a3 := Tryd.isAgg3
  z3 := Tryd.sizeOf3
  v3 := Tryd.zeroValue3
  t4 := Tryd.underlying4
  a4 := Tryd.isAgg4
  z4 := Tryd.sizeOf4
  v4 := Tryd.zeroValue4
  t5 := Tryd.underlying5
  a5 := Tryd.isAgg5
  z5 := Tryd.sizeOf5
  v5 := Tryd.zeroValue5
  t9 := Tryd.underlying9
  a9 := Tryd.isAgg9
  z9 := Tryd.sizeOf9
  v9 := Tryd.zeroValue9
  t20 := Tryd.underlying20
  a20 := Tryd.isAgg20
  z20 := Tryd.sizeOf20
  v20 := Tryd.zeroValue20
  t37 := Tryd.underlying27
  a37 := Tryd.isAgg27
  z37 := Tryd.sizeOf27
  v37 := Tryd.zeroValue27
  t46 := Tryd.underlying56
  a46 := Tryd.isAgg56
  z46 := Tryd.sizeOf56
  v46 := Tryd.zeroValue56
  t51 := Tryd.underlying152
  a51 := Tryd.isAgg152
  z51 := Tryd.sizeOf152
  v51 := Tryd.zeroValue152
  t53 := Tryd.underlying63
  a53 := Tryd.isAgg63
  z53 := Tryd.sizeOf63
  v53 := Tryd.zeroValue63
  t171 := Tryd.underlying145
  a171 := Tryd.isAgg145
  z171 := Tryd.sizeOf145
  v171 := Tryd.zeroValue145
  t173 := Tryd.underlying148
  a173 := Tryd.isAgg148
  z173 := Tryd.sizeOf148
  v173 := Tryd.zeroValue148
  t212 := Tryd.underlying151
  a212 := Tryd.isAgg151
  z212 := Tryd.sizeOf151
  v212 := Tryd.zeroValue151
  t213 := Tryd.underlying153
  a213 := Tryd.isAgg153
  z213 := Tryd.sizeOf153
  t232 := Tryd.underlying157
  a232 := Tryd.isAgg157
  z232 := Tryd.sizeOf157
  v232 := Tryd.zeroValue157
  t233 := Tryd.underlying158
  a233 := Tryd.isAgg158
  z233 := Tryd.sizeOf158
  v233 := Tryd.zeroValue158
  g17 := by kernel_rfl
  g18 := by kernel_rfl
  g19 := by kernel_rfl }
end Go.Proofs.YtmahkhpmaenkhaaDoor
/- An error wrapped with the place that a node met it at. -/
namespace Go.Proofs.YtmahkhpmaenkhaaDoor
open Go.RowKit Go.Lib Go.Proofs

theorem dec2 : ∀ i : Fin 100, (decDigits i.val).length ≤ 100 := by
  intro i
  rw [decDigits_length]
  obtain ⟨i, hi⟩ := i
  show nDigits i ≤ 100
  unfold nDigits
  split
  · omega
  · rw [nDigits_small (by omega)]; omega
theorem itoa_small (i : Nat) (hi : i < 100) (w : World) : Calls Tryd.prog 56 #[.int .i64 (i : Int)] w fun e w' => ∃ s : ByteArray, e = .returned (.string s) ∧ s.size ≤ 100 ∧ w' = w := by
  have h : Calls Tryd.prog 56 #[.int .i64 (i : Int)] w fun e w' => e = .returned (.string ⟨(decDigits i).toArray⟩) ∧ w' = w := Any.strconv_Itoa_small Tryd.lays171 i hi w
  refine h.mono ?_
  rintro e w' ⟨rfl, rfl⟩
  refine ⟨_, rfl, ?_, rfl⟩
  show (decDigits i).toArray.size ≤ 100
  rw [List.size_toArray]
  exact dec2 ⟨i, hi⟩
set_option maxHeartbeats 1600000 in
theorem wrapped_t {c : Int} {n : Nat} {v : Value} {w : World} (i : Nat) (hi : i < 100) (hv : Chn w c n v) :
    Calls Tryd.prog 37 #[v, .int .i64 (i : Int)] w fun e w' => ∃ T x, e = .returned (.iface T x) ∧ Chn w' c (n + 1) (.iface T x) ∧ Below w.heap.size w w' := by
  have HI := hide (fun W : World => itoa_small i hi W)
  have HV := hide hv
  obtain ⟨T, x, rfl⟩ := hv.iface
  clear hv
  go_enter Tryd.func37, Tryd.ntmps37
  go_wp2_with (go_at_call 56; refine (unhide HI _).mono ?_; rintro e w1 ⟨s, rfl, hs, rfl⟩)
  go_ret
  have hb : Below w1.heap.size w1 (w1.alloc (.cells #[.string (⟨#[112, 108, 97, 99, 101, 32]⟩ ++ s), .iface T x] 119)) := (Below.refl _ _).alloc (Nat.le_refl _) _
  exact ⟨_, _, rfl, ⟨_, w1.heap.size, _, .inl rfl, rfl, by simp, by simp, (unhide HV).below hb⟩, hb⟩
end Go.Proofs.YtmahkhpmaenkhaaDoor
