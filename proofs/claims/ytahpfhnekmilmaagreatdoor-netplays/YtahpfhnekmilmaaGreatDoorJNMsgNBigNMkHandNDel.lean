/- The statements' own messages: their bytes, and what is read of these. -/
import Derived.Test.YtahpfhnekmilmaaGreatDoorJNCopyNSend
import Derived.Test.YtahpfhnekmilmaaGreatDoorJPlainDDef
import Derived.Deep.MidRow
import Derived.Deep.RegionHeld3
import Derived.Test.YtahpfhnekmilmaaGreatDoorChecked
import Derived.Test.YtahpfhnekmilmaaGreatDoorJNumsFaultsUint
import Derived.ArgAppend
import Derived.Lib.SliceRun
import Derived.Lib.Bytes2
namespace Go.Proofs.YtahpfhnekmilmaaGreatDoor
open Go.RowKit Go.Lib Go.Maps

theorem pair_some {α β : Type} {E : α → Option (List UInt8)} {F : β → Option (List UInt8)} {x : α} {y : β} (h1 : ∃ a, E x = some a) (h2 : ∃ b, F y = some b) : ∃ c, ePair E F (x, y) = some c := by
  obtain ⟨a, ha⟩ := h1
  obtain ⟨b, hb⟩ := h2
  unfold ePair
  rw [ha]
  show ∃ c, (F y).map (a ++ ·) = some c
  rw [hb]
  exact ⟨_, rfl⟩
theorem up_some {most x : Nat} (h : x ≤ most) : ∃ a, eUp most x = some a := ⟨_, if_pos h⟩
theorem between_some {lo hi n : Int} (h : lo ≤ n ∧ n ≤ hi) : ∃ a, eBetween lo hi n = some a := ⟨_, if_pos h⟩
theorem nmsg_some (to' : Int) (sq : Nat) (hto : -1 ≤ to' ∧ to' ≤ 1000) (hsq : sq < 18446744073709551616) : ∃ d, eMsg (1, 1, to', 0, 0, 0, [], 0, 0, false, 0, [], false, 0, sq, ⟨#[]⟩, (0, 0, [], [], 0, 0), 0) = some d :=
  pair_some (between_some (by decide)) (pair_some (between_some (by decide)) (pair_some (between_some hto) (pair_some (up_some (by decide)) (pair_some (up_some (by decide)) (pair_some (up_some (by decide)) (pair_some ⟨_, rfl⟩ (pair_some (up_some (by decide)) (pair_some (up_some (by decide)) (pair_some ⟨_, rfl⟩ (pair_some (between_some (by decide)) (pair_some ⟨_, rfl⟩ (pair_some ⟨_, rfl⟩ (pair_some (up_some (by decide)) (pair_some (up_some (Nat.le_of_lt_succ hsq)) (pair_some ⟨_, rfl⟩ (pair_some ⟨_, rfl⟩ (between_some (by decide))))))))))))))))))
theorem z64 : (0 : Nat) < 18446744073709551616 := by decide
theorem nmsg_back (to' : Int) (sq : Nat) (d : List UInt8) (hsq : sq < 18446744073709551616) (hd : eMsg (1, 1, to', 0, 0, 0, [], 0, 0, false, 0, [], false, 0, sq, ⟨#[]⟩, (0, 0, [], [], 0, 0), 0) = some d) : rdMsg d (.ok 0) = ((1, 1, to', 0, 0, 0, [], 0, 0, false, 0, [], false, 0, sq, ⟨#[]⟩, (0, 0, [], [], 0, 0), 0), .ok d.length) := by
  have hv : vMsg (1, 1, to', 0, 0, 0, [], 0, 0, false, 0, [], false, 0, sq, ⟨#[]⟩, (0, 0, [], [], 0, 0), 0) := ⟨trivial, trivial, trivial, z64, z64, z64, fun g hg => (by cases hg), z64, z64, trivial, trivial, trivial, trivial, z64, hsq, Nat.zero_le _, ⟨z64, trivial, fun t ht => (by cases ht), fun r hr => (by cases hr), trivial, z64⟩, trivial⟩
  have := codec_msg.back d 0 _ d [] hv hd (by simp) (Nat.zero_le _)
  rwa [Nat.zero_add] at this
theorem nmsg_len (to' : Int) (sq : Nat) (d : List UInt8) (hsq : sq < 18446744073709551616) (hd : eMsg (1, 1, to', 0, 0, 0, [], 0, 0, false, 0, [], false, 0, sq, ⟨#[]⟩, (0, 0, [], [], 0, 0), 0) = some d) : d.length ≤ 130693014 := by
  have hv : vMsg (1, 1, to', 0, 0, 0, [], 0, 0, false, 0, [], false, 0, sq, ⟨#[]⟩, (0, 0, [], [], 0, 0), 0) := ⟨trivial, trivial, trivial, z64, z64, z64, fun g hg => (by cases hg), z64, z64, trivial, trivial, trivial, trivial, z64, hsq, Nat.zero_le _, ⟨z64, trivial, fun t ht => (by cases ht), fun r hr => (by cases hr), trivial, z64⟩, trivial⟩
  exact codec_msg.len _ d hv hd
end Go.Proofs.YtahpfhnekmilmaaGreatDoor
/- Structs of many cells: a new variable that is written whole, read whole; a message as a list of cells. -/
namespace Go.Proofs.YtahpfhnekmilmaaGreatDoor
open Go.RowKit Go.Lib

theorem setCells_pre (w : World) (T : TypeId) : ∀ (pre zs cs : List Value), zs.length = cs.length → (w.alloc (.cells (pre ++ zs).toArray T)).setCells w.heap.size pre.length cs = w.alloc (.cells (pre ++ cs).toArray T)
  | pre, [], [], _ => rfl
  | pre, z :: zs, c :: cs, h => by
    have ih := setCells_pre w T (pre ++ [c]) zs cs (by simpa using h)
    rw [World.setCells, World.setCell_alloc_new]
    have e : (pre ++ z :: zs).toArray.setIfInBounds pre.length c = (pre ++ [c] ++ zs).toArray := by
      simp
    rw [e]
    have e2 : pre.length + 1 = (pre ++ [c]).length := by simp
    rw [e2, ih]
    simp
  | _, [], _ :: _, h => by simp at h
  | _, _ :: _, [], h => by simp at h
theorem setCells_new (w : World) (T : TypeId) (zs : Array Value) (cs : List Value) (h : zs.size = cs.length) : (w.alloc (.cells zs T)).setCells w.heap.size 0 cs = w.alloc (.cells cs.toArray T) := by
  have := setCells_pre w T [] zs.toList cs (by simpa using h)
  simpa using this
theorem there_new (w : World) (T : TypeId) (zs : Array Value) (n : Nat) (h : zs.size = n) : (w.alloc (.cells zs T)).there w.heap.size 0 n := fun j hj => by
  constructor
  · rw [World.cell?_alloc_at _ _ _ _ rfl, Nat.zero_add, Array.getElem?_eq_getElem (by omega)]; rfl
  · exact World.frozen?_alloc_new _ _ _ _
theorem range_new (w : World) (T : TypeId) (cs : List Value) : (w.alloc (.cells cs.toArray T)).rangeAt w.heap.size 0 cs := fun j v hj => by
  rw [World.cell?_alloc_at _ _ _ _ rfl, Nat.zero_add]
  simpa using hj
/-- An operation of a plain region that only tells a value. -/
theorem list_to {P : Program} {ops : Array Oper} {Q : Exit → Act → World → Prop} {rest : List Oper} {o : Oper} {a : Act} {w : World} {d : Nat} {v : Value} (hgd : o.guard = none) (hd : o.dst = some d) (hrun : (execOp a.eval o).run P w = .ok (.value v) w) (h : wpList P ops Q rest (a.put (some d) v) w) : wpList P ops Q (o :: rest) a w :=
  wpList_plain hgd fun K hK => by
    unfold Oper.wp
    rw [hrun]
    show K (a.put o.dst v) w
    rw [hd]
    exact hK _ _ h
end Go.Proofs.YtahpfhnekmilmaaGreatDoor
/- The statements' own messages: how they are made. -/
namespace Go.Proofs.YtahpfhnekmilmaaGreatDoor
open Go.RowKit Go.Lib Go.Maps

/-- The cells of a message of the statements'. -/
def mL (to' : Int) (sq : Nat) : List Value := [.int .i64 1, .int .i64 1, .int .i64 to', .int .u64 0, .int .u64 0, .int .u64 0, .slice none 0 0, .int .u64 0, .int .u64 0, .bool false, .int .i64 0, .slice none 0 0, .bool false, .int .u64 0, .int .u64 (sq : Int), .string ⟨#[]⟩, .int .u64 0, .int .i64 0, .slice none 0 0, .slice none 0 0, .int .i64 0, .int .u64 0, .int .i64 0]
abbrev zM : Array Value := #[.int .i64 0, .int .i64 0, .int .i64 0, .int .u64 0, .int .u64 0, .int .u64 0, .slice none 0 0, .int .u64 0, .int .u64 0, .bool false, .int .i64 0, .slice none 0 0, .bool false, .int .u64 0, .int .u64 0, .string ⟨#[]⟩, .int .u64 0, .int .i64 0, .slice none 0 0, .slice none 0 0, .int .i64 0, .int .u64 0, .int .i64 0]
theorem mL_one (to' : Int) (sq : Nat) : (mL to' sq).toArray.all (·.oneCell') = true := all_oneCell_toArray (by intro v hv; simp [mL] at hv; rcases hv with rfl | rfl | rfl | rfl | rfl | rfl | rfl | rfl | rfl | rfl | rfl | rfl | rfl | rfl | rfl | rfl | rfl | rfl | rfl | rfl | rfl | rfl | rfl <;> rfl)

set_option maxHeartbeats 3200000 in
set_option maxRecDepth 100000 in
theorem nmk_any (what i to' : Int) (sq : Nat) (w : World) :
    Calls Tryz.prog 7 #[.agg #[.int .i64 what, .int .i64 i, .int .i64 to', .int .u64 (sq : Int), .bool false]] w fun e w' => e = .returned (.agg (mL to' sq).toArray) ∧ Below w.heap.size w w' := by
  go_enter Tryz.func7, Tryz.ntmps7
  go_upto_region 1 with fail
  refine wp_region_list ?_
  refine list_to (d := 4) (v := .pointer (some ⟨w.heap.size, 2, none⟩)) rfl rfl (by go_simp) ?_
  simp only [Act.put, List.setIfInBounds_toArray, List.set_cons_zero, List.set_cons_succ]
  refine list_to (d := 5) (v := .int .i64 to') rfl rfl (by go_simp) ?_
  simp only [Act.put, List.setIfInBounds_toArray, List.set_cons_zero, List.set_cons_succ]
  refine list_to (d := 6) (v := .pointer (some ⟨w.heap.size, 3, none⟩)) rfl rfl (by go_simp) ?_
  simp only [Act.put, List.setIfInBounds_toArray, List.set_cons_zero, List.set_cons_succ]
  refine list_to (d := 7) (v := .int .u64 (sq : Int)) rfl rfl (by go_simp) ?_
  simp only [Act.put, List.setIfInBounds_toArray, List.set_cons_zero, List.set_cons_succ]
  refine list_to (d := 8) (v := .agg (mL to' sq).toArray) rfl rfl (by unfold mL; go_simp) ?_
  simp only [Act.put, List.setIfInBounds_toArray, List.set_cons_zero, List.set_cons_succ]
  obtain ⟨W, hW⟩ : ∃ W, W = (w.alloc (.cells #[.int .i64 what, .int .i64 i, .int .i64 to', .int .u64 (sq : Int), .bool false] 29)).alloc (.cells zM 43) := ⟨_, rfl⟩
  rw [← hW]
  have hWz : W.heap.size = w.heap.size + 2 := by rw [hW]; simp
  have cB : W.cell? ⟨w.heap.size, 4, none⟩ = some (.bool false) := by rw [hW]; simp
  have ht : W.there (w.heap.size + 1) 0 23 := by
    rw [hW]
    have := there_new (w.alloc (.cells #[.int .i64 what, .int .i64 i, .int .i64 to', .int .u64 (sq : Int), .bool false] 29)) 43 zM 23 rfl
    rwa [World.size_alloc] at this
  have hbW : Below w.heap.size w W := by rw [hW]; exact ((Below.refl _ _).alloc (Nat.le_refl _) _).alloc (by simp) _
  clear hW
  refine wpList_alloc_new rfl 43 rfl zM (zero_of_info Tryz.zeroM).1 ?_
  refine wpList_store_mid rfl 43 (.tmp 3) (.tmp 8) rfl W.heap.size 0 (mL to' sq).toArray rfl rfl (there_new W 43 zM 23 rfl) Tryz.sizeM (mL_one to' sq) ?_
  rw [List.toList_toArray, setCells_new W 43 zM (mL to' sq) rfl]
  have hr := range_new W 43 (mL to' sq)
  have ht2 := World.there_alloc ht (.cells (mL to' sq).toArray 43)
  have cB2 : (W.alloc (.cells (mL to' sq).toArray 43)).cell? ⟨w.heap.size, 4, none⟩ = some (.bool false) := (World.cell?_alloc_lt _ _ ⟨w.heap.size, 4, none⟩ (by show w.heap.size < W.heap.size; omega)).trans cB
  have hb2 : Below w.heap.size w (W.alloc (.cells (mL to' sq).toArray 43)) := hbW.alloc (by omega) _
  generalize W.alloc (.cells (mL to' sq).toArray 43) = W2 at hr ht2 cB2 hb2 ⊢
  rw [hWz] at hr
  have HR := hide hr
  have HT := hide ht2
  clear hr ht2 ht cB hbW
  go_upto_region 4 with fail
  refine wp_region_list ?_
  refine wpList_load_mid rfl 43 (.tmp 3) rfl (w.heap.size + 2) 0 rfl (mL to' sq) _ (unhide HR) Tryz.underlying43 rfl Tryz.sizeM ?_
  refine wpList_store_mid rfl 43 (.tmp 2) (.tmp 12) rfl (w.heap.size + 1) 0 (mL to' sq).toArray rfl rfl (unhide HT) Tryz.sizeM (mL_one to' sq) ?_
  rw [List.toList_toArray]
  have hr3 := World.rangeAt_setCells_same W2 (w.heap.size + 1) 0 (mL to' sq) (unhide HT)
  have hb3 : Below w.heap.size w (W2.setCells (w.heap.size + 1) 0 (mL to' sq)) := Below.over (by omega) (mL to' sq) _ 0 hb2
  generalize W2.setCells (w.heap.size + 1) 0 (mL to' sq) = W3 at hr3 hb3 ⊢
  go_wp2
  refine bodyPost_ret (v := .agg (mL to' sq).toArray) ?_ rfl ⟨rfl, hb3⟩
  rw [results_cell1 rfl]
  refine (res_addr (b := w.heap.size + 1) ?_).trans ?_
  · rfl
  · exact run_loadVar_mid W3 (w.heap.size + 1) 0 43 (mL to' sq) _ hr3 Tryz.underlying43 rfl Tryz.sizeM
end Go.Proofs.YtahpfhnekmilmaaGreatDoor
/- A region that draws its order, taken by hand: a read's value goes to its slot. -/
namespace Go.Proofs.YtahpfhnekmilmaaGreatDoor
open Go.RowKit Go.Lib

/-- Take number i first: its value goes to slot d. -/
theorem hand_to {P : Program} {ops : Array Oper} {Q : Exit → Act → World → Prop} {md : Region.Mode} {S : World → Prop} {i d : Nat} {oi : Oper} {v : Value} {fuel : Nat} {listed : Array Bool} {a : Act} {w : World} (hi : ops[i]? = some oi) (hd : oi.dst = some d)
    (hs : Region.noSelect ops = true) (hf : Region.free md ops listed i = true) (hr : (Region.ready md ops listed).contains i = true)
    (hQ : ∀ c a w, Q (.panic c) (a.put (some d) v) w → Q (.panic c) a w) (hy : YieldsIf P ops S oi v a) (hS : S w)
    (h : wpAnyH P md ops Q S fuel (listed.setIfInBounds i true) (a.put (some d) v) w) : wpAnyH P md ops Q S (fuel + 1) listed a w := by
  rw [← hd] at hQ h
  exact wpAnyH_take hi hs hf hr hQ hy hS h
end Go.Proofs.YtahpfhnekmilmaaGreatDoor
/- slices.Delete of one flight. -/
namespace Go.Proofs.YtahpfhnekmilmaaGreatDoor
open Go.RowKit Go.Lib

theorem Tryz.infoDel : (Tryz.prog.info? 60).map (fun i => (i.zero, i.size)) = some (some (.agg #[.int .i64 0, .int .i64 0, .slice none 0 0]), 3) := by kernel_rfl
theorem zero_flight (w : World) : (zeroValue 60).run Tryz.prog w = .ok (.agg #[.int .i64 0, .int .i64 0, .slice none 0 0]) w := by
  have h := Tryz.infoDel
  cases hq : Tryz.prog.info? 60 with
  | none => rw [hq] at h; cases h
  | some i =>
    rw [hq] at h
    simp at h
    simp [zeroValue, typeInfo, hq, h.1]
theorem info_flight : ∃ i, Tryz.prog.info? 60 = some i ∧ i.size = 3 := by
  have h := Tryz.infoDel
  cases hq : Tryz.prog.info? 60 with
  | none => rw [hq] at h; cases h
  | some i => rw [hq] at h; simp at h; exact ⟨i, rfl, h.2⟩
theorem run_clear_one (w : World) (ty : TypeId) (b o c : Nat) (hc : ∀ j, j < 3 → (w.cell? ⟨b, o + j, none⟩).isSome = true) (hf : ∀ j, j < 3 → w.frozen? ⟨b, o + j, none⟩ = false) :
    (Builtin.clear_ #[52] ty #[.slice (some ⟨b, o, none⟩) 1 c]).run Tryz.prog w = .ok (.tuple #[]) (w.setCells b o [.int .i64 0, .int .i64 0, .slice none 0 0]) := by
  have hzc : (Builtin.zeroCells (Value.agg #[.int .i64 0, .int .i64 0, .slice none 0 0]).cells 1).toList = [.int .i64 0, .int .i64 0, .slice none 0 0] := by kernel_rfl
  have hst := run_storeCells_cells (P := Tryz.prog) b o [.int .i64 0, .int .i64 0, .slice none 0 0] 0 w (by simpa using hc) (by simpa using hf) (by intro v hv; simp at hv; rcases hv with rfl | rfl | rfl <;> rfl)
  simp only [Nat.add_zero] at hst
  simp [Builtin.clear_, run_underlying Tryz.underlying52, hzc, hst]
/-- append where there is room, as one step of a region that draws. -/
theorem step_room {P : Program} {ops : Array Oper} {o : Oper} {a : Act} {w w' : World} {K : Act → World → Prop} {Q : Exit → Act → World → Prop} {E : Prop}
    (hgd : o.guard = none) {d : Nat} (hd : o.dst = some d) (s x : Operand) (t : TypeId) (ho : o.op = .call { callee := .builtin .append, args := #[s, x], argTypes := #[t, t] }) (v u r : Value) (hs : a.eval s = v) (hx : a.eval x = u)
    (hrun : (Builtin.append_ #[t, t] o.type #[v, u]).run P w = .ok r w') (h : K (a.put (some d) r) w') :
    if Region.wanted o (yielded ops a.tmps) = true then Oper.wp P o a w K Q else E := by
  have hw : Region.wanted o (yielded ops a.tmps) = true := by simp [Region.wanted, hgd]
  rw [if_pos hw]
  rw [← hd] at h
  unfold Oper.wp
  simp [execOp, ho, resolve, invoke, builtin, hs, hx, hrun, Result.andThen]
  exact h

set_option maxHeartbeats 3200000 in
set_option maxRecDepth 100000 in
theorem ndel_any (g i n cap : Nat) (w w1 w2 : World) (hi : i < n) (hn : n ≤ cap) (ad : Option Addr)
    (had : ad = if cap = i + 1 then some ⟨g, 0, none⟩ else some ⟨g, (i + 1) * 3, none⟩)
    (happ : ∀ ty, (Builtin.append_ #[52, 52] ty #[.slice (some ⟨g, 0, none⟩) i cap, .slice ad (n - (i + 1)) (cap - (i + 1))]).run Tryz.prog w.drew = .ok (.slice (some ⟨g, 0, none⟩) (n - 1) cap) w1)
    (hclr : ∀ ty, (Builtin.clear_ #[52] ty #[.slice (some ⟨g, (n - 1) * 3, none⟩) (n - (n - 1)) (cap - (n - 1))]).run Tryz.prog w1 = .ok (.tuple #[]) w2) :
    Calls Tryz.prog 21 #[.slice (some ⟨g, 0, none⟩) n cap, .int .i64 (i : Int), .int .i64 ((i : Int) + 1)] w fun e w' => e = .returned (.slice (some ⟨g, 0, none⟩) (n - 1) cap) ∧ w' = w2 := by
  go_enter Tryz.func21, Tryz.ntmps21
  go_wp2
  refine wp_region_held_drew (S := fun w' => True) (by kernel_rfl) trivial (fun hHeld => ?_)
  refine hand_to (i := 0) (d := 20) (v := .slice (some ⟨g, 0, none⟩) n cap) rfl rfl (by kernel_rfl) (by kernel_rfl) (by kernel_rfl) (fun _ _ _ h => h) (Or.inl ⟨by rfl, ?_⟩) hHeld ?_
  · (intro w' hSw; obtain _ := hSw; go_simp)
  simp only [Act.put, List.setIfInBounds_toArray, List.set_cons_zero, List.set_cons_succ]
  refine hand_to (i := 1) (d := 21) (v := .int .i64 (i : Int)) rfl rfl (by kernel_rfl) (by kernel_rfl) (by kernel_rfl) (fun _ _ _ h => h) (Or.inl ⟨by rfl, ?_⟩) hHeld ?_
  · (intro w' hSw; obtain _ := hSw; go_simp)
  simp only [Act.put, List.setIfInBounds_toArray, List.set_cons_zero, List.set_cons_succ]
  refine hand_to (i := 2) (d := 22) (v := .slice (some ⟨g, 0, none⟩) i cap) rfl rfl (by kernel_rfl) (by kernel_rfl) (by kernel_rfl) (fun _ _ _ h => h) (Or.inl ⟨by rfl, ?_⟩) hHeld ?_
  · (intro w' hSw; obtain _ := hSw; go_simp; intro hh; exfalso; omega)
  simp only [Act.put, List.setIfInBounds_toArray, List.set_cons_zero, List.set_cons_succ]
  refine hand_to (i := 3) (d := 23) (v := .slice (some ⟨g, 0, none⟩) n cap) rfl rfl (by kernel_rfl) (by kernel_rfl) (by kernel_rfl) (fun _ _ _ h => h) (Or.inl ⟨by rfl, ?_⟩) hHeld ?_
  · (intro w' hSw; obtain _ := hSw; go_simp)
  simp only [Act.put, List.setIfInBounds_toArray, List.set_cons_zero, List.set_cons_succ]
  refine hand_to (i := 4) (d := 24) (v := .int .i64 ((i : Int) + 1)) rfl rfl (by kernel_rfl) (by kernel_rfl) (by kernel_rfl) (fun _ _ _ h => h) (Or.inl ⟨by rfl, ?_⟩) hHeld ?_
  · (intro w' hSw; obtain _ := hSw; go_simp)
  simp only [Act.put, List.setIfInBounds_toArray, List.set_cons_zero, List.set_cons_succ]
  refine hand_to (i := 5) (d := 25) (v := .slice ad (n - (i + 1)) (cap - (i + 1))) rfl rfl (by kernel_rfl) (by kernel_rfl) (by kernel_rfl) (fun _ _ _ h => h) (Or.inl ⟨by rfl, ?_⟩) hHeld ?_
  · (intro w' hSw; obtain _ := hSw; rw [had]; go_simp; intro hh; exfalso; omega)
  simp only [Act.put, List.setIfInBounds_toArray, List.set_cons_zero, List.set_cons_succ]
  refine wpAnyH_ready (rs := [6]) (by kernel_rfl) (by simp) ?_
  refine AllReadyH.cons rfl (fun K hK => ?_) AllReadyH.nil
  refine step_room (d := 26) rfl rfl (.tmp 22) (.tmp 25) 52 rfl _ _ _ rfl rfl (happ _) ?_
  refine hK.out _ _ trivial (fun hHeld2 => ?_)
  clear hK K hHeld
  have hHeld := hHeld2
  clear hHeld2
  simp only [Act.put, List.setIfInBounds_toArray, List.set_cons_zero, List.set_cons_succ]
  refine hand_to (i := 7) (d := 0) (v := .slice (some ⟨g, 0, none⟩) (n - 1) cap) rfl rfl (by kernel_rfl) (by kernel_rfl) (by kernel_rfl) (fun _ _ _ h => h) (Or.inl ⟨by rfl, ?_⟩) hHeld ?_
  · (intro w' hSw; obtain _ := hSw; go_simp)
  simp only [Act.put, List.setIfInBounds_toArray, List.set_cons_zero]
  refine wpAnyH_done (by kernel_rfl) ?_ _
  have hz1 : (0 : Int) ≤ (n : Int) - 1 := by omega
  have hz2 : ((n - 1 : Nat) : Int) = (n : Int) - 1 := by omega
  go_wp2
  go_ret
  exact ⟨rfl, rfl⟩
end Go.Proofs.YtahpfhnekmilmaaGreatDoor
