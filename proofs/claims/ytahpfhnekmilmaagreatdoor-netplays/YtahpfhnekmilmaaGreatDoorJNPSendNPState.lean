/- NetPlays: Send of a message that may not be; the calls at places that aren't there. -/
import Derived.Test.YtahpfhnekmilmaaGreatDoorJVShelfNPRefNLaidNPLaid
import Derived.Test.YtahpfhnekmilmaaGreatDoorNPRow
namespace Go.Proofs.YtahpfhnekmilmaaGreatDoor
open Go.RowKit Go.Lib Go.Proofs

/-- The cells of a message of the statement's that may not be. -/
def bL (to' : Int) (sq : Nat) : List Value := [.int .i64 0, .int .i64 1, .int .i64 to', .int .u64 0, .int .u64 0, .int .u64 0, .slice none 0 0, .int .u64 0, .int .u64 0, .bool false, .int .i64 0, .slice none 0 0, .bool false, .int .u64 0, .int .u64 (sq : Int), .string ⟨#[]⟩, .int .u64 0, .int .i64 0, .slice none 0 0, .slice none 0 0, .int .i64 0, .int .u64 0, .int .i64 0]
/-- A message of the statement's: whether it is a bad one. -/
def xL (bad : Bool) (to' : Int) (sq : Nat) : List Value := if bad then bL to' sq else mL to' sq
theorem xL_one (bad : Bool) (to' : Int) (sq : Nat) : (xL bad to' sq).toArray.all (·.oneCell') = true := by
  cases bad
  · exact mL_one to' sq
  · exact all_oneCell_toArray (by intro v hv; simp [xL, bL] at hv; rcases hv with rfl | rfl | rfl | rfl | rfl | rfl | rfl | rfl | rfl | rfl | rfl | rfl | rfl | rfl | rfl | rfl | rfl | rfl | rfl | rfl | rfl | rfl | rfl <;> rfl)
/-- Whether the statement holds that it may be sent. -/
def mayS (bad : Bool) (to' : Int) : Bool := !bad && decide (-1 ≤ to') && decide (to' ≤ 1000)
theorem pair_none_l {α β : Type} {E : α → Option (List UInt8)} {F : β → Option (List UInt8)} {x : α} {y : β} (h : E x = none) : ePair E F (x, y) = none := by
  unfold ePair
  rw [h]
theorem pair_none_r {α β : Type} {E : α → Option (List UInt8)} {F : β → Option (List UInt8)} {x : α} {y : β} (h : F y = none) : ePair E F (x, y) = none := by
  unfold ePair
  simp only
  rw [h]
  cases E x <;> rfl
theorem between_none {lo hi n : Int} (h : ¬ (lo ≤ n ∧ n ≤ hi)) : eBetween lo hi n = none := if_neg h
theorem xmsg_none (bad : Bool) (to' : Int) (sq : Nat) (h : mayS bad to' = false) : eMsg (if bad then 0 else 1, 1, to', 0, 0, 0, [], 0, 0, false, 0, [], false, 0, sq, ⟨#[]⟩, (0, 0, [], [], 0, 0), 0) = none := by
  cases bad
  · have h' : ¬ (-1 ≤ to' ∧ to' ≤ 1000) := fun hh => by simp [mayS, hh.1, hh.2] at h
    exact pair_none_r (pair_none_r (pair_none_l (between_none h')))
  · exact pair_none_l (between_none (by decide))
theorem range_set0 {w : World} {b : Nat} {x : Value} {r : List Value} (h : w.rangeAt b 0 (x :: r)) (v : Value) : (w.setCell ⟨b, 0, none⟩ v).rangeAt b 0 (v :: r) := fun j u hj => by
  cases j with
  | zero => simp at hj; subst hj; exact World.cell?_setCell_same _ _ _ (h 0 x rfl)
  | succ k =>
    refine (World.cell?_setCell_other _ _ _ _ (fun e => ?_)).trans (h (k + 1) u (by simpa using hj))
    injection e with _ e
    omega

set_option maxHeartbeats 3200000 in
set_option maxRecDepth 100000 in
theorem nmk_bad (what i to' : Int) (sq : Nat) (w : World) :
    Calls Tryz.prog 7 #[.agg #[.int .i64 what, .int .i64 i, .int .i64 to', .int .u64 (sq : Int), .bool true]] w fun e w' => e = .returned (.agg (bL to' sq).toArray) ∧ Below w.heap.size w w' := by
  go_enter Tryz.func7, Tryz.ntmps7
  go_upto_region 1 with fail
  refine wp_region_list ?_
  refine list_to (d := 4) (v := .pointer (some ⟨w.heap.size, 2, none⟩)) rfl rfl (by go_simp) ?_
  simp only [Act.put, List.setIfInBounds_toArray, List.set_cons_zero, List.set_cons_succ]
  refine list_to (d := 5) (v := .int .i64 to') rfl rfl (by go_simp) ?_
  simp only [Act.put, List.setIfInBounds_toArray, List.set_cons_zero, List.set_cons_succ]
  refine list_to (d := 6) (v := .pointer (some ⟨w.heap.size, 3, none⟩)) rfl rfl (by go_simp) ?_
  simp only [Act.put, List.setIfInBounds_toArray, List.set_cons_zero, List.set_cons_succ]
  refine list_to (d := 7) (v := .int .u64 (sq : Int)) rfl rfl (by go_simp) ?_
  simp only [Act.put, List.setIfInBounds_toArray, List.set_cons_zero, List.set_cons_succ]
  refine list_to (d := 8) (v := .agg (mL to' sq).toArray) rfl rfl (by unfold mL; go_simp) ?_
  simp only [Act.put, List.setIfInBounds_toArray, List.set_cons_zero, List.set_cons_succ]
  obtain ⟨W, hW⟩ : ∃ W, W = (w.alloc (.cells #[.int .i64 what, .int .i64 i, .int .i64 to', .int .u64 (sq : Int), .bool true] 29)).alloc (.cells zM 43) := ⟨_, rfl⟩
  rw [← hW]
  have hWz : W.heap.size = w.heap.size + 2 := by rw [hW]; simp
  have cB : W.cell? ⟨w.heap.size, 4, none⟩ = some (.bool true) := by rw [hW]; simp
  have ht : W.there (w.heap.size + 1) 0 23 := by
    rw [hW]
    have := there_new (w.alloc (.cells #[.int .i64 what, .int .i64 i, .int .i64 to', .int .u64 (sq : Int), .bool true] 29)) 43 zM 23 rfl
    rwa [World.size_alloc] at this
  have hbW : Below w.heap.size w W := by rw [hW]; exact ((Below.refl _ _).alloc (Nat.le_refl _) _).alloc (by simp) _
  clear hW
  refine wpList_alloc_new rfl 43 rfl zM (zero_of_info Tryz.zeroM).1 ?_
  refine wpList_store_mid rfl 43 (.tmp 3) (.tmp 8) rfl W.heap.size 0 (mL to' sq).toArray rfl rfl (there_new W 43 zM 23 rfl) Tryz.sizeM (mL_one to' sq) ?_
  rw [List.toList_toArray, setCells_new W 43 zM (mL to' sq) rfl]
  have hr := range_new W 43 (mL to' sq)
  have ht2 := World.there_alloc ht (.cells (mL to' sq).toArray 43)
  have cB2 : (W.alloc (.cells (mL to' sq).toArray 43)).cell? ⟨w.heap.size, 4, none⟩ = some (.bool true) := (World.cell?_alloc_lt _ _ ⟨w.heap.size, 4, none⟩ (by show w.heap.size < W.heap.size; omega)).trans cB
  have hb2 : Below w.heap.size w (W.alloc (.cells (mL to' sq).toArray 43)) := hbW.alloc (by omega) _
  have hfz2 : (W.alloc (.cells (mL to' sq).toArray 43)).frozen? ⟨w.heap.size + 2, 0, none⟩ = false := by rw [← hWz]; exact World.frozen?_alloc_new _ _ _ _
  generalize W.alloc (.cells (mL to' sq).toArray 43) = W2 at hr ht2 cB2 hb2 hfz2 ⊢
  rw [hWz] at hr
  have z0 : W2.cell? ⟨w.heap.size + 2, 0, none⟩ = some (.int .i64 1) := hr 0 _ rfl
  have hr4 : (W2.setCell ⟨w.heap.size + 2, 0, none⟩ (.int .i64 0)).rangeAt (w.heap.size + 2) 0 (bL to' sq) := range_set0 hr _
  have ht4 : (W2.setCell ⟨w.heap.size + 2, 0, none⟩ (.int .i64 0)).there (w.heap.size + 1) 0 23 := there_same ht2 (heap_setCell_ne 0 _ (by omega))
  have hb4 : Below w.heap.size w (W2.setCell ⟨w.heap.size + 2, 0, none⟩ (.int .i64 0)) := hb2.setCell (by show w.heap.size ≤ w.heap.size + 2; omega) _
  have hfz : W2.frozen? ⟨w.heap.size + 2, 0, none⟩ = false := hfz2
  have HR := hide hr4
  have HT := hide ht4
  have HB4 := hide hb4
  clear hr ht2 ht cB hbW hr4 ht4 hb4 hb2 hfz2
  go_upto_region 4 with fail
  have hb4 := unhide HB4
  clear HB4
  generalize W2.setCell ⟨w.heap.size + 2, 0, none⟩ (.int .i64 0) = W4 at HR HT hb4 ⊢
  refine wp_region_list ?_
  refine wpList_load_mid rfl 43 (.tmp 3) rfl (w.heap.size + 2) 0 rfl (bL to' sq) _ (unhide HR) Tryz.underlying43 rfl Tryz.sizeM ?_
  refine wpList_store_mid rfl 43 (.tmp 2) (.tmp 12) rfl (w.heap.size + 1) 0 (bL to' sq).toArray rfl rfl (unhide HT) Tryz.sizeM (xL_one true to' sq) ?_
  rw [List.toList_toArray]
  have hr3 := World.rangeAt_setCells_same W4 (w.heap.size + 1) 0 (bL to' sq) (unhide HT)
  have hb3 : Below w.heap.size w (W4.setCells (w.heap.size + 1) 0 (bL to' sq)) := Below.over (by omega) (bL to' sq) _ 0 hb4
  generalize W4.setCells (w.heap.size + 1) 0 (bL to' sq) = W3 at hr3 hb3 ⊢
  go_wp2
  refine bodyPost_ret (v := .agg (bL to' sq).toArray) ?_ rfl ⟨rfl, hb3⟩
  rw [results_cell1 rfl]
  refine (res_addr (b := w.heap.size + 1) ?_).trans ?_
  · rfl
  · exact run_loadVar_mid W3 (w.heap.size + 1) 0 43 (bL to' sq) _ hr3 Tryz.underlying43 rfl Tryz.sizeM

theorem nmk_x (what i to' : Int) (sq : Nat) (bad : Bool) (w : World) :
    Calls Tryz.prog 7 #[.agg #[.int .i64 what, .int .i64 i, .int .i64 to', .int .u64 (sq : Int), .bool bad]] w fun e w' => e = .returned (.agg (xL bad to' sq).toArray) ∧ Below w.heap.size w w' := by
  cases bad
  · exact nmk_any what i to' sq w
  · exact nmk_bad what i to' sq w

set_option maxHeartbeats 6400000 in
set_option maxRecDepth 100000 in
theorem ns_send_bad {w0 w : World} {p : Nat} {A : List (Int × Nat)} {K : Nat → Prop} (bad : Bool) (to' : Int) (sq : Nat) (hmay : mayS bad to' = false) (hsq : sq < 18446744073709551616) (hE : ET w) (hT : ∀ W, Below w.heap.size w W → PT W) (h : NS w0 w p A K) :
    Calls Tryz.prog 6 #[.pointer (some ⟨p, 0, none⟩), .agg (xL bad to' sq).toArray] w fun e w' => ∃ b, e = .returned (Dk.evW b) ∧ Dk.ErrW w' b 20 ∧ NS w0 w' p A K ∧ KK K w w' ∧ Below w.heap.size w w' := by
  obtain ⟨W, hW⟩ : ∃ W, w.alloc (.cells (xL bad to' sq).toArray 43) = W := ⟨_, rfl⟩
  have hbW : Below w.heap.size w W := by rw [← hW]; exact (Below.refl _ _).alloc (Nat.le_refl _) _
  have hWz : W.heap.size = w.heap.size + 1 := by rw [← hW]; simp
  have HR : Hid (W.rangeAt w.heap.size 0 (xL bad to' sq)) := by rw [← hW]; exact range_new w 43 (xL bad to' sq)
  have hxl : (xL bad to' sq).toArray = #[.int .i64 (if bad then 0 else 1), .int .i64 1, .int .i64 to', .int .u64 0, .int .u64 0, .int .u64 0, .slice none 0 0, .int .u64 0, .int .u64 0, .bool false, .int .i64 0, .slice none 0 0, .bool false, .int .u64 0, .int .u64 (sq : Int), .string ⟨#[]⟩, .int .u64 0, .int .i64 0, .slice none 0 0, .slice none 0 0, .int .i64 0, .int .u64 0, .int .i64 0] := by cases bad <;> rfl
  have HP : Hid (Calls Tryz.prog 15 #[.agg (xL bad to' sq).toArray] W fun e w2 => ∃ b, e = .returned (.tuple #[.slice none 0 0, ev b]) ∧
      Hid (Calls Tryz.prog 16 #[ev b] w2 fun e w3 => ∃ b', e = .returned (Dk.evW b') ∧ Hid (Dk.ErrW w3 b' 20 ∧ Below w.heap.size w w3))) := by
    have hput := putMsg_any (if bad then 0 else 1) 1 to' 0 0 0 (.slice none 0 0) 0 0 false 0 (.slice none 0 0) false 0 sq ⟨#[]⟩ 0 0 (.slice none 0 0) (.slice none 0 0) 0 0 0 [] [] [] [] W (by decide) (by decide) (by decide) (by decide) (by decide) (by decide) hsq (by decide) (by decide) (by show (0 : Nat) ≤ maxLen; exact Nat.zero_le _) (msg_empty W)
    rw [hxl]
    refine hput.mono ?_
    rw [List.map_nil, xmsg_none bad to' sq hmay]
    rintro e w2 ⟨b, pl, rfl, hb, he, hbb⟩
    have hB : Below w.heap.size w w2 := one_b hbW hbb
    refine ⟨b, rfl, (refused_any b pl w2 pl.2 (hE.below hB hE.lt) (fun W' hW' => hT W' (one_b hB hW')) he).mono ?_⟩
    rintro e w3 ⟨b', rfl, _, h3, hb3⟩
    exact ⟨b', rfl, h3, one_b hB hb3⟩
  have H0 := hide h
  clear h hbW hWz hE hT hmay hxl
  have hlen : (xL bad to' sq).length = 23 := by cases bad <;> rfl
  have hsz : (Tryz.prog.info? 43).map (·.size) = some (xL bad to' sq).length := by rw [hlen]; exact Tryz.sizeM
  go_enter Tryz.func6, Tryz.ntmps6
  go_upto_region 1 with fail
  refine wp_region_list ?_
  refine wpList_load_mid rfl 43 (.tmp 3) rfl w.heap.size 0 rfl (xL bad to' sq) _ (unhide HR) Tryz.underlying43 rfl hsz ?_
  clear hW hlen hsz
  go_wp2_with (first
    | (go_at_call 15; refine (unhide HP).mono ?_; rintro e w2 ⟨b, rfl, PA⟩; clear HP)
    | (go_at_call 16; refine (unhide PA).mono ?_; rintro e w3 ⟨b', rfl, H3⟩; clear PA))
  go_ret
  obtain ⟨h3, hb3⟩ := unhide H3
  exact ⟨b', rfl, h3, ((unhide H0).below hb3).1, ((unhide H0).below hb3).2, hb3⟩
end Go.Proofs.YtahpfhnekmilmaaGreatDoor
/- NetPlays: what stands between two calls: the net, the statement's row, the step. -/
namespace Go.Proofs.YtahpfhnekmilmaaGreatDoor
open Go.RowKit Go.Lib Go.Proofs Go.Maps

/-- A step of the statement's. -/
structure NG where
  what : Int
  i : Int
  to' : Int
  sq : Nat
  bad : Bool
def NG.cells (s : NG) : Array Value := #[.int .i64 s.what, .int .i64 s.i, .int .i64 s.to', .int .u64 (s.sq : Int), .bool s.bad]
def SV (w : World) (sb : Nat) (s : NG) : Prop := w.heap[sb]? = some (.cells s.cells 29 (0, 0))
theorem SV.at {w : World} {sb : Nat} {s : NG} (h : SV w sb s) : w.cell? ⟨sb, 0, none⟩ = some (.int .i64 s.what) ∧ w.cell? ⟨sb, 1, none⟩ = some (.int .i64 s.i) ∧ w.cell? ⟨sb, 2, none⟩ = some (.int .i64 s.to') ∧ w.cell? ⟨sb, 3, none⟩ = some (.int .u64 (s.sq : Int)) ∧ w.cell? ⟨sb, 4, none⟩ = some (.bool s.bad) :=
  ⟨by rw [(cellB h 0).1]; rfl, by rw [(cellB h 1).1]; rfl, by rw [(cellB h 2).1]; rfl, by rw [(cellB h 3).1]; rfl, by rw [(cellB h 4).1]; rfl⟩
/-- At the head of a round. -/
def PH (w0 w : World) (p : Nat) (v : Value) (A : List (Int × Nat)) : Prop := NS w0 w p A (fun k => v.ownBlock = some k) ∧ MR w w0.heap.size v A
/-- In a round: the net holds An, the row Am. -/
structure PS (w0 w : World) (p sb : Nat) (v : Value) (An Am : List (Int × Nat)) (s : NG) : Prop where
  ns : NS w0 w p An (fun k => v.ownBlock = some k ∨ k = sb)
  mr : MR w w0.heap.size v Am
  sv : SV w sb s
theorem NX.more {w w' : World} {p : Nat} {vf : Value} {L : List Fl} {O : Nat → Prop} (h : NX w p vf L O) (hz : w.heap.size ≤ w'.heap.size) (hb : ∀ k, O k → w'.heap[k]? = w.heap[k]?) : NX w' p vf L O := by
  refine ⟨(hb p h.oP).trans h.blk, ?_, fun e he => (h.dat e he).keep (fun k hk _ _ => hb k hk) (fun _ hk => hk) (fun _ _ hh => hh), h.few, h.oP, h.oF, fun k hk => Nat.lt_of_lt_of_le (h.lt k hk) hz⟩
  obtain ⟨r1, r2 | ⟨g, cap, cur, e1, hb', hc, rr⟩⟩ := h.row
  · exact ⟨r1, .inl r2⟩
  · exact ⟨r1, .inr ⟨g, cap, cur, e1, hb', (hb g (h.oF g (by rw [e1]; rfl))).trans hc, rr⟩⟩
theorem NS.grown {w0 w w' : World} {p : Nat} {A : List (Int × Nat)} {K K' : Nat → Prop} {r : Option Nat} (h : NS w0 w p A K) (hg : w.grownBy w' r) (hr : ∀ k, r = some k → K k ∧ w0.heap.size ≤ k) (hK : ∀ k, K' k → K k ∨ (w.heap.size ≤ k ∧ k < w'.heap.size)) : NS w0 w' p A K' := by
  obtain ⟨⟨vf, L, O, hx, hf, hO⟩, h2, h3⟩ := h
  refine ⟨⟨vf, L, O, hx.more hg.size (fun k hk => hg.block k (hx.lt k hk) (fun e => (hO k hk).2 (hr k e.symm).1)), hf, fun k hk => ⟨(hO k hk).1, fun hh => ?_⟩⟩, ⟨hg.os.trans h2.os, hg.tape.trans h2.tape, hg.output.trans h2.output, Nat.le_trans h2.size hg.size, fun k hk => (hg.block k (Nat.lt_of_lt_of_le hk h2.size) (fun e => ?_)).trans (h2.block k hk)⟩, fun k hk => ?_⟩
  · rcases hK k hh with h4 | h4
    · exact (hO k hk).2 h4
    · have := hx.lt k hk; omega
  · have := (hr k e.symm).2; omega
  · rcases hK k hk with h4 | h4
    · exact Nat.lt_of_lt_of_le (h3 k h4) hg.size
    · exact h4.2
theorem PS.below {w0 w w' : World} {p sb : Nat} {v : Value} {An Am : List (Int × Nat)} {s : NG} (h : PS w0 w p sb v An Am s) (hb : Below w.heap.size w w') : PS w0 w' p sb v An Am s := by
  obtain ⟨h1, h2⟩ := h.ns.below hb
  exact ⟨h1, h.mr.keep (fun k hk => h2 k (.inl hk)), (h2 sb (.inr rfl)).trans h.sv⟩
theorem PS.call {w0 w w' : World} {p sb : Nat} {v : Value} {An An' Am : List (Int × Nat)} {s : NG} (h : PS w0 w p sb v An Am s) (h1 : NS w0 w' p An' (fun k => v.ownBlock = some k ∨ k = sb)) (h2 : KK (fun k => v.ownBlock = some k ∨ k = sb) w w') : PS w0 w' p sb v An' Am s :=
  ⟨h1, h.mr.keep (fun k hk => h2 k (.inl hk)), (h2 sb (.inr rfl)).trans h.sv⟩
theorem PS.ne {w0 w : World} {p sb : Nat} {v : Value} {An Am : List (Int × Nat)} {s : NG} (h : PS w0 w p sb v An Am s) : v.ownBlock ≠ some sb := fun e => by
  obtain ⟨xs, hc, ⟨e1, _⟩ | ⟨g, k, cur, h1, h2, h3, _⟩⟩ := h.mr
  · rw [e1] at e; simp [Value.ownBlock] at e
  · rw [h1] at e
    simp [Value.ownBlock] at e
    subst e
    have := h.sv
    unfold SV at this
    rw [h3] at this
    injection this with this
    injection this with _ h6
    exact absurd h6 (by decide)
/-- The row changed: in its place, or into a new block. -/
theorem PS.row {w0 w w' : World} {p sb : Nat} {v v' : Value} {An Am Am' : List (Int × Nat)} {s : NG} {r : Option Nat} (h : PS w0 w p sb v An Am s) (hm : MR w' w0.heap.size v' Am') (hg : w.grownBy w' r) (hr : r = none ∨ r = v.ownBlock) (hv : ∀ k, v'.ownBlock = some k → v.ownBlock = some k ∨ w.heap.size ≤ k) : PS w0 w' p sb v' An Am' s := by
  have hr' : ∀ k, r = some k → v.ownBlock = some k := fun k hk => by rcases hr with rfl | rfl; cases hk; exact hk
  have hsb := h.ns.lt (k := sb) (.inr rfl)
  refine ⟨h.ns.grown hg (fun k hk => ⟨.inl (hr' k hk), (h.mr.lt (hr' k hk)).1⟩) (fun k hk => ?_), hm, ?_⟩
  · rcases hk with hk | rfl
    · rcases hv k hk with h4 | h4
      · exact .inl (.inl h4)
      · exact .inr ⟨h4, (hm.lt hk).2⟩
    · exact .inl (.inr rfl)
  · exact (hg.block sb hsb (fun e => h.ne (hr' sb e.symm))).trans h.sv
theorem PH.make {w0 w : World} {p : Nat} {v : Value} {A : List (Int × Nat)} (h : PH w0 w p v A) (s : NG) : PS w0 (w.alloc (.cells s.cells 29)) p w.heap.size v A A s := by
  refine ⟨h.1.new _, h.2.keep (fun k hk => ?_), (MapKept.heap_alloc w _).1⟩
  exact Below.heap_alloc _ _ k (h.2.lt hk).2
theorem PS.head {w0 w : World} {p sb : Nat} {v : Value} {A : List (Int × Nat)} {s : NG} (h : PS w0 w p sb v A A s) : PH w0 w p v A := ⟨h.ns.less (fun _ hk => .inl hk), h.mr⟩
theorem PS.bel {w0 w : World} {p sb : Nat} {v : Value} {An Am : List (Int × Nat)} {s : NG} (h : PS w0 w p sb v An Am s) : Below w0.heap.size w0 w := h.ns.bel
theorem PS.et {w0 w : World} {p sb : Nat} {v : Value} {An Am : List (Int × Nat)} {s : NG} (h : PS w0 w p sb v An Am s) (hE : ET w0) : ET w := h.ns.et hE

/-- What is told of a place that isn't there. -/
theorem ns_bad {w0 w : World} {p sb : Nat} {v : Value} {A Am : List (Int × Nat)} {s : NG} (i : Int) (hi : i < 0 ∨ (A.length : Int) ≤ i) (h : PS w0 w p sb v A Am s) :
    (Calls Tryz.prog 9 #[.pointer (some ⟨p, 0, none⟩), .int .i64 i] w fun e w' => ∃ b, e = .returned (.tuple #[.agg zL.toArray, ev b]) ∧ ErrAt w' b i 40 ∧ PS w0 w' p sb v A Am s) ∧
    (Calls Tryz.prog 10 #[.pointer (some ⟨p, 0, none⟩), .int .i64 i] w fun e w' => ∃ b, e = .returned (ev b) ∧ ErrAt w' b i 40 ∧ PS w0 w' p sb v A Am s) ∧
    (Calls Tryz.prog 11 #[.pointer (some ⟨p, 0, none⟩), .int .i64 i] w fun e w' => ∃ b, e = .returned (ev b) ∧ ErrAt w' b i 40 ∧ PS w0 w' p sb v A Am s) := by
  obtain ⟨⟨vf, L, O, hx, hf, hO⟩, h2, h3⟩ := h.ns
  rw [← hf.1] at hi
  refine ⟨(take_bad i hx hi).mono ?_, (drop_bad i hx hi).mono ?_, (ncopy_bad i hx hi).mono ?_⟩
  · rintro e w' ⟨b, rfl, _, he, hb⟩
    exact ⟨b, rfl, he, h.below hb⟩
  · rintro e w' ⟨b, rfl, he, hb⟩
    exact ⟨b, rfl, he, h.below hb⟩
  · rintro e w' hh
    obtain ⟨b, rfl, he, hb⟩ : ∃ b, e = .returned (ev b) ∧ ErrAt w' b i 40 ∧ Below w.heap.size w w' := by
      obtain ⟨b, h1, h2⟩ := hh
      exact ⟨b, h1, by first | exact h2.1 | exact h2.2.1, by first | exact h2.2 | exact h2.2.2⟩
    exact ⟨b, rfl, he, h.below hb⟩
end Go.Proofs.YtahpfhnekmilmaaGreatDoor
