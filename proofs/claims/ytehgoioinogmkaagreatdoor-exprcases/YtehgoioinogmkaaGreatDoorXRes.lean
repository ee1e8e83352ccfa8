/- The document's expressions resolved: scope.expr. -/
import Derived.Test.YtehgoioinogmkaaGreatDoorXTyped6
import Derived.Test.YtehgoioinogmkaaGreatDoorJPlainLMath2LMath3XLex1XLex2NBigListOpsListOp2ListOp3
namespace Go.Proofs.YtehgoioinogmkaaGreatDoor
open Go.RowKit Go.Lib

/-- A column of the statements' own: its place, its type. -/
def colOf (tab nam : List UInt8) : Except Int (Nat × Int) :=
  if tab ≠ [] then .error 3 else if nam = [97] then .ok (0, 2) else if nam = [98] then .ok (1, 2) else if nam = [99] then .ok (2, 1) else if nam = [100] then .ok (3, 3) else if nam = [101] then .ok (4, 3) else .error 3
def ndR (a : Nd) (kids : Fo) (K : Except Int Fo) : Except Int Ex :=
  if a.kind = 1 then .ok ({ a with ty := a.vk }, kids)
  else if a.kind = 2 then (match colOf a.tab a.nam with | .error c => .error c | .ok p => .ok ({ a with at' := p.1, ty := p.2 }, kids))
  else if a.kind = 7 then .error 4
  else match K with | .error c => .error c | .ok G => typedS (a, G)
def resF : Fo → Except Int Fo
  | .nil => .ok .nil
  | .node _ _ a kids rest => match ndR a kids (resF kids) with
    | .error c => .error c
    | .ok x => match resF rest with
      | .error c => .error c
      | .ok G => .ok (Fo.cons x.1 x.2 G)
def resE (E : Ex) : Except Int Ex := ndR E.1 E.2 (resF E.2)
/-- The same over lists: what is done, what is left. -/
def resL : List Ex → Except Int (List Ex)
  | [] => .ok []
  | x :: l => match resE x with
    | .error c => .error c
    | .ok y => match resL l with
      | .error c => .error c
      | .ok r => .ok (y :: r)
theorem resF_L : ∀ F : Fo, resF F = (resL (toL F)).map foE
  | .nil => rfl
  | .node _ _ a kids rest => by
    rw [resF, resF_L rest]
    show _ = (resL ((a, kids) :: toL rest)).map foE
    rw [resL]
    show (match resE (a, kids) with | .error c => (.error c : Except Int Fo) | .ok x => _) = _
    cases resE (a, kids) with
    | error c => rfl
    | ok y => cases resL (toL rest) <;> rfl
/-- Kinds that are known so far: values, unary, binary, IN. -/
def simK (k : Int) : Bool := k == 1 || (k == 3 || (k == 4 || (k == 5 || k == 6)))
def simF : Fo → Bool
  | .nil => true
  | .node _ _ a kids rest => (simK a.kind && simF kids) && simF rest
def simE (E : Ex) : Bool := simK E.1.kind && simF E.2
theorem simF_get : ∀ (F : Fo) (i : Nat) (x : Ex), simF F = true → (toL F)[i]? = some x → simE x = true
  | .nil, i, x, _, h => by simp [toL] at h
  | .node _ _ a kids rest, 0, x, h, hx => by
    simp [toL] at hx
    subst hx
    simp only [simF, Bool.and_eq_true] at h
    simp only [simE, Bool.and_eq_true]
    exact h.1
  | .node _ _ a kids rest, i + 1, x, h, hx => by
    simp only [simF, Bool.and_eq_true] at h
    exact simF_get rest i x h.2 (by simpa [toL] using hx)
theorem isF_get : ∀ (F : Fo) (i : Nat) (x : Ex), isF F = true → (toL F)[i]? = some x → isE x = true
  | .nil, i, x, _, h => by simp [toL] at h
  | .node _ _ a kids rest, 0, x, h, hx => by
    simp [toL] at hx
    subst hx
    simp only [isF, Bool.and_eq_true] at h
    simp only [isE, Bool.and_eq_true]
    exact h.1
  | .node _ _ a kids rest, i + 1, x, h, hx => by
    simp only [isF, Bool.and_eq_true] at h
    exact isF_get rest i x h.2 (by simpa [toL] using hx)
/-- What the call has: its scope at b0, its expression at b1, what it will tell at b2. -/
structure RX (w wr : World) (b0 b1 b2 : Nat) (v0 v3 : Value) (n : Nd) (F : Fo) (a : Option Addr) (k : Nat) : Prop where
  sc : wr.heap[b0]? = some (.cells #[v0, .bool false, .bool false, v3, .bool true] 134 (0, 0))
  va : VrX wr b1 (ndC n (.slice a (cnt F) k))
  out : VrX wr b2 zL
  sl : SlAt wr (fun b => b < w.heap.size) (.slice a (cnt F) k) F
  low : Below w.heap.size w wr
  p0 : b0 = w.heap.size
  p1 : b1 = w.heap.size + 1
  p2 : b2 = w.heap.size + 2
section
variable {w wr w' : World} {b0 b1 b2 : Nat} {v0 v3 : Value} {n : Nd} {F : Fo} {a : Option Addr} {k : Nat}
theorem RX.own (h : RX w wr b0 b1 b2 v0 v3 n F a k) (hb : Below (b2 + 1) wr w') : RX w w' b0 b1 b2 v0 v3 n F a k := by
  have h0 := h.p0
  have h1 := h.p1
  have h2 := h.p2
  refine ⟨(hb.block b0 (by omega)).trans h.sc, h.va.keep (hb.block b1 (by omega)), h.out.keep (hb.block b2 (by omega)), h.sl.keep (fun b q _ => hb.block b (by omega)) (fun _ _ q => q), ⟨hb.os.trans h.low.os, hb.tape.trans h.low.tape, hb.output.trans h.low.output, Nat.le_trans h.low.size hb.size, fun b q => (hb.block b (by omega)).trans (h.low.block b q)⟩, h0, h1, h2⟩
theorem RX.below (h : RX w wr b0 b1 b2 v0 v3 n F a k) (hb : Below wr.heap.size wr w') : RX w w' b0 b1 b2 v0 v3 n F a k :=
  h.own ⟨hb.os, hb.tape, hb.output, hb.size, fun b q => hb.block b (by have := ltX h.out.1; omega)⟩
theorem RX.cells (h : RX w wr b0 b1 b2 v0 v3 n F a k) : wr.cell? ⟨b1, 0, none⟩ = some (.int .i64 n.kind) ∧ wr.cell? ⟨b1, 2, none⟩ = some (.int .i64 n.vk) ∧ wr.cell? ⟨b1, 7, none⟩ = some (.slice a (cnt F) k) ∧ wr.cell? ⟨b1, 9, none⟩ = some (.int .i64 n.ty) ∧ wr.frozen? ⟨b1, 9, none⟩ = false ∧ wr.frozen? ⟨b1, 7, none⟩ = false :=
  ⟨cellX h.va.1 0, cellX h.va.1 2, cellX h.va.1 7, cellX h.va.1 9, frzX h.va.1 9, frzX h.va.1 7⟩
theorem RX.new (h : SlAt w (fun b => b < w.heap.size) (.slice a (cnt F) k) F) : RX w (((w.alloc (.cells #[v0, .bool false, .bool false, v3, .bool true] 134)).alloc (.cells (ndC n (.slice a (cnt F) k)).toArray 29)).alloc (.cells zL.toArray 29)) w.heap.size (w.heap.size + 1) (w.heap.size + 2) v0 v3 n F a k := by
  have h0 : Below w.heap.size w (w.alloc (.cells #[v0, .bool false, .bool false, v3, .bool true] 134)) := alX (Below.refl _ _) _
  have z0 : (w.alloc (.cells #[v0, .bool false, .bool false, v3, .bool true] 134)).heap.size = w.heap.size + 1 := by simp
  have n0 := heap_alloc_new w (.cells #[v0, .bool false, .bool false, v3, .bool true] 134)
  generalize (w.alloc (.cells #[v0, .bool false, .bool false, v3, .bool true] 134)) = w1 at *
  have h1 : Below w1.heap.size w1 (w1.alloc (.cells (ndC n (.slice a (cnt F) k)).toArray 29)) := alX (Below.refl _ _) _
  have z1 : (w1.alloc (.cells (ndC n (.slice a (cnt F) k)).toArray 29)).heap.size = w.heap.size + 2 := by simp [z0]
  have n1 := VrX.new w1 (M := ndC n (.slice a (cnt F) k)) rfl
  rw [z0] at n1
  generalize (w1.alloc (.cells (ndC n (.slice a (cnt F) k)).toArray 29)) = w2 at *
  have h2 : Below w2.heap.size w2 (w2.alloc (.cells zL.toArray 29)) := alX (Below.refl _ _) _
  have n2 := VrX.new w2 (M := zL) rfl
  rw [z1] at n2
  refine ⟨(h2.block _ (by omega)).trans ((h1.block _ (by omega)).trans n0), n1.below h2, n2, ?_, trX (trX h0 h1) h2, rfl, rfl, rfl⟩
  exact h.keep (fun b q hl => (h2.block b (by omega)).trans ((h1.block b (by omega)).trans (h0.block b hl))) (fun _ _ q => q)
/-- A cell of the expression written. -/
theorem RX.set (h : RX w wr b0 b1 b2 v0 v3 n F a k) (i : Nat) (v : Value) : Below w.heap.size w (wr.setCell ⟨b1, i, none⟩ v) ∧ VrX (wr.setCell ⟨b1, i, none⟩ v) b2 zL ∧ (wr.setCell ⟨b1, i, none⟩ v).heap[b1]? = some (.cells ((ndC n (.slice a (cnt F) k)).toArray.setIfInBounds i v) 29 (0, 0)) ∧ ∀ j, j ≠ b1 → (wr.setCell ⟨b1, i, none⟩ v).heap[j]? = wr.heap[j]? := by
  have h1 := h.p1
  have h2 := h.p2
  have hk : ∀ j, j ≠ b1 → (wr.setCell ⟨b1, i, none⟩ v).heap[j]? = wr.heap[j]? := fun j hj => Below.heap_setCell wr ⟨b1, i, none⟩ _ j hj
  exact ⟨h.low.setCell (p := ⟨b1, i, none⟩) (by show _ ≤ b1; omega) _, h.out.keep (hk b2 (by omega)), setX h.va.1 i v, hk⟩
end
theorem slAt_nil {w w' : World} {Q Q' : Nat → Prop} {v : Value} (h : SlAt w Q v .nil) : SlAt w' Q' v .nil := by
  rcases h with ⟨_, c, hv⟩ | ⟨b, o, c, hv, h1, h2, _⟩
  · exact .inl ⟨rfl, c, hv⟩
  · exact .inr ⟨b, o, c, hv, h1, h2, trivial⟩
def resK (n : Nd) : Except Int (List Ex) → Except Int Ex
  | .error c => .error c
  | .ok G => typedS (n, foE G)
def joinR (acc : List Ex) : Except Int (List Ex) → Except Int (List Ex)
  | .error c => .error c
  | .ok l => .ok (acc ++ l)
theorem joinR_cons {x Y : Ex} {acc l : List Ex} (h : resE x = .ok Y) : joinR acc (resL (x :: l)) = joinR (acc ++ [Y]) (resL l) := by
  rw [resL, h]
  cases resL l with
  | error c => rfl
  | ok r => simp [joinR]
/-- The loop over the arguments. -/
structure RLX (w wr : World) (b0 b1 b2 : Nat) (v0 v3 : Value) (n : Nd) (F : Fo) (a : Option Addr) (k : Nat) (ar : Option Addr) (m kr : Nat) (Es : List (List Value × Ex)) (R : Except Int (List Ex)) (i : Nat) : Prop where
  rx : RX w wr b0 b1 b2 v0 v3 n F a k
  row : OE (b2 + 1) wr ar m kr Es
  eq : R = joinR (Es.map (·.2)) (resL ((toL F).drop i))
  im : m = i
theorem RLX.below {w wr w' : World} {b0 b1 b2 : Nat} {v0 v3 : Value} {n : Nd} {F : Fo} {a : Option Addr} {k : Nat} {ar : Option Addr} {m kr : Nat} {Es : List (List Value × Ex)} {R : Except Int (List Ex)} {i : Nat} (h : RLX w wr b0 b1 b2 v0 v3 n F a k ar m kr Es R i) (hb : Below wr.heap.size wr w') : RLX w w' b0 b1 b2 v0 v3 n F a k ar m kr Es R i :=
  ⟨h.rx.below hb, h.row.keep (fun b _ hl => hb.block b hl), h.eq, h.im⟩
theorem below_setCells {B : Nat} {a w : World} {b : Nat} (h : Below B a w) (hb : B ≤ b) (o : Nat) (vs : List Value) : Below B a (w.setCells b o vs) := by
  obtain ⟨e1, e2, e3, e4⟩ := setCells_env b vs o w
  exact ⟨e1.trans h.os, e2.trans h.tape, e3.trans h.output, by rw [e4]; exact h.size, fun j hj => (setCells_heap b vs o w j (by omega)).trans (h.block j hj)⟩
theorem sizeSc : (Tryz.prog.info? 134).map (·.size) = some 5 := by kernel_rfl
theorem sc_range {w : World} {b0 : Nat} {v0 v3 : Value} (h : w.heap[b0]? = some (.cells #[v0, .bool false, .bool false, v3, .bool true] 134 (0, 0))) : w.rangeAt b0 0 [v0, .bool false, .bool false, v3, .bool true] := fun j v hv => by
  rw [Nat.zero_add, cellX h]
  simpa using hv
theorem zeroEx : (Tryz.prog.info? 29).map (fun i => (i.zero, i.size)) = some (some (.agg zL.toArray), 10) := by kernel_rfl
theorem typedS_err {E : Ex} {c : Int} (h : typedS E = .error c) : c = 4 := by
  unfold typedS at h
  split at h
  · cases h
  · injection h with h; exact h.symm
theorem colOf_err {s t : List UInt8} {c : Int} (h : colOf s t = .error c) : c = 3 := by
  unfold colOf at h
  repeat' split at h
  all_goals first | (cases h; done) | (cases h; rfl)
theorem ndR_err {a : Nd} {kids : Fo} {K : Except Int Fo} {c : Int} (hK : ∀ d, K = .error d → d = 3 ∨ d = 4) (h : ndR a kids K = .error c) : c = 3 ∨ c = 4 := by
  unfold ndR at h
  split at h
  · cases h
  split at h
  · cases hc : colOf a.tab a.nam with
    | error d =>
      rw [hc] at h
      injection h with h
      exact .inl (h ▸ colOf_err hc)
    | ok p => rw [hc] at h; cases h
  split at h
  · injection h with h; exact .inr h.symm
  cases K with
  | error d => injection h with h; exact h ▸ hK d rfl
  | ok G => exact .inr (typedS_err h)
theorem resF_err : ∀ (F : Fo) (c : Int), resF F = .error c → c = 3 ∨ c = 4
  | .nil, c, h => by cases h
  | .node _ _ a kids rest, c, h => by
    rw [resF] at h
    cases h1 : ndR a kids (resF kids) with
    | error d =>
      rw [h1] at h
      injection h with h
      exact h ▸ ndR_err (fun d hd => resF_err kids d hd) h1
    | ok x =>
      rw [h1] at h
      cases h2 : resF rest with
      | error d =>
        simp only [h2] at h
        injection h with h
        exact h ▸ resF_err rest d h2
      | ok G => simp only [h2] at h; cases h
theorem resE_err (E : Ex) (c : Int) (h : resE E = .error c) : c = 3 ∨ c = 4 := ndR_err (fun d hd => resF_err E.2 d hd) h
def RsC (m : Nat) : Prop := ∀ (w : World) (M : List Value) (E : Ex) (v0 v3 : Value), v0.oneCell' = true → v3.oneCell' = true → ExM w (fun b => b < w.heap.size) M E → simE E = true → isE E = true → szF E.2 < m → Calls Tryz.prog 53 #[.agg #[v0, .bool false, .bool false, v3, .bool true], .agg M.toArray] w (ReP (fun b => w.heap.size ≤ b) w (resE E))
set_option linter.unusedSimpArgs false in
set_option linter.unusedVariables false in
set_option maxHeartbeats 12800000 in
set_option maxRecDepth 100000 in
theorem res_step (mm : Nat) (ih : RsC mm) : RsC (mm + 1) := by
  intro w M E v0 v3 hv0 hv3 h hsim his hsz
  have hlM := h.len
  obtain ⟨args, rfl, hs⟩ := h
  obtain ⟨n, F⟩ := E
  dsimp only at hs hlM hsz ⊢
  obtain ⟨a, k, rfl⟩ := slAt_slice hs
  have hcnt := slAt_cnt hs
  have hcI : (cnt F : Int) ≤ 9223372036854775807 := by unfold maxLen at hcnt; omega
  have HX0 := hide (RX.new (v0 := v0) (v3 := v3) (n := n) hs)
  simp only [simE, Bool.and_eq_true] at hsim
  simp only [isE, Bool.and_eq_true] at his
  have HIS := hide his
  have HSI := hide hsim
  have HSZ := hide hsz
  obtain ⟨M, hM⟩ : ∃ M, M = ndC n (.slice a (cnt F) k) := ⟨_, rfl⟩
  obtain ⟨R, hR⟩ : ∃ R, R = resE (n, F) := ⟨_, rfl⟩
  have HRE := hide hR
  obtain ⟨PP, hPP⟩ : ∃ PP, PP = ReP (fun b => w.heap.size ≤ b) w R := ⟨_, rfl⟩
  have HPP := hide hPP
  have HMM := hide hM
  rw [← hM] at hlM HX0 ⊢
  rw [← hR, ← hPP]
  have hkk : n.kind = 1 ∨ (n.kind ≠ 1 ∧ n.kind ≠ 2 ∧ n.kind ≠ 7 ∧ (n.kind = 3 ∨ n.kind = 4 ∨ n.kind = 5 ∨ n.kind = 6)) := by
    have h := hsim.1
    simp only [simK, Bool.or_eq_true, beq_iff_eq] at h
    omega
  clear hM hR hs hPP hsim his hsz
  unfold zL at HX0
  go_enter Tryz.func53, Tryz.ntmps53
  go_upto_region 1 with fail
  obtain ⟨w1, hw1⟩ : ∃ w1, w1 = ((w.alloc (.cells #[v0, .bool false, .bool false, v3, .bool true] 134)).alloc (.cells M.toArray 29)).alloc (.cells zL.toArray 29) := ⟨_, rfl⟩
  unfold zL at hw1
  rw [← hw1] at HX0
  rw [← hw1]
  clear hw1
  have hz2 : w.heap.size + 1 + 1 = w.heap.size + 2 := rfl
  try rw [hz2]
  obtain ⟨b0, hb0⟩ : ∃ b0, b0 = w.heap.size := ⟨_, rfl⟩
  obtain ⟨b1, hb1⟩ : ∃ b1, b1 = w.heap.size + 1 := ⟨_, rfl⟩
  obtain ⟨b2, hb2⟩ : ∃ b2, b2 = w.heap.size + 2 := ⟨_, rfl⟩
  rw [← hb2, ← hb1, ← hb0] at HX0
  rw [← hb2, ← hb1, ← hb0]
  clear hz2
  have HBB := hide (And.intro hb0 (And.intro hb1 hb2))
  clear hb0 hb1 hb2
  obtain ⟨c0, c2, c7, c9, f9, f7⟩ := (unhide HX0).cells
  rcases hkk with hk | ⟨hk1, hk2, hk7, hk⟩
  · skip
    as_aux_lemma =>
      have HR : Hid (R = .ok ({ n with ty := n.vk }, F)) := by
        show R = _
        rw [unhide HRE]
        show ndR n F _ = _
        unfold ndR
        rw [if_pos hk]
      have HN : Hid (F = .nil) := by
        have h := (unhide HIS).2
        unfold isNd at h
        rw [if_pos hk] at h
        simp only [Bool.and_eq_true, beq_iff_eq] at h
        have h2 := h.2.2.1
        show F = _
        cases hF : F with
        | nil => rfl
        | node _ _ _ _ _ => rw [hF] at h2; exact absurd h2 (Nat.succ_ne_zero _)
      rw [hk] at c0
      clear HSI HSZ
      go_upto_region 4 with fail
      obtain ⟨hlow, hout, hva, hkeep⟩ := (unhide HX0).set 9 (.int .i64 n.vk)
      have hva' : VrX (w1.setCell ⟨b1, 9, none⟩ (.int .i64 n.vk)) b1 (ndC { n with ty := n.vk } (.slice a (cnt F) k)) := ⟨by rw [hva]; rfl, rfl⟩
      obtain ⟨w2, hw2⟩ : ∃ w2, w2 = w1.setCell ⟨b1, 9, none⟩ (.int .i64 n.vk) := ⟨_, rfl⟩
      rw [← hw2] at hlow hout hva'
      rw [← hw2]
      clear hw2 hva hkeep
      refine wp_region_list ?_
      refine wpList_load_mid rfl 29 (.tmp 3) rfl b1 0 rfl (ndC { n with ty := n.vk } (.slice a (cnt F) k)) _ hva'.range Tryz.underlying29 rfl sizeEx ?_
      simp only [Act.put, sA, sB, sC]
      refine wpList_store_mid rfl 29 (.tmp 4) (.tmp 18) rfl b2 0 (ndC { n with ty := n.vk } (.slice a (cnt F) k)).toArray rfl rfl hout.there sizeEx (all_oneCell_toArray (ndC_one rfl)) ?_
      show wpList _ _ _ _ _ (w2.setCells b2 0 (ndC { n with ty := n.vk } (.slice a (cnt F) k)))
      simp only [Act.put, sA, sB, sC]
      refine list_to (d := 5) (v := .int .i64 0) rfl rfl (by kernel_rfl) ?_
      simp only [Act.put, sA, sB, sC]
      go_wp2_with fail
      have hs := hout.set (M' := (ndC { n with ty := n.vk } (.slice a (cnt F) k))) rfl
      refine bodyPost_ret (hs.result2 rfl _ rfl) rfl ?_
      rw [unhide HPP, unhide HR]
      obtain ⟨e1, e2, e3, e4⟩ := setCells_env b2 (ndC { n with ty := n.vk } (.slice a (cnt F) k)) 0 w2
      have h2 := (unhide HX0).p2
      refine ⟨⟨e1.trans hlow.os, e2.trans hlow.tape, e3.trans hlow.output, by rw [e4]; exact hlow.size, fun b hb => (setCells_heap b2 (ndC { n with ty := n.vk } (.slice a (cnt F) k)) 0 w2 b (by omega)).trans (hlow.block b hb)⟩, _, rfl, _, rfl, ?_⟩
      have hsl := (unhide HX0).sl
      rw [unhide HN] at hsl ⊢
      exact slAt_nil hsl
  · skip
    have e1 : (n.kind == 1) = false := beq_eq_false_iff_ne.2 hk1
    have e2 : (n.kind == 2) = false := beq_eq_false_iff_ne.2 hk2
    have e7 : (n.kind == 7) = false := beq_eq_false_iff_ne.2 hk7
    have HKI := hide hk
    have HCN : Hid (cnt F ≤ 21) := by
      have h := (unhide HIS).2
      have hk := unhide HKI
      show cnt F ≤ 21
      unfold isNd at h
      simp only [Bool.and_eq_true] at h
      have h2 := h.2
      rcases hk with hk | hk | hk | hk <;> rw [hk] at h2 <;> simp at h2 <;> omega
    obtain ⟨RL, hRL⟩ : ∃ RL, RL = resL (toL F) := ⟨_, rfl⟩
    have HR : Hid (R = resK n RL) := by
      show R = _
      rw [unhide HRE, hRL]
      show ndR n F _ = _
      unfold ndR
      rw [if_neg hk1, if_neg hk2, if_neg hk7, resF_L]
      cases resL (toL F) <;> rfl
    have HL0 : Hid (RLX w w1 b0 b1 b2 v0 v3 n F a k none 0 0 [] RL 0) := ⟨unhide HX0, ⟨⟨rfl, .inl ⟨rfl, rfl⟩⟩, rfl, fun _ h => by cases h⟩, by rw [List.drop_zero, ← hRL]; cases RL <;> rfl, rfl⟩
    clear hk1 hk2 hk7 hk hRL c7 c9 f9 f7 HRE
    go_wp2_with fail
    clear e1 e2 e7 c0 HX0
    go_loopg [6, 7, 8, 9] (cnt F) (fun g s6 s7 s8 s9 wr => ∃ (i : Nat) (ar : Option Addr) (kr : Nat) (Es : List (List Value × Ex)), g = cnt F - i ∧ s6 = .slice ar i kr ∧ s7 = .int .i64 (i : Int) ∧ i ≤ cnt F ∧ Hid (RLX w wr b0 b1 b2 v0 v3 n F a k ar i kr Es RL i))
    case atStart => exact ⟨0, none, 0, [], rfl, rfl, rfl, Nat.zero_le _, HL0⟩
    case round =>
      obtain ⟨i, ar, kr, Es, rfl, rfl, rfl, hi, HG⟩ := hrel
      clear HL0
      obtain ⟨c0, c2, c7, c9, f9, f7⟩ := (unhide HG).rx.cells
      clear c0 c2 c9 f9 f7
      have hi0 : (0 : Int) ≤ (i : Int) := by omega
      by_cases hlt : i < cnt F
      · have hiI : (i : Int) < (cnt F : Int) := by omega
        go_upto_region 15 with fail
        skip
        obtain ⟨x, hx⟩ : ∃ x, (toL F)[i]? = some x := ⟨_, List.getElem?_eq_getElem (by rw [← cnt_toL]; exact hlt)⟩
        rcases (unhide HG).rx.sl with ⟨hf, _⟩ | ⟨bq, oq, cq, he, hc1, hc2, hrow⟩
        · rw [hf] at hlt; exact absurd hlt (Nat.not_lt_zero _)
        injection he with q1 _ q3
        subst q1
        subst q3
        obtain ⟨N0, hN, hrg, hbq⟩ := row_nth F i bq oq x hrow hx
        have hdr : (toL F).drop i = x :: (toL F).drop (i + 1) := by
          rw [List.getElem?_eq_some_iff] at hx
          obtain ⟨hx1, hx2⟩ := hx
          rw [List.drop_eq_getElem_cons hx1, hx2]
        have HEQ : Hid (RL = joinR (Es.map (·.2)) (resL (x :: (toL F).drop (i + 1)))) := by
          show RL = _
          rw [← hdr]
          exact (unhide HG).eq
        have hlN0 := hN.len
        have HRG := hide hrg
        have HAP : Hid (∀ b, wr.heap.size ≤ b → b2 + 1 ≤ b ∧ (Value.slice ar i kr).ownBlock ≠ some b) := fun b hb => ⟨by have := ltX (unhide HG).rx.out.1; omega, fun e => by have := ((unhide HG).row.own b e).2; omega⟩
        have HC : Hid (∀ W, Below wr.heap.size wr W → Calls Tryz.prog 53 #[.agg #[v0, .bool false, .bool false, v3, .bool true], .agg N0.toArray] W (ReP (fun b => W.heap.size ≤ b) W (resE x))) := fun W hb => ih W N0 x v0 v3 hv0 hv3 (hN.keep (fun b _ hl => hb.block b hl) (fun b hl _ => Nat.lt_of_lt_of_le hl hb.size)) (simF_get F i x (unhide HSI).2 hx) (isF_get F i x (unhide HIS).1 hx) (by have h1 := szF_get F i x hx; have h2 := unhide HSZ; omega)
        clear hx hdr hN hrg hrow hbq hc1 hc2
        cases hy : resE x with
        | error c =>
          have HY := hide hy
          clear hy
          skip
          go_cut [8, 9] from 41 to 50 (fun s8 s9 wx => ∃ (b8 : Nat) (N : List Value), s8 = .pointer (some ⟨b8, 0, none⟩) ∧ s9 = .int .i64 c ∧ Hid (VrX wx b8 N ∧ RLX w wx b0 b1 b2 v0 v3 n F (some ⟨bq, oq, none⟩) k ar i kr Es RL i ∧ N = zL))
          case first =>
            as_aux_lemma =>
              refine wp_region_held_drew (S := fun w' => w'.heap[b0]? = some (.cells #[v0, .bool false, .bool false, v3, .bool true] 134 (0, 0)) ∧ w'.cell? ⟨b1, 7, none⟩ = some (.slice (some ⟨bq, oq, none⟩) (cnt F) k) ∧ w'.rangeAt bq (oq + 10 * i) N0) (by kernel_rfl) ⟨((Below.refl wr.heap.size wr).drew.block b0 (ltX (unhide HG).rx.sc)).trans (unhide HG).rx.sc, ((Below.refl wr.heap.size wr).drew.cell (p := ⟨b1, 7, none⟩) (ltX (unhide HG).rx.va.1)).trans c7, rangeAt_blk (unhide HRG) (fun hl => (Below.refl wr.heap.size wr).drew.block bq hl) (by intro e; rw [e] at hlN0; cases hlN0)⟩ (fun hHeld => ?_)
              refine hand_to (i := 0) (d := 42) (v := .agg [v0, .bool false, .bool false, v3, .bool true].toArray) rfl rfl (by kernel_rfl) (by kernel_rfl) (by kernel_rfl) (fun _ _ _ h => h) (yieldsIf_load_mid (by rfl) 134 (.tmp 2) rfl b0 (0) rfl [v0, .bool false, .bool false, v3, .bool true] _ (fun w' hw => sc_range hw.1) Tryz.underlying134 rfl (sizeSc)) hHeld ?_
              simp only [Act.put, sA, sB, sC]
              refine hand_to (i := 1) (d := 43) (v := (.pointer (some ⟨b1, 7, none⟩))) rfl rfl (by kernel_rfl) (by kernel_rfl) (by kernel_rfl) (fun _ _ _ h => h) (Or.inl ⟨by rfl, ?_⟩) hHeld ?_
              · (intro w' hSw; obtain ⟨hS1, hS2, hS3⟩ := hSw; go_simp)
              simp only [Act.put, sA, sB, sC]
              refine hand_to (i := 2) (d := 44) (v := (.slice (some ⟨bq, oq, none⟩) (cnt F) k)) rfl rfl (by kernel_rfl) (by kernel_rfl) (by kernel_rfl) (fun _ _ _ h => h) (Or.inl ⟨by rfl, ?_⟩) hHeld ?_
              · (intro w' hSw; obtain ⟨hS1, hS2, hS3⟩ := hSw; go_simp)
              simp only [Act.put, sA, sB, sC]
              refine hand_to (i := 3) (d := 45) (v := (.int .i64 (i : Int))) rfl rfl (by kernel_rfl) (by kernel_rfl) (by kernel_rfl) (fun _ _ _ h => h) (Or.inl ⟨by rfl, ?_⟩) hHeld ?_
              · (intro w' hSw; obtain ⟨hS1, hS2, hS3⟩ := hSw; go_simp)
              simp only [Act.put, sA, sB, sC]
              refine hand_to (i := 4) (d := 46) (v := (.pointer (some ⟨bq, oq + 10 * i, none⟩))) rfl rfl (by kernel_rfl) (by kernel_rfl) (by kernel_rfl) (fun _ _ _ h => h) (Or.inl ⟨by rfl, ?_⟩) hHeld ?_
              · (intro w' hSw; obtain ⟨hS1, hS2, hS3⟩ := hSw; go_simp)
              simp only [Act.put, sA, sB, sC]
              refine hand_to (i := 5) (d := 47) (v := .agg N0.toArray) rfl rfl (by kernel_rfl) (by kernel_rfl) (by kernel_rfl) (fun _ _ _ h => h) (yieldsIf_load_mid (by rfl) 29 (.tmp 46) rfl bq (oq + 10 * i) rfl N0 _ (fun w' hw => hw.2.2) Tryz.underlying29 rfl (by rw [hlN0]; exact sizeEx)) hHeld ?_
              simp only [Act.put, sA, sB, sC]
              refine any_two (i := 6) (j := 10) (by kernel_rfl) rfl rfl (fun K hK => ?_) (fun K hK => ?_)
              · rw [if_pos (by rfl)]
                refine op_call (some 48) rfl 53 #[.agg #[v0, .bool false, .bool false, v3, .bool true], .agg N0.toArray] (by kernel_rfl) (unhide HC wr.drew (Below.refl _ _).drew) ?_
                rw [unhide HY]
                rintro e w2 ⟨hb2, rfl⟩
                refine ⟨_, rfl, ?_⟩
                have hlN : zL.length = 10 := rfl
                have hzN : zL.toArray.size = 10 := by simpa using hlN
                have hbw : Below wr.heap.size wr w2 := (Below.refl wr.heap.size wr).drew.trans hb2
                refine hK.out _ _ ⟨(hbw.block b0 (ltX (unhide HG).rx.sc)).trans (unhide HG).rx.sc, (hbw.cell (p := ⟨b1, 7, none⟩) (ltX (unhide HG).rx.va.1)).trans c7, rangeAt_blk (unhide HRG) (fun hl => hbw.block bq hl) (by intro e; rw [e] at hlN0; cases hlN0)⟩ (fun hHeld2 => ?_)
                clear hK K hHeld
                have hHeld := hHeld2
                clear hHeld2
                try simp only [Act.put, sA, sB, sC]
                refine hand_to (i := 7) (d := 41) (v := (.tuple #[.agg zL.toArray, .int .i64 c])) rfl rfl (by kernel_rfl) (by kernel_rfl) (by kernel_rfl) (fun _ _ _ h => h) (Or.inl ⟨by rfl, ?_⟩) hHeld ?_
                · (intro w' hSw; obtain ⟨hS1, hS2, hS3⟩ := hSw; kernel_rfl)
                simp only [Act.put, sA, sB, sC]
                refine hand_to (i := 8) (d := 49) (v := (.agg zL.toArray)) rfl rfl (by kernel_rfl) (by kernel_rfl) (by kernel_rfl) (fun _ _ _ h => h) (Or.inl ⟨by rfl, ?_⟩) hHeld ?_
                · (intro w' hSw; obtain ⟨hS1, hS2, hS3⟩ := hSw; kernel_rfl)
                simp only [Act.put, sA, sB, sC]
                refine hand_to (i := 9) (d := 50) (v := (.int .i64 c)) rfl rfl (by kernel_rfl) (by kernel_rfl) (by kernel_rfl) (fun _ _ _ h => h) (Or.inl ⟨by rfl, ?_⟩) hHeld ?_
                · (intro w' hSw; obtain ⟨hS1, hS2, hS3⟩ := hSw; kernel_rfl)
                simp only [Act.put, sA, sB, sC]
                refine wpAnyH_ready (rs := [10]) (by kernel_rfl) (by simp) ?_
                refine AllReadyH.cons rfl (fun K hK => ?_) AllReadyH.nil
                rw [if_pos (by rfl)]
                refine op_new (some 8) rfl 29 rfl zL.toArray (zero_of_info zeroEx).1 ?_
                have hal : Below w2.heap.size w2 (w2.alloc (.cells zL.toArray 29)) := alX (Below.refl _ _) _
                have hbw3 : Below wr.heap.size wr (w2.alloc (.cells zL.toArray 29)) := trX hbw hal
                refine hK.out _ _ ⟨(hbw3.block b0 (ltX (unhide HG).rx.sc)).trans (unhide HG).rx.sc, (hbw3.cell (p := ⟨b1, 7, none⟩) (ltX (unhide HG).rx.va.1)).trans c7, rangeAt_blk (unhide HRG) (fun hl => hbw3.block bq hl) (by intro e; rw [e] at hlN0; cases hlN0)⟩ (fun hHeld2 => ?_)
                clear hK K hHeld
                have hHeld := hHeld2
                clear hHeld2
                try simp only [Act.put, sA, sB, sC]
                refine wpAnyH_ready (rs := [11]) (by kernel_rfl) (by simp) ?_
                refine AllReadyH.cons rfl (fun K hK => ?_) AllReadyH.nil
                rw [if_pos (by rfl)]
                have hvn := VrX.new w2 (M := zL) rfl
                refine op_store rfl 29 (.tmp 8) (.tmp 49) rfl w2.heap.size 0 zL rfl rfl (by rw [hzN]; exact hvn.there) (by rw [hzN]; exact sizeEx) (all_oneCell_toArray (by decide)) ?_
                have hbw4 : Below wr.heap.size wr ((w2.alloc (.cells zL.toArray 29)).setCells w2.heap.size 0 zL) := below_setCells hbw3 hbw.size 0 zL
                refine hK.out _ _ ⟨(hbw4.block b0 (ltX (unhide HG).rx.sc)).trans (unhide HG).rx.sc, (hbw4.cell (p := ⟨b1, 7, none⟩) (ltX (unhide HG).rx.va.1)).trans c7, rangeAt_blk (unhide HRG) (fun hl => hbw4.block bq hl) (by intro e; rw [e] at hlN0; cases hlN0)⟩ (fun hHeld2 => ?_)
                clear hK K hHeld
                have hHeld := hHeld2
                clear hHeld2
                try simp only [Act.put, sA, sB, sC]
                refine hand_to (i := 12) (d := 9) (v := (.int .i64 c)) rfl rfl (by kernel_rfl) (by kernel_rfl) (by kernel_rfl) (fun _ _ _ h => h) (Or.inl ⟨by rfl, ?_⟩) hHeld ?_
                · (intro w' hSw; obtain ⟨hS1, hS2, hS3⟩ := hSw; kernel_rfl)
                simp only [Act.put, sA, sB, sC]
                refine wpAnyH_done (by kernel_rfl) ?_ _
                go_wp2_with fail
                go_meet
                refine ⟨w2.heap.size, zL, rfl, ?_, hide ⟨hvn.set hlN, (unhide HG).below hbw4, ?_⟩⟩
                · rfl
                · rfl
              · rw [if_pos (by rfl)]
                refine op_new (some 8) rfl 29 rfl zL.toArray (zero_of_info zeroEx).1 ?_
                have hal : Below wr.heap.size wr (wr.drew.alloc (.cells zL.toArray 29)) := alX (Below.refl wr.heap.size wr).drew _
                have hz8 : (wr.drew.alloc (.cells zL.toArray 29)).heap.size = wr.heap.size + 1 := by simp
                have hvn := VrX.new wr.drew (M := zL) rfl
                refine hK.out _ _ ⟨(hal.block b0 (ltX (unhide HG).rx.sc)).trans (unhide HG).rx.sc, (hal.cell (p := ⟨b1, 7, none⟩) (ltX (unhide HG).rx.va.1)).trans c7, rangeAt_blk (unhide HRG) (fun hl => hal.block bq hl) (by intro e; rw [e] at hlN0; cases hlN0)⟩ (fun hHeld2 => ?_)
                clear hK K hHeld
                have hHeld := hHeld2
                clear hHeld2
                try simp only [Act.put, sA, sB, sC]
                refine wpAnyH_ready (rs := [6]) (by kernel_rfl) (by simp) ?_
                refine AllReadyH.cons rfl (fun K hK => ?_) AllReadyH.nil
                rw [if_pos (by rfl)]
                refine op_call (some 48) rfl 53 #[.agg #[v0, .bool false, .bool false, v3, .bool true], .agg N0.toArray] (by kernel_rfl) (unhide HC (wr.drew.alloc (.cells zL.toArray 29)) hal) ?_
                rw [unhide HY]
                rintro e w2 ⟨hb2, rfl⟩
                refine ⟨_, rfl, ?_⟩
                have hlN : zL.length = 10 := rfl
                have hzN : zL.toArray.size = 10 := by simpa using hlN
                have hbw : Below wr.heap.size wr w2 := trX hal hb2
                have hv2 : VrX w2 wr.heap.size zL := hvn.below hb2
                refine hK.out _ _ ⟨(hbw.block b0 (ltX (unhide HG).rx.sc)).trans (unhide HG).rx.sc, (hbw.cell (p := ⟨b1, 7, none⟩) (ltX (unhide HG).rx.va.1)).trans c7, rangeAt_blk (unhide HRG) (fun hl => hbw.block bq hl) (by intro e; rw [e] at hlN0; cases hlN0)⟩ (fun hHeld2 => ?_)
                clear hK K hHeld
                have hHeld := hHeld2
                clear hHeld2
                try simp only [Act.put, sA, sB, sC]
                refine hand_to (i := 7) (d := 41) (v := (.tuple #[.agg zL.toArray, .int .i64 c])) rfl rfl (by kernel_rfl) (by kernel_rfl) (by kernel_rfl) (fun _ _ _ h => h) (Or.inl ⟨by rfl, ?_⟩) hHeld ?_
                · (intro w' hSw; obtain ⟨hS1, hS2, hS3⟩ := hSw; kernel_rfl)
                simp only [Act.put, sA, sB, sC]
                refine hand_to (i := 8) (d := 49) (v := (.agg zL.toArray)) rfl rfl (by kernel_rfl) (by kernel_rfl) (by kernel_rfl) (fun _ _ _ h => h) (Or.inl ⟨by rfl, ?_⟩) hHeld ?_
                · (intro w' hSw; obtain ⟨hS1, hS2, hS3⟩ := hSw; kernel_rfl)
                simp only [Act.put, sA, sB, sC]
                refine hand_to (i := 9) (d := 50) (v := (.int .i64 c)) rfl rfl (by kernel_rfl) (by kernel_rfl) (by kernel_rfl) (fun _ _ _ h => h) (Or.inl ⟨by rfl, ?_⟩) hHeld ?_
                · (intro w' hSw; obtain ⟨hS1, hS2, hS3⟩ := hSw; kernel_rfl)
                simp only [Act.put, sA, sB, sC]
                refine wpAnyH_ready (rs := [11]) (by kernel_rfl) (by simp) ?_
                refine AllReadyH.cons rfl (fun K hK => ?_) AllReadyH.nil
                rw [if_pos (by rfl)]
                refine op_store rfl 29 (.tmp 8) (.tmp 49) rfl wr.heap.size 0 zL rfl rfl (by rw [hzN]; exact hv2.there) (by rw [hzN]; exact sizeEx) (all_oneCell_toArray (by decide)) ?_
                have hbw4 : Below wr.heap.size wr (w2.setCells wr.heap.size 0 zL) := below_setCells hbw (Nat.le_refl _) 0 zL
                refine hK.out _ _ ⟨(hbw4.block b0 (ltX (unhide HG).rx.sc)).trans (unhide HG).rx.sc, (hbw4.cell (p := ⟨b1, 7, none⟩) (ltX (unhide HG).rx.va.1)).trans c7, rangeAt_blk (unhide HRG) (fun hl => hbw4.block bq hl) (by intro e; rw [e] at hlN0; cases hlN0)⟩ (fun hHeld2 => ?_)
                clear hK K hHeld
                have hHeld := hHeld2
                clear hHeld2
                try simp only [Act.put, sA, sB, sC]
                refine hand_to (i := 12) (d := 9) (v := (.int .i64 c)) rfl rfl (by kernel_rfl) (by kernel_rfl) (by kernel_rfl) (fun _ _ _ h => h) (Or.inl ⟨by rfl, ?_⟩) hHeld ?_
                · (intro w' hSw; obtain ⟨hS1, hS2, hS3⟩ := hSw; kernel_rfl)
                simp only [Act.put, sA, sB, sC]
                refine wpAnyH_done (by kernel_rfl) ?_ _
                go_wp2_with fail
                go_meet
                refine ⟨wr.heap.size, zL, rfl, ?_, hide ⟨hv2.set hlN, (unhide HG).below hbw4, ?_⟩⟩
                · rfl
                · rfl
          case rest =>
            obtain ⟨b8, N, rfl, rfl, HZ⟩ := hcut
            have hz := unhide HZ
            clear HC HRG HG c7
            have HF : Hid (R = .error c) := by
              show R = _
              rw [unhide HR, unhide HEQ]
              unfold resL
              rw [unhide HY]
              rfl
            have hc0 : (c != 0) = true := by
              have := resE_err x c (unhide HY)
              simp; omega
            have hout := (unhide HZ).2.1.rx.out
            have hlow := (unhide HZ).2.1.rx.low
            have H2 := hide (unhide HZ).2.1.rx.p2
            have hcE : (c = 0) = False := eq_false (by have := resE_err x c (unhide HY); omega)
            clear hz
            go_upto_region 17 with fail
            refine wp_region_list ?_
            refine list_to (d := 53) (v := .agg zL.toArray) rfl rfl (by kernel_rfl) ?_
            simp only [Act.put, sA, sB, sC]
            refine list_to (d := 54) (v := .int .i64 c) rfl rfl (by kernel_rfl) ?_
            simp only [Act.put, sA, sB, sC]
            refine wpList_store_mid rfl 29 (.tmp 4) (.tmp 53) rfl b2 0 zL.toArray rfl rfl hout.there sizeEx (all_oneCell_toArray (by decide)) ?_
            show wpList _ _ _ _ _ (wc.setCells b2 0 zL)
            simp only [Act.put, sA, sB, sC]
            refine list_to (d := 5) (v := .int .i64 c) rfl rfl (by kernel_rfl) ?_
            simp only [Act.put, sA, sB, sC]
            go_wp2_with fail
            have hs := hout.set (M' := zL) rfl
            refine bodyPost_ret (hs.result2 rfl _ rfl) rfl ?_
            rw [unhide HPP, unhide HF]
            exact ⟨below_setCells hlow (by have h2 := unhide H2; omega) 0 zL, rfl⟩
        | ok Y =>
          have HY := hide hy
          clear hy
          skip
          go_cut [8, 9] from 41 to 50 (fun s8 s9 wx => ∃ (b8 : Nat) (N : List Value), s8 = .pointer (some ⟨b8, 0, none⟩) ∧ s9 = .int .i64 0 ∧ Hid (VrX wx b8 N ∧ RLX w wx b0 b1 b2 v0 v3 n F (some ⟨bq, oq, none⟩) k ar i kr Es RL i ∧ ExM wx (fun b => wr.heap.size ≤ b) N Y))
          case first =>
            as_aux_lemma =>
              refine wp_region_held_drew (S := fun w' => w'.heap[b0]? = some (.cells #[v0, .bool false, .bool false, v3, .bool true] 134 (0, 0)) ∧ w'.cell? ⟨b1, 7, none⟩ = some (.slice (some ⟨bq, oq, none⟩) (cnt F) k) ∧ w'.rangeAt bq (oq + 10 * i) N0) (by kernel_rfl) ⟨((Below.refl wr.heap.size wr).drew.block b0 (ltX (unhide HG).rx.sc)).trans (unhide HG).rx.sc, ((Below.refl wr.heap.size wr).drew.cell (p := ⟨b1, 7, none⟩) (ltX (unhide HG).rx.va.1)).trans c7, rangeAt_blk (unhide HRG) (fun hl => (Below.refl wr.heap.size wr).drew.block bq hl) (by intro e; rw [e] at hlN0; cases hlN0)⟩ (fun hHeld => ?_)
              refine hand_to (i := 0) (d := 42) (v := .agg [v0, .bool false, .bool false, v3, .bool true].toArray) rfl rfl (by kernel_rfl) (by kernel_rfl) (by kernel_rfl) (fun _ _ _ h => h) (yieldsIf_load_mid (by rfl) 134 (.tmp 2) rfl b0 (0) rfl [v0, .bool false, .bool false, v3, .bool true] _ (fun w' hw => sc_range hw.1) Tryz.underlying134 rfl (sizeSc)) hHeld ?_
              simp only [Act.put, sA, sB, sC]
              refine hand_to (i := 1) (d := 43) (v := (.pointer (some ⟨b1, 7, none⟩))) rfl rfl (by kernel_rfl) (by kernel_rfl) (by kernel_rfl) (fun _ _ _ h => h) (Or.inl ⟨by rfl, ?_⟩) hHeld ?_
              · (intro w' hSw; obtain ⟨hS1, hS2, hS3⟩ := hSw; go_simp)
              simp only [Act.put, sA, sB, sC]
              refine hand_to (i := 2) (d := 44) (v := (.slice (some ⟨bq, oq, none⟩) (cnt F) k)) rfl rfl (by kernel_rfl) (by kernel_rfl) (by kernel_rfl) (fun _ _ _ h => h) (Or.inl ⟨by rfl, ?_⟩) hHeld ?_
              · (intro w' hSw; obtain ⟨hS1, hS2, hS3⟩ := hSw; go_simp)
              simp only [Act.put, sA, sB, sC]
              refine hand_to (i := 3) (d := 45) (v := (.int .i64 (i : Int))) rfl rfl (by kernel_rfl) (by kernel_rfl) (by kernel_rfl) (fun _ _ _ h => h) (Or.inl ⟨by rfl, ?_⟩) hHeld ?_
              · (intro w' hSw; obtain ⟨hS1, hS2, hS3⟩ := hSw; go_simp)
              simp only [Act.put, sA, sB, sC]
              refine hand_to (i := 4) (d := 46) (v := (.pointer (some ⟨bq, oq + 10 * i, none⟩))) rfl rfl (by kernel_rfl) (by kernel_rfl) (by kernel_rfl) (fun _ _ _ h => h) (Or.inl ⟨by rfl, ?_⟩) hHeld ?_
              · (intro w' hSw; obtain ⟨hS1, hS2, hS3⟩ := hSw; go_simp)
              simp only [Act.put, sA, sB, sC]
              refine hand_to (i := 5) (d := 47) (v := .agg N0.toArray) rfl rfl (by kernel_rfl) (by kernel_rfl) (by kernel_rfl) (fun _ _ _ h => h) (yieldsIf_load_mid (by rfl) 29 (.tmp 46) rfl bq (oq + 10 * i) rfl N0 _ (fun w' hw => hw.2.2) Tryz.underlying29 rfl (by rw [hlN0]; exact sizeEx)) hHeld ?_
              simp only [Act.put, sA, sB, sC]
              refine any_two (i := 6) (j := 10) (by kernel_rfl) rfl rfl (fun K hK => ?_) (fun K hK => ?_)
              · rw [if_pos (by rfl)]
                refine op_call (some 48) rfl 53 #[.agg #[v0, .bool false, .bool false, v3, .bool true], .agg N0.toArray] (by kernel_rfl) (unhide HC wr.drew (Below.refl _ _).drew) ?_
                rw [unhide HY]
                rintro e w2 ⟨hb2, N, rfl, hx2⟩
                refine ⟨_, rfl, ?_⟩
                have hlN := hx2.len
                have hzN : N.toArray.size = 10 := by simpa using hlN
                have hbw : Below wr.heap.size wr w2 := (Below.refl wr.heap.size wr).drew.trans hb2
                refine hK.out _ _ ⟨(hbw.block b0 (ltX (unhide HG).rx.sc)).trans (unhide HG).rx.sc, (hbw.cell (p := ⟨b1, 7, none⟩) (ltX (unhide HG).rx.va.1)).trans c7, rangeAt_blk (unhide HRG) (fun hl => hbw.block bq hl) (by intro e; rw [e] at hlN0; cases hlN0)⟩ (fun hHeld2 => ?_)
                clear hK K hHeld
                have hHeld := hHeld2
                clear hHeld2
                try simp only [Act.put, sA, sB, sC]
                refine hand_to (i := 7) (d := 41) (v := (.tuple #[.agg N.toArray, .int .i64 0])) rfl rfl (by kernel_rfl) (by kernel_rfl) (by kernel_rfl) (fun _ _ _ h => h) (Or.inl ⟨by rfl, ?_⟩) hHeld ?_
                · (intro w' hSw; obtain ⟨hS1, hS2, hS3⟩ := hSw; kernel_rfl)
                simp only [Act.put, sA, sB, sC]
                refine hand_to (i := 8) (d := 49) (v := (.agg N.toArray)) rfl rfl (by kernel_rfl) (by kernel_rfl) (by kernel_rfl) (fun _ _ _ h => h) (Or.inl ⟨by rfl, ?_⟩) hHeld ?_
                · (intro w' hSw; obtain ⟨hS1, hS2, hS3⟩ := hSw; kernel_rfl)
                simp only [Act.put, sA, sB, sC]
                refine hand_to (i := 9) (d := 50) (v := (.int .i64 0)) rfl rfl (by kernel_rfl) (by kernel_rfl) (by kernel_rfl) (fun _ _ _ h => h) (Or.inl ⟨by rfl, ?_⟩) hHeld ?_
                · (intro w' hSw; obtain ⟨hS1, hS2, hS3⟩ := hSw; kernel_rfl)
                simp only [Act.put, sA, sB, sC]
                refine wpAnyH_ready (rs := [10]) (by kernel_rfl) (by simp) ?_
                refine AllReadyH.cons rfl (fun K hK => ?_) AllReadyH.nil
                rw [if_pos (by rfl)]
                refine op_new (some 8) rfl 29 rfl zL.toArray (zero_of_info zeroEx).1 ?_
                have hal : Below w2.heap.size w2 (w2.alloc (.cells zL.toArray 29)) := alX (Below.refl _ _) _
                have hbw3 : Below wr.heap.size wr (w2.alloc (.cells zL.toArray 29)) := trX hbw hal
                refine hK.out _ _ ⟨(hbw3.block b0 (ltX (unhide HG).rx.sc)).trans (unhide HG).rx.sc, (hbw3.cell (p := ⟨b1, 7, none⟩) (ltX (unhide HG).rx.va.1)).trans c7, rangeAt_blk (unhide HRG) (fun hl => hbw3.block bq hl) (by intro e; rw [e] at hlN0; cases hlN0)⟩ (fun hHeld2 => ?_)
                clear hK K hHeld
                have hHeld := hHeld2
                clear hHeld2
                try simp only [Act.put, sA, sB, sC]
                refine wpAnyH_ready (rs := [11]) (by kernel_rfl) (by simp) ?_
                refine AllReadyH.cons rfl (fun K hK => ?_) AllReadyH.nil
                rw [if_pos (by rfl)]
                have hvn := VrX.new w2 (M := zL) rfl
                refine op_store rfl 29 (.tmp 8) (.tmp 49) rfl w2.heap.size 0 N rfl rfl (by rw [hzN]; exact hvn.there) (by rw [hzN]; exact sizeEx) (all_oneCell_toArray hx2.one) ?_
                have hbw4 : Below wr.heap.size wr ((w2.alloc (.cells zL.toArray 29)).setCells w2.heap.size 0 N) := below_setCells hbw3 hbw.size 0 N
                refine hK.out _ _ ⟨(hbw4.block b0 (ltX (unhide HG).rx.sc)).trans (unhide HG).rx.sc, (hbw4.cell (p := ⟨b1, 7, none⟩) (ltX (unhide HG).rx.va.1)).trans c7, rangeAt_blk (unhide HRG) (fun hl => hbw4.block bq hl) (by intro e; rw [e] at hlN0; cases hlN0)⟩ (fun hHeld2 => ?_)
                clear hK K hHeld
                have hHeld := hHeld2
                clear hHeld2
                try simp only [Act.put, sA, sB, sC]
                refine hand_to (i := 12) (d := 9) (v := (.int .i64 0)) rfl rfl (by kernel_rfl) (by kernel_rfl) (by kernel_rfl) (fun _ _ _ h => h) (Or.inl ⟨by rfl, ?_⟩) hHeld ?_
                · (intro w' hSw; obtain ⟨hS1, hS2, hS3⟩ := hSw; kernel_rfl)
                simp only [Act.put, sA, sB, sC]
                refine wpAnyH_done (by kernel_rfl) ?_ _
                go_wp2_with fail
                go_meet
                refine ⟨w2.heap.size, N, rfl, ?_, hide ⟨hvn.set hlN, (unhide HG).below hbw4, ?_⟩⟩
                · rfl
                · exact ((hx2.keep (Q := _) (Q' := fun b => wr.heap.size ≤ b ∧ b ≠ w2.heap.size) (fun b _ hl => hal.block b hl) (fun b hl q => ⟨q, by omega⟩)).setCells (fun h => h.2 rfl) N).keep (fun _ _ _ => rfl) (fun b _ q => q.1)
              · rw [if_pos (by rfl)]
                refine op_new (some 8) rfl 29 rfl zL.toArray (zero_of_info zeroEx).1 ?_
                have hal : Below wr.heap.size wr (wr.drew.alloc (.cells zL.toArray 29)) := alX (Below.refl wr.heap.size wr).drew _
                have hz8 : (wr.drew.alloc (.cells zL.toArray 29)).heap.size = wr.heap.size + 1 := by simp
                have hvn := VrX.new wr.drew (M := zL) rfl
                refine hK.out _ _ ⟨(hal.block b0 (ltX (unhide HG).rx.sc)).trans (unhide HG).rx.sc, (hal.cell (p := ⟨b1, 7, none⟩) (ltX (unhide HG).rx.va.1)).trans c7, rangeAt_blk (unhide HRG) (fun hl => hal.block bq hl) (by intro e; rw [e] at hlN0; cases hlN0)⟩ (fun hHeld2 => ?_)
                clear hK K hHeld
                have hHeld := hHeld2
                clear hHeld2
                try simp only [Act.put, sA, sB, sC]
                refine wpAnyH_ready (rs := [6]) (by kernel_rfl) (by simp) ?_
                refine AllReadyH.cons rfl (fun K hK => ?_) AllReadyH.nil
                rw [if_pos (by rfl)]
                refine op_call (some 48) rfl 53 #[.agg #[v0, .bool false, .bool false, v3, .bool true], .agg N0.toArray] (by kernel_rfl) (unhide HC (wr.drew.alloc (.cells zL.toArray 29)) hal) ?_
                rw [unhide HY]
                rintro e w2 ⟨hb2, N, rfl, hx2⟩
                refine ⟨_, rfl, ?_⟩
                have hlN := hx2.len
                have hzN : N.toArray.size = 10 := by simpa using hlN
                have hbw : Below wr.heap.size wr w2 := trX hal hb2
                have hv2 : VrX w2 wr.heap.size zL := hvn.below hb2
                refine hK.out _ _ ⟨(hbw.block b0 (ltX (unhide HG).rx.sc)).trans (unhide HG).rx.sc, (hbw.cell (p := ⟨b1, 7, none⟩) (ltX (unhide HG).rx.va.1)).trans c7, rangeAt_blk (unhide HRG) (fun hl => hbw.block bq hl) (by intro e; rw [e] at hlN0; cases hlN0)⟩ (fun hHeld2 => ?_)
                clear hK K hHeld
                have hHeld := hHeld2
                clear hHeld2
                try simp only [Act.put, sA, sB, sC]
                refine hand_to (i := 7) (d := 41) (v := (.tuple #[.agg N.toArray, .int .i64 0])) rfl rfl (by kernel_rfl) (by kernel_rfl) (by kernel_rfl) (fun _ _ _ h => h) (Or.inl ⟨by rfl, ?_⟩) hHeld ?_
                · (intro w' hSw; obtain ⟨hS1, hS2, hS3⟩ := hSw; kernel_rfl)
                simp only [Act.put, sA, sB, sC]
                refine hand_to (i := 8) (d := 49) (v := (.agg N.toArray)) rfl rfl (by kernel_rfl) (by kernel_rfl) (by kernel_rfl) (fun _ _ _ h => h) (Or.inl ⟨by rfl, ?_⟩) hHeld ?_
                · (intro w' hSw; obtain ⟨hS1, hS2, hS3⟩ := hSw; kernel_rfl)
                simp only [Act.put, sA, sB, sC]
                refine hand_to (i := 9) (d := 50) (v := (.int .i64 0)) rfl rfl (by kernel_rfl) (by kernel_rfl) (by kernel_rfl) (fun _ _ _ h => h) (Or.inl ⟨by rfl, ?_⟩) hHeld ?_
                · (intro w' hSw; obtain ⟨hS1, hS2, hS3⟩ := hSw; kernel_rfl)
                simp only [Act.put, sA, sB, sC]
                refine wpAnyH_ready (rs := [11]) (by kernel_rfl) (by simp) ?_
                refine AllReadyH.cons rfl (fun K hK => ?_) AllReadyH.nil
                rw [if_pos (by rfl)]
                refine op_store rfl 29 (.tmp 8) (.tmp 49) rfl wr.heap.size 0 N rfl rfl (by rw [hzN]; exact hv2.there) (by rw [hzN]; exact sizeEx) (all_oneCell_toArray hx2.one) ?_
                have hbw4 : Below wr.heap.size wr (w2.setCells wr.heap.size 0 N) := below_setCells hbw (Nat.le_refl _) 0 N
                refine hK.out _ _ ⟨(hbw4.block b0 (ltX (unhide HG).rx.sc)).trans (unhide HG).rx.sc, (hbw4.cell (p := ⟨b1, 7, none⟩) (ltX (unhide HG).rx.va.1)).trans c7, rangeAt_blk (unhide HRG) (fun hl => hbw4.block bq hl) (by intro e; rw [e] at hlN0; cases hlN0)⟩ (fun hHeld2 => ?_)
                clear hK K hHeld
                have hHeld := hHeld2
                clear hHeld2
                try simp only [Act.put, sA, sB, sC]
                refine hand_to (i := 12) (d := 9) (v := (.int .i64 0)) rfl rfl (by kernel_rfl) (by kernel_rfl) (by kernel_rfl) (fun _ _ _ h => h) (Or.inl ⟨by rfl, ?_⟩) hHeld ?_
                · (intro w' hSw; obtain ⟨hS1, hS2, hS3⟩ := hSw; kernel_rfl)
                simp only [Act.put, sA, sB, sC]
                refine wpAnyH_done (by kernel_rfl) ?_ _
                go_wp2_with fail
                go_meet
                refine ⟨wr.heap.size, N, rfl, ?_, hide ⟨hv2.set hlN, (unhide HG).below hbw4, ?_⟩⟩
                · rfl
                · exact ((hx2.keep (Q := _) (Q' := fun b => wr.heap.size ≤ b ∧ b ≠ wr.heap.size) (fun _ _ _ => rfl) (fun b hl q => by have q2 : (wr.drew.alloc (.cells zL.toArray 29)).heap.size ≤ b := q; rw [hz8] at q2; exact ⟨by omega, by omega⟩)).setCells (fun h => h.2 rfl) N).keep (fun _ _ _ => rfl) (fun b _ q => q.1)
          case rest =>
            obtain ⟨b8, N, rfl, rfl, HZ⟩ := hcut
            have hz := unhide HZ
            clear HC HRG HG c7
            have hlN := hz.2.2.len
            have hi11 : i ≤ 21 := by have h1 := unhide HCN; omega
            have hfo := fold10 hlN
            have HRW := hide hz.2.1.row
            have HOWN := hide hz.2.1.row.own
            have HXN : Hid (ExM wc (fun b => b2 + 1 ≤ b ∧ (Value.slice ar i kr).ownBlock ≠ some b) N Y) := hz.2.2.keep (fun _ _ _ => rfl) (fun b _ q => (unhide HAP) b q)
            have hbase : b2 + 1 ≤ wc.heap.size := ltX hz.2.1.rx.out.1
            have HV8 := hide hz.1
            have HRX := hide hz.2.1.rx
            clear hz
            go_upto_region 18 with fail
            refine wp_region_list ?_
            refine list_to (d := 55) (v := .slice ar i kr) rfl rfl (by kernel_rfl) ?_
            simp only [Act.put, sA, sB, sC]
            refine wpList_load_mid rfl 29 (.tmp 8) rfl b8 0 rfl N _ (unhide HV8).range Tryz.underlying29 rfl (by rw [hlN]; exact sizeEx) ?_
            simp only [Act.put, sA, sB, sC]
            go_wp2_with (at_builtin; refine append_ex rfl (.tmp 55) (.tmp 57) rfl (unhide HRW) hbase rfl N Y (unhide HXN) rfl (by omega) ?_; intro ad4 k4 w4 ho4 hb4; have HO4 := hide ho4; have HB4 := hide hb4; clear ho4 hb4)
            have HNX : Hid (RLX w w4 b0 b1 b2 v0 v3 n F (some ⟨bq, oq, none⟩) k ad4 (i + 1) k4 (Es ++ [(N, Y)]) RL (i + 1)) := by
              refine ⟨(unhide HRX).own (unhide HB4), unhide HO4, ?_, rfl⟩
              rw [unhide HEQ, joinR_cons (unhide HY), List.map_append]
              rfl
            go_roundg (cnt F - (i + 1))
            case rel => exact ⟨i + 1, ad4, k4, Es ++ [(N, Y)], rfl, rfl, by rw [show ((i + 1 : Nat) : Int) = (i : Int) + 1 from rfl], by omega, HNX⟩
            case measure => omega
      · have hiI : ¬ (i : Int) < (cnt F : Int) := by omega
        have hie : i = cnt F := by omega
        clear hlt
        subst hie
        go_upto_region 19 with fail
        skip
        as_aux_lemma =>
          have HF : Hid (R = typedS (n, toFo Es)) := by
            show R = _
            rw [unhide HR, (unhide HG).eq, List.drop_eq_nil_of_le (by rw [← cnt_toL]; exact Nat.le_refl _)]
            show typedS (n, foE ((Es.map (·.2)) ++ [])) = _
            rw [List.append_nil, ← toFo_foE]
          obtain ⟨hlow, hout, hva, hkeep⟩ := (unhide HG).rx.set 7 (.slice ar (cnt F) kr)
          have hva' : VrX (wr.setCell ⟨b1, 7, none⟩ (.slice ar (cnt F) kr)) b1 (ndC n (.slice ar (cnt F) kr)) := ⟨by rw [hva]; rfl, rfl⟩
          have hrow := (unhide HG).row.keep (w' := wr.setCell ⟨b1, 7, none⟩ (.slice ar (cnt F) kr)) (fun b h1 _ => hkeep b (by have h := (unhide HBB).2; omega))
          have hlen : cnt F = cnt (toFo Es) := by rw [cnt_toFo]; exact (unhide HG).row.len
          have HEX : Hid (ExM (wr.setCell ⟨b1, 7, none⟩ (.slice ar (cnt F) kr)) (fun b => b2 + 1 ≤ b) (ndC n (.slice ar (cnt F) kr)) (n, toFo Es)) := ⟨_, rfl, hrow.slice⟩
          have HCE : Hid (n.kind = 6 → cnt (toFo Es) ≤ 1000) := fun _ => by have h1 := unhide HCN; rw [← hlen]; omega
          have HL2 := hide hlow
          have HO2 := hide hout
          have HV2 := hide hva'
          obtain ⟨c0', c2', c7', c9', f9', f7⟩ := (unhide HG).rx.cells
          clear c0' c2' c9' f9' c7'
          clear hlow hout hva hva' hkeep hrow hlen HR
          go_upto_region 20 with fail
          obtain ⟨w2, hw2⟩ : ∃ w2, w2 = wr.setCell ⟨b1, 7, none⟩ (.slice ar (cnt F) kr) := ⟨_, rfl⟩
          rw [← hw2] at HL2 HO2 HV2 HEX
          rw [← hw2]
          clear hw2 c7 f7 HG
          have hTY := typed_all w2 _ _ _ (unhide HEX) (unhide HKI) (unhide HCE)
          refine wp_region_list ?_
          refine wpList_load_mid rfl 29 (.tmp 3) rfl b1 0 rfl (ndC n (.slice ar (cnt F) kr)) _ (unhide HV2).range Tryz.underlying29 rfl sizeEx ?_
          simp only [Act.put, sA, sB, sC]
          refine list_call rfl (some 62) rfl 108 #[.agg (ndC n (.slice ar (cnt F) kr)).toArray] (by kernel_rfl) hTY ?_
          clear hTY
          rintro e w3 ⟨hb3, hpost⟩
          cases hT : typedS (n, toFo Es) with
          | error c =>
            rw [hT] at hpost
            have hp2 : e = .returned (.tuple #[.agg zL.toArray, .int .i64 c]) := hpost
            subst hp2
            refine ⟨_, rfl, ?_⟩
            simp only [Act.put, sA, sB, sC]
            refine list_to (d := 63) (v := .agg zL.toArray) rfl rfl (by kernel_rfl) ?_
            simp only [Act.put, sA, sB, sC]
            refine list_to (d := 64) (v := .int .i64 c) rfl rfl (by kernel_rfl) ?_
            simp only [Act.put, sA, sB, sC]
            have hzN : zL.toArray.size = 10 := by rfl
            have hout := (unhide HO2).below hb3
            refine wpList_store_mid rfl 29 (.tmp 4) (.tmp 63) rfl b2 0 zL.toArray rfl rfl (by rw [hzN]; exact hout.there) (by rw [hzN]; exact sizeEx) (all_oneCell_toArray (by decide)) ?_
            show wpList _ _ _ _ _ (w3.setCells b2 0 zL)
            simp only [Act.put, sA, sB, sC]
            refine list_to (d := 5) (v := .int .i64 c) rfl rfl (by kernel_rfl) ?_
            simp only [Act.put, sA, sB, sC]
            go_wp2_with fail
            have hs := hout.set (M' := zL) rfl
            refine bodyPost_ret (hs.result2 rfl _ rfl) rfl ?_
            have h2 := (unhide HBB).2.2
            have h0 := (unhide HBB).1
            have hl2 := (unhide HL2)
            have hz := hl2.size
            have hlow : Below w.heap.size w w3 := ⟨hb3.os.trans hl2.os, hb3.tape.trans hl2.tape, hb3.output.trans hl2.output, Nat.le_trans hl2.size hb3.size, fun b hb => (hb3.block b (by omega)).trans (hl2.block b hb)⟩
            rw [unhide HPP, unhide HF, hT]
            exact ⟨below_setCells hlow (by omega) 0 zL, rfl⟩
          | ok E2 =>
            rw [hT] at hpost
            obtain ⟨N, rfl, hxN⟩ := hpost
            refine ⟨_, rfl, ?_⟩
            simp only [Act.put, sA, sB, sC]
            refine list_to (d := 63) (v := .agg N.toArray) rfl rfl (by kernel_rfl) ?_
            simp only [Act.put, sA, sB, sC]
            refine list_to (d := 64) (v := .int .i64 0) rfl rfl (by kernel_rfl) ?_
            simp only [Act.put, sA, sB, sC]
            have hzN : N.toArray.size = 10 := by simpa using hxN.len
            have hout := (unhide HO2).below hb3
            refine wpList_store_mid rfl 29 (.tmp 4) (.tmp 63) rfl b2 0 N.toArray rfl rfl (by rw [hzN]; exact hout.there) (by rw [hzN]; exact sizeEx) (all_oneCell_toArray hxN.one) ?_
            show wpList _ _ _ _ _ (w3.setCells b2 0 N)
            simp only [Act.put, sA, sB, sC]
            refine list_to (d := 5) (v := .int .i64 0) rfl rfl (by kernel_rfl) ?_
            simp only [Act.put, sA, sB, sC]
            go_wp2_with fail
            have hs := hout.set (M' := N) hxN.len
            refine bodyPost_ret (hs.result2 rfl _ rfl) rfl ?_
            have h2 := (unhide HBB).2.2
            have h0 := (unhide HBB).1
            have hl2 := (unhide HL2)
            have hz := hl2.size
            have hlow : Below w.heap.size w w3 := ⟨hb3.os.trans hl2.os, hb3.tape.trans hl2.tape, hb3.output.trans hl2.output, Nat.le_trans hl2.size hb3.size, fun b hb => (hb3.block b (by omega)).trans (hl2.block b hb)⟩
            rw [unhide HPP, unhide HF, hT]
            exact ⟨below_setCells hlow (by omega) 0 N, N, rfl, (hxN.setCells (fun h => absurd h (by omega)) N).keep (fun _ _ _ => rfl) (fun b _ q => by have q2 : b2 + 1 ≤ b := q; omega)⟩
theorem res_all : ∀ m, RsC m
  | 0 => fun _ _ _ _ _ _ _ _ _ _ h => absurd h (Nat.not_lt_zero _)
  | m + 1 => res_step m (res_all m)
end Go.Proofs.YtehgoioinogmkaaGreatDoor
