/- A region that draws its order, taken by hand, whose last operation is a store: what is held need not hold behind it. -/
import Derived.Test.YtehgoioinogmkaaGreatDoorJKBytesHandXBaseXLex3
import Derived.Test.YtehgoioinogmkaaGreatDoorJXPar3XPar4
import Derived.Deep.LoopGhost
namespace Go.Proofs.YtehgoioinogmkaaGreatDoor
open Go.RowKit Go.Lib

/-- Whatever order is picked from here on; S holds behind every operation but number fin. -/
def wpAnyL (P : Program) (md : Region.Mode) (ops : Array Oper) (Q : Exit → Act → World → Prop) (S : World → Prop) (fin : Nat) : Nat → Array Bool → Act → World → Prop
  | 0, listed, a, w => Region.ready md ops listed = [] ∧ Q .normal a w
  | fuel + 1, listed, a, w =>
    (Region.ready md ops listed = [] → Q .normal a w) ∧
    ∀ i ∈ Region.ready md ops listed, wpOp P ops Q i (fun a' w' => (i ≠ fin → S w') ∧ wpAnyL P md ops Q S fin fuel (listed.setIfInBounds i true) a' w') a w
section
variable {P : Program} {ops : Array Oper} {Q : Exit → Act → World → Prop} {md : Region.Mode} {S : World → Prop} {fin : Nat}
theorem wpAny_of_last : ∀ (fuel : Nat) (listed : Array Bool) (a : Act) (w : World), wpAnyL P md ops Q S fin fuel listed a w → wpAny P md ops Q fuel listed a w
  | 0, _, _, _, h => h
  | fuel + 1, _, _, _, h => ⟨h.1, fun i hi => wpOp_mono (fun a' w' h' => wpAny_of_last fuel _ a' w' h'.2) (h.2 i hi)⟩
/-- Number fin waits for number i. -/
def waitsFor (md : Region.Mode) (ops : Array Oper) (fin i : Nat) : Bool := match ops[fin]? with
  | some o => o.after.any fun e => Region.binds md e && e.on == i
  | none => false
theorem wpAnyL_first {i : Nat} {oi : Oper} {v : Value} (hi : ops[i]? = some oi) (hsel : ∀ (j : Nat) (o : Oper) cs b, ops[j]? = some o → o.op ≠ .select cs b)
    (hQ : ∀ c a w, Q (.panic c) (a.put oi.dst v) w → Q (.panic c) a w) (hwait : waitsFor md ops fin i = true) (hif : i ≠ fin) :
    ∀ (fuel : Nat) (listed : Array Bool) (a : Act) (w : World),
      (∀ j oj, ops[j]? = some oj → j ≠ i → listed.getD j true = false → (∀ e ∈ oj.after, Region.binds md e = true → e.on ≠ i) → oi.apart ops oj = true) →
      i ∈ Region.ready md ops listed → YieldsIf P ops S oi v a → S w →
      wpAnyL P md ops Q S fin fuel (listed.setIfInBounds i true) (a.put oi.dst v) w → wpAnyL P md ops Q S fin (fuel + 1) listed a w := by
  intro fuel
  induction fuel with
  | zero =>
    intro listed a w _ hr hy hS H
    refine ⟨fun h => (by rw [h] at hr; cases hr), fun j hj => ?_⟩
    by_cases hji : j = i
    · subst hji; exact hy.wpOp hi hS ⟨fun _ => hS, H⟩
    · have := ready_mono hj hji
      rw [H.1] at this
      cases this
  | succ fuel ih =>
    intro listed a w hfree hr hy hS H
    refine ⟨fun h => (by rw [h] at hr; cases hr), fun j hj => ?_⟩
    by_cases hji : j = i
    · subst hji; exact hy.wpOp hi hS ⟨fun _ => hS, H⟩
    · have h1 := H.2 j (ready_mono hj hji)
      obtain ⟨hjun, oj, hoj, hall⟩ := mem_ready.1 hj
      have hnot : ∀ e ∈ oj.after, Region.binds md e = true → e.on ≠ i := fun e he hb heq => by
        have h1 := hall e he hb
        have h0 := (mem_ready.1 hr).1
        rw [heq] at h1
        rcases Nat.lt_or_ge i listed.size with h' | h'
        · simp [h'] at h0 h1; rw [h0] at h1; cases h1
        · simp [Array.getElem?_eq_none h'] at h1
      have hjf : j ≠ fin := fun e => by
        subst e
        unfold waitsFor at hwait
        rw [hoj] at hwait
        obtain ⟨k, hk, he⟩ := Array.any_eq_true.1 hwait
        simp only [Bool.and_eq_true, beq_iff_eq] at he
        exact hnot _ (Array.getElem_mem hk) he.1 he.2
      have h2 := wpOp_putIf hoj (hfree j oj hoj hji hjun hnot) (fun cs b => hsel i oi cs b hi) (fun cs b => hsel j oj cs b hoj) hQ hy h1
      have hfree' : ∀ k ok, ops[k]? = some ok → k ≠ i → (listed.setIfInBounds j true).getD k true = false →
          (∀ e ∈ ok.after, Region.binds md e = true → e.on ≠ i) → oi.apart ops ok = true := fun k ok hk hki hun hno => by
        refine hfree k ok hk hki ?_ hno
        by_cases hjk : j = k
        · subst hjk; exact hjun
        · rw [getD_set_ne true hjk] at hun; exact hun
      refine wpOp_mono (fun a' w' h3 => ⟨h3.2.1, ih (listed.setIfInBounds j true) a' w' hfree' (ready_mono hr (Ne.symm hji)) h3.1 (h3.2.1 hjf) ?_⟩) h2
      rw [Array.setIfInBounds_comm _ _ hji]
      exact h3.2.2
/-- Take number i first: its value goes to slot d. -/
theorem last_to {i d : Nat} {oi : Oper} {v : Value} {fuel : Nat} {listed : Array Bool} {a : Act} {w : World} (hi : ops[i]? = some oi) (hd : oi.dst = some d)
    (hs : Region.noSelect ops = true) (hf : Region.free md ops listed i = true) (hr : (Region.ready md ops listed).contains i = true) (hwait : waitsFor md ops fin i = true) (hif : i ≠ fin)
    (hQ : ∀ c a w, Q (.panic c) (a.put (some d) v) w → Q (.panic c) a w) (hy : YieldsIf P ops S oi v a) (hS : S w)
    (h : wpAnyL P md ops Q S fin fuel (listed.setIfInBounds i true) (a.put (some d) v) w) : wpAnyL P md ops Q S fin (fuel + 1) listed a w := by
  rw [← hd] at hQ h
  exact wpAnyL_first hi (Region.noSelect_spec hs) hQ hwait hif fuel listed a w (Region.free_spec hi hf) (by simpa using hr) hy hS h
/-- Number i alone may come up. -/
theorem last_one {i : Nat} {o : Oper} {fuel : Nat} {listed : Array Bool} {a : Act} {w : World} (hr : Region.ready md ops listed = [i]) (ho : ops[i]? = some o)
    (h : ∀ K' : Act → World → Prop, Shut (∀ a w, (i ≠ fin → S w) → ((i ≠ fin → S w) → wpAnyL P md ops Q S fin fuel (listed.setIfInBounds i true) a w) → K' a w) → if Region.wanted o (yielded ops a.tmps) = true then Oper.wp P o a w K' Q else K' (a.put o.dst undef) w) : wpAnyL P md ops Q S fin (fuel + 1) listed a w := by
  refine ⟨fun h0 => absurd (hr ▸ h0) (by simp), fun j hj => ?_⟩
  rw [hr] at hj
  obtain rfl := List.mem_singleton.1 hj
  exact wpOp_step ho (fun K' hK => h K' (fun a w hS hW => hK a w ⟨hS, hW hS⟩))
theorem last_done {listed : Array Bool} {a : Act} {w : World} (hr : Region.ready md ops listed = []) (h : Q .normal a w) : ∀ fuel, wpAnyL P md ops Q S fin fuel listed a w
  | 0 => ⟨hr, h⟩
  | _ + 1 => ⟨fun _ => h, by rw [hr]; simp⟩
theorem wp_region_last {id : Nat} {a : Act} {w : World} (fin : Nat) (S : World → Prop) (hm : P.follows .mixedOrders = true) (hS : S w.drew)
    (h : S w.drew → wpAnyL P .any ops Q S fin ops.size (Array.replicate ops.size false) a w.drew) : (Code.region id ops true).wp P Q a w :=
  wp_region_any hm (wpAny_of_last _ _ _ _ (h hS))
end
end Go.Proofs.YtehgoioinogmkaaGreatDoor
/- The document's parser: what a level tells. -/
namespace Go.Proofs.YtehgoioinogmkaaGreatDoor
open Go.RowKit Go.Lib

theorem isS_err {T : List Tk} {k : Nat} {x : List UInt8} {S : PS} (h : isS T k x S = true) : S.err = 0 ∧ (tkS T S).kind = k ∧ (tkS T S).text = x := by
  unfold isS at h
  simp only [Bool.and_eq_true, beq_iff_eq] at h
  exact ⟨h.1, h.2.1, h.2.2⟩
theorem TG.more {T : List Tk} (hT : TG T) {S : PS} (hi : S.i < T.length) (hk : (tkS T S).kind ≠ 0) : S.i + 1 < T.length := by
  rcases Nat.lt_or_ge (S.i + 1) T.length with h | h
  · exact h
  · exfalso
    have e : S.i = T.length - 1 := by omega
    have := hT.last
    unfold tkS at hk
    rw [e] at hk
    exact hk this
theorem muS_next {T : List Tk} (hT : TG T) {k : Nat} {x : List UInt8} {S : PS} (h : isS T k x S = true) (hk : k ≠ 0) (hi : S.i < T.length) : muS T (nextS T S) + 1 = muS T S := by
  obtain ⟨h1, h2, _⟩ := isS_err h
  have hm := hT.more hi (by omega)
  unfold nextS
  rw [if_pos ⟨h1, hm⟩]
  unfold muS
  simp only [if_pos h1]
  omega
theorem muS_fail (T : List Tk) (e : Nat) (he : e ≠ 0) (S : PS) : muS T (failS T e S) = 0 := by
  unfold failS muS
  by_cases h : S.err = 0
  · simp [h, he]
  · simp [h]
theorem muS_nle (T : List Tk) (S : PS) : muS T (nextS T S) ≤ muS T S := by
  unfold nextS
  split
  · rename_i h
    unfold muS
    simp only [if_pos h.1]
    omega
  · exact Nat.le_refl _
theorem muS_must (T : List Tk) (k : Nat) (x : List UInt8) (S : PS) : muS T (mustS T k x S) ≤ muS T S := by
  unfold mustS
  split
  · exact muS_nle T S
  · rw [muS_fail T 1 (by decide)]; exact Nat.zero_le _
theorem muS_close (T : List Tk) (x : List UInt8) (S : PS) : muS T (closeS T x S) ≤ muS T S := by
  unfold closeS
  split
  · exact Nat.le_refl _
  · exact muS_must T 5 x _
theorem muS_open (T : List Tk) (x : List UInt8) (S : PS) : muS T (openS T x S) ≤ muS T S := by
  unfold openS
  split
  · split
    · rw [muS_fail T 2 (by decide)]; exact Nat.zero_le _
    · exact muS_nle T _
  · rw [muS_fail T 1 (by decide)]; exact Nat.zero_le _
/-- What opens takes a token, or there is nothing more to be done. -/
theorem muS_open_lt {T : List Tk} (hT : TG T) {x : List UInt8} {S : PS} (hi : S.i < T.length) (he : S.err = 0) : muS T (openS T x S) + 1 ≤ muS T S := by
  have h1 : 1 ≤ muS T S := by unfold muS; rw [if_pos he]; omega
  unfold openS
  split
  · rename_i h
    split
    · rw [muS_fail T 2 (by decide)]; omega
    · have hk : (tkS T S).kind ≠ 0 := by
        rcases Bool.or_eq_true _ _ ▸ h with h | h
        · have := (isS_err h).2.1; omega
        · have := (isS_err h).2.1; omega
      have hm := hT.more hi hk
      have : muS T (nextS T { S with deep := wrap64 (S.deep + 1) }) + 1 = muS T S := by
        unfold nextS
        rw [if_pos ⟨he, hm⟩]
        unfold muS
        simp only [if_pos he]
        omega
      omega
  · rw [muS_fail T 1 (by decide)]; omega
theorem muS_name (T : List Tk) (S : PS) : muS T (nameS T S).2 ≤ muS T S := by
  unfold nameS
  split
  · split
    · dsimp only; rw [muS_fail T 2 (by decide)]; exact Nat.zero_le _
    · exact muS_nle T S
  · dsimp only; rw [muS_fail T 1 (by decide)]; exact Nat.zero_le _
theorem muS_element (T : List Tk) (n : Nat) (S : PS) : muS T (elementS T n S) ≤ muS T S := by
  unfold elementS
  split
  · rw [muS_fail T 2 (by decide)]; exact Nat.zero_le _
  · exact Nat.le_refl _
theorem muS_number (T : List Tk) (m : List UInt8) (S : PS) : muS T (numberS T m S).2 ≤ muS T S := by
  unfold numberS
  dsimp only
  split
  · dsimp only; rw [muS_fail T 2 (by decide)]; exact Nat.zero_le _
  · exact Nat.le_refl _
def zL : List Value := [.int .i64 0, .int .i64 0, .int .i64 0, .int .i64 0, .string ⟨#[]⟩, .string ⟨#[]⟩, .string ⟨#[]⟩, .slice none 0 0, .int .i64 0, .int .i64 0]
/-- What a level tells. -/
def LvP (T : List Tk) (p bt c : Nat) (w : World) (S : PS) (r : Ex × PS) (e : Ending) (w' : World) : Prop :=
  ∃ M, e = .returned (.agg M.toArray) ∧ ExM w' (fun b => w.heap.size ≤ b) M r.1 ∧ PX T w' p bt c r.2 ∧ FrX p w w' ∧ muS T r.2 ≤ muS T S
def LvC (T : List Tk) (p bt c : Nat) (f : FuncId) (G : PS → Ex × PS) (B : Nat) : Prop :=
  ∀ (w : World) (S : PS), PX T w p bt c S → muS T S ≤ B → Calls Tryz.prog f #[.pointer (some ⟨p, 0, none⟩)] w (LvP T p bt c w S (G S))
/-- A loop's state: its variable a at block b3, what will be told at block b2. -/
structure LW (T : List Tk) (p bt c b2 b3 mu0 : Nat) (w wr : World) (R : Ex × PS) (mir : Nat → Ex → PS → Ex × PS) (M : List Value) (a : Ex) (S : PS) (m : Nat) : Prop where
  var : VrX wr b3 M
  ex : ExM wr (fun b => b2 < b ∧ b ≠ b3) M a
  px : PX T wr p bt c S
  fr : FrX p w wr
  out : VrX wr b2 zL
  eq : mir m a S = R
  fuel : muS T S ≤ m
  mu : muS T S ≤ mu0
  b2p : b2 = w.heap.size
  b3p : b2 < b3
theorem PX.lt_p {T : List Tk} {w : World} {p bt c : Nat} {S : PS} (h : PX T w p bt c S) : p < w.heap.size := ltX h.blk
theorem FrX.setCells {p b : Nat} {a w : World} (h : FrX p a w) (hb : a.heap.size ≤ b) (vs : List Value) : FrX p a (w.setCells b 0 vs) := by
  obtain ⟨e1, e2, e3, e4⟩ := setCells_env b vs 0 w
  exact ⟨e1.trans h.os, e2.trans h.tape, e3.trans h.output, by rw [e4]; exact h.size, fun k hk hp => (setCells_heap b vs 0 w k (by omega)).trans (h.blk k hk hp)⟩
theorem PX.setCells {T : List Tk} {w : World} {p bt c b : Nat} {S : PS} (h : PX T w p bt c S) (vs : List Value) (hp : b ≠ p) (hb : b ≠ bt) : PX T (w.setCells b 0 vs) p bt c S :=
  ⟨(setCells_heap b vs 0 w p (Ne.symm hp)).trans h.blk, h.toks.keep (fun _ => setCells_heap b vs 0 w bt (Ne.symm hb)), h.ne, h.lt, h.dlo, h.dhi, h.err⟩
theorem ExM.setCells {w : World} {Q : Nat → Prop} {M : List Value} {E : Ex} {b : Nat} (h : ExM w Q M E) (hb : ¬ Q b) (vs : List Value) : ExM (w.setCells b 0 vs) Q M E :=
  h.keep (fun k hq _ => setCells_heap b vs 0 w k (fun e => hb (e ▸ hq))) (fun _ _ h => h)
theorem VrX.setCells {w : World} {b b' : Nat} {M : List Value} (h : VrX w b M) (hb : b ≠ b') (vs : List Value) : VrX (w.setCells b' 0 vs) b M := h.keep (setCells_heap b' vs 0 w b hb)
/-- The variable written: a loop's next state. -/
theorem LW.next {T : List Tk} {p bt c b2 b3 mu0 : Nat} {w wr w5 : World} {R : Ex × PS} {mir : Nat → Ex → PS → Ex × PS} {M M' : List Value} {a a' : Ex} {S S' : PS} {m m' : Nat} (h : LW T p bt c b2 b3 mu0 w wr R mir M a S m)
    (hx : ExM w5 (fun b => b2 < b ∧ b ≠ b3) M' a') (hp : PX T w5 p bt c S') (hf : FrX p wr w5) (he : mir m' a' S' = R) (hm : muS T S' ≤ m') (hmu : muS T S' ≤ mu0) (hbt : b3 ≠ bt) (hb3 : b3 ≠ p) (hb2 : b2 ≠ p) : LW T p bt c b2 b3 mu0 w (w5.setCells b3 0 M') R mir M' a' S' m' := by
  have hv : VrX w5 b3 M := h.var.keep (hf.blk b3 (ltX h.var.1) hb3)
  have hb2p := h.b2p
  have hb3p := h.b3p
  refine ⟨hv.set hx.len, hx.setCells (fun q => q.2 rfl) _, hp.setCells _ hb3 hbt, (h.fr.trans hf).setCells (by omega) _, ?_, he, hm, hmu, hb2p, hb3p⟩
  exact (h.out.keep (hf.blk b2 (ltX h.out.1) hb2)).setCells (by omega) _
/-- The loop's end. -/
theorem LW.done {T : List Tk} {p bt c b2 b3 mu0 : Nat} {w wr : World} {R : Ex × PS} {mir : Nat → Ex → PS → Ex × PS} {M : List Value} {a : Ex} {S S0 : PS} {m : Nat} (h : LW T p bt c b2 b3 mu0 w wr R mir M a S m) (hR : R = (a, S)) (h0 : mu0 ≤ muS T S0) (hbt : b2 ≠ bt) (hb2 : b2 ≠ p) :
    VrX (wr.setCells b2 0 M) b2 M ∧ LvP T p bt c w S0 R (.returned (.agg M.toArray)) (wr.setCells b2 0 M) := by
  have hb2p := h.b2p
  refine ⟨h.out.set h.ex.len, M, rfl, ?_, ?_, h.fr.setCells (by omega) _, ?_⟩
  · rw [hR]
    exact (h.ex.setCells (fun q => by omega) M).keep (fun _ _ _ => rfl) (fun b _ q => by omega)
  · rw [hR]; exact h.px.setCells _ hb2 hbt
  · rw [hR]; exact Nat.le_trans h.mu h0
end Go.Proofs.YtehgoioinogmkaaGreatDoor
