/- The wal's statements: which steps are looked at. -/
import Derived.Test.YthphadbcebeoaaaGreatDoorJWListsWMsgMsgHelpWaKB
import Derived.Test.YthphadbcebeoaaaGreatDoorJWaKnownWaKnown2WaKnown3WaCuts0
import Derived.Deep.Strs
import Derived.Test.YthphadbcebeoaaaGreatDoorJRef1IntTextLawNumbersLaidBytesIn
namespace Go.Proofs.YthphadbcebeoaaaGreatDoor
open Go.RowKit Go.Lib Go.Maps

def wsmB (es : List GE) (many : Nat) : Bool := decide (es.length ≤ many) && es.all fun t => decide (t.sql.size ≤ 2100)
set_option maxHeartbeats 1600000 in
set_option maxRecDepth 100000 in
theorem wsmall_any (v : Value) (B : Nat) (ts : List GE) (many : Nat) (w : World) (h : SlE w B v ts) :
    Calls Tryz.prog 40 #[v, .int .i64 (many : Int)] w fun e w' => e = .returned (.bool (wsmB ts many)) ∧ w' = w := by
  obtain ⟨h1, h2, a, cap, rfl, hc⟩ := h
  by_cases hne : ts = []
  · subst hne
    have hb : wsmB [] many = true := by simp [wsmB]
    rw [hb]
    clear hc h1 hb
    go_enter Tryz.func40, Tryz.ntmps40
    go_wp2
    refine wp_loop_rounds 1 ?_
    rw [rounds_succ]
    go_wp2
    go_ret
    exact ⟨ret_bool (by simp), rfl⟩
  · obtain ⟨b, off, rfl, _, hc⟩ := hc hne
    have HC := hide hc
    have HO := hide h2
    have hl' : (ts.length : Int) ≤ 9223372036854775807 := by unfold maxLen at h1; omega
    obtain ⟨r, hr⟩ : ∃ r, r = wsmB ts many := ⟨_, rfl⟩
    rw [← hr]
    have HR := hide hr
    clear hc hne h1 h2 hr
    go_enter Tryz.func40, Tryz.ntmps40
    go_wp2
    go_loop [5] (fun i => ∃ k : Nat, k ≤ ts.length ∧ i = .int .i64 k ∧ Hid (∀ t ∈ ts.take k, t.sql.size ≤ 2100)) (fun i => ts.length - (intOf i).toNat)
    case atStart => exact ⟨0, by omega, rfl, by intro t ht; simp at ht⟩
    case round =>
      obtain ⟨k, hk, rfl, hall⟩ := hrel
      by_cases hlt : k < ts.length
      · obtain ⟨g, hgk⟩ : ∃ g, ts[k]? = some g := ⟨ts[k], List.getElem?_eq_getElem hlt⟩
        obtain ⟨c0, c1, c2, c3, c4⟩ := unhide HC k g hgk
        have hgo := unhide HO g (List.mem_of_getElem? hgk)
        have hsz : (g.sql.size : Int) ≤ 9223372036854775807 := by have := hgo.2.2.2; unfold maxLen at this; omega
        have HG := hide hgk
        clear HC HO hgo hgk c0 c1 c2 c3
        by_cases h100 : (2100 : Int) < (g.sql.size : Int)
        · go_wp2
          go_ret
          refine ⟨ret_bool ?_, rfl⟩
          rw [unhide HR]
          have : ¬ g.sql.size ≤ 2100 := by omega
          have hmem := List.mem_of_getElem? (unhide HG)
          symm
          simp only [wsmB, Bool.and_eq_false_iff]
          exact .inr (List.all_eq_false.2 ⟨g, hmem, by simpa using this⟩)
        · go_wp2
          go_round
          case rel =>
            refine ⟨k + 1, by omega, by go_num, ?_⟩
            intro t ht
            rw [List.take_add_one, unhide HG] at ht
            rcases List.mem_append.1 ht with ht | ht
            · exact unhide hall t ht
            · simp at ht; subst ht; omega
          case measure => simp [intOf]; omega
      · have ha : ∀ t ∈ ts, t.sql.size ≤ 2100 := by
          intro t ht
          have := unhide hall t (by rw [List.take_of_length_le (by omega)]; exact ht)
          exact this
        have HA := hide ha
        clear HC HO ha hall
        go_wp2
        go_ret
        refine ⟨ret_bool ?_, rfl⟩
        rw [unhide HR]
        have h3 : (ts.all fun t => decide (t.sql.size ≤ 2100)) = true := List.all_eq_true.2 (fun t ht => by simpa using unhide HA t ht)
        simp [wsmB, h3]
/-- A step. -/
structure GStp where
  what : Int
  num : Int
  index : Nat
  term : Nat
  vote : Int
  l : Value
  es : List GE
  k : Value
  ks : List Int
def GStp.cells (x : GStp) : List Value := [.int .i64 x.what, .int .i64 x.num, .int .u64 (x.index : Int), .int .u64 (x.term : Int), .int .i64 x.vote, x.l, x.k]
/-- A slice that reads as these steps, what it reads in blocks below B. -/
def SRow (w : World) (B : Nat) (v : Value) (xs : List GStp) : Prop :=
  xs.length ≤ maxLen ∧ (∀ x ∈ xs, SlE w B x.l x.es ∧ Dk.KeepAt w (fun k => B ≤ k) x.k x.ks ∧ ∃ ka kc, x.k = .slice ka x.ks.length kc) ∧ ∃ a cap, v = .slice a xs.length cap ∧ (xs ≠ [] → ∃ b off, a = some ⟨b, off, none⟩ ∧ b < B ∧ ∀ i x, xs[i]? = some x → ∀ j u, x.cells[j]? = some u → w.cell? ⟨b, off + i * 7 + j, none⟩ = some u)
def sumE (es : List GE) : Nat := (es.map fun g => g.sql.size + 40).sum
def sumX (xs : List GStp) : Nat := (xs.map fun x => sumE x.es).sum
theorem sumE_app (a b : List GE) : sumE (a ++ b) = sumE a + sumE b := by simp [sumE]
theorem sumX_app (a b : List GStp) : sumX (a ++ b) = sumX a + sumX b := by simp [sumX]
theorem sumE_le : ∀ {es : List GE}, (∀ g ∈ es, g.sql.size ≤ 2100) → sumE es ≤ 2140 * es.length
  | [], _ => by simp [sumE]
  | g :: es, h => by
    have h1 := h g (List.mem_cons_self ..)
    have h2 := sumE_le (es := es) (fun t ht => h t (List.mem_cons_of_mem _ ht))
    have : sumE (g :: es) = g.sql.size + 40 + sumE es := by simp [sumE]
    rw [this, List.length_cons]; omega
theorem sumX_le : ∀ {xs : List GStp}, (∀ x ∈ xs, sumE x.es ≤ 25680) → sumX xs ≤ 25680 * xs.length
  | [], _ => by simp [sumX]
  | x :: xs, h => by
    have h1 := h x (List.mem_cons_self ..)
    have h2 := sumX_le (xs := xs) (fun t ht => h t (List.mem_cons_of_mem _ ht))
    have : sumX (x :: xs) = sumE x.es + sumX xs := by simp [sumX]
    rw [this, List.length_cons]; omega
/-- What is looked at of a step. -/
def StpOk (x : GStp) : Prop := x.es.length ≤ 12 ∧ (∀ g ∈ x.es, g.sql.size ≤ 2100) ∧ x.ks.length ≤ 100
theorem StpOk.sum {x : GStp} (h : StpOk x) : sumE x.es ≤ 25680 := by have := sumE_le h.2.1; have := h.1; omega
def FewP (xs : List GStp) (e : Ending) : Prop := ∃ m, e = .returned (.bool m) ∧ (m = true → xs.length ≤ 50 ∧ (∀ x ∈ xs, StpOk x) ∧ sumX xs ≤ 12000)
theorem wsm_yes {es : List GE} (h : wsmB es 12 = true) : es.length ≤ 12 ∧ ∀ g ∈ es, g.sql.size ≤ 2100 := by
  simp [wsmB] at h
  exact h
set_option maxHeartbeats 12800000 in
set_option maxRecDepth 100000 in
theorem wfew_any (w : World) (B : Nat) (v : Value) (xs : List GStp) (h : SRow w B v xs) :
    Calls Tryz.prog 20 #[v] w fun e w' => FewP xs e ∧ w' = w := by
  obtain ⟨h1, h2, a, cap, rfl, hc⟩ := h
  have hl' : (xs.length : Int) ≤ 9223372036854775807 := by unfold maxLen at h1; omega
  have HC : Hid (∀ i x, xs[i]? = some x → ∃ b off la lc ka kc, a = some ⟨b, off, none⟩ ∧ x.l = .slice la x.es.length lc ∧ x.k = .slice ka x.ks.length kc ∧ w.cell? ⟨b, off + i * 7 + 5, none⟩ = some x.l ∧ w.cell? ⟨b, off + i * 7 + 6, none⟩ = some x.k ∧ SlE w B x.l x.es) := fun i x hi => by
    have hm := List.mem_of_getElem? hi
    obtain ⟨b, off, rfl, _, hcc⟩ := hc (fun e => by rw [e] at hm; cases hm)
    obtain ⟨q1, q2, ka, kc, q3⟩ := h2 x hm
    obtain ⟨_, _, la, lc, q4, _⟩ := id q1
    exact ⟨b, off, la, lc, ka, kc, rfl, q4, q3, hcc i x hi 5 _ rfl, hcc i x hi 6 _ rfl, q1⟩
  have HS : Hid (∀ (v : Value) (ts : List GE), SlE w B v ts → Calls Tryz.prog 40 #[v, .int .i64 12] w fun e w' => e = .returned (.bool (wsmB ts 12)) ∧ w' = w) := fun v ts h => wsmall_any v B ts 12 w h
  clear hc h2 h1
  go_enter Tryz.func20, Tryz.ntmps20
  go_wp2_with fail
  go_loop [3, 4, 5] (fun n i k => k = k ∧ ∃ (m : Nat) (N : Int), m ≤ xs.length ∧ i = .int .i64 (m : Int) ∧ n = .int .i64 N ∧ Hid ((xs.length ≤ 50 → N = ((sumX (xs.take m) : Nat) : Int)) ∧ ∀ x ∈ xs.take m, StpOk x)) (fun _ i _ => xs.length - (RowKit.intOf i).toNat)
  case atStart => exact ⟨rfl, 0, 0, by omega, rfl, rfl, fun _ => rfl, by intro x hx; simp at hx⟩
  case round =>
    obtain ⟨-, m, N, hm, rfl, rfl, hall⟩ := hrel
    have hsm : ((sumX (xs.take m) : Nat) : Int) ≤ 25680 * (m : Int) := by
      have h1 := sumX_le (xs := xs.take m) (fun x hx => ((unhide hall).2 x hx).sum)
      have h2 : (xs.take m).length ≤ m := by rw [List.length_take]; omega
      omega
    by_cases hlt : m < xs.length
    · obtain ⟨x, hx⟩ : ∃ x, xs[m]? = some x := ⟨xs[m], List.getElem?_eq_getElem hlt⟩
      obtain ⟨b, off, la, lc, ka, kc, rfl, el, ek, c5, c6, hs⟩ := unhide HC m x hx
      rw [el] at c5 hs
      rw [ek] at c6
      have hmi : (m : Int) < (xs.length : Int) := by omega
      have hm0 : (0 : Int) ≤ (m : Int) := by omega
      have HS1 := hide (unhide HS _ _ hs)
      have HX := hide hx
      have hn1 : xs.take (m + 1) = xs.take m ++ [x] := by rw [List.take_add_one, hx]; rfl
      have hn2 : sumX (xs.take (m + 1)) = sumX (xs.take m) + sumE x.es := by rw [hn1, sumX_app]; simp [sumX]
      have HN := hide (And.intro hn1 hn2)
      clear hx hn1 hn2
      have hel : (x.es.length : Int) ≤ 9223372036854775807 := by have := hs.1; unfold maxLen at this; omega
      have HSE := hide hs
      clear hs
      cases hb : wsmB x.es 12 with
      | false =>
        rw [hb] at HS1
        go_wp2_with (first | (go_at_call 40; refine (unhide HS1).mono ?_; rintro e w1 ⟨rfl, rfl⟩))
        go_ret
        exact ⟨⟨false, rfl, fun h => by cases h⟩, rfl⟩
      | true =>
        rw [hb] at HS1
        obtain ⟨h12, h21⟩ := wsm_yes hb
        by_cases h100 : (100 : Int) < (x.ks.length : Int)
        · go_wp2_with (first | (go_at_call 40; refine (unhide HS1).mono ?_; rintro e w1 ⟨rfl, rfl⟩))
          go_ret
          exact ⟨⟨false, rfl, fun h => by cases h⟩, rfl⟩
        · have HOK : Hid (StpOk x) := ⟨h12, h21, by omega⟩
          have HSU : Hid (∀ j, j ≤ x.es.length → sumE (x.es.take j) ≤ 25680) := fun j hj => by
            have h1 := sumE_le (es := x.es.take j) (fun g hg => h21 g (List.mem_of_mem_take hg))
            have h2 : (x.es.take j).length ≤ 12 := by rw [List.length_take]; omega
            omega
          have HEC : Hid (∀ j g, x.es[j]? = some g → ∃ eb eo, la = some ⟨eb, eo, none⟩ ∧ w.cell? ⟨eb, eo + j * 5 + 4, none⟩ = some (.string g.sql) ∧ g.sql.size ≤ 2100) := fun j g hg => by
            obtain ⟨_, _, a', cap', e', hcc⟩ := unhide HSE
            cases e'
            have hm := List.mem_of_getElem? hg
            obtain ⟨eb, eo, rfl, _, h3⟩ := hcc (fun e => by rw [e] at hm; cases hm)
            exact ⟨eb, eo, rfl, (h3 j g hg).2.2.2.2, h21 g hm⟩
          clear HC HSE h12 h21 hb el ek
          go_wp2_with (first | (go_at_call 40; refine (unhide HS1).mono ?_; rintro e w1 ⟨rfl, rfl⟩))
          go_loop [3, 5] (fun n k => ∃ (j : Nat) (M : Int), j ≤ x.es.length ∧ k = .int .i64 (j : Int) ∧ n = .int .i64 M ∧ Hid (xs.length ≤ 50 → M = (((sumX (xs.take m) + sumE (x.es.take j) : Nat)) : Int))) (fun _ k => x.es.length - (RowKit.intOf k).toNat)
          case atStart => exact ⟨0, N, by omega, rfl, rfl, fun h => by rw [(unhide hall).1 h]; simp [sumE]⟩
          case round =>
            obtain ⟨j, M, hj, rfl, rfl, hM⟩ := hrel
            have hsj := unhide HSU j hj
            by_cases hjl : j < x.es.length
            · obtain ⟨g, hg⟩ : ∃ g, x.es[j]? = some g := ⟨x.es[j], List.getElem?_eq_getElem hjl⟩
              obtain ⟨eb, eo, rfl, d4, hgs⟩ := unhide HEC j g hg
              have hji : (j : Int) < (x.es.length : Int) := by omega
              have hj0 : (0 : Int) ≤ (j : Int) := by omega
              have hsn : sumE (x.es.take (j + 1)) = sumE (x.es.take j) + (g.sql.size + 40) := by rw [List.take_add_one, hg, sumE_app]; simp [sumE]
              have HM2 : Hid (xs.length ≤ 50 → wrap64 (wrap64 (M + (g.sql.size : Int)) + 40) = (((sumX (xs.take m) + sumE (x.es.take (j + 1)) : Nat)) : Int)) := fun h => by
                have h1 := unhide hM h
                rw [hsn]
                simp only [wrap64]
                omega
              clear hg hsn
              go_wp2_with fail
              go_round
              case rel => exact ⟨j + 1, _, by omega, by go_num, rfl, unhide HM2⟩
              case measure => simp [RowKit.intOf]; omega
            · obtain rfl : j = x.es.length := by omega
              have hji : ¬ ((x.es.length : Int) < (x.es.length : Int)) := by omega
              go_wp2_with fail
              go_round
              case rel =>
                refine ⟨trivial, m + 1, M, by omega, by go_num, rfl, fun h => by rw [(unhide HN).2, unhide hM h, List.take_length], ?_⟩
                intro y hy
                rw [(unhide HN).1] at hy
                rcases List.mem_append.1 hy with h' | h'
                · exact (unhide hall).2 y h'
                · rw [List.mem_singleton.1 h']; exact unhide HOK
              case measure => simp [RowKit.intOf]; omega
    · obtain rfl : m = xs.length := by omega
      have hmi : ¬ ((xs.length : Int) < (xs.length : Int)) := by omega
      rw [List.take_length] at hall hsm
      by_cases h50 : (xs.length : Int) ≤ 50
      · have hN := (unhide hall).1 (by omega)
        subst hN
        have HF : Hid (FewP xs (.returned (.bool (decide (((sumX xs : Nat) : Int) ≤ 12000))))) := ⟨_, rfl, fun h => ⟨by omega, (unhide hall).2, by have := of_decide_eq_true h; omega⟩⟩
        clear hall HC HS
        go_wp2_with fail
        go_ret
        exact ⟨unhide HF, rfl⟩
      · clear hall HC HS
        go_wp2_with fail
        go_ret
        exact ⟨⟨false, rfl, fun h => by cases h⟩, rfl⟩
end Go.Proofs.YthphadbcebeoaaaGreatDoor
/- Rows of entries: a step of a region that draws: one row behind the other. -/
namespace Go.Proofs.YthphadbcebeoaaaGreatDoor
open Go.RowKit Go.Lib Go.Maps

theorem step_own {ops : Array Oper} {o : Oper} {a : Act} {w : World} {K : Act → World → Prop} {Q : Exit → Act → World → Prop} {E : Prop} {d : Nat} (hgd : o.guard = none) (hd : o.dst = some d) (s x : Operand)
    (ho : o.op = .call { callee := .builtin .append, args := #[s, x], argTypes := #[34, 34] })
    {base : Nat} {v u : Value} {xs bs : List GE} (hs : a.eval s = v) (hown : w.ownsRow base 37 5 v xs.length (esC xs)) (hx : a.eval x = u) (hu : EL w u bs) (hn : xs.length + bs.length ≤ 1000000) (hb : base ≤ w.heap.size)
    (h : ∀ v' w', w'.ownsRow base 37 5 v' (xs ++ bs).length (esC (xs ++ bs)) → (∀ k, k < w.heap.size → k < base ∨ v = .slice none 0 0 → w'.heap[k]? = w.heap[k]?) → w.heap.size ≤ w'.heap.size → Dk.Env w w' → K (a.put (some d) v') w') : if Region.wanted o (yielded ops a.tmps) = true then Oper.wp Tryz.prog o a w K Q else E := by
  rw [← hd] at h
  obtain ⟨i0, hi, hz0, hz1, hz2⟩ := info_parts Tryz.infoEn
  rcases hu with ⟨rfl, rfl⟩ | ⟨g, off, k, cur, rfl, h2, h3, h4, h5, h6⟩
  · have hw : Region.wanted o (yielded ops a.tmps) = true := by simp [Region.wanted, hgd]
    rw [if_pos hw]
    have hrun := run_append_owned_none (P := Tryz.prog) (w := w) base 34 o.type 37 i0 5 Tryz.underlying34 hi v xs.length (esC xs) hown
    unfold Oper.wp
    simp [execOp, ho, resolve, invoke, builtin, hs, hx, hrun, Result.andThen]
    exact h v w (by rw [List.append_nil]; exact hown) (fun _ _ _ => rfl) (Nat.le_refl _) ⟨rfl, rfl, rfl⟩
  · have hw : Region.wanted o (yielded ops a.tmps) = true := by simp [Region.wanted, hgd]
    rw [if_pos hw]
    obtain ⟨v', w', hrun, q2, q3, _, q5⟩ := run_append_own_at (P := Tryz.prog) w base 34 o.type 37 i0 _ 5 48 Tryz.underlying34 hi hz0 hz1 hz2 rfl (by decide) v xs.length (esC xs) hown ⟨g, off, none⟩ bs.length k (esC bs) (esC_len bs) (fun j u hj => by rw [Go.WideShapes.add_plain]; exact (row_at h2 h5 h6).1 j u hj) (fun u hu => by
      unfold esC at hu
      obtain ⟨x, _, hx⟩ := List.mem_flatMap.1 hu
      exact geC_one x u hx) (by unfold maxLen; omega) (by omega) hb
    unfold Oper.wp
    simp [execOp, ho, resolve, invoke, builtin, hs, hx, hrun, Result.andThen]
    refine h v' w' (by rw [List.length_append, esC_app]; exact q2) (fun k' hk' hc => q3.block k' hk' (fun e => ?_)) q3.size ⟨q3.os, q3.tape, q3.output⟩
    rcases hown.2 with ⟨rfl, _⟩ | ⟨g', c', cur', rfl, hB, _⟩
    · simp [Value.ownBlock] at e
    · simp [Value.ownBlock] at e
      rcases hc with hc | hc
      · omega
      · cases hc
theorem x_cells {w : World} {xb i : Nat} (h : EL w (.slice (some ⟨xb, 0, none⟩) 1 1) [gx i]) : w.cell? ⟨xb, 0, none⟩ = some (.int .u64 (i : Int)) ∧ w.cell? ⟨xb, 1, none⟩ = some (.int .i64 1) ∧ w.cell? ⟨xb, 2, none⟩ = some (.int .u64 0) ∧ w.cell? ⟨xb, 3, none⟩ = some (.int .u64 (i : Int)) ∧ w.cell? ⟨xb, 4, none⟩ = some (.string ⟨#[]⟩) := by
  obtain ⟨g, off, k, e, _, _, hc⟩ := h.cells (i := 0) rfl
  cases e
  have h0 := hc 0 _ rfl
  have h1 := hc 1 _ rfl
  have h2 := hc 2 _ rfl
  have h3 := hc 3 _ rfl
  have h4 := hc 4 _ rfl
  exact ⟨h0, h1, h2, h3, h4⟩
theorem el_x {w : World} {xb i : Nat} (h : w.heap[xb]? = some (.cells #[.int .u64 (i : Int), .int .i64 1, .int .u64 0, .int .u64 (i : Int), .string ⟨#[]⟩] 37 (0, 0))) : EL w (.slice (some ⟨xb, 0, none⟩) 1 1) [gx i] :=
  .inr ⟨xb, 0, 1, _, rfl, h, Nat.le_refl _, by decide, by simp, by simp [esC, geC, gx]⟩
end Go.Proofs.YthphadbcebeoaaaGreatDoor
/- WalCuts: its arguments. -/
namespace Go.Proofs.YthphadbcebeoaaaGreatDoor
open Go.ChangeShapes Go.WideShapes Go.RowKit Go.Lib Go.Maps

theorem Tryz.wcellsIs : Tryz.prog.cellsOf 23 = 1 := by kernel_rfl
theorem Tryz.wcellsCr : Tryz.prog.cellsOf 25 = 1 := by kernel_rfl
theorem wfields_some {α : Type} {xs : List α} {fs : Array Field} {T : Field → Option α} (hlen : xs.length = fs.size) (hf : ∀ (i : Nat) (f : Field), fs[i]? = some f → T f = xs[i]?) (i : Nat) (f : Field) (h : fs[i]? = some f) : ∃ y, T f = some y := by
  have : i < xs.length := by rw [hlen]; exact (Array.getElem?_eq_some_iff.1 h).1
  exact ⟨xs[i], (hf i f h).trans (List.getElem?_eq_getElem this)⟩
section
variable {H : Type} {enc : TypeId × Value → H} {W : World} {base : Nat} {hd : Bool}
set_option maxRecDepth 100000 in
theorem wis_cells {fuel : Nat} {cs : List Value} {x : DataW H × List MemPlace} (h : DataW.trod enc Tryz.prog W base (fun _ => true) hd fuel 23 cs = some x) :
    ∃ (a : Option Addr) (k : Nat) (l : List Int), cs = [.slice a l.length k] ∧ l.length ≤ maxLen ∧ Dk.KeepAt W (fun k => W.heap.size ≤ k) (.slice a l.length k) l := by
  rcases open_ints Tryz.underlying23 Tryz.underlying3 (by kernel_rfl) h with ⟨hcs, _⟩ | ⟨x, len, cap, zs, hcs, _, hl, hm, hz, _, hcell, hwz⟩
  · exact ⟨none, 0, [], hcs, by simp, fun x hx => (by cases hx), .inl ⟨⟨none, 0, rfl⟩, rfl⟩⟩
  · have hzl : zs.length = cap := by simpa using hz
    cases len with
    | zero => exact ⟨some x, cap, [], hcs, by simp, fun x hx => (by cases hx), .inl ⟨⟨some x, cap, rfl⟩, rfl⟩⟩
    | succ len =>
      have h0 := hcell 0 (by omega)
      have h0' : W.cell? x = some (.int .i64 (zs.getD 0 0)) := by simpa [Addr.add] using h0
      have hspot := World.cell?_spot h0'
      have hblk : x.block < W.heap.size := lt_of_cell h0'
      obtain ⟨b, off, spot⟩ := x
      dsimp only at hspot hblk
      subst hspot
      have hlen : (zs.take (len + 1)).length = len + 1 := by simp; omega
      refine ⟨_, cap, zs.take (len + 1), by rw [hlen]; exact hcs, by omega, fun y hy => ?_, .inr ⟨b, off, cap, hblk, by show ¬ W.heap.size ≤ b; omega, by omega, hm, rfl, fun i y hi => ?_⟩⟩
      · have hw := hwz y (List.mem_of_mem_take hy)
        have := bounds_i64 hw
        omega
      · have hil := (List.getElem?_eq_some_iff.1 hi).1
        have hi' : i < zs.length := by omega
        have h1 := hcell i hi'
        rw [Go.WideShapes.add_plain] at h1
        rw [h1]
        rw [List.getElem?_take] at hi
        split at hi
        · rw [List.getD_eq_getElem?_getD, hi]; rfl
        · cases hi
set_option maxRecDepth 100000 in
theorem crash_in {b0 : Nat} {v : Value} {d : DataW H} {ps : List MemPlace} (hv : Value.okWide Tryz.prog W .any b0 25 v) (hT : DataW.Trod enc Tryz.prog W base (fun _ => true) hd 25 v d ps) :
    ∃ (ka : Option Addr) (kc : Nat) (ks : List Int), v = .agg #[.slice ka ks.length kc] ∧ ks.length ≤ maxLen ∧ Dk.KeepAt W (fun _ => False) (.slice ka ks.length kc) ks := by
  obtain ⟨cs, rfl, hsz⟩ := okWide_struct Tryz.underlying25 hv
  rw [Tryz.wcellsCr] at hsz
  obtain ⟨fuel, hf⟩ := hT
  obtain ⟨xs', n', _, _, hl', hlen', hf'⟩ := DataW.trod_struct Tryz.underlying25 hf
  obtain ⟨y6, h6⟩ := wfields_some hlen' hf' 0 _ rfl
  obtain ⟨l⟩ := cs
  match l, hsz with
  | [c0], _ =>
    simp [Tryz.wcellsIs, Value.cells] at h6
    obtain ⟨ka, kk, ks, e5, b5, hk⟩ := wis_cells h6
    simp at e5
    subst e5
    exact ⟨ka, kk, ks, rfl, b5, keep_less hk (fun _ h => h.elim)⟩
end
theorem rbu_hl {w : World} {a : Option Addr} {len cap : Nat} {l : List UInt8} (h : RBu w w.heap.size (.slice a len cap) l) (hl : l.length = len) : ∀ j, j < len → ∃ (b off c : Nat), a = some ⟨b, off, none⟩ ∧ b < w.heap.size ∧ c < 256 ∧ w.cell? ⟨b, off + j, none⟩ = some (.int .u8 (c : Int)) := by
  intro j hj
  rcases h with ⟨h, _⟩ | ⟨b, off, cap', h1, h2, h3, h4, h5⟩
  · cases h; cases hj
  · cases h4
    exact ⟨b, off, _, rfl, h1, (l.getD j 0).toNat_lt, h5 j (by omega)⟩
end Go.Proofs.YthphadbcebeoaaaGreatDoor
/- The wal's statements: entries, a term and a vote that come in. -/
namespace Go.Proofs.YthphadbcebeoaaaGreatDoor
open Go.ChangeShapes Go.WideShapes Go.ChangeAt Go.RowKit Go.Lib Go.Maps

theorem Tryz.wcellsEn : Tryz.prog.cellsOf 37 = 5 := by kernel_rfl
theorem Tryz.wcellsStr : Tryz.prog.cellsOf 9 = 1 := by kernel_rfl
theorem Tryz.wcellsU : Tryz.prog.cellsOf 35 = 1 := by kernel_rfl
theorem Tryz.wcellsI : Tryz.prog.cellsOf 3 = 1 := by kernel_rfl
theorem Tryz.wcellsHd : Tryz.prog.cellsOf 47 = 2 := by kernel_rfl
theorem wlist_of {α : Type} (Q : Nat → α → Prop) : ∀ n, (∀ i, i < n → ∃ g, Q i g) → ∃ gs : List α, gs.length = n ∧ ∀ i g, gs[i]? = some g → Q i g := by
  intro n
  induction n with
  | zero => intro _; exact ⟨[], rfl, fun i g h => by simp at h⟩
  | succ n ih =>
    intro h
    obtain ⟨gs, hl, hg⟩ := ih fun i hi => h i (by omega)
    obtain ⟨g, hq⟩ := h n (by omega)
    refine ⟨gs ++ [g], by simp [hl], fun i x hx => ?_⟩
    rcases Nat.lt_trichotomy i n with hi | hi | hi
    · rw [List.getElem?_append_left (by omega)] at hx; exact hg i x hx
    · subst hi
      rw [List.getElem?_append_right (by omega), hl] at hx
      simp at hx; subst hx; exact hq
    · rw [List.getElem?_eq_none (by simp; omega)] at hx; cases hx
theorem wlist5 {α : Type} {cs : List α} (h : cs.length = 5) : ∃ a b c d e, cs = [a, b, c, d, e] := by
  match cs, h with
  | [a, b, c, d, e], _ => exact ⟨a, b, c, d, e, rfl⟩
section
variable {H : Type} {enc : TypeId × Value → H} {W : World} {base : Nat} {sp : Nat → Bool} {hd : Bool}

theorem wtrod5 {P : Program} {t : TypeId} {f0 f1 f2 f3 f4 : Field} {fuel : Nat} {cs : List Value} {x : DataW H × List MemPlace} (ht : P.underlying t = some (.struct #[f0, f1, f2, f3, f4])) (h : DataW.trod enc P W base sp hd fuel t cs = some x) :
    ∃ y0 y1 y2 y3 y4 n, cs.length = P.cellsOf t ∧ DataW.trod enc P W base sp hd n f0.type ((cs.drop f0.offset).take (P.cellsOf f0.type)) = some y0 ∧ DataW.trod enc P W base sp hd n f1.type ((cs.drop f1.offset).take (P.cellsOf f1.type)) = some y1 ∧
      DataW.trod enc P W base sp hd n f2.type ((cs.drop f2.offset).take (P.cellsOf f2.type)) = some y2 ∧ DataW.trod enc P W base sp hd n f3.type ((cs.drop f3.offset).take (P.cellsOf f3.type)) = some y3 ∧
      DataW.trod enc P W base sp hd n f4.type ((cs.drop f4.offset).take (P.cellsOf f4.type)) = some y4 := by
  obtain ⟨xs, n, _, rfl, hl, hlen, hf⟩ := DataW.trod_struct ht h
  match xs, hlen with
  | [y0, y1, y2, y3, y4], _ => exact ⟨y0, y1, y2, y3, y4, n, hl, by simpa using hf 0 f0 rfl, by simpa using hf 1 f1 rfl, by simpa using hf 2 f2 rfl, by simpa using hf 3 f3 rfl, by simpa using hf 4 f4 rfl⟩

set_option maxRecDepth 100000 in
theorem went_cells {fuel : Nat} {cs : List Value} {x : DataW H × List MemPlace} (h : DataW.trod enc Tryz.prog W base sp hd fuel 37 cs = some x) :
    ∃ g : GE, g.ok ∧ cs = [.int .u64 g.term, .int .i64 g.kind, .int .u64 g.client, .int .u64 g.seq, .string g.sql] := by
  obtain ⟨y0, y1, y2, y3, y4, n, hl, h0, h1, h2, h3, h4⟩ := wtrod5 Tryz.underlying37 h
  rw [Tryz.wcellsEn] at hl
  obtain ⟨a, b, c, e, s, rfl⟩ := wlist5 hl
  simp [Tryz.wcellsStr, Tryz.wcellsU, Tryz.wcellsI] at h0 h1 h2 h3 h4
  obtain ⟨te, e0, _, w0⟩ := DataW.trod_int Tryz.underlying35 h0
  obtain ⟨k, e1, _, _⟩ := DataW.trod_int Tryz.underlying3 h1
  obtain ⟨cl, e2, _, w2⟩ := DataW.trod_int Tryz.underlying35 h2
  obtain ⟨q, e3, _, w3⟩ := DataW.trod_int Tryz.underlying35 h3
  obtain ⟨t, e4, _, w4⟩ := DataW.trod_string Tryz.underlying9 h4
  simp at e0 e1 e2 e3 e4
  subst e0 e1 e2 e3 e4
  have b0 := bounds_u64 w0
  have b2 := bounds_u64 w2
  have b3 := bounds_u64 w3
  obtain ⟨te, rfl⟩ := Int.eq_ofNat_of_zero_le b0.1
  obtain ⟨cl, rfl⟩ := Int.eq_ofNat_of_zero_le b2.1
  obtain ⟨q, rfl⟩ := Int.eq_ofNat_of_zero_le b3.1
  exact ⟨⟨te, k, cl, q, t⟩, ⟨by dsimp only; omega, by dsimp only; omega, by dsimp only; omega, w4⟩, rfl⟩
set_option maxRecDepth 100000 in
theorem wents_cells {fuel : Nat} {cs : List Value} {x : DataW H × List MemPlace} (h : DataW.trod enc Tryz.prog W base sp hd fuel 34 cs = some x) :
    ∃ (a : Option Addr) (k : Nat) (es : List (GE)), cs = [.slice a es.length k] ∧ (a = none → k = 0) ∧ SlE W W.heap.size (.slice a es.length k) es := by
  rcases DataW.trod_slice Tryz.underlying34 h with ⟨hcs, _⟩ | ⟨y, len, cap, elems, rest, n, _, hcs, _, hb, hl, hm, hlen, hel, _⟩
  · exact ⟨none, 0, [], hcs, fun _ => rfl, by simp, by simp, none, 0, rfl, fun h => absurd rfl h⟩
  · rw [Tryz.wcellsEn] at hel
    cases len with
    | zero => exact ⟨some y, cap, [], hcs, fun h => (by cases h), by simp, by simp, some y, cap, rfl, fun h => absurd rfl h⟩
    | succ len =>
      have first : ∃ u, W.cell? y = some u := by
        have he := hel 0 (by omega)
        rw [List.getElem?_eq_getElem (by omega), Option.bind_eq_some_iff] at he
        obtain ⟨cs', hc, ht⟩ := he
        obtain ⟨g, hg, rfl⟩ := went_cells ht
        obtain ⟨_, _, hcell⟩ := World.cells?_some hc
        have c0 := hcell 0 (by omega)
        exact ⟨_, by simpa [Addr.add] using c0⟩
      obtain ⟨u0, hy⟩ := first
      have hspot := World.cell?_spot hy
      have hblk : y.block < W.heap.size := lt_of_cell hy
      obtain ⟨b, off, spot⟩ := y
      dsimp only at hspot hblk
      subst hspot
      have each : ∀ i, i < len + 1 → ∃ g : GE, (g.ok) ∧ W.cell? ⟨b, off + i * 5, none⟩ = some (.int .u64 g.term) ∧ W.cell? ⟨b, off + i * 5 + 1, none⟩ = some (.int .i64 g.kind) ∧ W.cell? ⟨b, off + i * 5 + 2, none⟩ = some (.int .u64 g.client) ∧ W.cell? ⟨b, off + i * 5 + 3, none⟩ = some (.int .u64 g.seq) ∧ W.cell? ⟨b, off + i * 5 + 4, none⟩ = some (.string g.sql) := by
        intro i hi
        have he := hel i hi
        rw [List.getElem?_eq_getElem (by omega), Option.bind_eq_some_iff] at he
        obtain ⟨cs', hc, ht⟩ := he
        obtain ⟨g, hg, rfl⟩ := went_cells ht
        obtain ⟨_, _, hcell⟩ := World.cells?_some hc
        rw [Go.WideShapes.add_plain] at hcell
        have k0 := hcell 0 (by omega)
        have k1 := hcell 1 (by omega)
        have k2 := hcell 2 (by omega)
        have k3 := hcell 3 (by omega)
        have k4 := hcell 4 (by omega)
        rw [Go.WideShapes.add_plain] at k0 k1 k2 k3 k4
        exact ⟨g, hg, by simpa using k0, by simpa using k1, by simpa using k2, by simpa using k3, by simpa using k4⟩
      obtain ⟨es, hgl, hgs⟩ := wlist_of _ (len + 1) each
      refine ⟨some ⟨b, off, none⟩, cap, es, by rw [hgl]; exact hcs, fun h => (by cases h), by omega, fun g hg => ?_, some ⟨b, off, none⟩, cap, rfl, fun _ => ⟨b, off, rfl, hblk, fun i g hg => (hgs i g hg).2⟩⟩
      obtain ⟨i, hi⟩ := List.mem_iff_getElem?.1 hg
      exact (hgs i g hi).1

theorem wents_in {a : Option Addr} {len cap : Nat} {d : DataW H} {ps : List MemPlace} (hT : DataW.Trod enc Tryz.prog W base sp hd 34 (.slice a len cap) d ps) : ∃ es : List GE, es.length = len ∧ SlE W W.heap.size (.slice a es.length cap) es ∧ (a = none → cap = 0) := by
  obtain ⟨fuel, hf⟩ := hT
  obtain ⟨a', k, es, e1, e0, e2⟩ := wents_cells hf
  simp [Value.cells] at e1
  obtain ⟨rfl, rfl, rfl⟩ := e1
  exact ⟨es, rfl, e2, e0⟩
set_option maxRecDepth 100000 in
theorem hard_in {b0 : Nat} {v : Value} {d : DataW H} {ps : List MemPlace} (hv : Value.okWide Tryz.prog W .any b0 47 v) (hT : DataW.Trod enc Tryz.prog W base sp hd 47 v d ps) :
    ∃ (t : Nat) (x : Int), v = .agg #[.int .u64 (t : Int), .int .i64 x] ∧ t < 18446744073709551616 ∧ -9223372036854775808 ≤ x ∧ x < 9223372036854775808 := by
  obtain ⟨cs, rfl, hsz⟩ := okWide_struct Tryz.underlying47 hv
  rw [Tryz.wcellsHd] at hsz
  obtain ⟨fuel, hf⟩ := hT
  obtain ⟨xs', n', _, _, hl', hlen', hf'⟩ := DataW.trod_struct Tryz.underlying47 hf
  obtain ⟨y0, h0⟩ := wfields_some hlen' hf' 0 _ rfl
  obtain ⟨y1, h1⟩ := wfields_some hlen' hf' 1 _ rfl
  obtain ⟨l⟩ := cs
  match l, hsz with
  | [c0, c1], _ =>
    simp [Tryz.wcellsU, Tryz.wcellsI, Value.cells] at h0 h1
    obtain ⟨te, e0, _, w0⟩ := DataW.trod_int Tryz.underlying35 h0
    obtain ⟨k, e1, _, w1⟩ := DataW.trod_int Tryz.underlying3 h1
    simp at e0 e1
    subst e0 e1
    have b0 := bounds_u64 w0
    have b1 := bounds_i64 w1
    obtain ⟨te, rfl⟩ := Int.eq_ofNat_of_zero_le b0.1
    exact ⟨te, k, rfl, by omega, by omega, by omega⟩
end
end Go.Proofs.YthphadbcebeoaaaGreatDoor
