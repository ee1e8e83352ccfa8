/- NetPlays: the statement's own row of messages. -/
import Derived.Test.YtahpfhnekmilmaaGreatDoorNPFind
import Derived.ArgAppend
import Derived.Deep.RegionLawGrows
import Derived.Deep.Upon
import Derived.Great.BuildSlice
namespace Go.Proofs.YtahpfhnekmilmaaGreatDoor
open Go.RowKit Go.Lib Go.Maps

theorem Tryz.infoM : (Tryz.prog.info? 43).map (fun i => (i.zero, i.size, decide (i.bytes ≤ 4096))) = some (some (.agg zM), 23, true) := by kernel_rfl
theorem Tryz.infoMs : ∃ i, Tryz.prog.info? 43 = some i ∧ i.zero = some (.agg zM) ∧ i.size = 23 ∧ i.bytes ≤ 4096 := by
  have h := Tryz.infoM
  cases e : Tryz.prog.info? 43 with
  | none => rw [e] at h; cases h
  | some i =>
    rw [e] at h
    injection h with h
    injection h with h1 h
    injection h with h2 h3
    exact ⟨i, rfl, h1, h2, of_decide_eq_true h3⟩

/-- Cells of messages with these ends and numbers, one behind the other. -/
structure MC (xs : List Value) (A : List (Int × Nat)) : Prop where
  len : xs.length = A.length * 23
  one : ∀ u ∈ xs, u.oneCell' = true
  end' : ∀ (i : Nat) (a : Int × Nat), A[i]? = some a → xs[i * 23 + 2]? = some (.int .i64 a.1)
  seq : ∀ (i : Nat) (a : Int × Nat), A[i]? = some a → xs[i * 23 + 14]? = some (.int .u64 (a.2 : Int))
theorem MC.nil : MC [] [] := ⟨rfl, fun u hu => (by cases hu), fun i a h => (by simp at h), fun i a h => (by simp at h)⟩
theorem MC.single {M : List Value} {a : Int × Nat} (h : MS M a.1 a.2) : MC M [a] := by
  refine ⟨by simp [h.len], h.one, fun i b hb => ?_, fun i b hb => ?_⟩
  · cases i with
    | zero => simp at hb; subst hb; simpa using h.end'
    | succ k => simp at hb
  · cases i with
    | zero => simp at hb; subst hb; simpa using h.seq
    | succ k => simp at hb
theorem MC.append {xs ys : List Value} {A B : List (Int × Nat)} (h : MC xs A) (h' : MC ys B) : MC (xs ++ ys) (A ++ B) := by
  have hl := h.len
  have key : ∀ (c : Nat), c < 23 → ∀ (f : Int × Nat → Value), (∀ (i : Nat) (a : Int × Nat), A[i]? = some a → xs[i * 23 + c]? = some (f a)) → (∀ (i : Nat) (a : Int × Nat), B[i]? = some a → ys[i * 23 + c]? = some (f a)) → ∀ (i : Nat) (a : Int × Nat), (A ++ B)[i]? = some a → (xs ++ ys)[i * 23 + c]? = some (f a) := by
    intro c hc f h1 h2 i a ha
    rcases Nat.lt_or_ge i A.length with hi | hi
    · rw [List.getElem?_append_left hi] at ha
      rw [List.getElem?_append_left (by rw [hl]; omega)]
      exact h1 i a ha
    · rw [List.getElem?_append_right hi] at ha
      rw [List.getElem?_append_right (by rw [hl]; omega), hl]
      have e : i * 23 + c - A.length * 23 = (i - A.length) * 23 + c := by omega
      rw [e]
      exact h2 _ a ha
  refine ⟨by simp [h.len, h'.len, Nat.add_mul], fun u hu => ?_, key 2 (by decide) (fun a => .int .i64 a.1) h.end' h'.end', key 14 (by decide) (fun a => .int .u64 (a.2 : Int)) h.seq h'.seq⟩
  rcases List.mem_append.1 hu with hu | hu
  · exact h.one u hu
  · exact h'.one u hu
theorem MC.take {xs : List Value} {A : List (Int × Nat)} (h : MC xs A) {i : Nat} (hi : i ≤ A.length) : MC (xs.take (i * 23)) (A.take i) := by
  have hl := h.len
  refine ⟨by rw [List.length_take, List.length_take, hl]; omega, fun u hu => h.one u (List.mem_of_mem_take hu), fun j a ha => ?_, fun j a ha => ?_⟩
  · rw [List.getElem?_take] at ha
    split at ha
    · rw [List.getElem?_take, if_pos (by omega)]; exact h.end' j a ha
    · cases ha
  · rw [List.getElem?_take] at ha
    split at ha
    · rw [List.getElem?_take, if_pos (by omega)]; exact h.seq j a ha
    · cases ha
theorem MC.drop {xs : List Value} {A : List (Int × Nat)} (h : MC xs A) (i : Nat) : MC (xs.drop (i * 23)) (A.drop i) := by
  have hl := h.len
  refine ⟨by rw [List.length_drop, List.length_drop, hl]; omega, fun u hu => h.one u (List.mem_of_mem_drop hu), fun j a ha => ?_, fun j a ha => ?_⟩
  · rw [List.getElem?_drop] at ha
    have := h.end' _ a ha
    rw [List.getElem?_drop]
    rw [← this]; congr 1; omega
  · rw [List.getElem?_drop] at ha
    have := h.seq _ a ha
    rw [List.getElem?_drop]
    rw [← this]; congr 1; omega
theorem MC.erase {xs : List Value} {A : List (Int × Nat)} (h : MC xs A) {i : Nat} (hi : i < A.length) : MC (xs.take (i * 23) ++ xs.drop ((i + 1) * 23)) (A.eraseIdx i) := by
  rw [List.eraseIdx_eq_take_drop_succ]
  exact (h.take (by omega)).append (h.drop (i + 1))

/-- A row of messages of the call's own (blocks from B on), whatever its capacity's end. -/
def MR (w : World) (B : Nat) (v : Value) (A : List (Int × Nat)) : Prop :=
  ∃ xs, MC xs A ∧ ((v = .slice none 0 0 ∧ A = []) ∨ ∃ g k cur, v = .slice (some ⟨g, 0, none⟩) A.length k ∧ B ≤ g ∧ w.heap[g]? = some (.cells cur 43 (0, 0)) ∧ A.length ≤ k ∧ k ≤ maxLen ∧ k * 23 ≤ cur.size ∧ cur.toList.take (A.length * 23) = xs)
theorem MR.nil (w : World) (B : Nat) : MR w B (.slice none 0 0) [] := ⟨[], MC.nil, .inl ⟨rfl, rfl⟩⟩
theorem MR.own {w : World} {B n : Nat} {v : Value} {xs : List Value} {A : List (Int × Nat)} (h : w.ownsRow B 43 23 v n xs) (hc : MC xs A) (hn : n = A.length) : MR w B v A := by
  subst hn
  obtain ⟨_, ⟨rfl, h0⟩ | ⟨g, cap, cur, h1, h2, h3, h4, h5, h6, h7⟩⟩ := h
  · exact ⟨xs, hc, .inl ⟨rfl, List.eq_nil_of_length_eq_zero h0⟩⟩
  · exact ⟨xs, hc, .inr ⟨g, cap, cur, h1, h2, h3, h4, h5, by omega, h7⟩⟩
theorem MR.slice {w : World} {B : Nat} {v : Value} {A : List (Int × Nat)} (h : MR w B v A) : ∃ a k, v = .slice a A.length k ∧ A.length ≤ k := by
  obtain ⟨xs, hc, ⟨rfl, rfl⟩ | ⟨g, k, cur, h1, h2, h3, h4, _⟩⟩ := h
  · exact ⟨none, 0, rfl, Nat.le_refl _⟩
  · exact ⟨_, k, h1, h4⟩
theorem MR.keep {w w' : World} {B : Nat} {v : Value} {A : List (Int × Nat)} (h : MR w B v A) (hk : ∀ k, v.ownBlock = some k → w'.heap[k]? = w.heap[k]?) : MR w' B v A := by
  obtain ⟨xs, hc, h0 | ⟨g, k, cur, h1, h2, h3, h4⟩⟩ := h
  · exact ⟨xs, hc, .inl h0⟩
  · exact ⟨xs, hc, .inr ⟨g, k, cur, h1, h2, (hk g (by rw [h1]; rfl)).trans h3, h4⟩⟩
theorem MR.lt {w : World} {B : Nat} {v : Value} {A : List (Int × Nat)} (h : MR w B v A) {k : Nat} (hk : v.ownBlock = some k) : B ≤ k ∧ k < w.heap.size := by
  obtain ⟨xs, hc, ⟨rfl, _⟩ | ⟨g, c, cur, h1, h2, h3, h4⟩⟩ := h
  · simp [Value.ownBlock] at hk
  · rw [h1] at hk
    simp [Value.ownBlock] at hk
    subst hk
    exact ⟨h2, (Array.getElem?_eq_some_iff.1 h3).1⟩
/-- What a row that isn't empty looks like. -/
theorem MR.open {w : World} {B : Nat} {v : Value} {A : List (Int × Nat)} (h : MR w B v A) (hA : 0 < A.length) : ∃ g k xs, v = .slice (some ⟨g, 0, none⟩) A.length k ∧ A.length ≤ k ∧ k ≤ maxLen ∧ MC xs A ∧ B ≤ g ∧ g < w.heap.size ∧ w.rangeAt g 0 xs ∧ w.there g 0 (k * 23) ∧ ∃ cur, w.heap[g]? = some (.cells cur 43 (0, 0)) ∧ k * 23 ≤ cur.size ∧ cur.toList.take (A.length * 23) = xs := by
  obtain ⟨xs, hc, ⟨rfl, rfl⟩ | ⟨g, k, cur, h1, h2, h3, h4, h5, h6, h7⟩⟩ := h
  · simp at hA
  · refine ⟨g, k, xs, h1, h4, h5, hc, h2, (Array.getElem?_eq_some_iff.1 h3).1, fun j u hj => ?_, fun j hj => ?_, cur, h3, h6, h7⟩
    · rw [Nat.zero_add, (cellB h3 j).1, ← Array.getElem?_toList]
      rw [← h7, List.getElem?_take] at hj
      split at hj
      · exact hj
      · cases hj
    · rw [Nat.zero_add, (cellB h3 j).1]
      exact ⟨by rw [Array.getElem?_eq_getElem (by omega)]; rfl, (cellB h3 j).2⟩
theorem MR.cell {w : World} {B i : Nat} {v : Value} {A : List (Int × Nat)} {a : Int × Nat} (h : MR w B v A) (ha : A[i]? = some a) : ∃ g k, v = .slice (some ⟨g, 0, none⟩) A.length k ∧ A.length ≤ k ∧ g < w.heap.size ∧ w.cell? ⟨g, i * 23 + 2, none⟩ = some (.int .i64 a.1) ∧ w.cell? ⟨g, i * 23 + 14, none⟩ = some (.int .u64 (a.2 : Int)) := by
  have hi := (List.getElem?_eq_some_iff.1 ha).1
  obtain ⟨g, k, xs, h1, h2, h3, hc, h5, h6, hr, _⟩ := h.open (by omega)
  refine ⟨g, k, h1, h2, h6, ?_, ?_⟩
  · have := hr _ _ (hc.end' i a ha); rwa [Nat.zero_add] at this
  · have := hr _ _ (hc.seq i a ha); rwa [Nat.zero_add] at this
/-- A message of the row, read whole. -/
theorem MR.whole {w : World} {B i : Nat} {v : Value} {A : List (Int × Nat)} {a : Int × Nat} (h : MR w B v A) (ha : A[i]? = some a) : ∃ M, M.length = 23 ∧ (∀ u ∈ M, u.oneCell' = true) ∧ M[2]? = some (.int .i64 a.1) ∧ M[14]? = some (.int .u64 (a.2 : Int)) ∧ ∃ g k, v = .slice (some ⟨g, 0, none⟩) A.length k ∧ A.length ≤ k ∧ g < w.heap.size ∧ w.rangeAt g (i * 23) M := by
  have hi := (List.getElem?_eq_some_iff.1 ha).1
  obtain ⟨g, k, xs, h1, h2, h3, hc, h5, h6, hr, _⟩ := h.open (by omega)
  have hl := hc.len
  have h2' := hc.end' i a ha
  have h14 := hc.seq i a ha
  refine ⟨(xs.drop (i * 23)).take 23, by rw [List.length_take, List.length_drop, hl]; omega, fun u hu => hc.one u (List.mem_of_mem_drop (List.mem_of_mem_take hu)), ?_, ?_, g, k, h1, h2, h6, fun j u hj => ?_⟩
  · rw [List.getElem?_take, if_pos (by decide), List.getElem?_drop]; exact h2'
  · rw [List.getElem?_take, if_pos (by decide), List.getElem?_drop]; exact h14
  · rw [List.getElem?_take] at hj
    split at hj
    · rw [List.getElem?_drop] at hj
      have := hr _ _ hj
      rwa [Nat.zero_add] at this
    · cases hj
theorem row_reads {w : World} {g k n : Nat} {cur : Array Value} {xs : List Value} (h3 : w.heap[g]? = some (.cells cur 43 (0, 0))) (h6 : k * 23 ≤ cur.size) (h7 : cur.toList.take (n * 23) = xs) : w.rangeAt g 0 xs ∧ w.there g 0 (k * 23) := by
  refine ⟨fun j u hj => ?_, fun j hj => ?_⟩
  · rw [Nat.zero_add, (cellB h3 j).1, ← Array.getElem?_toList]
    rw [← h7, List.getElem?_take] at hj
    split at hj
    · exact hj
    · cases hj
  · rw [Nat.zero_add, (cellB h3 j).1]
    exact ⟨by rw [Array.getElem?_eq_getElem (by omega)]; rfl, (cellB h3 j).2⟩
theorem grown_keep {w w' : World} {r : Option Nat} (h : w.grownBy w' r) (k : Nat) (hk : k < w.heap.size) (hr : r ≠ some k) : w'.heap[k]? = w.heap[k]? := h.block k hk (fun e => hr e.symm)

/-- One message more. -/
theorem mr_append {ops : Array Oper} {rest : List Oper} {o : Oper} {a : Act} {w : World} {Q : Exit → Act → World → Prop} (hgd : o.guard = none) (s x : Operand)
    (ho : o.op = .call { callee := .builtin .append, args := #[s, x], argTypes := #[26, 26] })
    {B : Nat} {v : Value} {A : List (Int × Nat)} (hm : MR w B v A) (hs : a.eval s = v) (hB : B ≤ w.heap.size) (hf : A.length ≤ 1000) {nb c : Nat} {M : List Value} {e : Int × Nat} (hM : MC M [e]) (hx : a.eval x = .slice (some ⟨nb, 0, none⟩) 1 c) (hr : w.rangeAt nb 0 M)
    (h : ∀ v' w', MR w' B v' (A ++ [e]) → w.grownBy w' v.ownBlock → (∀ k, v'.ownBlock = some k → v.ownBlock = some k ∨ w.heap.size ≤ k) → wpList Tryz.prog ops Q rest (a.put o.dst v') w') : wpList Tryz.prog ops Q (o :: rest) a w := by
  obtain ⟨i0, hi, hz0, hz1, hz2⟩ := Tryz.infoMs
  have hml : M.length = 1 * 23 := by rw [hM.len]; rfl
  have hnews : ∀ j u, M[j]? = some u → w.cell? ((⟨nb, 0, none⟩ : Addr).add j) = some u := fun j u hj => by
    have := hr j u hj
    rwa [Go.WideShapes.add_plain]
  have hby : (A.length + 1) * i0.bytes ≤ 140737488355328 := Nat.le_trans (Nat.mul_le_mul (show A.length + 1 ≤ 1001 by omega) hz2) (by decide)
  obtain ⟨xs, hc, ⟨rfl, rfl⟩ | ⟨g, k, cur, h1, h2, h3, h4, h5, h6, h7⟩⟩ := id hm
  · refine wpList_append_grows w hgd s x 26 ho 43 i0 (.agg zM) 23 i0.bytes Tryz.underlying26 hi hz0 hz1 rfl rfl (by decide) none 0 0 [] hs (fun _ => ⟨rfl, rfl⟩) rfl (fun b hb => by cases hb) ⟨nb, 0, none⟩ 1 c M hx hml hnews hM.one (by decide) (by unfold maxLen; decide) (by simpa using hby) (fun v' w' ho' hg => ?_)
    refine h v' w' (MR.own (A := [] ++ [e]) ?_ hM rfl) ⟨hg.os, hg.tape, hg.output, hg.size, fun k hk _ => hg.block k hk (by simp)⟩ (fun k hk => .inr ?_)
    · obtain ⟨q1, q2 | ⟨g', cap, cur, q3, q4, q5⟩⟩ := ho'
      · exact ⟨q1, .inl q2⟩
      · exact ⟨q1, .inr ⟨g', cap, cur, q3, Nat.le_trans hB q4, q5⟩⟩
    · obtain ⟨_, ⟨q2, _⟩ | ⟨g', cap, cur, q3, q4, q5⟩⟩ := ho'
      · rw [q2] at hk; simp [Value.ownBlock] at hk
      · rw [q3] at hk; simp [Value.ownBlock] at hk; subst hk; exact q4
  · obtain ⟨hrr, hth⟩ := row_reads h3 h6 h7
    have hcl := hc.len
    refine wpList_append_arg w hgd s x 26 ho 43 i0 (.agg zM) 23 i0.bytes Tryz.underlying26 hi hz0 hz1 rfl rfl (by decide) g 0 A.length k xs (hs.trans h1) hcl hrr ⟨nb, 0, none⟩ 1 c M hx hml hnews hM.one (fun hk j hj => ?_) (by unfold maxLen; omega) hby (fun hk => ?_) (fun hk v' w' ho' hg => ?_)
    · have := hth (A.length * 23 + j) (by omega)
      rwa [← Nat.add_assoc] at this
    · obtain ⟨cur', c1, c2, c3, c4⟩ := setCells_blk M (0 + A.length * 23) w cur h3 (by omega)
      refine h _ _ ⟨xs ++ M, hc.append hM, .inr ⟨g, k, cur', by simp, h2, c1, by simpa using hk, h5, by omega, ?_⟩⟩ ⟨?_, ?_, ?_, ?_, ?_⟩ (fun q hq => .inl ?_)
      · rw [Nat.zero_add] at c3 c4
        refine List.ext_getElem? fun j => ?_
        have hl' : (A ++ [e]).length * 23 = A.length * 23 + 23 := by simp; omega
        rw [hl', List.getElem?_take]
        rcases Nat.lt_or_ge j (A.length * 23) with h8 | h8
        · rw [if_pos (by omega), Array.getElem?_toList, c4 j (.inl h8), List.getElem?_append_left (by omega), ← h7, List.getElem?_take, if_pos h8, Array.getElem?_toList]
        · rw [List.getElem?_append_right (by omega), hcl]
          split
          · rw [Array.getElem?_toList]
            exact c3 j h8 (by omega)
          · rw [List.getElem?_eq_none (by omega)]
      · exact (setCells_env M _ w).1
      · exact (setCells_env M _ w).2.1
      · exact (setCells_env M _ w).2.2
      · rw [setCells_size]; exact Nat.le_refl _
      · intro q hq hne
        exact setCells_other M _ w q (fun e => hne (by rw [h1, e]; rfl))
      · rw [h1]; exact hq
    · refine h v' w' (MR.own (n := A.length + 1) (A := A ++ [e]) ?_ (hc.append hM) (by simp)) ⟨hg.os, hg.tape, hg.output, hg.size, fun q hq _ => hg.block q hq (by simp)⟩ (fun q hq => .inr ?_)
      · obtain ⟨q1, q2 | ⟨g', cap, cur, q3, q4, q5⟩⟩ := ho'
        · exact ⟨q1, .inl q2⟩
        · exact ⟨q1, .inr ⟨g', cap, cur, q3, Nat.le_trans hB q4, q5⟩⟩
      · obtain ⟨_, ⟨q2, _⟩ | ⟨g', cap, cur, q3, q4, q5⟩⟩ := ho'
        · rw [q2] at hq; simp [Value.ownBlock] at hq
        · rw [q3] at hq; simp [Value.ownBlock] at hq; subst hq; exact q4

set_option maxRecDepth 100000 in
/-- A message of the row taken out: append(m[:i:i], m[i+1:]...). -/
theorem step_cut {ops : Array Oper} {o : Oper} {a : Act} {w : World} {K : Act → World → Prop} {Q : Exit → Act → World → Prop} {E : Prop} {d : Nat} (hgd : o.guard = none) (hd : o.dst = some d) (s x : Operand)
    (ho : o.op = .call { callee := .builtin .append, args := #[s, x], argTypes := #[26, 26] })
    {B g k i off c : Nat} {A : List (Int × Nat)} (hm : MR w B (.slice (some ⟨g, 0, none⟩) A.length k) A) (hB : B ≤ w.heap.size) (hf : A.length ≤ 1000) (hi : i < A.length) (hs : a.eval s = .slice (some ⟨g, 0, none⟩) i i) (hx : a.eval x = .slice (some ⟨g, off, none⟩) (A.length - (i + 1)) c) (hoff : off = (i + 1) * 23 ∨ A.length = i + 1)
    (h : ∀ v' w', MR w' B v' (A.eraseIdx i) → w.grownBy w' none → (∀ q, v'.ownBlock = some q → q = g ∨ w.heap.size ≤ q) → K (a.put (some d) v') w') :
    if Region.wanted o (yielded ops a.tmps) = true then Oper.wp Tryz.prog o a w K Q else E := by
  rw [← hd] at h
  obtain ⟨i0, hin, hz0, hz1, hz2⟩ := Tryz.infoMs
  obtain ⟨xs, hc, ⟨h0, _⟩ | ⟨g', k', cur, h1, h2, h3, h4, h5, h6, h7⟩⟩ := id hm
  · cases h0
  injection h1 with h1 _ h1'
  injection h1 with h1
  injection h1 with h1
  subst h1 h1'
  obtain ⟨hrr, hth⟩ := row_reads h3 h6 h7
  have hcl := hc.len
  have hce := hc.erase hi
  have hel : (A.eraseIdx i).length = A.length - 1 := by rw [List.length_eraseIdx]; simp [hi]
  by_cases hlast : A.length = i + 1
  · have hw : Region.wanted o (yielded ops a.tmps) = true := by simp [Region.wanted, hgd]
    rw [if_pos hw]
    have hx' : a.eval x = .slice (some ⟨g, off, none⟩) 0 c := by rw [hx, show A.length - (i + 1) = 0 by omega]
    have hrun := run_append_nothing (P := Tryz.prog) w 26 26 o.type 43 i0 Tryz.underlying26 hin (some ⟨g, 0, none⟩) i i (Nat.le_refl _) (.slice (some ⟨g, off, none⟩) 0 c) (Src.ofSlice w Tryz.underlying26 ⟨g, off, none⟩ 0 c [] (by simp) (fun j u hh => (by simp at hh)) (fun u hh => (by cases hh)))
    unfold Oper.wp
    simp [execOp, ho, resolve, invoke, builtin, hs, hx', hrun, Result.andThen]
    refine h _ w ⟨_, hce, .inr ⟨g, i, cur, by rw [hel, show A.length - 1 = i by omega], h2, h3, by omega, by omega, by omega, ?_⟩⟩ ⟨rfl, rfl, rfl, Nat.le_refl _, fun _ _ _ => rfl⟩ (fun q hq => .inl (by simpa [Value.ownBlock] using hq.symm))
    rw [hel, List.drop_of_length_le (by omega), List.append_nil, ← h7, List.take_take, show min (i * 23) (A.length * 23) = (A.length - 1) * 23 by omega]
  · have hno : ∀ j u, (xs.drop ((i + 1) * 23))[j]? = some u → w.cell? ((⟨g, off, none⟩ : Addr).add j) = some u := fun j u hj => by
      rw [List.getElem?_drop] at hj
      have := hrr _ u hj
      rw [Go.WideShapes.add_plain]
      rcases hoff with rfl | hh
      · rwa [Nat.zero_add] at this
      · exact absurd hh hlast
    refine step_append_grows hgd s x 26 ho 43 i0 (.agg zM) 23 i0.bytes Tryz.underlying26 hin hz0 hz1 rfl rfl (by decide) (some ⟨g, 0, none⟩) i i (xs.take (i * 23)) hs (fun hh => by cases hh) (by rw [List.length_take]; omega) (fun b hb j u hj => ?_) ⟨g, off, none⟩ (A.length - (i + 1)) c (xs.drop ((i + 1) * 23)) hx (by rw [List.length_drop, hcl]; omega) hno (fun u hu => hc.one u (List.mem_of_mem_drop hu)) (by omega) (by unfold maxLen; omega) ?_ (fun v' w' ho' hg => ?_)
    · injection hb with hb
      subst hb
      rw [Go.WideShapes.add_plain]
      rw [List.getElem?_take] at hj
      split at hj
      · exact hrr j u hj
      · cases hj
    · exact Nat.le_trans (Nat.mul_le_mul (show i + (A.length - (i + 1)) ≤ 1001 by omega) hz2) (by decide)
    · refine h v' w' (MR.own (n := i + (A.length - (i + 1))) ?_ hce (by omega)) hg (fun q hq => .inr ?_)
      · obtain ⟨q1, q2 | ⟨g', cap, cur, q3, q4, q5⟩⟩ := ho'
        · exact ⟨q1, .inl q2⟩
        · exact ⟨q1, .inr ⟨g', cap, cur, q3, Nat.le_trans hB q4, q5⟩⟩
      · obtain ⟨_, ⟨q2, _⟩ | ⟨g', cap, cur, q3, q4, q5⟩⟩ := ho'
        · rw [q2] at hq; simp [Value.ownBlock] at hq
        · rw [q3] at hq; simp [Value.ownBlock] at hq; subst hq; exact q4
/-- A message in a new row of one. -/
theorem fill_23 (m0 m1 m2 m3 m4 m5 m6 m7 m8 m9 m10 m11 m12 m13 m14 m15 m16 m17 m18 m19 m20 m21 m22 : Value) : Instr.fill (fun i => some (i * 23, 23)) ((Array.range (1 * 23)).map (zM[· % zM.size]!)) [(0, Value.agg #[m0, m1, m2, m3, m4, m5, m6, m7, m8, m9, m10, m11, m12, m13, m14, m15, m16, m17, m18, m19, m20, m21, m22])] = some #[m0, m1, m2, m3, m4, m5, m6, m7, m8, m9, m10, m11, m12, m13, m14, m15, m16, m17, m18, m19, m20, m21, m22] := by kernel_rfl
theorem fill_one {M : List Value} (hl : M.length = 23) : Instr.fill (fun i => some (i * 23, 23)) ((Array.range (1 * 23)).map (zM[· % zM.size]!)) [(0, Value.agg M.toArray)] = some M.toArray := by
  match M, hl with
  | [m0, m1, m2, m3, m4, m5, m6, m7, m8, m9, m10, m11, m12, m13, m14, m15, m16, m17, m18, m19, m20, m21, m22], _ => exact fill_23 m0 m1 m2 m3 m4 m5 m6 m7 m8 m9 m10 m11 m12 m13 m14 m15 m16 m17 m18 m19 m20 m21 m22
end Go.Proofs.YtahpfhnekmilmaaGreatDoor
