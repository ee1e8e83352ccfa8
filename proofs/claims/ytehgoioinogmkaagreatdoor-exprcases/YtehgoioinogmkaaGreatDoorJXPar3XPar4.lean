/- The document's parser: begins, element, number. -/
import Derived.Test.YtehgoioinogmkaaGreatDoorXPar2
import Derived.Test.YtehgoioinogmkaaGreatDoorJVKnownKRefVDigitsVLaidXBin
namespace Go.Proofs.YtehgoioinogmkaaGreatDoor
open Go.RowKit Go.Lib

set_option maxHeartbeats 1600000 in
set_option maxRecDepth 10000 in
theorem begins_any {T : List Tk} {w : World} {p bt c : Nat} {S : PS} (h : PX T w p bt c S) : Calls Tryz.prog 191 #[.pointer (some ⟨p, 0, none⟩)] w fun e w' => e = .returned (.bool (beginsS T S)) ∧ PX T w' p bt c S ∧ FrX p w w' := by
  have HX := hide h
  have hlt : (S.i : Int) < (T.length : Int) := by have := h.lt; omega
  have hi0 : (0 : Int) ≤ (S.i : Int) := by omega
  obtain ⟨c0, c1, c2, c3, c4⟩ := h.cells
  obtain ⟨t0, t1, t2⟩ := h.tok h.lt
  obtain ⟨tk, htk⟩ : ∃ tk, tk = T.getD S.i ⟨0, [], 0⟩ := ⟨_, rfl⟩
  rw [← htk] at t0 t1 t2
  have HTK : Hid (tkS T S = tk) := htk.symm
  have hpl := ltX h.blk
  have hbl := h.bt_lt
  clear c2 c3 c4 h htk
  obtain ⟨bs, hbs⟩ : ∃ bs, bs = beginsS T S := ⟨_, rfl⟩
  rw [← hbs]
  have HBS : Hid (bs = (if tk.kind = 1 ∨ tk.kind = 3 ∨ tk.kind = 4 then true else if tk.kind = 5 then tk.text == [40] || tk.text == [45] else if tk.kind = 2 then tk.text == [78, 79, 84] || tk.text == [78, 85, 76, 76] || tk.text == [84, 82, 85, 69] || tk.text == [70, 65, 76, 83, 69] || tk.text == [67, 65, 83, 69] || tk.text == [67, 79, 85, 78, 84] || tk.text == [83, 85, 77] || tk.text == [77, 73, 78] || tk.text == [77, 65, 88] else false)) := by rw [hbs, ← unhide HTK]; rfl
  clear hbs
  unfold sv at *
  go_enter Tryz.func191, Tryz.ntmps191
  go_wp2_with fail
  go_region
  have HB : Hid (Below w.heap.size w (w.alloc (.cells #[.int .i64 (tk.kind : Int), .string ⟨tk.text.toArray⟩, .int .i64 (tk.pos : Int)] 208)).drew) := ((Below.refl _ _).alloc (Nat.le_refl _) _).drew
  have e0 : (w.alloc (.cells #[.int .i64 (tk.kind : Int), .string ⟨tk.text.toArray⟩, .int .i64 (tk.pos : Int)] 208)).drew.cell? ⟨w.heap.size, 0, none⟩ = some (.int .i64 (tk.kind : Int)) := by simp
  have e1 : (w.alloc (.cells #[.int .i64 (tk.kind : Int), .string ⟨tk.text.toArray⟩, .int .i64 (tk.pos : Int)] 208)).drew.cell? ⟨w.heap.size, 1, none⟩ = some (.string ⟨tk.text.toArray⟩) := by simp
  generalize (w.alloc (.cells #[.int .i64 (tk.kind : Int), .string ⟨tk.text.toArray⟩, .int .i64 (tk.pos : Int)] 208)).drew = W at *
  go_wp2_with fail
  all_goals
    go_ret
    refine ⟨xret_bool ?_, (unhide HX).below (unhide HB), FrX.of_below (unhide HB)⟩
    rw [unhide HBS]
    clear HBS HX HTK t0 t1 t2 c0 c1 e0 e1 HB hpl hbl hlt hi0
    simp only [beq_iff_eq, beq_eq_false_iff_ne, ne_eq] at *
    repeat' split
    all_goals first | rfl | omega | simp_all
theorem element_any {T : List Tk} {w : World} {p bt c : Nat} {S : PS} (hT : TG T) (h : PX T w p bt c S) (n : Nat) : Calls Tryz.prog 193 #[.pointer (some ⟨p, 0, none⟩), .int .i64 (n : Int)] w fun e w' => e = .returned (.tuple #[]) ∧ PX T w' p bt c (elementS T n S) ∧ FrX p w w' := by
  have HX := hide h
  have HU := hide (ok_any' h)
  clear h
  by_cases hc : S.err = 0 ∧ n = 10 ∧ beginsS T S = true
  · have HS : Hid (elementS T n S = failS T 2 S) := if_pos hc
    obtain ⟨h1, h2, h3⟩ := hc
    have hb : (S.err == 0) = true := by simp [h1]
    rw [hb] at HU
    subst h2
    have HB := hide h3
    clear h1 h3 hb
    go_enter Tryz.func193, Tryz.ntmps193
    go_wp2_with (first | (go_at_call 104; refine (unhide HU).mono ?_; rintro e w1 ⟨rfl, hp1, hf1⟩; have HP1 := hide hp1; have HF1 := hide hf1; clear hp1 hf1) | (go_at_call 191; refine (begins_any (unhide HP1)).mono ?_; rw [unhide HB]; rintro e w2 ⟨rfl, hp1, hf1⟩; have HP2 := hide hp1; have HF2 := hide hf1; clear hp1 hf1) | (go_at_call 105; refine (fail_any hT (unhide HP2) 2 (by decide)).mono ?_; rintro e w3 ⟨rfl, hp2, hf2⟩; have HP3 := hide hp2; have HF3 := hide hf2; clear hp2 hf2))
    go_end0
    rw [unhide HS]
    exact ⟨rfl, unhide HP3, ((unhide HF1).trans (unhide HF2)).trans (unhide HF3)⟩
  · have HS : Hid (elementS T n S = S) := if_neg hc
    rw [unhide HS]
    cases hb : (S.err == 0) with
    | false =>
      rw [hb] at HU
      clear hb hc
      go_enter Tryz.func193, Tryz.ntmps193
      go_wp2_with (go_at_call 104; refine (unhide HU).mono ?_; rintro e w1 ⟨rfl, hp1, hf1⟩; have HP1 := hide hp1; have HF1 := hide hf1; clear hp1 hf1)
      go_end0
      exact ⟨rfl, unhide HP1, unhide HF1⟩
    | true =>
      rw [hb] at HU
      by_cases h2 : n = 10
      · subst h2
        have HB : Hid (beginsS T S = false) := by
          show beginsS T S = false
          have : ¬ beginsS T S = true := fun h3 => hc ⟨by simpa using hb, rfl, h3⟩
          simpa using this
        clear hb hc
        go_enter Tryz.func193, Tryz.ntmps193
        go_wp2_with (first | (go_at_call 104; refine (unhide HU).mono ?_; rintro e w1 ⟨rfl, hp1, hf1⟩; have HP1 := hide hp1; have HF1 := hide hf1; clear hp1 hf1) | (go_at_call 191; refine (begins_any (unhide HP1)).mono ?_; rw [unhide HB]; rintro e w2 ⟨rfl, hp1, hf1⟩; have HP2 := hide hp1; have HF2 := hide hf1; clear hp1 hf1))
        go_end0
        exact ⟨rfl, unhide HP2, (unhide HF1).trans (unhide HF2)⟩
      · have h2b : ((n : Int) == 10) = false := by rw [beq_eq_false_iff_ne]; omega
        clear hb hc h2
        go_enter Tryz.func193, Tryz.ntmps193
        go_wp2_with (go_at_call 104; refine (unhide HU).mono ?_; rintro e w1 ⟨rfl, hp1, hf1⟩; have HP1 := hide hp1; have HF1 := hide hf1; clear hp1 hf1)
        go_end0
        exact ⟨rfl, unhide HP1, unhide HF1⟩
theorem gt_run (a b : List UInt8) (W : World) : Sem.run Tryz.prog (binOp BinOp.gtr 9 (.string ⟨a.toArray⟩) (.string ⟨b.toArray⟩)) W = .ok (.bool (gtL a b)) W := by
  rw [str_gtr, ByteArray.toList_eq, ByteArray.toList_eq]; rfl
theorem num_snoc (s : List UInt8) (k : Nat) (c : UInt8) (h : s[k]? = some c) : numF (s.take (k + 1)) = IntKind.u64.wrap (IntKind.u64.wrap (10 * numF (s.take k)) + ((c.toNat : Int) - 48) % 256) := by
  rw [List.take_add_one, h, Option.toList_some]
  unfold numF
  rw [List.foldl_append]
  rfl
set_option maxHeartbeats 1600000 in
set_option maxRecDepth 10000 in
theorem number_any {T : List Tk} {w : World} {p bt c : Nat} {S : PS} (hT : TG T) (h : PX T w p bt c S) (most : List UInt8) (hm : most.length ≤ 100) : Calls Tryz.prog 194 #[.pointer (some ⟨p, 0, none⟩), sv most] w fun e w' => e = .returned (.int .u64 (numberS T most S).1) ∧ PX T w' p bt c (numberS T most S).2 ∧ FrX p w w' := by
  have HX := hide h
  have hlt : (S.i : Int) < (T.length : Int) := by have := h.lt; omega
  have hi0 : (0 : Int) ≤ (S.i : Int) := by omega
  obtain ⟨c0, c1, _, _, _⟩ := h.cells
  obtain ⟨_, t1, _⟩ := h.tok h.lt
  have htl : (tkS T S).text.length ≤ 3000 := hT.text _ (tkS_mem h.lt)
  obtain ⟨s, hs⟩ : ∃ s, s = (tkS T S).text := ⟨_, rfl⟩
  have e : (T.getD S.i ⟨0, [], 0⟩).text = s := hs.symm
  rw [e] at t1
  rw [← hs] at htl
  have HSX := hide hs
  obtain ⟨r, hr⟩ : ∃ r, r = numberS T most S := ⟨_, rfl⟩
  rw [← hr]
  have HR := hide hr
  have hsl : (s.length : Int) ≤ 3000 := by omega
  have hml : (most.length : Int) ≤ 100 := by omega
  clear h hs e hr
  unfold sv at *
  by_cases hc : most.length < s.length ∨ (s.length = most.length ∧ gtL s most = true)
  · have HS : Hid (r = (0, failS T 2 S)) := by rw [unhide HR]; show numberS T most S = _; unfold numberS; dsimp only; rw [← unhide HSX, if_pos hc]
    by_cases hl : s.length = most.length
    · have hg : gtL s most = true := by rcases hc with h | h; omega; exact h.2
      have hgr := fun W => gt_run s most W
      rw [hg] at hgr
      have hlI : (s.length : Int) = (most.length : Int) := by omega
      clear hc hg
      go_enter Tryz.func194, Tryz.ntmps194
      go_wp2_with fail
      go_quiet (fail)
      go_wp2_with (go_at_call 105; refine (fail_any hT ((unhide HX).drewN nq) 2 (by decide)).mono ?_; rintro e w3 ⟨rfl, hp2, hf2⟩; have HP2 := hide hp2; have HF2 := hide hf2; clear hp2 hf2)
      go_ret
      rw [unhide HS]
      exact ⟨rfl, unhide HP2, ((FrX.refl p w).drewN nq).trans (unhide HF2)⟩
    · have hg : (most.length : Int) < (s.length : Int) := by omega
      clear hc
      go_enter Tryz.func194, Tryz.ntmps194
      go_wp2_with fail
      go_quiet (fail)
      go_wp2_with (go_at_call 105; refine (fail_any hT ((unhide HX).drewN nq) 2 (by decide)).mono ?_; rintro e w3 ⟨rfl, hp2, hf2⟩; have HP2 := hide hp2; have HF2 := hide hf2; clear hp2 hf2)
      go_ret
      rw [unhide HS]
      exact ⟨rfl, unhide HP2, ((FrX.refl p w).drewN nq).trans (unhide HF2)⟩
  · have HS : Hid (r = (numF s, S)) := by rw [unhide HR]; show numberS T most S = _; unfold numberS; dsimp only; rw [← unhide HSX, if_neg hc]
    have hc1 : ¬ (most.length : Int) < (s.length : Int) := by omega
    by_cases hl : s.length = most.length
    · have hg : gtL s most = false := by
        have : ¬ gtL s most = true := fun h => hc (.inr ⟨hl, h⟩)
        simpa using this
      have hgr := fun W => gt_run s most W
      rw [hg] at hgr
      have hlI : (s.length : Int) = (most.length : Int) := by omega
      clear hc hg
      go_enter Tryz.func194, Tryz.ntmps194
      go_wp2_with fail
      go_quiet (fail)
      go_wp2_with fail
      go_loopw [6, 7] (fun n i wr => ∃ k : Nat, k ≤ s.length ∧ i = .int .i64 (k : Int) ∧ n = .int .u64 (numF (s.take k)) ∧ wr = w.drewN nq) (fun _ i _ => s.length - (intOf i).toNat)
      case atStart => exact ⟨0, by omega, rfl, rfl, rfl⟩
      case round =>
        obtain ⟨k, hk, rfl, rfl, rfl⟩ := hrel
        by_cases hlt : k < s.length
        · obtain ⟨x, hx⟩ : ∃ x, s[k]? = some x := ⟨s[k], List.getElem?_eq_getElem hlt⟩
          have hij := idx_run s k _ x (w.drewN nq) rfl hx
          have hkI : (k : Int) < (s.length : Int) := by omega
          have hk0 : (0 : Int) ≤ (k : Int) := by omega
          have HNX := hide (num_snoc s k x hx)
          clear hx
          go_wp2_with fail
          go_roundw
          case rel => exact ⟨k + 1, by omega, by go_num, by rw [unhide HNX], trivial⟩
          case measure => simp [intOf]; omega
        · have hkI : ¬ (k : Int) < (s.length : Int) := by omega
          have hke : s.take k = s := List.take_of_length_le (by omega)
          rw [hke]
          clear hke
          go_wp2_with fail
          go_ret
          rw [unhide HS]
          exact ⟨rfl, (unhide HX).drewN nq, (FrX.refl p w).drewN nq⟩
    · have hlI : ((s.length : Int) == (most.length : Int)) = false := by rw [beq_eq_false_iff_ne]; omega
      clear hc
      go_enter Tryz.func194, Tryz.ntmps194
      go_wp2_with fail
      go_quiet (fail)
      go_wp2_with fail
      go_loopw [6, 7] (fun n i wr => ∃ k : Nat, k ≤ s.length ∧ i = .int .i64 (k : Int) ∧ n = .int .u64 (numF (s.take k)) ∧ wr = w.drewN nq) (fun _ i _ => s.length - (intOf i).toNat)
      case atStart => exact ⟨0, by omega, rfl, rfl, rfl⟩
      case round =>
        obtain ⟨k, hk, rfl, rfl, rfl⟩ := hrel
        by_cases hlt : k < s.length
        · obtain ⟨x, hx⟩ : ∃ x, s[k]? = some x := ⟨s[k], List.getElem?_eq_getElem hlt⟩
          have hij := idx_run s k _ x (w.drewN nq) rfl hx
          have hkI : (k : Int) < (s.length : Int) := by omega
          have hk0 : (0 : Int) ≤ (k : Int) := by omega
          have HNX := hide (num_snoc s k x hx)
          clear hx
          go_wp2_with fail
          go_roundw
          case rel => exact ⟨k + 1, by omega, by go_num, by rw [unhide HNX], trivial⟩
          case measure => simp [intOf]; omega
        · have hkI : ¬ (k : Int) < (s.length : Int) := by omega
          have hke : s.take k = s := List.take_of_length_le (by omega)
          rw [hke]
          clear hke
          go_wp2_with fail
          go_ret
          rw [unhide HS]
          exact ⟨rfl, (unhide HX).drewN nq, (FrX.refl p w).drewN nq⟩
end Go.Proofs.YtehgoioinogmkaaGreatDoor
/- The document's parser: nodes made of expressions. -/
namespace Go.Proofs.YtehgoioinogmkaaGreatDoor
open Go.RowKit Go.Lib

theorem list10 {M : List Value} (hl : M.length = 10) : #[M[0], M[1], M[2], M[3], M[4], M[5], M[6], M[7], M[8], M[9]] = M.toArray := by
  match M, hl with
  | [_, _, _, _, _, _, _, _, _, _], _ => rfl
theorem VrX.result {fn : Func} {p : Tmp} {w : World} {b : Nat} {M : List Value} (h : VrX w b M) (hf : fn.results = #[.cell p 29]) (tmps : Array Value) (ht : tmps.getD p undef = .pointer (some ⟨b, 0, none⟩)) : (results fn tmps).run Tryz.prog w = .ok (.agg M.toArray) w := by
  rw [res1X hf, ht]
  simp only [asAddr, Sem.run_pure, Result.andThen_ok]
  exact run_loadVar_mid w b 0 29 M _ h.range Tryz.underlying29 rfl (by rw [h.2]; exact sizeEx)
theorem VrX.new (w : World) {M : List Value} (hl : M.length = 10) : VrX (w.alloc (.cells M.toArray 29)) w.heap.size M := ⟨heap_alloc_new _ _, hl⟩
theorem VrX.below {w w' : World} {b : Nat} {M : List Value} (h : VrX w b M) (hb : Below w.heap.size w w') : VrX w' b M := ⟨blkX h.1 hb, h.2⟩
set_option maxHeartbeats 1600000 in
set_option maxRecDepth 10000 in
theorem unary_any (op : Int) (M : List Value) (A : Ex) (Q : Nat → Prop) (w : World) (h : ExM w Q M A) : Calls Tryz.prog 216 #[.int .i64 op, .agg M.toArray] w fun e w' => ∃ M', e = .returned (.agg M'.toArray) ∧ ExM w' (fun b => Q b ∨ w.heap.size ≤ b) M' (unE op A) ∧ Below w.heap.size w w' := by
  have hl := h.len
  have h1 := h.one
  have HX := hide h
  clear h
  go_enter Tryz.func216, Tryz.ntmps216
  go_wp2_with fail
  rw [list10 hl]
  obtain ⟨M', hM'⟩ : ∃ M' : List Value, M' = ndC ⟨3, op, 0, 0, [], [], [], 0, 0⟩ (.slice (some ⟨w.heap.size + 1 + 1, 0, none⟩) 1 1) := ⟨_, rfl⟩
  have hv : VrX (((w.alloc (.cells M.toArray 29)).alloc (.cells M'.toArray 29)).alloc (.cells M.toArray 29)) (w.heap.size + 1) M' := by
    have h := (VrX.new (w.alloc (.cells M.toArray 29)) (M := M') (by rw [hM']; rfl)).below (alX (Below.refl _ _) (.cells M.toArray 29))
    simpa using h
  have hs : VrX (((w.alloc (.cells M.toArray 29)).alloc (.cells M'.toArray 29)).alloc (.cells M.toArray 29)) (w.heap.size + 1 + 1) M := by
    have h := VrX.new ((w.alloc (.cells M.toArray 29)).alloc (.cells M'.toArray 29)) hl
    simpa using h
  have hb : Below w.heap.size w (((w.alloc (.cells M.toArray 29)).alloc (.cells M'.toArray 29)).alloc (.cells M.toArray 29)) := alX (alX (alX (Below.refl _ _) _) _) _
  have hx := (unhide HX).keep (Q' := fun b => Q b ∨ w.heap.size ≤ b) (fun b _ hl => hb.block b hl) (fun b _ h => .inl h)
  have e : M'.toArray = #[.int .i64 3, .int .i64 op, .int .i64 0, .int .i64 0, .string ⟨#[]⟩, .string ⟨#[]⟩, .string ⟨#[]⟩, .slice (some ⟨w.heap.size + 1 + 1, 0, none⟩) 1 1, .int .i64 0, .int .i64 0] := by rw [hM']; rfl
  rw [← e]
  refine bodyPost_ret (hv.result rfl _ rfl) rfl ⟨M', rfl, ?_, hb⟩
  refine ⟨_, hM', .inr ⟨w.heap.size + 1 + 1, 0, 1, rfl, Nat.le_refl 1, by unfold maxLen; omega, ?_⟩⟩
  exact RowAt.one hx hs.range (.inr (by omega))
theorem list20 {M N : List Value} (hl : M.length = 10) (hn : N.length = 10) : #[M[0], M[1], M[2], M[3], M[4], M[5], M[6], M[7], M[8], M[9], N[0], N[1], N[2], N[3], N[4], N[5], N[6], N[7], N[8], N[9]] = (M ++ N).toArray := by
  match M, hl, N, hn with
  | [_, _, _, _, _, _, _, _, _, _], _, [_, _, _, _, _, _, _, _, _, _], _ => rfl
theorem range_two {w : World} {b : Nat} {M N : List Value} {T : TypeId} (h : w.heap[b]? = some (.cells (M ++ N).toArray T (0, 0))) (hl : M.length = 10) : w.rangeAt b 0 M ∧ w.rangeAt b 10 N := by
  refine ⟨fun j v hv => ?_, fun j v hv => ?_⟩
  · rw [Nat.zero_add, cellX h]
    have := (List.getElem?_eq_some_iff.1 hv).1
    rw [List.getElem?_toArray, List.getElem?_append_left this]; exact hv
  · rw [cellX h, List.getElem?_toArray, List.getElem?_append_right (by omega), hl, show 10 + j - 10 = j by omega]; exact hv
set_option maxHeartbeats 1600000 in
set_option maxRecDepth 10000 in
theorem binary_any (op : Int) (M N : List Value) (A B : Ex) (Q : Nat → Prop) (w : World) (h : ExM w Q M A) (h' : ExM w Q N B) : Calls Tryz.prog 190 #[.int .i64 op, .agg M.toArray, .agg N.toArray] w fun e w' => ∃ M', e = .returned (.agg M'.toArray) ∧ ExM w' (fun b => Q b ∨ w.heap.size ≤ b) M' (binE op A B) ∧ Below w.heap.size w w' := by
  have hl := h.len
  have h1 := h.one
  have hn := h'.len
  have h2 := h'.one
  have HX := hide h
  have HY := hide h'
  clear h h'
  go_enter Tryz.func190, Tryz.ntmps190
  go_wp2_with fail
  rw [list20 hl hn]
  obtain ⟨M', hM'⟩ : ∃ M' : List Value, M' = ndC ⟨4, op, 0, 0, [], [], [], 0, 0⟩ (.slice (some ⟨w.heap.size + 1 + 1 + 1, 0, none⟩) 2 2) := ⟨_, rfl⟩
  obtain ⟨W, hW⟩ : ∃ W, W = (((w.alloc (.cells M.toArray 29)).alloc (.cells N.toArray 29)).alloc (.cells M'.toArray 29)).alloc (.cells (M ++ N).toArray 29) := ⟨_, rfl⟩
  have hv : VrX W (w.heap.size + 1 + 1) M' := by
    have h := (VrX.new ((w.alloc (.cells M.toArray 29)).alloc (.cells N.toArray 29)) (M := M') (by rw [hM']; rfl)).below (alX (Below.refl _ _) (.cells (M ++ N).toArray 29))
    rw [hW]; simpa using h
  have hs : W.heap[w.heap.size + 1 + 1 + 1]? = some (.cells (M ++ N).toArray 29 (0, 0)) := by
    have h := heap_alloc_new (((w.alloc (.cells M.toArray 29)).alloc (.cells N.toArray 29)).alloc (.cells M'.toArray 29)) (.cells (M ++ N).toArray 29)
    rw [hW]; simpa using h
  have hb : Below w.heap.size w W := by rw [hW]; exact alX (alX (alX (alX (Below.refl _ _) _) _) _) _
  have hx := (unhide HX).keep (Q' := fun b => Q b ∨ w.heap.size ≤ b) (fun b _ hl => hb.block b hl) (fun b _ h => .inl h)
  have hy := (unhide HY).keep (Q' := fun b => Q b ∨ w.heap.size ≤ b) (fun b _ hl => hb.block b hl) (fun b _ h => .inl h)
  have e : M'.toArray = #[.int .i64 4, .int .i64 op, .int .i64 0, .int .i64 0, .string ⟨#[]⟩, .string ⟨#[]⟩, .string ⟨#[]⟩, .slice (some ⟨w.heap.size + 1 + 1 + 1, 0, none⟩) 2 2, .int .i64 0, .int .i64 0] := by rw [hM']; rfl
  rw [← e, ← hW]
  obtain ⟨r1, r2⟩ := range_two hs hl
  refine bodyPost_ret (hv.result rfl _ rfl) rfl ⟨M', rfl, ?_, hb⟩
  refine ⟨_, hM', .inr ⟨w.heap.size + 1 + 1 + 1, 0, 2, rfl, Nat.le_refl 2, by unfold maxLen; omega, ?_⟩⟩
  exact RowAt.append (F := Fo.cons A.1 A.2 .nil) (G := Fo.cons B.1 B.2 .nil) (RowAt.one hx r1 (.inr (by omega))) (RowAt.one hy r2 (.inr (by omega)))
set_option maxHeartbeats 1600000 in
set_option maxRecDepth 10000 in
theorem value_any (k n : Int) (t : List UInt8) (Q : Nat → Prop) (w : World) : Calls Tryz.prog 233 #[.agg #[.int .i64 k, .int .i64 n, sv t]] w fun e w' => ∃ M', e = .returned (.agg M'.toArray) ∧ ExM w' Q M' (valE k n t) ∧ Below w.heap.size w w' := by
  unfold sv
  go_enter Tryz.func233, Tryz.ntmps233
  go_wp2_with fail
  obtain ⟨M', hM'⟩ : ∃ M' : List Value, M' = ndC ⟨1, 0, k, n, t, [], [], 0, 0⟩ (.slice none 0 0) := ⟨_, rfl⟩
  have e : M'.toArray = #[.int .i64 1, .int .i64 0, .int .i64 k, .int .i64 n, .string ⟨t.toArray⟩, .string ⟨#[]⟩, .string ⟨#[]⟩, .slice none 0 0, .int .i64 0, .int .i64 0] := by rw [hM']; rfl
  rw [← e]
  have hv := VrX.new (w.alloc (.cells #[.int .i64 k, .int .i64 n, .string ⟨t.toArray⟩] 26)) (M := M') (by rw [hM']; rfl)
  have hb : Below w.heap.size w ((w.alloc (.cells #[.int .i64 k, .int .i64 n, .string ⟨t.toArray⟩] 26)).alloc (.cells M'.toArray 29)) := alX (alX (Below.refl _ _) _) _
  refine bodyPost_ret (hv.result rfl _ (by simp)) rfl ⟨M', rfl, ⟨_, hM', .inl ⟨rfl, 0, rfl⟩⟩, hb⟩
end Go.Proofs.YtehgoioinogmkaaGreatDoor
