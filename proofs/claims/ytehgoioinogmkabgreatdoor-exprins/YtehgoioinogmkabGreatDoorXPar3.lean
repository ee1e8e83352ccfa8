/- The document's parser: begins, element, number. -/
import Derived.Test.YtehgoioinogmkabGreatDoorXPar2
import Derived.Test.YtehgoioinogmkabGreatDoorJVTest2VKnownKBytesKRefVLaidXBin
namespace Go.Proofs.YtehgoioinogmkabGreatDoor
open Go.RowKit Go.Lib

set_option maxHeartbeats 1600000 in
set_option maxRecDepth 10000 in
theorem begins_any {T : List Tk} {w : World} {p bt c : Nat} {S : PS} (h : PX T w p bt c S) : Calls Tryz.prog 156 #[.pointer (some ⟨p, 0, none⟩)] w fun e w' => e = .returned (.bool (beginsS T S)) ∧ PX T w' p bt c S ∧ FrX p w w' := by
  have HX := hide h
  have hlt : (S.i : Int) < (T.length : Int) := by have := h.lt; omega
  have hi0 : (0 : Int) ≤ (S.i : Int) := by omega
  obtain ⟨c0, c1, c2, c3, c4⟩ := h.cells
  obtain ⟨t0, t1, t2⟩ := h.tok h.lt
  obtain ⟨tk, htk⟩ : ∃ tk, tk = T.getD S.i ⟨0, [], 0⟩ := ⟨_, rfl⟩
  rw [← htk] at t0 t1 t2
  have HTK : Hid (tkS T S = tk) := htk.symm
  have hpl := ltX h.blk
  have hbl := h.bt_lt
  clear c2 c3 c4 h htk
  obtain ⟨bs, hbs⟩ : ∃ bs, bs = beginsS T S := ⟨_, rfl⟩
  rw [← hbs]
  have HBS : Hid (bs = (if tk.kind = 1 ∨ tk.kind = 3 ∨ tk.kind = 4 then true else if tk.kind = 5 then tk.text == [40] || tk.text == [45] else if tk.kind = 2 then tk.text == [78, 79, 84] || tk.text == [78, 85, 76, 76] || tk.text == [84, 82, 85, 69] || tk.text == [70, 65, 76, 83, 69] || tk.text == [67, 65, 83, 69] || tk.text == [67, 79, 85, 78, 84] || tk.text == [83, 85, 77] || tk.text == [77, 73, 78] || tk.text == [77, 65, 88] else false)) := by rw [hbs, ← unhide HTK]; rfl
  clear hbs
  unfold sv at *
  go_enter Tryz.func156, Tryz.ntmps156
  go_wp2_with fail
  go_region
  have HB : Hid (Below w.heap.size w (w.alloc (.cells #[.int .i64 (tk.kind : Int), .string ⟨tk.text.toArray⟩, .int .i64 (tk.pos : Int)] 164)).drew) := ((Below.refl _ _).alloc (Nat.le_refl _) _).drew
  have e0 : (w.alloc (.cells #[.int .i64 (tk.kind : Int), .string ⟨tk.text.toArray⟩, .int .i64 (tk.pos : Int)] 164)).drew.cell? ⟨w.heap.size, 0, none⟩ = some (.int .i64 (tk.kind : Int)) := by simp
  have e1 : (w.alloc (.cells #[.int .i64 (tk.kind : Int), .string ⟨tk.text.toArray⟩, .int .i64 (tk.pos : Int)] 164)).drew.cell? ⟨w.heap.size, 1, none⟩ = some (.string ⟨tk.text.toArray⟩) := by simp
  generalize (w.alloc (.cells #[.int .i64 (tk.kind : Int), .string ⟨tk.text.toArray⟩, .int .i64 (tk.pos : Int)] 164)).drew = W at *
  go_wp2_with fail
  all_goals
    go_ret
    refine ⟨xret_bool ?_, (unhide HX).below (unhide HB), FrX.of_below (unhide HB)⟩
    rw [unhide HBS]
    clear HBS HX HTK t0 t1 t2 c0 c1 e0 e1 HB hpl hbl hlt hi0
    simp only [beq_iff_eq, beq_eq_false_iff_ne, ne_eq] at *
    repeat' split
    all_goals first | rfl | omega | simp_all
theorem element_any {T : List Tk} {w : World} {p bt c : Nat} {S : PS} (hT : TG T) (h : PX T w p bt c S) (n : Nat) : Calls Tryz.prog 158 #[.pointer (some ⟨p, 0, none⟩), .int .i64 (n : Int)] w fun e w' => e = .returned (.tuple #[]) ∧ PX T w' p bt c (elementS T n S) ∧ FrX p w w' := by
  have HX := hide h
  have HU := hide (ok_any' h)
  clear h
  by_cases hc : S.err = 0 ∧ n = 10 ∧ beginsS T S = true
  · have HS : Hid (elementS T n S = failS T 2 S) := if_pos hc
    obtain ⟨h1, h2, h3⟩ := hc
    have hb : (S.err == 0) = true := by simp [h1]
    rw [hb] at HU
    subst h2
    have HB := hide h3
    clear h1 h3 hb
    go_enter Tryz.func158, Tryz.ntmps158
    go_wp2_with (first | (go_at_call 66; refine (unhide HU).mono ?_; rintro e w1 ⟨rfl, hp1, hf1⟩; have HP1 := hide hp1; have HF1 := hide hf1; clear hp1 hf1) | (go_at_call 156; refine (begins_any (unhide HP1)).mono ?_; rw [unhide HB]; rintro e w2 ⟨rfl, hp1, hf1⟩; have HP2 := hide hp1; have HF2 := hide hf1; clear hp1 hf1) | (go_at_call 67; refine (fail_any hT (unhide HP2) 2 (by decide)).mono ?_; rintro e w3 ⟨rfl, hp2, hf2⟩; have HP3 := hide hp2; have HF3 := hide hf2; clear hp2 hf2))
    go_end0
    rw [unhide HS]
    exact ⟨rfl, unhide HP3, ((unhide HF1).trans (unhide HF2)).trans (unhide HF3)⟩
  · have HS : Hid (elementS T n S = S) := if_neg hc
    rw [unhide HS]
    cases hb : (S.err == 0) with
    | false =>
      rw [hb] at HU
      clear hb hc
      go_enter Tryz.func158, Tryz.ntmps158
      go_wp2_with (go_at_call 66; refine (unhide HU).mono ?_; rintro e w1 ⟨rfl, hp1, hf1⟩; have HP1 := hide hp1; have HF1 := hide hf1; clear hp1 hf1)
      go_end0
      exact ⟨rfl, unhide HP1, unhide HF1⟩
    | true =>
      rw [hb] at HU
      by_cases h2 : n = 10
      · subst h2
        have HB : Hid (beginsS T S = false) := by
          show beginsS T S = false
          have : ¬ beginsS T S = true := fun h3 => hc ⟨by simpa using hb, rfl, h3⟩
          simpa using this
        clear hb hc
        go_enter Tryz.func158, Tryz.ntmps158
        go_wp2_with (first | (go_at_call 66; refine (unhide HU).mono ?_; rintro e w1 ⟨rfl, hp1, hf1⟩; have HP1 := hide hp1; have HF1 := hide hf1; clear hp1 hf1) | (go_at_call 156; refine (begins_any (unhide HP1)).mono ?_; rw [unhide HB]; rintro e w2 ⟨rfl, hp1, hf1⟩; have HP2 := hide hp1; have HF2 := hide hf1; clear hp1 hf1))
        go_end0
        exact ⟨rfl, unhide HP2, (unhide HF1).trans (unhide HF2)⟩
      · have h2b : ((n : Int) == 10) = false := by rw [beq_eq_false_iff_ne]; omega
        clear hb hc h2
        go_enter Tryz.func158, Tryz.ntmps158
        go_wp2_with (go_at_call 66; refine (unhide HU).mono ?_; rintro e w1 ⟨rfl, hp1, hf1⟩; have HP1 := hide hp1; have HF1 := hide hf1; clear hp1 hf1)
        go_end0
        exact ⟨rfl, unhide HP1, unhide HF1⟩
theorem gt_run (a b : List UInt8) (W : World) : Sem.run Tryz.prog (binOp BinOp.gtr 9 (.string ⟨a.toArray⟩) (.string ⟨b.toArray⟩)) W = .ok (.bool (gtL a b)) W := by
  rw [str_gtr, ByteArray.toList_eq, ByteArray.toList_eq]; rfl
theorem num_snoc (s : List UInt8) (k : Nat) (c : UInt8) (h : s[k]? = some c) : numF (s.take (k + 1)) = IntKind.u64.wrap (IntKind.u64.wrap (10 * numF (s.take k)) + ((c.toNat : Int) - 48) % 256) := by
  rw [List.take_add_one, h, Option.toList_some]
  unfold numF
  rw [List.foldl_append]
  rfl
set_option maxHeartbeats 1600000 in
set_option maxRecDepth 10000 in
theorem number_any {T : List Tk} {w : World} {p bt c : Nat} {S : PS} (hT : TG T) (h : PX T w p bt c S) (most : List UInt8) (hm : most.length ≤ 100) : Calls Tryz.prog 159 #[.pointer (some ⟨p, 0, none⟩), sv most] w fun e w' => e = .returned (.int .u64 (numberS T most S).1) ∧ PX T w' p bt c (numberS T most S).2 ∧ FrX p w w' := by
  have HX := hide h
  have hlt : (S.i : Int) < (T.length : Int) := by have := h.lt; omega
  have hi0 : (0 : Int) ≤ (S.i : Int) := by omega
  obtain ⟨c0, c1, _, _, _⟩ := h.cells
  obtain ⟨_, t1, _⟩ := h.tok h.lt
  have htl : (tkS T S).text.length ≤ 3000 := hT.text _ (tkS_mem h.lt)
  obtain ⟨s, hs⟩ : ∃ s, s = (tkS T S).text := ⟨_, rfl⟩
  have e : (T.getD S.i ⟨0, [], 0⟩).text = s := hs.symm
  rw [e] at t1
  rw [← hs] at htl
  have HSX := hide hs
  obtain ⟨r, hr⟩ : ∃ r, r = numberS T most S := ⟨_, rfl⟩
  rw [← hr]
  have HR := hide hr
  have hsl : (s.length : Int) ≤ 3000 := by omega
  have hml : (most.length : Int) ≤ 100 := by omega
  clear h hs e hr
  unfold sv at *
  by_cases hc : most.length < s.length ∨ (s.length = most.length ∧ gtL s most = true)
  · have HS : Hid (r = (0, failS T 2 S)) := by rw [unhide HR]; show numberS T most S = _; unfold numberS; dsimp only; rw [← unhide HSX, if_pos hc]
    by_cases hl : s.length = most.length
    · have hg : gtL s most = true := by rcases hc with h | h; omega; exact h.2
      have hgr := fun W => gt_run s most W
      rw [hg] at hgr
      have hlI : (s.length : Int) = (most.length : Int) := by omega
      clear hc hg
      go_enter Tryz.func159, Tryz.ntmps159
      go_wp2_with fail
      go_quiet (fail)
      go_wp2_with (go_at_call 67; refine (fail_any hT ((unhide HX).drewN nq) 2 (by decide)).mono ?_; rintro e w3 ⟨rfl, hp2, hf2⟩; have HP2 := hide hp2; have HF2 := hide hf2; clear hp2 hf2)
      go_ret
      rw [unhide HS]
      exact ⟨rfl, unhide HP2, ((FrX.refl p w).drewN nq).trans (unhide HF2)⟩
    · have hg : (most.length : Int) < (s.length : Int) := by omega
      clear hc
      go_enter Tryz.func159, Tryz.ntmps159
      go_wp2_with fail
      go_quiet (fail)
      go_wp2_with (go_at_call 67; refine (fail_any hT ((unhide HX).drewN nq) 2 (by decide)).mono ?_; rintro e w3 ⟨rfl, hp2, hf2⟩; have HP2 := hide hp2; have HF2 := hide hf2; clear hp2 hf2)
      go_ret
      rw [unhide HS]
      exact ⟨rfl, unhide HP2, ((FrX.refl p w).drewN nq).trans (unhide HF2)⟩
  · have HS : Hid (r = (numF s, S)) := by rw [unhide HR]; show numberS T most S = _; unfold numberS; dsimp only; rw [← unhide HSX, if_neg hc]
    have hc1 : ¬ (most.length : Int) < (s.length : Int) := by omega
    by_cases hl : s.length = most.length
    · have hg : gtL s most = false := by
        have : ¬ gtL s most = true := fun h => hc (.inr ⟨hl, h⟩)
        simpa using this
      have hgr := fun W => gt_run s most W
      rw [hg] at hgr
      have hlI : (s.length : Int) = (most.length : Int) := by omega
      clear hc hg
      go_enter Tryz.func159, Tryz.ntmps159
      go_wp2_with fail
      go_quiet (fail)
      go_wp2_with fail
      go_loopw [6, 7] (fun n i wr => ∃ k : Nat, k ≤ s.length ∧ i = .int .i64 (k : Int) ∧ n = .int .u64 (numF (s.take k)) ∧ wr = w.drewN nq) (fun _ i _ => s.length - (intOf i).toNat)
      case atStart => exact ⟨0, by omega, rfl, rfl, rfl⟩
      case round =>
        obtain ⟨k, hk, rfl, rfl, rfl⟩ := hrel
        by_cases hlt : k < s.length
        · obtain ⟨x, hx⟩ : ∃ x, s[k]? = some x := ⟨s[k], List.getElem?_eq_getElem hlt⟩
          have hij := idx_run s k _ x (w.drewN nq) rfl hx
          have hkI : (k : Int) < (s.length : Int) := by omega
          have hk0 : (0 : Int) ≤ (k : Int) := by omega
          have HNX := hide (num_snoc s k x hx)
          clear hx
          go_wp2_with fail
          go_roundw
          case rel => exact ⟨k + 1, by omega, by go_num, by rw [unhide HNX], trivial⟩
          case measure => simp [intOf]; omega
        · have hkI : ¬ (k : Int) < (s.length : Int) := by omega
          have hke : s.take k = s := List.take_of_length_le (by omega)
          rw [hke]
          clear hke
          go_wp2_with fail
          go_ret
          rw [unhide HS]
          exact ⟨rfl, (unhide HX).drewN nq, (FrX.refl p w).drewN nq⟩
    · have hlI : ((s.length : Int) == (most.length : Int)) = false := by rw [beq_eq_false_iff_ne]; omega
      clear hc
      go_enter Tryz.func159, Tryz.ntmps159
      go_wp2_with fail
      go_quiet (fail)
      go_wp2_with fail
      go_loopw [6, 7] (fun n i wr => ∃ k : Nat, k ≤ s.length ∧ i = .int .i64 (k : Int) ∧ n = .int .u64 (numF (s.take k)) ∧ wr = w.drewN nq) (fun _ i _ => s.length - (intOf i).toNat)
      case atStart => exact ⟨0, by omega, rfl, rfl, rfl⟩
      case round =>
        obtain ⟨k, hk, rfl, rfl, rfl⟩ := hrel
        by_cases hlt : k < s.length
        · obtain ⟨x, hx⟩ : ∃ x, s[k]? = some x := ⟨s[k], List.getElem?_eq_getElem hlt⟩
          have hij := idx_run s k _ x (w.drewN nq) rfl hx
          have hkI : (k : Int) < (s.length : Int) := by omega
          have hk0 : (0 : Int) ≤ (k : Int) := by omega
          have HNX := hide (num_snoc s k x hx)
          clear hx
          go_wp2_with fail
          go_roundw
          case rel => exact ⟨k + 1, by omega, by go_num, by rw [unhide HNX], trivial⟩
          case measure => simp [intOf]; omega
        · have hkI : ¬ (k : Int) < (s.length : Int) := by omega
          have hke : s.take k = s := List.take_of_length_le (by omega)
          rw [hke]
          clear hke
          go_wp2_with fail
          go_ret
          rw [unhide HS]
          exact ⟨rfl, (unhide HX).drewN nq, (FrX.refl p w).drewN nq⟩
end Go.Proofs.YtehgoioinogmkabGreatDoor
