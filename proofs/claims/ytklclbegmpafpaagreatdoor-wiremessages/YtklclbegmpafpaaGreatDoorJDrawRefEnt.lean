/- Appending bytes at a step of a region that draws its order; the document's own writer of entries, what it refuses; Few. -/
import Derived.Test.YtklclbegmpafpaaGreatDoorRef3
import Derived.Test.YtklclbegmpafpaaGreatDoorEntry
import Derived.Deep.RegionHeld3
import Derived.Deep.DrawnRows
namespace Go.Proofs.YtklclbegmpafpaaGreatDoor
open Go.RowKit Go.Lib
attribute [local go_sem ↓] Go.wp_at_zero Go.wp_at_succ

theorem step_append_rb {w : World} {ops : Array Oper} {o : Oper} {a : Act} {K : Act → World → Prop} {Q : Exit → Act → World → Prop} {E : Prop} (hgd : o.guard = none) (s x : Operand)
    (ho : o.op = .call { callee := .builtin .append, args := #[s, x], argTypes := #[24, 24] })
    (base : Nat) (v : Value) (l : List UInt8) (hs : a.eval s = v) (hown : w.ownsRow base 5 1 v l.length (byteCells l))
    (B : Nat) (xv : Value) (lx : List UInt8) (hx : a.eval x = xv) (hrb : RBp w B xv lx) (hne : 0 < lx.length) (hn : l.length ≤ 1000000000) (hl : lx.length ≤ 1000000000) (hbase : base ≤ w.heap.size)
    (h : ∀ v' w', w'.ownsRow base 5 1 v' (l ++ lx).length (byteCells (l ++ lx)) → Below base w w' → K (a.put o.dst v') w') :
    if Region.wanted o (yielded ops a.tmps) = true then Oper.wp Tryz.prog o a w K Q else E := by
  have hw : Region.wanted o (yielded ops a.tmps) = true := by simp [Region.wanted, hgd]
  rw [if_pos hw]
  obtain ⟨i0, hi, hz0, hz1, hz2⟩ := info_parts Tryz.infoB
  obtain ⟨hlen, ⟨rfl, rfl⟩ | ⟨b, off, cap, hbB, hcap, hm, rfl, hcell⟩⟩ := hrb
  · simp at hne
  · refine wp_append_own w s x 24 ho base 5 i0 (.int .u8 0) 1 1 Tryz.underlying24 hi hz0 hz1 hz2 rfl (by decide) v l.length (byteCells l) hs hown ⟨b, off, none⟩ lx.length cap (byteCells lx) hx (by rw [byteCells_length]; omega) ?_ ?_ (by unfold maxLen; omega) (by omega) hbase ?_
    · intro j u hj
      have hjl : j < lx.length := by
        have := (List.getElem?_eq_some_iff.1 hj).1
        rwa [byteCells_length] at this
      have e2 : (byteCells lx)[j]? = some (.int .u8 ((lx.getD j 0).toNat : Int)) := by
        simp [byteCells, hjl]
      have hj2 := Option.some.inj (e2.symm.trans hj)
      rw [← hj2]
      have e3 : (⟨b, off, none⟩ : Addr).add j = ⟨b, off + j, none⟩ := by unfold Addr.add; split <;> simp_all
      rw [e3]; exact hcell j hjl
    · intro u hu
      simp only [byteCells, List.mem_map] at hu
      obtain ⟨c, _, rfl⟩ := hu
      rfl
    · intro v' w' h1 h2 _
      refine h v' w' ?_ ((Below.refl _ _).grown h2 hbase (own_block_ge hown))
      rw [List.length_append, byteCells_append]; exact h1

/-- A Boolean is told. -/
def IsBool (e : Ending) : Prop := ∃ m, e = .returned (.bool m)
set_option maxHeartbeats 1600000 in
theorem few_any (v : Value) (gs : List GV) (w : World) (hv : RV w w.heap.size v gs) :
    Calls Tryz.prog 17 #[v, .int .i64 80] w fun e w' => IsBool e ∧ w' = w := by
  obtain ⟨h1, h2, ⟨rfl, rfl⟩ | ⟨b, off, cap, hb, rfl, hc⟩⟩ := hv
  · go_enter Tryz.func17, Tryz.ntmps17
    go_wp2
    refine wp_loop_rounds 1 ?_
    rw [rounds_succ]
    go_wp2
    go_ret
    exact ⟨⟨_, rfl⟩, rfl⟩
  · have HC := hide hc
    have HO := hide h2
    have hl : (gs.length : Int) ≤ 9223372036854775807 := by omega
    clear hc h2
    go_enter Tryz.func17, Tryz.ntmps17
    go_wp2
    go_loop [5] (fun i => ∃ k : Nat, k ≤ gs.length ∧ i = .int .i64 k) (fun i => gs.length - (intOf i).toNat)
    case atStart => exact ⟨0, by omega, rfl⟩
    case round =>
      obtain ⟨k, hk, rfl⟩ := hrel
      by_cases hlt : k < gs.length
      · obtain ⟨g, hgk⟩ : ∃ g, gs[k]? = some g := ⟨gs[k], List.getElem?_eq_getElem hlt⟩
        obtain ⟨c0, c1, c2⟩ := unhide HC k g hgk
        have hgo := unhide HO g (List.mem_of_getElem? hgk)
        have hsz : (g.text.size : Int) ≤ 9223372036854775807 := by have := hgo.2.2; unfold maxLen at this; omega
        clear HC HO hgk hgo c0 c1
        by_cases h100 : (100 : Int) < (g.text.size : Int)
        · go_wp2
          go_ret
          exact ⟨⟨_, rfl⟩, rfl⟩
        · go_wp2
          go_round
          case rel => exact ⟨k + 1, by omega, by go_num⟩
          case measure => simp [intOf]; omega
      · clear HC HO
        go_wp2
        go_ret
        exact ⟨⟨_, rfl⟩, rfl⟩

theorem putVals_long {gs : List GV} (h : 64 < gs.length) : putVals gs (putLen gs.length 64 (some [])) = none := by
  rw [putLen, if_neg (by omega), putVals_none]
theorem refPutRow_any (v : Value) (gs : List GV) (w : World) (hv : RV w w.heap.size v gs) :
    Calls Tryz.prog 28 #[v] w fun e w' => RefPost (putVals gs (putLen gs.length 64 (some []))) w e w' := by
  obtain ⟨h1, h2, ⟨rfl, rfl⟩ | ⟨b, off, cap, hb, rfl, hc⟩⟩ := hv
  · have HP := hide (refPutUint_any 0 w (by decide))
    have lU := uvarint_length64 (x := 0) (by decide)
    go_enter Tryz.func28, Tryz.ntmps28
    go_wp2_with (first | (go_at_call 46; refine (unhide HP).mono ?_; rintro e w1 ⟨v1, rfl, ho1, hb1⟩))
    refine wp_loop_rounds 1 ?_
    rw [rounds_succ]
    have HO := hide ho1
    clear ho1
    go_wp2
    obtain ⟨a, kk, hv⟩ := own_slice (unhide HO)
    subst hv
    go_ret2
    exact ⟨a, kk, rfl, rb_own (l := uvarint 0) (unhide HO) (by omega), hb1⟩
  · by_cases h64 : gs.length ≤ 64
    · have h := refPutRow_row b off cap gs w hb h64 h2 hc
      rw [putLen, if_pos (by omega)]
      exact h
    · rw [putVals_long (by omega)]
      have h64' : (64 : Int) < (gs.length : Int) := by omega
      have hl : (gs.length : Int) ≤ 9223372036854775807 := by omega
      clear hc h2
      go_enter Tryz.func28, Tryz.ntmps28
      go_wp2
      go_ret2
      exact ⟨rfl, Below.refl _ _⟩
end Go.Proofs.YtklclbegmpafpaaGreatDoor
/- Contract of the document's own writer of entries. -/
namespace Go.Proofs.YtklclbegmpafpaaGreatDoor
open Go.RowKit Go.Lib
attribute [local go_sem ↓] Go.wp_at_zero Go.wp_at_succ

theorem putEnt_no {g : GE} (h : g.may = false) : putEnt g (some []) = none := by rw [putEnt, if_neg (by simp [h])]
theorem putEnt_yes {g : GE} (h : g.may = true) : putEnt g (some []) = some g.bytes := by rw [putEnt, if_pos h]; rfl

set_option maxHeartbeats 1600000 in
theorem refPutEntry_no (g : GE) (w : World) (hg : g.ok) (hm : g.may = false) :
    Calls Tryz.prog 27 #[g.agg] w fun e w' => RefPost none w e w' := by
  obtain ⟨te, k, c, q, t⟩ := g
  obtain ⟨h1, h2, h3, h4⟩ := hg
  unfold GE.agg GE.cells
  dsimp only at *
  have h4' : (t.size : Int) ≤ 9223372036854775807 := by unfold maxLen at h4; omega
  clear h4
  by_cases hk0 : k = 0
  · subst hk0
    by_cases h20 : t.size ≤ 2000
    · have h20' : ¬ ((2000 : Int) < (t.size : Int)) := by omega
      by_cases hc : c = 0
      · subst hc
        by_cases hq : q = 0
        · subst hq
          cases hE : t.toList.isEmpty with
          | true =>
            exfalso
            simp [GE.may, hE, h20] at hm
          | false =>
            clear hm
            go_enter Tryz.func27, Tryz.ntmps27
            go_wp2
            go_ret2
            exact ⟨rfl, (Below.refl _ _).alloc (Nat.le_refl _) _⟩
        · have hb : ((q : Int) != 0) = true := by rw [bne_iff_ne]; omega
          clear hm
          go_enter Tryz.func27, Tryz.ntmps27
          go_wp2
          go_ret2
          exact ⟨rfl, (Below.refl _ _).alloc (Nat.le_refl _) _⟩
      · have hb : ((c : Int) != 0) = true := by rw [bne_iff_ne]; omega
        clear hm
        go_enter Tryz.func27, Tryz.ntmps27
        go_wp2
        go_ret2
        exact ⟨rfl, (Below.refl _ _).alloc (Nat.le_refl _) _⟩
    · have h20' : (2000 : Int) < (t.size : Int) := by omega
      clear hm
      by_cases hc : c = 0
      · subst hc
        by_cases hq : q = 0
        · subst hq
          cases hE : t.toList.isEmpty with
          | true => exact absurd (isEmpty_size t hE) (by omega)
          | false =>
            go_enter Tryz.func27, Tryz.ntmps27
            go_wp2
            go_ret2
            exact ⟨rfl, (Below.refl _ _).alloc (Nat.le_refl _) _⟩
        · have hb : ((q : Int) != 0) = true := by rw [bne_iff_ne]; omega
          go_enter Tryz.func27, Tryz.ntmps27
          go_wp2
          go_ret2
          exact ⟨rfl, (Below.refl _ _).alloc (Nat.le_refl _) _⟩
      · have hb : ((c : Int) != 0) = true := by rw [bne_iff_ne]; omega
        go_enter Tryz.func27, Tryz.ntmps27
        go_wp2
        go_ret2
        exact ⟨rfl, (Below.refl _ _).alloc (Nat.le_refl _) _⟩
  · have b0 : (k == 0) = false := by simp [hk0]
    have n0 : (k != 0) = true := by rw [bne_iff_ne]; exact hk0
    by_cases hk1 : k = 1
    · subst hk1
      have h20' : (2000 : Int) < (t.size : Int) := by simp [GE.may] at hm; omega
      clear hm b0 n0 hk0
      go_enter Tryz.func27, Tryz.ntmps27
      go_wp2
      go_ret2
      exact ⟨rfl, (Below.refl _ _).alloc (Nat.le_refl _) _⟩
    · have n1 : (k != 1) = true := by rw [bne_iff_ne]; exact hk1
      clear hm
      go_enter Tryz.func27, Tryz.ntmps27
      go_wp2
      go_ret2
      exact ⟨rfl, (Below.refl _ _).alloc (Nat.le_refl _) _⟩

end Go.Proofs.YtklclbegmpafpaaGreatDoor
