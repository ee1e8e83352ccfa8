/- The library's contracts on strconv.FormatInt, strconv.Itoa, strings.ReplaceAll: their layings at this program's numbers (by the library's own tool, in plain words). -/
import Derived.Shelf.Strconv.Itoa4
import Derived.Ground.NamesProg
import Derived.Test.YtahpfhnekmilmaaGreatDoorProg
import Derived.Test.YtahpfhnekmilmaaGreatDoorNPFind
import Derived.Test.YtahpfhnekmilmaaGreatDoorJNKnownNFullS
import Derived.Test.YtahpfhnekmilmaaGreatDoorJDStateDAs2DBegin
import Derived.Test.YtahpfhnekmilmaaGreatDoorJNMsgNBigNMkHandNDel
import Derived.Lib.LaidTab
import Derived.Lib.ItoaLen
import Derived.Test.YtahpfhnekmilmaaGreatDoorRows
import Derived.ProofKit
import Derived.LaidMore
import Derived.LaidHandle
import Derived.LaidLaws
import Derived.OpenShut
import Derived.ChangeOld
import Derived.Below
import Derived.Stop.Joined
import Derived.Stop.LaidErr
namespace Go.Proofs.YtahpfhnekmilmaaGreatDoor
open Go.Shelf
def Tryz.lays171_ren : Go.Shelf.Ren := ⟨fun | 171 => 32 | 243 => 51 | 246 => 66 | 283 => 75 | 284 => 76 | 285 => 77 | 286 => 78 | 129 => 86 | 317 => 85 | 318 => 87 | 319 => 88 | 320 => 89 | 337 => 93 | 338 => 94 | n => n, fun | 3 => 3 | 9 => 9 | 2 => 2 | 4 => 4 | 171 => 153 | 0 => 0 | 53 => 27 | 37 => 34 | 5 => 5 | 173 => 156 | 212 => 167 | 51 => 168 | 20 => 20 | 213 => 169 | 46 => 140 | 232 => 175 | 233 => 176 | n => n, fun | 17 => 1 | 18 => 2 | 19 => 3 | n => n⟩

theorem Tryz.lays171 : Go.Proofs.LaysM.n171 Tryz.prog Tryz.lays171_ren := {
  mixed := by kernel_rfl
  f129 := Tryz.func86.trans (congrArg some (by kernel_rfl))
  f171 := Tryz.func32.trans (congrArg some (by kernel_rfl))
  f243 := Tryz.func51.trans (congrArg some (by kernel_rfl))
  f246 := Tryz.func66.trans (congrArg some (by kernel_rfl))
  f283 := Tryz.func75.trans (congrArg some (by kernel_rfl))
  f284 := Tryz.func76.trans (congrArg some (by kernel_rfl))
  f285 := Tryz.func77.trans (congrArg some (by kernel_rfl))
  f286 := Tryz.func78.trans (congrArg some (by kernel_rfl))
  f317 := Tryz.func85.trans (congrArg some (by kernel_rfl))
  f318 := Tryz.func87.trans (congrArg some (by kernel_rfl))
  f319 := Tryz.func88.trans (congrArg some (by kernel_rfl))
  f320 := Tryz.func89.trans (congrArg some (by kernel_rfl))
  f337 := Tryz.func93.trans (congrArg some (by kernel_rfl))
  f338 := Tryz.func94.trans (congrArg some (by kernel_rfl))
  t0 := Tryz.underlying0
  a0 := Tryz.isAgg0
  z0 := Tryz.sizeOf0
  v0 := Tryz.zeroValue0
  t2 := Tryz.underlying2
  a2 := Tryz.isAgg2
  z2 := Tryz.sizeOf2
  v2 := Tryz.zeroValue2
  t3 := Tryz.underlying3
  a3 := Tryz.isAgg3
  z3 := Tryz.sizeOf3
  v3 := Tryz.zeroValue3
  t4 := Tryz.underlying4
  a4 := Tryz.isAgg4
  z4 := Tryz.sizeOf4
  v4 := Tryz.zeroValue4
  t5 := Tryz.underlying5
  a5 := Tryz.isAgg5
  z5 := Tryz.sizeOf5
  v5 := Tryz.zeroValue5
  t9 := Tryz.underlying9
  a9 := Tryz.isAgg9
  z9 := Tryz.sizeOf9
  v9 := Tryz.zeroValue9
  t20 := Tryz.underlying20
  a20 := Tryz.isAgg20
  z20 := Tryz.sizeOf20
  v20 := Tryz.zeroValue20
  t37 := Tryz.underlying34
  a37 := Tryz.isAgg34
  z37 := Tryz.sizeOf34
  v37 := Tryz.zeroValue34
  t46 := Tryz.underlying140
  a46 := Tryz.isAgg140
  z46 := Tryz.sizeOf140
  v46 := Tryz.zeroValue140
  t51 := Tryz.underlying168
  a51 := Tryz.isAgg168
  z51 := Tryz.sizeOf168
  v51 := Tryz.zeroValue168
  t53 := Tryz.underlying27
  a53 := Tryz.isAgg27
  z53 := Tryz.sizeOf27
  v53 := Tryz.zeroValue27
  t171 := Tryz.underlying153
  a171 := Tryz.isAgg153
  z171 := Tryz.sizeOf153
  v171 := Tryz.zeroValue153
  t173 := Tryz.underlying156
  a173 := Tryz.isAgg156
  z173 := Tryz.sizeOf156
  v173 := Tryz.zeroValue156
  t212 := Tryz.underlying167
  a212 := Tryz.isAgg167
  z212 := Tryz.sizeOf167
  v212 := Tryz.zeroValue167
  t213 := Tryz.underlying169
  a213 := Tryz.isAgg169
  z213 := Tryz.sizeOf169
  t232 := Tryz.underlying175
  a232 := Tryz.isAgg175
  z232 := Tryz.sizeOf175
  v232 := Tryz.zeroValue175
  t233 := Tryz.underlying176
  a233 := Tryz.isAgg176
  z233 := Tryz.sizeOf176
  v233 := Tryz.zeroValue176
  g17 := by kernel_rfl
  g18 := by kernel_rfl
  g19 := by kernel_rfl
  i0 := by kernel_rfl
  i2 := by kernel_rfl
  i3 := by kernel_rfl
  i4 := by kernel_rfl
  i5 := by kernel_rfl
  i9 := by kernel_rfl
  i20 := by kernel_rfl
  i37 := by kernel_rfl
  i46 := by kernel_rfl
  i51 := by kernel_rfl
  i53 := by kernel_rfl
  i171 := by kernel_rfl
  i173 := by kernel_rfl
  i212 := by kernel_rfl
  i232 := by kernel_rfl
  i233 := by kernel_rfl
  m17 := by kernel_rfl
  m18 := by kernel_rfl
  m19 := by kernel_rfl }
end Go.Proofs.YtahpfhnekmilmaaGreatDoor
/- NetPlays: what Send tells of a message that may not be. -/
namespace Go.Proofs.YtahpfhnekmilmaaGreatDoor
open Go.RowKit Go.Lib Go.Proofs

/-- The library's table of powers of ten, as laid. -/
def PT (w : World) : Prop := TabIs Tryz.prog w "internal/strconv.uint64pow10" .u64 pow10Tab
theorem Tryz.ptG : Tryz.prog.globalNamed "internal/strconv.uint64pow10" = some 1 := by kernel_rfl
theorem PT.below {w w' : World} (h : PT w) (hb : Below w.heap.size w w') (hl : 1 < w.heap.size) : PT w' := by
  unfold PT TabIs World.var? at *
  rw [Tryz.ptG] at *
  simp only [Option.bind_some] at *
  rw [hb.block _ hl]
  exact h
theorem itoa_any (n : Int) (w : World) (h0 : -9223372036854775808 ≤ n) (h1 : n < 9223372036854775808) (hT : PT w) :
    Calls Tryz.prog 32 #[.int .i64 n] w fun e w' => e = .returned (.string ⟨(itoa n).toArray⟩) ∧ Below w.heap.size w w' := by
  have h : Calls Tryz.prog 32 #[.int .i64 n] w fun e w' => e = .returned (.string ⟨(itoa n).toArray⟩) ∧ ∃ k os, w' = Sort.grow (w.drewN k) os := Any.strconv_Itoa Tryz.lays171 n h0 (by omega) w hT
  refine h.mono ?_
  rintro e w' ⟨rfl, k, os, rfl⟩
  exact ⟨rfl, ⟨rfl, rfl, rfl, by simp [Sort.grow], fun i hi => by simp [Sort.grow, Array.getElem?_append_left hi]⟩⟩
theorem itoa_size (n : Int) (h : -9223372036854775808 ≤ n ∧ n < 9223372036854775808) : (⟨(itoa n).toArray⟩ : ByteArray).size ≤ 100 := by
  show (itoa n).toArray.size ≤ 100
  rw [List.size_toArray]
  have := itoa_length_le n h.1 (by omega)
  omega

set_option maxHeartbeats 3200000 in
set_option maxRecDepth 100000 in
theorem refused_any (b : Nat) (pl : Int) (w : World) (hp : -9223372036854775808 ≤ pl ∧ pl < 9223372036854775808) (hE : ET w) (hT : ∀ W, Below w.heap.size w W → PT W) (he : ErrAt w b pl 20) :
    Calls Tryz.prog 16 #[ev b] w fun e w' => ∃ b', e = .returned (Dk.evW b') ∧ w.heap.size ≤ b' ∧ Dk.ErrW w' b' 20 ∧ Below w.heap.size w w' := by
  have hbl := he.lt
  have hE1 := hE.alloc (.cells #[.pointer none] 82)
  have he1 := he.alloc (.cells #[.pointer none] 82)
  have ht1 : (w.alloc (.cells #[.pointer none] 82)).cell? ⟨w.heap.size, 0, none⟩ = some (.pointer none) := by simp
  have hf1 : (w.alloc (.cells #[.pointer none] 82)).frozen? ⟨w.heap.size, 0, none⟩ = false := by simp
  have HAs := hide (as_place b ⟨w.heap.size, 0, none⟩ _ _ hE1 ht1 hf1)
  have HF : Hid (∀ w1, Below w.heap.size (w.alloc (.cells #[.pointer none] 82)) w1 → w.heap.size < w1.heap.size → w1.cell? ⟨w.heap.size, 0, none⟩ = some (.pointer (some ⟨b, 0, none⟩)) →
      ErrAt w1.drew b pl 20 ∧ w1.drew.cell? ⟨w.heap.size, 0, none⟩ = some (.pointer (some ⟨b, 0, none⟩)) ∧
      Calls Tryz.prog 32 #[.int .i64 pl] w1.drew fun e w2 => ∃ s, e = .returned (.string s) ∧ s.size ≤ 100 ∧ (ErrAt w2 b pl 20 ∧ w2.cell? ⟨w.heap.size, 0, none⟩ = some (.pointer (some ⟨b, 0, none⟩))) ∧ Hid (Below w.heap.size w w2)) := by
    intro w1 hb1 hz hc
    have e1 : ErrAt w1 b pl 20 := he1.below hb1 hbl
    have hB : Below w.heap.size w w1.drew := (((Below.refl _ _).alloc (Nat.le_refl _) _).trans hb1).drew
    refine ⟨e1, hc, (itoa_any pl w1.drew hp.1 hp.2 (hT _ hB)).mono ?_⟩
    rintro e w2 ⟨rfl, hb2⟩
    exact ⟨_, rfl, itoa_size pl hp, ⟨ErrAt.below (w := w1.drew) e1 hb2 (show b < w1.heap.size by omega), (hb2.cell (p := ⟨w.heap.size, 0, none⟩) (show w.heap.size < w1.heap.size from hz)).trans hc⟩, one_b hB hb2⟩
  have hz0 : (w.alloc (.cells #[.pointer none] 82)).heap.size = w.heap.size + 1 := by simp
  clear hE1 he1 ht1 hf1 hE he hT hp
  go_enter Tryz.func16, Tryz.ntmps16
  go_upto_region 4 with (first | (go_at_call 18; refine (unhide HAs).mono ?_; rintro e w1 ⟨rfl, hc1, hb1, hz1⟩; obtain ⟨he1, hc2, HI⟩ := unhide HF w1 hb1 (by omega) hc1; have HI := hide HI; clear HF HAs))
  refine wp_region_held_drew (S := fun w' => ErrAt w' b pl 20 ∧ w'.cell? ⟨w.heap.size, 0, none⟩ = some (.pointer (some ⟨b, 0, none⟩))) (by kernel_rfl) ⟨he1, hc2⟩ (fun hHeld => ?_)
  refine hand_to (i := 0) (d := 9) (v := (.pointer (some ⟨b, 0, none⟩))) rfl rfl (by kernel_rfl) (by kernel_rfl) (by kernel_rfl) (fun _ _ _ h => h) (Or.inl ⟨by rfl, ?_⟩) hHeld ?_
  · (intro w' hSw; obtain ⟨⟨q0, q1⟩, q2⟩ := hSw; go_simp)
  simp only [Act.put, List.setIfInBounds_toArray, List.set_cons_zero, List.set_cons_succ]
  refine hand_to (i := 1) (d := 10) (v := (.pointer (some ⟨b, 0, none⟩))) rfl rfl (by kernel_rfl) (by kernel_rfl) (by kernel_rfl) (fun _ _ _ h => h) (Or.inl ⟨by rfl, ?_⟩) hHeld ?_
  · (intro w' hSw; obtain ⟨⟨q0, q1⟩, q2⟩ := hSw; go_simp)
  simp only [Act.put, List.setIfInBounds_toArray, List.set_cons_zero, List.set_cons_succ]
  refine hand_to (i := 2) (d := 11) (v := (.pointer (some ⟨b, 0, none⟩))) rfl rfl (by kernel_rfl) (by kernel_rfl) (by kernel_rfl) (fun _ _ _ h => h) (Or.inl ⟨by rfl, ?_⟩) hHeld ?_
  · (intro w' hSw; obtain ⟨⟨q0, q1⟩, q2⟩ := hSw; go_simp)
  simp only [Act.put, List.setIfInBounds_toArray, List.set_cons_zero, List.set_cons_succ]
  refine hand_to (i := 3) (d := 12) (v := (.int .i64 pl)) rfl rfl (by kernel_rfl) (by kernel_rfl) (by kernel_rfl) (fun _ _ _ h => h) (Or.inl ⟨by rfl, ?_⟩) hHeld ?_
  · (intro w' hSw; obtain ⟨⟨q0, q1⟩, q2⟩ := hSw; go_simp)
  simp only [Act.put, List.setIfInBounds_toArray, List.set_cons_zero, List.set_cons_succ]
  refine hand_to (i := 7) (d := 16) (v := (.pointer (some ⟨b, 0, none⟩))) rfl rfl (by kernel_rfl) (by kernel_rfl) (by kernel_rfl) (fun _ _ _ h => h) (Or.inl ⟨by rfl, ?_⟩) hHeld ?_
  · (intro w' hSw; obtain ⟨⟨q0, q1⟩, q2⟩ := hSw; go_simp)
  simp only [Act.put, List.setIfInBounds_toArray, List.set_cons_zero, List.set_cons_succ]
  refine hand_to (i := 8) (d := 17) (v := (.pointer (some ⟨b, 0, none⟩))) rfl rfl (by kernel_rfl) (by kernel_rfl) (by kernel_rfl) (fun _ _ _ h => h) (Or.inl ⟨by rfl, ?_⟩) hHeld ?_
  · (intro w' hSw; obtain ⟨⟨q0, q1⟩, q2⟩ := hSw; go_simp)
  simp only [Act.put, List.setIfInBounds_toArray, List.set_cons_zero, List.set_cons_succ]
  refine hand_to (i := 9) (d := 18) (v := (.pointer (some ⟨b, 1, none⟩))) rfl rfl (by kernel_rfl) (by kernel_rfl) (by kernel_rfl) (fun _ _ _ h => h) (Or.inl ⟨by rfl, ?_⟩) hHeld ?_
  · (intro w' hSw; obtain ⟨⟨q0, q1⟩, q2⟩ := hSw; go_simp)
  simp only [Act.put, List.setIfInBounds_toArray, List.set_cons_zero, List.set_cons_succ]
  refine hand_to (i := 10) (d := 19) (v := (.iface 35 (.int .i64 20))) rfl rfl (by kernel_rfl) (by kernel_rfl) (by kernel_rfl) (fun _ _ _ h => h) (Or.inl ⟨by rfl, ?_⟩) hHeld ?_
  · (intro w' hSw; obtain ⟨⟨q0, q1⟩, q2⟩ := hSw; go_simp)
  simp only [Act.put, List.setIfInBounds_toArray, List.set_cons_zero, List.set_cons_succ]
  refine wpAnyH_ready (rs := [4]) (by kernel_rfl) (by simp) ?_
  refine AllReadyH.cons rfl (fun K hK => ?_) AllReadyH.nil
  go_simp
  (go_at_call 32; refine (unhide HI).mono ?_; rintro e w2 ⟨s, rfl, hsz, hS2, HB2⟩; clear HI)
  (go_wp2_with fail)
  refine hK.out _ _ hS2 (fun hHeld2 => ?_)
  clear hK K hHeld
  have hHeld := hHeld2
  clear hHeld2
  refine hand_to (i := 5) (d := 14) (v := (.string (⟨#[98, 121, 116, 101, 32]⟩ ++ s))) rfl rfl (by kernel_rfl) (by kernel_rfl) (by kernel_rfl) (fun _ _ _ h => h) (Or.inl ⟨by rfl, ?_⟩) hHeld ?_
  · (intro w' hSw; obtain ⟨⟨q0, q1⟩, q2⟩ := hSw; go_simp <;> omega)
  simp only [Act.put, List.setIfInBounds_toArray, List.set_cons_zero, List.set_cons_succ]
  refine hand_to (i := 6) (d := 15) (v := (.string (⟨#[98, 121, 116, 101, 32]⟩ ++ s ++ ⟨#[32, 111, 102, 32, 97, 32, 109, 101, 115, 115, 97, 103, 101]⟩))) rfl rfl (by kernel_rfl) (by kernel_rfl) (by kernel_rfl) (fun _ _ _ h => h) (Or.inl ⟨by rfl, ?_⟩) hHeld ?_
  · (intro w' hSw; obtain ⟨⟨q0, q1⟩, q2⟩ := hSw; go_simp <;> omega)
  simp only [Act.put, List.setIfInBounds_toArray, List.set_cons_zero, List.set_cons_succ]
  refine hand_to (i := 11) (d := 20) (v := (.agg #[.string (⟨#[98, 121, 116, 101, 32]⟩ ++ s ++ ⟨#[32, 111, 102, 32, 97, 32, 109, 101, 115, 115, 97, 103, 101]⟩), .iface 35 (.int .i64 20)])) rfl rfl (by kernel_rfl) (by kernel_rfl) (by kernel_rfl) (fun _ _ _ h => h) (Or.inl ⟨by rfl, ?_⟩) hHeld ?_
  · (intro w' hSw; obtain ⟨⟨q0, q1⟩, q2⟩ := hSw; go_simp)
  simp only [Act.put, List.setIfInBounds_toArray, List.set_cons_zero, List.set_cons_succ]
  refine wpAnyH_ready (rs := [12]) (by kernel_rfl) (by simp) ?_
  refine AllReadyH.cons rfl (fun K hK => ?_) AllReadyH.nil
  go_simp
  have hw2 := ErrAt.lt hHeld.1
  refine hK.out _ _ ⟨hHeld.1.alloc _, (World.cell?_alloc_lt _ _ ⟨w.heap.size, 0, none⟩ (lt_of_cell hHeld.2)).trans hHeld.2⟩ (fun hHeld2 => ?_)
  clear hK K hHeld
  have hHeld := hHeld2
  clear hHeld2
  refine hand_to (i := 13) (d := 22) (v := (Dk.evW w2.heap.size)) rfl rfl (by kernel_rfl) (by kernel_rfl) (by kernel_rfl) (fun _ _ _ h => h) (Or.inl ⟨by rfl, ?_⟩) hHeld ?_
  · (intro w' hSw; obtain ⟨⟨q0, q1⟩, q2⟩ := hSw; go_simp)
  simp only [Act.put, List.setIfInBounds_toArray, List.set_cons_zero, List.set_cons_succ]
  refine hand_to (i := 14) (d := 2) (v := (Dk.evW w2.heap.size)) rfl rfl (by kernel_rfl) (by kernel_rfl) (by kernel_rfl) (fun _ _ _ h => h) (Or.inl ⟨by rfl, ?_⟩) hHeld ?_
  · (intro w' hSw; obtain ⟨⟨q0, q1⟩, q2⟩ := hSw; go_simp)
  simp only [Act.put, List.setIfInBounds_toArray, List.set_cons_zero, List.set_cons_succ]
  refine wpAnyH_done (by kernel_rfl) ?_ _
  go_wp2
  go_ret
  refine ⟨w2.heap.size, rfl, (unhide HB2).size, ?_, (unhide HB2).alloc (unhide HB2).size _⟩
  unfold Dk.ErrW
  simp
end Go.Proofs.YtahpfhnekmilmaaGreatDoor
/- From the net's rows' condition on their four listed variables to the fact that the walks ask. -/
namespace Go.Proofs.YtahpfhnekmilmaaGreatDoor
open Go.ChangeShapes Go.WideShapes Go.RowKit Go.Lib

abbrev laid4 : List (String × DataW Unit) := [("math/bits.deBruijn32tab", Rows.laid_math_bits_deBruijn32tab), ("math/bits.deBruijn64tab", Rows.laid_math_bits_deBruijn64tab), ("internal/strconv.uint64pow10", Rows.laid_internal_strconv_uint64pow10), ("errors.errorType", Rows.laid_errors_errorType)]
theorem handle_of_laid4 {W : World} (h : laidMetH Tryz.prog laid4 W) : ET W := by
  have h' : laidMet Tryz.prog [("math/bits.deBruijn32tab", Rows.laid_math_bits_deBruijn32tab), ("math/bits.deBruijn64tab", Rows.laid_math_bits_deBruijn64tab), ("internal/strconv.uint64pow10", Rows.laid_internal_strconv_uint64pow10)] W ∧ handlesMet Tryz.prog [("errors.errorType", Rows.laid_errors_errorType)] W := h
  obtain ⟨name, u, ty, e1, e2, e3, e4, e5⟩ := h'.2 _ (List.mem_singleton.2 rfl)
  have en : name = [101, 114, 114, 111, 114] := (Option.some.inj e1).symm
  subst en
  obtain rfl := Option.some.inj (Tryz.rt.symm.trans e2)
  have hm : ty ∈ (List.range 204).filter fun t => Tryz.prog.rowNamed t [101, 114, 114, 111, 114] := List.mem_filter.2 ⟨List.mem_range.2 (by rw [← Tryz.size]; exact e3), e4⟩
  rw [Tryz.oneRow] at hm
  obtain rfl := List.mem_singleton.1 hm
  have hh : typeHandle Tryz.prog 31 = .pointer (some ⟨5, 31, none⟩) := by kernel_rfl
  rw [hh] at e5
  unfold ET
  simpa using World.var?_cell Tryz.et e5 0
/-- The door's own heap meets the condition. -/
theorem door_met4 (os : Os) (args : Array Value) : laidMetH Tryz.prog laid4 ((World.doorLaid Tryz.prog 400 os).forCall (fun _ _ => 0) ⟨#[], args, []⟩).memory :=
  laidMetH_of_parts3 (fuel := 8) (laidMet_of_run' 8 (by kernel_rfl) (by kernel_rfl)) (by kernel_rfl) (by kernel_rfl)
end Go.Proofs.YtahpfhnekmilmaaGreatDoor
/- From the condition on NetPlays' four listed variables to the table of powers that strconv reads. -/
namespace Go.Proofs.YtahpfhnekmilmaaGreatDoor
open Go.ChangeShapes Go.WideShapes Go.RowKit Go.Lib

theorem Tryz.ptT : (Tryz.prog.globals[1]?).map (·.type) = some 167 := by kernel_rfl
theorem pow_data : (Rows.laid_internal_strconv_uint64pow10 : DataW Unit) = tabData .u64 pow10Tab := by kernel_rfl
theorem data_of_laid4 {W : World} (h : laidMetH Tryz.prog laid4 W) : laidMet Tryz.prog [("math/bits.deBruijn32tab", Rows.laid_math_bits_deBruijn32tab), ("math/bits.deBruijn64tab", Rows.laid_math_bits_deBruijn64tab), ("internal/strconv.uint64pow10", Rows.laid_internal_strconv_uint64pow10)] W ∧ handlesMet Tryz.prog [("errors.errorType", Rows.laid_errors_errorType)] W := h
theorem table_of_laid4 {W : World} (h : laidMetH Tryz.prog laid4 W) : PT W ∧ 1 < W.heap.size := by
  have h2 := (data_of_laid4 h).1.tail.tail
  rw [pow_data] at h2
  have ht := tabIs_of_head Tryz.ptG Tryz.ptT Tryz.underlying167 Tryz.underlying27 (by kernel_rfl) (by kernel_rfl) h2
  refine ⟨ht, ?_⟩
  have hc := World.var?_cell Tryz.ptG ht 0
  exact lt_of_cell (hc.trans (by simp [pow10Tab]; rfl))
end Go.Proofs.YtahpfhnekmilmaaGreatDoor
