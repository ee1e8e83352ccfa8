/- errors.As at a bare class for the target **api.Within, errors.Is at a bare class; and the help's Class of a wrapped class. -/
import Derived.Test.YthphadbcebeoaaaGreatDoorDAs
import Derived.Deep.RegionWith
import Derived.Test.YthphadbcebeoaaaGreatDoorJDErrsDState
import Derived.WalkKit
namespace Go.Proofs.YthphadbcebeoaaaGreatDoor.Dk
open Go.RowKit Go.Extern.Stop Go.Stop Go.Extern Go.Lib

theorem Tryz.notAssignableCW (w : World) : (ReflectliteType.relation "AssignableTo" ReflectliteType.assignableTo #[.agg #[.pointer (some ⟨2, 75, none⟩)], .iface 149 (.agg #[.pointer (some ⟨2, 144, none⟩)])]).run Tryz.prog w = .ok (.bool false) w := by kernel_rfl

set_option maxHeartbeats 4000000 in
set_option maxRecDepth 100000 in
/-- errors.As(a bare class, **api.Within): false, and nothing is written. -/
theorem as_CW (c : Int) (t : Addr) (old : Value) (w : World) (hg : w.cell? ⟨0, 0, none⟩ = some (.iface 149 (.agg #[.pointer (some ⟨2, 31, none⟩)]))) (ht0 : w.cell? t = some old) :
    Calls Tryz.prog 43 #[.iface 75 (.int .i64 c), .iface 145 (.pointer (some t))] w fun ev w' => ev = .returned (.bool false) ∧ Below w.heap.size w w' := by
  have h6 := @run_callFunc_extern Tryz.prog 66 _ (fun args => ReflectliteValue.unpack (args.getD 0 (.tuple #[]))) Tryz.func66 (by kernel_rfl) (by kernel_rfl) (by kernel_rfl) (by kernel_rfl)
  have h7 := @run_callFunc_extern Tryz.prog 67 _ (ReflectliteValue.methodAny (ReflectliteValue.valueError "reflectlite.Value.Type" 0) (fun t _ _ _ => ReflectliteType.toType t)) Tryz.func67 (by kernel_rfl) (by kernel_rfl) (by kernel_rfl) (by kernel_rfl)
  have h8 := @run_callFunc_extern Tryz.prog 68 _ (ReflectliteValue.method (ReflectliteValue.valueError "reflectlite.Value.IsNil" 0) ReflectliteValue.isNil) Tryz.func68 (by kernel_rfl) (by kernel_rfl) (by kernel_rfl) (by kernel_rfl)
  have h27 := @run_callFunc_extern Tryz.prog 156 _ (ReflectliteType.abiMethod fun t => do pure (.int .u8 (← Rtype.kind t))) Tryz.func156 (by kernel_rfl) (by kernel_rfl) (by kernel_rfl) (by kernel_rfl)
  have h37 := @run_callFunc_extern Tryz.prog 171 _ (ReflectliteType.method ReflectliteType.elem) Tryz.func171 (by kernel_rfl) (by kernel_rfl) (by kernel_rfl) (by kernel_rfl)
  have h38 := @run_callFunc_extern Tryz.prog 172 _ (ReflectliteType.relation "Implements" ReflectliteType.implements_) Tryz.func172 (by kernel_rfl) (by kernel_rfl) (by kernel_rfl) (by kernel_rfl)
  have h10 := @run_callFunc_extern Tryz.prog 51 _ ReflectliteType.typeOf Tryz.func51 (by kernel_rfl) (by kernel_rfl) (by kernel_rfl) (by kernel_rfl)
  have h35 := @run_callFunc_extern Tryz.prog 169 _ (ReflectliteType.relation "AssignableTo" ReflectliteType.assignableTo) Tryz.func169 (by kernel_rfl) (by kernel_rfl) (by kernel_rfl) (by kernel_rfl)
  have tO := Tryz.typeOf_C
  have mA := Tryz.methodAssignableTo
  have a25 := Tryz.notAssignableCW
  have f6 := Tryz.valueOf_P
  have f7 := Tryz.type_P
  have mK := Tryz.methodKind
  have mE := Tryz.methodElem
  have mI := Tryz.methodImplements
  have k27 := Tryz.kindP_P
  have k25 := Tryz.kindE_P
  have e27 := Tryz.elem_P
  have i25 := Tryz.implements_P
  have nE := Tryz.noAsC
  have uE := Tryz.noUnwrapC
  have vE := Tryz.noUnwrapsC
  have n8 := Tryz.isNil_P ⟨w.heap.size, 0, none⟩ t ((w.alloc (.cells #[.pointer (some t)] 145)).alloc (.cells #[.pointer (some ⟨2, 145, none⟩), .pointer (some ⟨w.heap.size, 0, none⟩), .int .u64 150] 134)) (by simp)
  have hlt : 0 < w.heap.size := by
    rcases Nat.lt_or_ge 0 w.heap.size with h | h
    · exact h
    · simp [World.cell?, Array.getElem?_eq_none h] at hg
  have hg2 : ((w.alloc (.cells #[.pointer (some t)] 145)).alloc (.cells #[.pointer (some ⟨2, 145, none⟩), .pointer (some ⟨w.heap.size, 0, none⟩), .int .u64 150] 134)).cell? ⟨0, 0, none⟩ = some (.iface 149 (.agg #[.pointer (some ⟨2, 31, none⟩)])) := by
    rw [World.cell?_alloc_lt _ _ ⟨0, 0, none⟩ (by simp <;> omega), World.cell?_alloc_lt _ _ ⟨0, 0, none⟩ hlt]; exact hg
  have htl : t.block < w.heap.size := by
    rcases Nat.lt_or_ge t.block w.heap.size with h | h
    · exact h
    · simp [World.cell?, Array.getElem?_eq_none h] at ht0
  go_enter Tryz.func43, Tryz.ntmps43
  go_wp2
  refine wp_loop_rounds 1 ?_
  rw [rounds_succ]
  go_wp2
  go_ret
  exact ⟨rfl, by repeat (first | exact Below.refl _ _ | refine Below.alloc ?_ (by first | exact Nat.le_refl _ | (simp; done) | (simp; omega)) _)⟩

set_option maxHeartbeats 4000000 in
/-- errors.Is at a bare class. -/
theorem is_class (c t : Int) (w : World) :
    Calls Tryz.prog 29 #[.iface 75 (.int .i64 c), .iface 75 (.int .i64 t)] w fun e w' => e = .returned (.bool (c == t)) ∧ w' = w := by
  have hTO := @run_callFunc_extern Tryz.prog 51 _ Extern.ReflectliteType.typeOf Tryz.func51 (by kernel_rfl) (by kernel_rfl) (by kernel_rfl) (by kernel_rfl)
  have tT := Tryz.isTypeOfC
  have cT := Tryz.isComparableC
  have mR := Tryz.isMethodComparable
  have nE := Tryz.noIsC
  have uE := Tryz.noUnwrapC
  have vE := Tryz.noUnwrapsC
  have heq := run_eql_iface_int (P := Tryz.prog) (k := .i64) w c t Tryz.underlying31 Tryz.isCompC Tryz.underlying75
  by_cases hct : (c == t) = true
  · go_enter Tryz.func29, Tryz.ntmps29
    go_wp2
    refine wp_loop_rounds 1 ?_
    rw [rounds_succ]
    go_wp2
    go_ret
    exact ⟨by rw [hct]; rfl, rfl⟩
  · have hct' : (c == t) = false := by simpa using hct
    go_enter Tryz.func29, Tryz.ntmps29
    go_wp2
    refine wp_loop_rounds 1 ?_
    rw [rounds_succ]
    go_wp2
    go_ret
    exact ⟨by rw [hct']; rfl, rfl⟩
end Go.Proofs.YthphadbcebeoaaaGreatDoor.Dk
/- Wrapped classes; what begins a changing call. -/
namespace Go.Proofs.YthphadbcebeoaaaGreatDoor.Dk
open Go.RowKit Go.Lib Go.Maps

theorem set_post {w W : World} {t : Addr} {v old : Value} (hb : Below w.heap.size w W) (ht0 : w.cell? t = some old) :
    (W.setCell t v).cell? t = some v ∧ Below t.block w (W.setCell t v) ∧ w.heap.size ≤ (W.setCell t v).heap.size := by
  have hl := lt_of_cell ht0
  refine ⟨World.cell?_setCell_same _ _ _ (u := old) ?_, (hb.mono (Nat.le_of_lt hl)).setCell (Nat.le_refl _) _, by simpa using hb.size⟩
  rw [hb.cell hl]; exact ht0
theorem as_class (b : Nat) (c : Int) (t : Addr) (old : Value) (w : World) (hE : ET w) (he : ErrW w b c) (ht0 : w.cell? t = some old) (hf0 : w.frozen? t = false) :
    Calls Tryz.prog 43 #[evW b, .iface 98 (.pointer (some t))] w fun e w' =>
      e = .returned (.bool true) ∧ w'.cell? t = some (.int .i64 c) ∧ Below t.block w w' ∧ w.heap.size ≤ w'.heap.size := by
  refine (as_C b c t old w hE ht0 hf0 he).mono ?_
  rintro e w' ⟨rfl, W, hb, rfl⟩
  exact ⟨rfl, set_post hb ht0⟩
theorem as_within (b : Nat) (t : Addr) (old : Value) (w : World) (hE : ET w) (ht0 : w.cell? t = some old) (hf0 : w.frozen? t = false) :
    Calls Tryz.prog 43 #[evW b, .iface 145 (.pointer (some t))] w fun e w' =>
      e = .returned (.bool true) ∧ Below t.block w w' ∧ w.heap.size ≤ w'.heap.size := by
  refine (as_P b t old w hE ht0 hf0).mono ?_
  rintro e w' ⟨rfl, W, hb, rfl⟩
  exact ⟨rfl, (set_post hb ht0).2⟩

/-- consistoryhelp.Class of no error. -/
theorem class_nil (w : World) : Calls Tryz.prog 22 #[.nilIface] w fun e w' => e = .returned (.int .i64 0) ∧ w' = w := by
  go_enter Tryz.func22, Tryz.ntmps22
  go_wp2
  go_ret
  exact ⟨rfl, rfl⟩

set_option maxHeartbeats 1600000 in
/-- consistoryhelp.Class of a wrapped class. -/
theorem class_at (b : Nat) (c : Int) (w : World) (hE : ET w) (he : ErrW w b c) :
    Calls Tryz.prog 22 #[evW b] w fun e w' => e = .returned (.int .i64 c) ∧ Below w.heap.size w w' := by
  have hbl := he.lt
  have hE1 := hE.alloc (.cells #[.int .i64 0] 75)
  have he1 := he.alloc (.cells #[.int .i64 0] 75)
  have ht1 : (w.alloc (.cells #[.int .i64 0] 75)).cell? ⟨w.heap.size, 0, none⟩ = some (.int .i64 0) := by simp
  have hf1 : (w.alloc (.cells #[.int .i64 0] 75)).frozen? ⟨w.heap.size, 0, none⟩ = false := by simp
  have hp1 : Hid (∀ w1, Below w.heap.size (w.alloc (.cells #[.int .i64 0] 75)) w1 → w1.cell? ⟨b, 1, none⟩ = some (.iface 75 (.int .i64 c)) ∧ Below w.heap.size w w1) :=
    fun w1 hb => ⟨(hb.cell (p := ⟨b, 1, none⟩) hbl).trans he1, ((Below.refl _ _).alloc (Nat.le_refl _) _).trans hb⟩
  have hAs := hide (as_class b c ⟨w.heap.size, 0, none⟩ _ _ hE1 he1 ht1 hf1)
  clear hE1 he1 ht1 hf1 hE he
  go_enter Tryz.func22, Tryz.ntmps22
  go_wp2_with (first | (go_at_call 43; refine (unhide hAs).mono ?_; rintro e w1 ⟨rfl, hc1, hb1, _⟩; have hq1 := (unhide hp1 w1 hb1).1) | (go_at_call 29; refine (is_placed b c c _ hq1).mono ?_; rintro e w2 ⟨rfl, rfl⟩))
  go_ret
  exact ⟨rfl, (unhide hp1 _ hb1).2⟩

set_option maxHeartbeats 1600000 in
/-- within at a bare class: a new wrap. -/
theorem within_class (s : ByteArray) (c : Int) (w : World) (hE : ET w) :
    Calls Tryz.prog 49 #[.string s, evC c] w fun e w' => ∃ b, e = .returned (evW b) ∧ w.heap.size ≤ b ∧ ErrW w' b c ∧ Below w.heap.size w w' := by
  have hE1 := hE.alloc (.cells #[.pointer none] 144)
  have ht1 : (w.alloc (.cells #[.pointer none] 144)).cell? ⟨w.heap.size, 0, none⟩ = some (.pointer none) := by simp
  have hAs := hide (as_CW c ⟨w.heap.size, 0, none⟩ _ _ hE1 ht1)
  clear hE1 ht1 hE
  go_enter Tryz.func49, Tryz.ntmps49
  go_wp2_with (first | (go_at_call 43; refine (unhide hAs).mono ?_; rintro e w1 ⟨rfl, hb1⟩))
  go_ret
  have hs := hb1.size
  simp at hs
  refine ⟨_, rfl, by omega, ?_, ((((Below.refl _ _).alloc (Nat.le_refl _) _).trans (hb1.mono (by simp))).alloc (by omega) _)⟩
  unfold ErrW
  simp

set_option maxHeartbeats 1600000 in
/-- within at a wrap: it. -/
theorem within_wrap (s : ByteArray) (b : Nat) (w : World) (hE : ET w) :
    Calls Tryz.prog 49 #[.string s, evW b] w fun e w' => e = .returned (evW b) ∧ Below w.heap.size w w' := by
  have hE1 := hE.alloc (.cells #[.pointer none] 144)
  have ht1 : (w.alloc (.cells #[.pointer none] 144)).cell? ⟨w.heap.size, 0, none⟩ = some (.pointer none) := by simp
  have hf1 : (w.alloc (.cells #[.pointer none] 144)).frozen? ⟨w.heap.size, 0, none⟩ = false := by simp
  have hAs := hide (as_within b ⟨w.heap.size, 0, none⟩ _ _ hE1 ht1 hf1)
  clear hE1 ht1 hE hf1
  go_enter Tryz.func49, Tryz.ntmps49
  go_wp2_with (first | (go_at_call 43; refine (unhide hAs).mono ?_; rintro e w1 ⟨rfl, hb1, hs1⟩))
  go_ret
  exact ⟨rfl, ((Below.refl _ _).alloc (Nat.le_refl _) _).trans hb1⟩
end Go.Proofs.YthphadbcebeoaaaGreatDoor.Dk
/- begin: what begins a changing call. -/
namespace Go.Proofs.YthphadbcebeoaaaGreatDoor.Dk
open Go.RowKit Go.Lib Go.Maps

/-- An error that comes in: none, a bare class, a wrapped one. -/
def ErrIn (w : World) (v : Value) (c : Int) : Prop := (v = .nilIface ∧ c = 0) ∨ (c ≠ 0 ∧ (v = evC c ∨ ∃ b, v = evW b ∧ ErrW w b c))
/-- An error that is told: none, or a wrapped class in a block that isn't the disk's. -/
def ErrOut (O : Nat → Prop) (w : World) (v : Value) (c : Int) : Prop := (v = .nilIface ∧ c = 0) ∨ (c ≠ 0 ∧ ∃ b, v = evW b ∧ ErrW w b c ∧ ¬ O b)

/-- Blocks that were there. -/
def Old (w : World) (k : Nat) : Prop := k < w.heap.size

/-- What begins a changing call: the state behind it, the class that is told. -/
def beginS (S : St) (c : Int) : St × Int :=
  if S.off = true then (S, 32) else if c ≠ 0 then (S, c)
  else if S.halting = true ∧ S.left = 0 then ({ S with off := true }, 32)
  else ({ S with left := if S.halting = true then S.left - 1 else S.left, count := S.count + 1 }, 0)

theorem DK.below {w w' : World} {p : Nat} {S : St} {mb : Option Nat} {L : List Ent} {O : Nat → Prop} (h : DK w p S mb L O) (hO : ∀ k, O k → k < w.heap.size) (hb : Below w.heap.size w w') : DK w' p S mb L O :=
  h.same (fun k hk => hb.block k (hO k hk))

set_option maxHeartbeats 3200000 in
theorem begin_any {w : World} {p : Nat} {S : St} {mb : Option Nat} {L : List Ent} {O : Nat → Prop} (s : ByteArray) (v : Value) (c : Int) (h : DK w p S mb L O) (hO : ∀ k, O k → k < w.heap.size) (E : Nat → Prop) (hEE : ∀ k, E k → k < w.heap.size) (hE : ET w) (hv : ErrIn w v c) (hwO : ∀ b, v = evW b → ¬ E b)
    (hc : 0 ≤ S.count ∧ S.count < 1000000000) (hl : S.halting = true → 0 ≤ S.left ∧ S.left < 9223372036854775808) :
    Calls Tryz.prog 47 #[.pointer (some ⟨p, 0, none⟩), .string s, v] w fun e w' => ∃ v', e = .returned v' ∧ ErrOut E w' v' (beginS S c).2 ∧ DK w' p (beginS S c).1 mb L O ∧ FrO O w w' := by
  obtain ⟨_, _, c2, c3, c4, c5⟩ := h.cells
  have f2 := h.frz 2
  have f3 := h.frz 3
  have f5 := h.frz 5
  have H := hide h
  have HO := hide hO
  have HE := hide hE
  have hpl := h.lt
  clear h hO hE
  have W := hide (fun (c : Int) (w : World) (hE : ET w) => within_class s c w hE)
  unfold beginS
  by_cases ho : S.off = true
  · rw [if_pos ho]
    rw [ho] at c3
    go_enter Tryz.func47, Tryz.ntmps47
    go_wp2_with (first | (go_at_call 49; refine (unhide W 32 w (unhide HE)).mono ?_; rintro e w1 ⟨b1, rfl, hb1, he1, hf1⟩))
    go_ret
    exact ⟨_, rfl, .inr ⟨by decide, b1, rfl, he1, fun hh => absurd (hEE _ hh) (by omega)⟩, (unhide H).below (unhide HO) hf1, FrO.of_below hf1⟩
  · rw [if_neg ho]
    have ho' : S.off = false := by simpa using ho
    rw [ho'] at c3
    by_cases hc0 : c ≠ 0
    · rw [if_pos hc0]
      rcases hv with ⟨_, h2⟩ | ⟨_, rfl | ⟨b, rfl, heb⟩⟩
      · exact absurd h2 hc0
      · go_enter Tryz.func47, Tryz.ntmps47
        go_wp2_with (first | (go_at_call 49; refine (unhide W c w (unhide HE)).mono ?_; rintro e w1 ⟨b1, rfl, hb1, he1, hf1⟩))
        go_ret
        exact ⟨_, rfl, .inr ⟨hc0, b1, rfl, he1, fun hh => absurd (hEE _ hh) (by omega)⟩, (unhide H).below (unhide HO) hf1, FrO.of_below hf1⟩
      · have hbO := hwO b rfl
        go_enter Tryz.func47, Tryz.ntmps47
        go_wp2_with (first | (go_at_call 49; refine (within_wrap s b w (unhide HE)).mono ?_; rintro e w1 ⟨rfl, hf1⟩))
        go_ret
        exact ⟨_, rfl, .inr ⟨hc0, b, rfl, heb.below hf1 heb.lt, hbO⟩, (unhide H).below (unhide HO) hf1, FrO.of_below hf1⟩
    · rw [if_neg hc0]
      rcases hv with ⟨rfl, _⟩ | ⟨h1, _⟩
      · by_cases hh : S.halting = true
        · obtain ⟨hl0, hl1⟩ := hl hh
          by_cases hz : S.left = 0
          · rw [if_pos ⟨hh, hz⟩]
            rw [hh] at c4
            rw [hz] at c5
            have HE1 : Hid (ET (w.setCell ⟨p, 3, none⟩ (.bool true))) := by
              have h := unhide H
              have he := unhide HE
              refine (cell_same (heap_setCell_ne 3 _ ?_) 0).trans he
              rintro rfl
              have := he
              unfold ET at this
              rw [h.cells.1] at this
              cases this
            go_enter Tryz.func47, Tryz.ntmps47
            go_wp2_with (first | (go_at_call 49; refine (unhide W 32 _ (unhide HE1)).mono ?_; rintro e w1 ⟨b1, rfl, hb1, he1, hf1⟩))
            go_ret
            have h := unhide H
            have hO := unhide HO
            have h1 : DK (w.setCell ⟨p, 3, none⟩ (.bool true)) p { S with off := true } mb L O := halt_same h _ (fun k hk => heap_setCell_ne _ _ hk) (heap_setCell_at h.disk 3 _)
            simp at hb1
            exact ⟨_, rfl, .inr ⟨by decide, b1, rfl, he1, fun hh => absurd (hEE _ hh) (by omega)⟩, h1.below (by simpa using hO) hf1, FrO.trans ((FrO.refl O w).set h.oP 3 _) (FrO.of_below (O := O) hf1) (fun k _ hk => hk)⟩
          · rw [if_neg (fun hx => hz hx.2), if_pos hh]
            rw [hh] at c4
            have hz' : ¬ (0 : Int) = S.left := fun e => hz e.symm
            go_enter Tryz.func47, Tryz.ntmps47
            go_wp2
            go_ret
            have h := unhide H
            exact ⟨_, rfl, .inl ⟨rfl, rfl⟩, halt_same h _ (fun k hk => (heap_setCell_ne _ _ hk).trans (heap_setCell_ne _ _ hk)) (heap_setCell_at (heap_setCell_at h.disk 5 _) 2 _), ((FrO.refl O w).set h.oP 5 _).set h.oP 2 _⟩
        · have hh' : S.halting = false := by simpa using hh
          rw [if_neg (fun hx => hh hx.1), if_neg hh]
          rw [hh'] at c4
          go_enter Tryz.func47, Tryz.ntmps47
          go_wp2
          go_ret
          have h := unhide H
          exact ⟨_, rfl, .inl ⟨rfl, rfl⟩, halt_same h _ (fun k hk => heap_setCell_ne _ _ hk) (heap_setCell_at h.disk 2 _), (FrO.refl O w).set h.oP 2 _⟩
      · exact absurd h1 hc0
end Go.Proofs.YthphadbcebeoaaaGreatDoor.Dk
/- Used: the bytes of all files, whatever order the map tells them in. -/
namespace Go.Proofs.YthphadbcebeoaaaGreatDoor.Dk
open Go.RowKit Go.Lib Go.Maps Go.WideMaps

def usedL (L : List Ent) : Nat := (L.map fun e => e.data.length).sum
/-- Of those that have come. -/
def gone (left : Lit → Bool) (L : List Ent) : Nat := (L.map fun e => if left (.string e.name) = true then 0 else e.data.length).sum
theorem gone_none {left : Lit → Bool} (h : ∀ kl, left kl = false) (L : List Ent) : gone left L = usedL L := by
  unfold gone usedL
  congr 1
  refine List.map_congr_left fun e _ => ?_
  rw [h]; rfl
theorem gone_start (L : List Ent) : gone (Maps.has (DL L)) L = 0 := by
  have : ∀ e ∈ L, Maps.has (DL L) (.string e.name) = true := fun e he => by
    rw [has_DL]
    unfold look
    rw [List.find?_isSome]
    exact ⟨e, he, by simp⟩
  unfold gone
  have : ∀ l : List Ent, (∀ e ∈ l, Maps.has (DL L) (.string e.name) = true) → (l.map fun e => if Maps.has (DL L) (.string e.name) = true then 0 else e.data.length).sum = 0 := by
    intro l
    induction l with
    | nil => intro _; rfl
    | cons y r ih =>
      intro h
      rw [List.map_cons, List.sum_cons, if_pos (h y (by simp)), ih (fun e he => h e (by simp [he]))]
  exact this L ‹_›
theorem gone_other {left : Lit → Bool} {n : List UInt8} {L : List Ent} (h : ∀ e ∈ L, e.name ≠ n) : gone (fun z => left z && !z.sameKey (.string n)) L = gone left L := by
  unfold gone
  congr 1
  refine List.map_congr_left fun e he => ?_
  have : (Lit.string e.name).sameKey (.string n) = false := by
    show (e.name == n) = false
    simpa using h e he
  simp only [this, Bool.not_false, Bool.and_true]
theorem gone_step {left : Lit → Bool} {e : Ent} {L : List Ent} (hd : L.Pairwise fun a b => a.name ≠ b.name) (he : e ∈ L) (hl : left (.string e.name) = true) :
    gone (fun z => left z && !z.sameKey (.string e.name)) L = gone left L + e.data.length := by
  induction L with
  | nil => cases he
  | cons y r ih =>
    obtain ⟨h1, h2⟩ := List.pairwise_cons.1 hd
    have hc : ∀ f : Lit → Bool, gone f (y :: r) = (if f (.string y.name) = true then 0 else y.data.length) + gone f r := fun f => by unfold gone; rw [List.map_cons, List.sum_cons]
    rw [hc, hc]
    rcases List.mem_cons.1 he with rfl | he'
    · rw [gone_other (fun x hx => (h1 x hx).symm)]
      have : (Lit.string e.name).sameKey (.string e.name) = true := by show (e.name == e.name) = true; simp
      rw [if_pos hl]
      simp only [this, Bool.not_true, Bool.and_false, Bool.false_eq_true, if_false]
      omega
    · rw [ih h2 he']
      have : (Lit.string y.name).sameKey (.string e.name) = false := by show (y.name == e.name) = false; simpa using h1 e he'
      simp only [this, Bool.not_false, Bool.and_true]
      omega
theorem gone_le {left : Lit → Bool} (M : Nat) {L : List Ent} (h : ∀ e ∈ L, e.data.length ≤ M) : gone left L ≤ L.length * M := by
  induction L with
  | nil => simp [gone]
  | cons y r ih =>
    have := ih (fun e he => h e (by simp [he]))
    have h1 := h y (by simp)
    have hc : gone left (y :: r) = (if left (.string y.name) = true then 0 else y.data.length) + gone left r := by unfold gone; rw [List.map_cons, List.sum_cons]
    rw [hc, List.length_cons, Nat.add_mul]
    split <;> omega

theorem own_v {w : World} {e : Ent} (h : FileAt w e) : ∃ a k, e.v = .slice a e.data.length k := by
  rcases h.row.2 with ⟨e1, e2⟩ | ⟨g, cap, cur, e1, _⟩
  · exact ⟨none, 0, by rw [e1, e2]⟩
  · exact ⟨_, _, e1⟩

set_option maxHeartbeats 3200000 in
set_option maxRecDepth 100000 in
theorem used_any {w : World} {p : Nat} {S : St} {mb : Option Nat} {L : List Ent} {O : Nat → Prop} (h : DK w p S mb L O) :
    Calls Tryz.prog 71 #[.pointer (some ⟨p, 0, none⟩)] w fun e w' => e = .returned (.int .i64 (usedL L : Int)) ∧ Below w.heap.size w w' := by
  obtain ⟨_, c1, _⟩ := h.cells
  cases mb with
  | none =>
    have hL := h.none rfl
    subst hL
    have hrg := run_range_nilMap (P := Tryz.prog) w 71 9 90 Tryz.underlying71
    have hnx : ∀ ty, (Instr.next (.pointer (some ⟨w.heap.size, 0, none⟩)) false ty).run Tryz.prog (w.alloc (.mapIter none 0 #[] 0)) = _ := fun ty => run_next_nilMap w ty 0 0 #[]
    clear h
    go_enter Tryz.func71, Tryz.ntmps71
    go_wp2
    refine wp_loop_rounds 1 ?_
    rw [rounds_succ]
    go_wp2
    go_ret
    exact ⟨rfl, (Below.refl _ _).alloc (Nat.le_refl _) _⟩
  | some b =>
    have hown := h.some b rfl
    have hris := h.rising.distinct
    have HF := hide h.files
    have hbnd : Hid (∀ left, gone left L ≤ 64 * 1048576) := fun left => Nat.le_trans (gone_le 1048576 (fun e he => (h.files e he).len)) (Nat.mul_le_mul_right _ h.few)
    clear h
    go_enter Tryz.func71, Tryz.ntmps71
    go_wp2_with (first
      | (at_range; refine wpList_range_own _ rfl _ 71 rfl 9 90 Tryz.law Tryz.underlying71 _ b L.length _ rfl hown ?_; intro w0 hrg0 hg0 hs0)
      | go_in)
    go_frame
    go_loopw [3] (fun n wr => ∃ (left : Lit → Bool) (cnt : Nat), n = .int .i64 (gone left L : Int) ∧ wr.ranges Tryz.prog 9 RP b w.heap.size L.length (DL L) left cnt ∧ Hid (Below w.heap.size w wr))
      (fun _ wr => wr.rangeLeft b w.heap.size)
    case atStart => exact ⟨_, _, by rw [gone_start]; rfl, hrg0, (Below.refl _ _).grown hg0 (Nat.le_refl _) (fun k hk => by cases hk)⟩
    case round =>
      obtain ⟨left, cnt, rfl, hrg, hbl⟩ := hrel
      go_wp2_with (first
        | (at_next; refine wpList_next_ranges (α := List UInt8) (β := Value) _ rfl _ rfl 9 Tryz.law RP encStr id (fun key kl h => by obtain ⟨x, hx, _⟩ := Maps.keyOf_str Tryz.underlying9 h; exact ⟨x, hx⟩) (fun v y _ => ⟨v, rfl⟩) b w.heap.size L.length _ _ _ rfl hrg ?_ ?_)
        | go_in)
      · intro _ hl0
        go_wp2
        go_ret
        exact ⟨by rw [gone_none hl0]; rfl, unhide hbl⟩
      · intro x c kl y1 y2 w1 cnt1 hkey hlx hRv hat hrg1 hlt hg1 hs1 hen
        obtain ⟨x', ex, rfl, _⟩ := Maps.keyOf_str Tryz.underlying9 hkey
        have := encStr_inj ex
        subst this
        have hat0 := hat .nil
        rw [atKey_DL] at hat0
        have hbl1 : Below w.heap.size w w1 := (unhide hbl).grown hg1 (unhide hbl).size (fun k hk => by cases hk; exact Nat.le_refl _)
        cases hlk : look L x with
        | none =>
          exfalso
          have hz := hat (.held 0)
          rw [atKey_DL, hlk] at hz
          rw [hlk] at hat0
          rw [← hz] at hat0
          cases hat0
        | some e =>
          rw [hlk] at hat0
          obtain ⟨hem, hen2⟩ := look_mem hlk
          subst hen2
          have hp := RP_held (v := c) (b := e.fp) (ps := y2) (by have h0 : DataW.held e.fp = y1 := hat0; rw [h0]; exact hRv)
          subst hp
          have hfile := unhide HF e hem
          obtain ⟨a, k, hv⟩ := own_v hfile
          have hfl : e.fp < w.heap.size := (Array.getElem?_eq_some_iff.1 hfile.blk).1
          have hc0 : w1.cell? ⟨e.fp, 0, none⟩ = some (.slice a e.data.length k) := by
            rw [hbl1.cell (p := ⟨e.fp, 0, none⟩) hfl, (cellB hfile.blk 0).1, ← hv]; rfl
          have hst := gone_step hris hem hlx
          have hb1 := unhide hbnd left
          have hb2 := unhide hbnd (fun z => left z && !z.sameKey (.string e.name))
          have HS := hide hst
          have hw : IntKind.i64.wrap ((gone left L : Int) + (e.data.length : Int)) = (gone left L : Int) + (e.data.length : Int) := by
            rw [IntKind.wrap_i64] <;> omega
          clear hst hfile HF hbnd hown hris hat hat0 hRv
          go_wp2
          exact ⟨⟨_, cnt1, by rw [unhide HS]; push_cast; rfl, hrg1, hbl1⟩, by rw [hrg1.left_eq, hrg.left_eq]; exact hlt⟩
end Go.Proofs.YthphadbcebeoaaaGreatDoor.Dk
