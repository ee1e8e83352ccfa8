/- Errors of wrapped: a class behind turns of Placed and Within; errors.As of them for the target **api.Placed. -/
import Derived.Test.YtehgoioinogmkaaGreatDoorJTAs2TAsC
import Derived.Test.YtehgoioinogmkaaGreatDoorJNumsDecFaultsVErr
import Derived.Test.YtehgoioinogmkaaGreatDoorJVKnownKBytesHandXBaseKRefVLaid
import Derived.Deep.LoopGhost
namespace Go.Proofs.YtehgoioinogmkaaGreatDoor
open Go.RowKit Go.Extern.Stop Go.Stop Go.Extern Go.Lib

theorem Tryz.notAssignableWP (w : World) : (ReflectliteType.relation "AssignableTo" ReflectliteType.assignableTo #[.agg #[.pointer (some ⟨2, 111, none⟩)], .iface 218 (.agg #[.pointer (some ⟨2, 108, none⟩)])]).run Tryz.prog w = .ok (.bool false) w := by kernel_rfl
set_option maxHeartbeats 8000000 in
set_option maxRecDepth 100000 in
/-- errors.As(a placed error within an error, **api.Placed): true, and what is found is written. -/
theorem as_WP (pw pe : Nat) (t : Addr) (old : Value) (w : World) (hg : w.cell? ⟨0, 0, none⟩ = some (.iface 218 (.agg #[.pointer (some ⟨2, 33, none⟩)]))) (ht0 : w.cell? t = some old) (hf0 : w.frozen? t = false) (h1 : w.cell? ⟨pw, 1, none⟩ = some (.iface 108 (.pointer (some ⟨pe, 0, none⟩)))) :
    Calls Tryz.prog 34 #[.iface 111 (.pointer (some ⟨pw, 0, none⟩)), .iface 114 (.pointer (some t))] w fun ev w' => ev = .returned (.bool true) ∧ ∃ W, Below w.heap.size w W ∧ w' = W.setCell t (.pointer (some ⟨pe, 0, none⟩)) := by
  have h6 := @run_callFunc_extern Tryz.prog 62 _ (fun args => ReflectliteValue.unpack (args.getD 0 (.tuple #[]))) Tryz.func62 (by kernel_rfl) (by kernel_rfl) (by kernel_rfl) (by kernel_rfl)
  have h7 := @run_callFunc_extern Tryz.prog 63 _ (ReflectliteValue.methodAny (ReflectliteValue.valueError "reflectlite.Value.Type" 0) (fun t _ _ _ => ReflectliteType.toType t)) Tryz.func63 (by kernel_rfl) (by kernel_rfl) (by kernel_rfl) (by kernel_rfl)
  have h8 := @run_callFunc_extern Tryz.prog 64 _ (ReflectliteValue.method (ReflectliteValue.valueError "reflectlite.Value.IsNil" 0) ReflectliteValue.isNil) Tryz.func64 (by kernel_rfl) (by kernel_rfl) (by kernel_rfl) (by kernel_rfl)
  have h27 := @run_callFunc_extern Tryz.prog 249 _ (ReflectliteType.abiMethod fun t => do pure (.int .u8 (← Rtype.kind t))) Tryz.func249 (by kernel_rfl) (by kernel_rfl) (by kernel_rfl) (by kernel_rfl)
  have h37 := @run_callFunc_extern Tryz.prog 263 _ (ReflectliteType.method ReflectliteType.elem) Tryz.func263 (by kernel_rfl) (by kernel_rfl) (by kernel_rfl) (by kernel_rfl)
  have h38 := @run_callFunc_extern Tryz.prog 264 _ (ReflectliteType.relation "Implements" ReflectliteType.implements_) Tryz.func264 (by kernel_rfl) (by kernel_rfl) (by kernel_rfl) (by kernel_rfl)
  have h10 := @run_callFunc_extern Tryz.prog 66 _ ReflectliteType.typeOf Tryz.func66 (by kernel_rfl) (by kernel_rfl) (by kernel_rfl) (by kernel_rfl)
  have h35 := @run_callFunc_extern Tryz.prog 261 _ (ReflectliteType.relation "AssignableTo" ReflectliteType.assignableTo) Tryz.func261 (by kernel_rfl) (by kernel_rfl) (by kernel_rfl) (by kernel_rfl)
  have h11 := @run_callFunc_extern Tryz.prog 115 _ (ReflectliteValue.method (ReflectliteValue.valueError "reflectlite.Value.Elem" 0) ReflectliteValue.elem) Tryz.func115 (by kernel_rfl) (by kernel_rfl) (by kernel_rfl) (by kernel_rfl)
  have h12 := @run_callFunc_extern Tryz.prog 116 _ ReflectliteValue.set Tryz.func116 (by kernel_rfl) (by kernel_rfl) (by kernel_rfl) (by kernel_rfl)
  have tO := Tryz.typeOf_P
  have mA := Tryz.methodAssignableTo
  have a25 := Tryz.assignable_P
  have v25 := Tryz.valueOfE_P
  have f6 := Tryz.valueOf_P
  have f7 := Tryz.type_P
  have mK := Tryz.methodKind
  have mE := Tryz.methodElem
  have mI := Tryz.methodImplements
  have k27 := Tryz.kindP_P
  have k25 := Tryz.kindE_P
  have e27 := Tryz.elem_P
  have i25 := Tryz.implements_P

  have tW := Tryz.typeOf_W
  have aW := Tryz.notAssignableWP
  have nW := Dk.Tryz.noAsP
  have uW := Dk.Tryz.hasUnwrapP
  have mU := Dk.Tryz.methodUnwrap
  have hpl : pw < w.heap.size := lt_of_cell h1
  have h1' : (((w.alloc (.cells #[.pointer (some t)] 114)).alloc (.cells #[.pointer (some ⟨2, 114, none⟩), .pointer (some ⟨w.heap.size, 0, none⟩), .int .u64 150] 155)).alloc (.cells #[.pointer (some ⟨2, 114, none⟩), .pointer (some ⟨w.heap.size, 0, none⟩), .int .u64 150] 155)).cell? ⟨pw, 1, none⟩ = some (.iface 108 (.pointer (some ⟨pe, 0, none⟩))) := by
    rw [World.cell?_alloc_lt _ _ ⟨pw, 1, none⟩ (by simp <;> omega), World.cell?_alloc_lt _ _ ⟨pw, 1, none⟩ (by simp <;> omega), World.cell?_alloc_lt _ _ ⟨pw, 1, none⟩ hpl]; exact h1
  have n8 := Tryz.isNil_P ⟨w.heap.size, 0, none⟩ t ((w.alloc (.cells #[.pointer (some t)] 114)).alloc (.cells #[.pointer (some ⟨2, 114, none⟩), .pointer (some ⟨w.heap.size, 0, none⟩), .int .u64 150] 155)) (by simp)
  have hlt : 0 < w.heap.size := by
    rcases Nat.lt_or_ge 0 w.heap.size with h | h
    · exact h
    · simp [World.cell?, Array.getElem?_eq_none h] at hg
  have hg2 : ((w.alloc (.cells #[.pointer (some t)] 114)).alloc (.cells #[.pointer (some ⟨2, 114, none⟩), .pointer (some ⟨w.heap.size, 0, none⟩), .int .u64 150] 155)).cell? ⟨0, 0, none⟩ = some (.iface 218 (.agg #[.pointer (some ⟨2, 33, none⟩)])) := by
    rw [World.cell?_alloc_lt _ _ ⟨0, 0, none⟩ (by simp <;> omega), World.cell?_alloc_lt _ _ ⟨0, 0, none⟩ hlt]; exact hg
  have htl : t.block < w.heap.size := by
    rcases Nat.lt_or_ge t.block w.heap.size with h | h
    · exact h
    · simp [World.cell?, Array.getElem?_eq_none h] at ht0
  have el := Tryz.elemV_P ⟨w.heap.size, 0, none⟩ t (((w.alloc (.cells #[.pointer (some t)] 114)).alloc (.cells #[.pointer (some ⟨2, 114, none⟩), .pointer (some ⟨w.heap.size, 0, none⟩), .int .u64 150] 155)).alloc (.cells #[.pointer (some ⟨2, 114, none⟩), .pointer (some ⟨w.heap.size, 0, none⟩), .int .u64 150] 155)) (by rw [World.cell?_alloc_lt _ _ ⟨w.heap.size, 0, none⟩ (by simp <;> omega)]; simp)
  have st := Tryz.set_P t ⟨w.heap.size + 1 + 1 + 1, 0, none⟩ ⟨pe, 0, none⟩ old ((((w.alloc (.cells #[.pointer (some t)] 114)).alloc (.cells #[.pointer (some ⟨2, 114, none⟩), .pointer (some ⟨w.heap.size, 0, none⟩), .int .u64 150] 155)).alloc (.cells #[.pointer (some ⟨2, 114, none⟩), .pointer (some ⟨w.heap.size, 0, none⟩), .int .u64 150] 155)).alloc (.cells #[(.pointer (some ⟨pe, 0, none⟩))] 108))
    (by rw [World.cell?_alloc_at _ _ _ _ (by simp)]; rfl)
    (by rw [World.cell?_alloc_lt _ _ t (by simp <;> omega), World.cell?_alloc_lt _ _ t (by simp <;> omega), World.cell?_alloc_lt _ _ t (by simp <;> omega), World.cell?_alloc_lt _ _ t htl]; exact ht0)
    (by rw [World.frozen?_alloc_old _ _ t (by simp <;> omega), World.frozen?_alloc_old _ _ t (by simp <;> omega), World.frozen?_alloc_old _ _ t (by simp <;> omega), World.frozen?_alloc_old _ _ t (Nat.ne_of_lt htl)]; exact hf0)
  go_enter Tryz.func34, Tryz.ntmps34
  go_wp2
  refine wp_loop_rounds 2 ?_
  rw [rounds_succ]
  go_wp2
  rw [rounds_succ]
  go_wp2
  go_ret
  exact ⟨rfl, _, ((((Below.refl _ _).alloc (Nat.le_refl _) _).alloc (by simp) _).alloc (by simp <;> omega) _).alloc (by simp <;> omega) _, rfl⟩

/-- A class c behind k wraps, a Placed of the number 0 within, by turns. -/
def Wr (w : World) (c : Int) : Nat → Value → Prop
  | 0, e => e = .iface 102 (.int .i64 c)
  | k + 1, e => ∃ p e', e = .iface (if k % 2 = 0 then 108 else 111) (.pointer (some ⟨p, 0, none⟩)) ∧ p < w.heap.size ∧ (k % 2 = 0 → w.cell? ⟨p, 0, none⟩ = some (.int .i64 k)) ∧ w.cell? ⟨p, 1, none⟩ = some e' ∧ Wr w c k e'
theorem Wr.chn {w : World} {c : Int} : ∀ {k : Nat} {v : Value}, Wr w c k v → Chn w c k v
  | 0, _, h => h
  | k + 1, _, ⟨p, e', h1, h2, _, h4, h5⟩ => ⟨_, p, e', by by_cases hk : k % 2 = 0 <;> simp [hk], h1, h2, h4, h5.chn⟩
theorem Wr.below {w w' : World} {c : Int} (hb : Below w.heap.size w w') : ∀ {k : Nat} {v : Value}, Wr w c k v → Wr w' c k v
  | 0, _, h => h
  | _ + 1, _, ⟨p, e', h1, h2, h3, h4, h5⟩ => ⟨p, e', h1, Nat.lt_of_lt_of_le h2 hb.size, fun hk => (hb.cell (p := ⟨p, 0, none⟩) h2).trans (h3 hk), (hb.cell (p := ⟨p, 1, none⟩) h2).trans h4, h5.below hb⟩
/-- The place of such an error; -1: it has none. -/
def plW (k : Nat) : Int := if k = 0 then -1 else if k % 2 = 1 then (k : Int) - 1 else (k : Int) - 2
/-- No error, or one of a class. -/
def ErW (w : World) (c : Int) (k : Nat) (v : Value) : Prop := if c = 0 then v = .nilIface else Wr w c k v
def plE (c : Int) (k : Nat) : Int := if c = 0 then -1 else plW k
theorem ErW.below {w w' : World} {c : Int} {k : Nat} {v : Value} (h : ErW w c k v) (hb : Below w.heap.size w w') : ErW w' c k v := by
  unfold ErW at h ⊢
  split
  · next hc => rw [if_pos hc] at h; exact h
  · next hc => rw [if_neg hc] at h; exact h.below hb
theorem ErW.nil {w : World} {k : Nat} : ErW w 0 k .nilIface := by unfold ErW; rw [if_pos rfl]
theorem ErW.cases {w : World} {c : Int} {k : Nat} {v : Value} (h : ErW w c k v) : (c = 0 ∧ v = .nilIface) ∨ (c ≠ 0 ∧ (∃ T x, v = .iface T x) ∧ Wr w c k v) := by
  unfold ErW at h
  by_cases hc : c = 0
  · rw [if_pos hc] at h; exact Or.inl ⟨hc, h⟩
  · rw [if_neg hc] at h; exact Or.inr ⟨hc, h.chn.iface, h⟩
/-- errors.As(such an error, **api.Placed). -/
theorem as_wr (k : Nat) (c : Int) (v : Value) (t : Addr) (old : Value) (w : World) (hE : ET w) (hv : Wr w c k v) (ht0 : w.cell? t = some old) (hf0 : w.frozen? t = false) :
    Calls Tryz.prog 34 #[v, .iface 114 (.pointer (some t))] w fun e w' => (k = 0 ∧ e = .returned (.bool false) ∧ Below w.heap.size w w') ∨ (k ≠ 0 ∧ e = .returned (.bool true) ∧ ∃ b, w'.cell? t = some (.pointer (some ⟨b, 0, none⟩)) ∧ Below t.block w w' ∧ b < w.heap.size ∧ w.cell? ⟨b, 0, none⟩ = some (.int .i64 (plW k))) := by
  match k, hv with
  | 0, h =>
    obtain rfl := h
    refine (as_CP c t old w hE ht0).mono ?_
    rintro e w' ⟨he, hb⟩
    exact Or.inl ⟨rfl, he, hb⟩
  | 1, ⟨p, e', h1, h2, h3, h4, h5⟩ =>
    obtain rfl := h1
    refine (as_P p t old w hE ht0 hf0).mono ?_
    rintro e w' ⟨he, W, hb, rfl⟩
    exact Or.inr ⟨by decide, he, p, (set_post hb ht0).1, (set_post hb ht0).2.1, h2, h3 rfl⟩
  | n + 2, ⟨p, e', h1, h2, h3, h4, h5⟩ =>
    obtain ⟨p2, e2, h6, h7, h8, h9, h10⟩ := h5
    rcases Nat.mod_two_eq_zero_or_one n with hn | hn
    · have hn1 : (n + 1) % 2 = 1 := by omega
      rw [if_neg (by omega)] at h1
      rw [if_pos hn] at h6
      subst h1
      subst h6
      refine (as_WP p p2 t old w hE ht0 hf0 h4).mono ?_
      rintro e w' ⟨he, W, hb, rfl⟩
      refine Or.inr ⟨by omega, he, p2, (set_post hb ht0).1, (set_post hb ht0).2.1, h7, ?_⟩
      rw [h8 hn]
      unfold plW
      rw [if_neg (by omega), if_neg (by omega)]
      congr 2
      omega
    · have hn1 : (n + 1) % 2 = 0 := by omega
      rw [if_pos hn1] at h1
      subst h1
      refine (as_P p t old w hE ht0 hf0).mono ?_
      rintro e w' ⟨he, W, hb, rfl⟩
      refine Or.inr ⟨by omega, he, p, (set_post hb ht0).1, (set_post hb ht0).2.1, h2, ?_⟩
      rw [h3 hn1]
      unfold plW
      rw [if_neg (by omega), if_pos (by omega)]
      congr 2
      omega
end Go.Proofs.YtehgoioinogmkaaGreatDoor
/- consistoryhelp.Place, expr.Worse, consistorylaw14.wrapped of a class behind turns of Placed and Within. -/
namespace Go.Proofs.YtehgoioinogmkaaGreatDoor
open Go.RowKit Go.Lib

set_option linter.unusedSimpArgs false in
set_option linter.unusedVariables false in
set_option maxHeartbeats 3200000 in
set_option maxRecDepth 20000 in
theorem place_any (c : Int) (k : Nat) (v : Value) (w : World) (hE : ET w) (hv : ErW w c k v) : Calls Tryz.prog 21 #[v] w fun e w' => e = .returned (.int .i64 (plE c k)) ∧ Below w.heap.size w w' := by
  rcases hv.cases with ⟨rfl, rfl⟩ | ⟨hc, ⟨T, x, rfl⟩, hw⟩
  · clear hE hv
    go_enter Tryz.func21, Tryz.ntmps21
    go_wp2_with fail
    go_ret
    exact ⟨rfl, alX (Below.refl _ _) _⟩
  · have hE1 := hE.alloc (.cells #[.pointer none] 108)
    have hw1 := hw.below ((Below.refl w.heap.size w).alloc (Nat.le_refl _) (.cells #[.pointer none] 108))
    have ht1 : (w.alloc (.cells #[.pointer none] 108)).cell? ⟨w.heap.size, 0, none⟩ = some (.pointer none) := by simp
    have hf1 : (w.alloc (.cells #[.pointer none] 108)).frozen? ⟨w.heap.size, 0, none⟩ = false := by simp
    have hp1 : Hid (∀ w1, Below w.heap.size (w.alloc (.cells #[.pointer none] 108)) w1 → Below w.heap.size w w1) :=
      fun w1 hb => ((Below.refl _ _).alloc (Nat.le_refl _) _).trans hb
    have hAs := as_wr k c _ ⟨w.heap.size, 0, none⟩ _ _ hE1 hw1 ht1 hf1
    have hpe : plE c k = plW k := by unfold plE; rw [if_neg hc]
    rw [hpe]
    by_cases hk : k = 0
    · have hA0 : Hid (Calls Tryz.prog 34 #[.iface T x, .iface 114 (.pointer (some ⟨w.heap.size, 0, none⟩))] (w.alloc (.cells #[.pointer none] 108)) fun e w' => e = .returned (.bool false) ∧ Below w.heap.size (w.alloc (.cells #[.pointer none] 108)) w') := by
        refine hAs.mono ?_
        rintro e w' (⟨_, he, hb⟩ | ⟨h0, _⟩)
        · exact ⟨he, hb.mono (by simp)⟩
        · exact absurd hk h0
      have hpl : plW k = -1 := by subst hk; rfl
      rw [hpl]
      clear hAs hE1 hw1 ht1 hf1 hE hv hw hpl
      go_enter Tryz.func21, Tryz.ntmps21
      go_wp2_with (go_at_call 34; refine (unhide hA0).mono ?_; rintro e w1 ⟨rfl, hb1⟩; clear hA0)
      go_ret
      exact ⟨rfl, unhide hp1 _ hb1⟩
    · have hA0 : Hid (Calls Tryz.prog 34 #[.iface T x, .iface 114 (.pointer (some ⟨w.heap.size, 0, none⟩))] (w.alloc (.cells #[.pointer none] 108)) fun e w' => e = .returned (.bool true) ∧ ∃ b, w'.cell? ⟨w.heap.size, 0, none⟩ = some (.pointer (some ⟨b, 0, none⟩)) ∧ w'.cell? ⟨b, 0, none⟩ = some (.int .i64 (plW k)) ∧ Below w.heap.size (w.alloc (.cells #[.pointer none] 108)) w') := by
        refine hAs.mono ?_
        rintro e w' (⟨h0, _⟩ | ⟨_, he, b, h1, h2, h3, h4⟩)
        · exact absurd h0 hk
        · have hne : b < w.heap.size := by
            rcases Nat.lt_or_ge b w.heap.size with h | h
            · exact h
            · have : b = w.heap.size := by simp at h3; omega
              subst this
              simp at h4
          exact ⟨he, b, h1, (h2.cell (p := ⟨b, 0, none⟩) hne).trans h4, h2⟩
      clear hAs hE1 hw1 ht1 hf1 hE hv hw
      go_enter Tryz.func21, Tryz.ntmps21
      go_wp2_with (go_at_call 34; refine (unhide hA0).mono ?_; rintro e w1 ⟨rfl, b, hc1, hc2, hb1⟩; clear hA0)
      go_ret
      exact ⟨rfl, unhide hp1 _ hb1⟩
/-- The worse of two such errors. -/
def worseG (c1 c2 : Int) (x y : Value) : Value := if c1 = 0 then y else if c2 = 0 then x else if c2 < c1 then y else x
set_option linter.unusedSimpArgs false in
set_option linter.unusedVariables false in
set_option maxHeartbeats 3200000 in
set_option maxRecDepth 20000 in
theorem worse_any (c1 c2 : Int) (k1 k2 : Nat) (x y : Value) (w : World) (hE : ET w) (hx : ErW w c1 k1 x) (hy : ErW w c2 k2 y) : Calls Tryz.prog 20 #[x, y] w fun e w' => e = .returned (worseG c1 c2 x y) ∧ Below w.heap.size w w' := by
  rcases hx.cases with ⟨rfl, rfl⟩ | ⟨h1, ⟨T1, x1, rfl⟩, hw1⟩
  · have hr : worseG 0 c2 .nilIface y = y := by unfold worseG; rw [if_pos rfl]
    rw [hr]
    have hY := hide hy
    rcases hy.cases with ⟨rfl, rfl⟩ | ⟨h2, ⟨T2, x2, rfl⟩, hw2⟩
    all_goals
      clear hE hx hy hY hr
      try clear hw2 h2
      go_enter Tryz.func20, Tryz.ntmps20
      go_wp2_with fail
      go_ret
      exact ⟨rfl, alX (alX (Below.refl _ _) _) _⟩
  · rcases hy.cases with ⟨rfl, rfl⟩ | ⟨h2, ⟨T2, x2, rfl⟩, hw2⟩
    · have hr : worseG c1 0 (.iface T1 x1) .nilIface = .iface T1 x1 := by unfold worseG; rw [if_neg h1, if_pos rfl]
      rw [hr]
      clear hE hx hy hr hw1
      go_enter Tryz.func20, Tryz.ntmps20
      go_wp2_with fail
      go_ret
      exact ⟨rfl, alX (alX (Below.refl _ _) _) _⟩
    · obtain ⟨W, hW⟩ : ∃ W, W = (w.alloc (.cells #[.int .i64 0] 102)).alloc (.cells #[.int .i64 0] 102) := ⟨_, rfl⟩
      have hbW : Below w.heap.size w W := by rw [hW]; exact alX (alX (Below.refl _ _) _) _
      have hs : W.heap.size = w.heap.size + 2 := by rw [hW]; simp
      have hcA : W.cell? ⟨w.heap.size, 0, none⟩ = some (.int .i64 0) := by rw [hW]; simp
      have hfA : W.frozen? ⟨w.heap.size, 0, none⟩ = false := by rw [hW]; simp
      have hcB : W.cell? ⟨w.heap.size + 1, 0, none⟩ = some (.int .i64 0) := by rw [hW]; simp
      have hfB : W.frozen? ⟨w.heap.size + 1, 0, none⟩ = false := by rw [hW]; simp
      have hA2 : Hid (Calls Tryz.prog 34 #[.iface T2 x2, .iface 104 (.pointer (some ⟨w.heap.size + 1, 0, none⟩))] W fun e w' => e = .returned (.bool true) ∧ w'.cell? ⟨w.heap.size + 1, 0, none⟩ = some (.int .i64 c2) ∧ Hid (Below (w.heap.size + 1) W w')) := by
        refine (as_chain c2 k2 _ ⟨w.heap.size + 1, 0, none⟩ _ W (hE.below hbW hE.lt) hcB hfB (hw2.chn.below hbW)).mono ?_
        rintro e w' ⟨he, V, hb, rfl⟩
        exact ⟨he, (set_post hb hcB).1, (set_post hb hcB).2.1⟩
      have hA1 : Hid (∀ w', Below (w.heap.size + 1) W w' → w'.cell? ⟨w.heap.size + 1, 0, none⟩ = some (.int .i64 c2) → Calls Tryz.prog 34 #[.iface T1 x1, .iface 104 (.pointer (some ⟨w.heap.size, 0, none⟩))] w' fun e w1 => e = .returned (.bool true) ∧ w1.cell? ⟨w.heap.size, 0, none⟩ = some (.int .i64 c1) ∧ w1.cell? ⟨w.heap.size + 1, 0, none⟩ = some (.int .i64 c2) ∧ Hid (Below w.heap.size w w1)) := by
        intro w' hb hc
        have hbw : Below w.heap.size w w' := hbW.trans (hb.mono (by omega))
        have hcA' : w'.cell? ⟨w.heap.size, 0, none⟩ = some (.int .i64 0) := (hb.cell (p := ⟨w.heap.size, 0, none⟩) (Nat.lt_succ_self _)).trans hcA
        refine (as_chain c1 k1 _ ⟨w.heap.size, 0, none⟩ _ w' (hE.below hbw hE.lt) hcA' ((hb.frozen (p := ⟨w.heap.size, 0, none⟩) (Nat.lt_succ_self _)).trans hfA) (hw1.chn.below hbw)).mono ?_
        rintro e w1 ⟨he, V, hb1, rfl⟩
        refine ⟨he, (set_post hb1 hcA').1, ?_, hbw.trans ((set_post hb1 hcA').2.1)⟩
        have h := hb.size
        rw [World.cell?_setCell_far _ _ _ _ (by simp)]
        exact (hb1.cell (p := ⟨w.heap.size + 1, 0, none⟩) (by show w.heap.size + 1 < _; omega)).trans hc
      have hr : worseG c1 c2 (.iface T1 x1) (.iface T2 x2) = if c2 < c1 then .iface T2 x2 else .iface T1 x1 := by unfold worseG; rw [if_neg h1, if_neg h2]
      rw [hr]
      clear hE hx hy hr hw1 hw2 hbW hs hcA hfA hcB hfB
      by_cases hlt : c2 < c1
      · rw [if_pos hlt]
        go_enter Tryz.func20, Tryz.ntmps20
        go_upto_region 4 with fail
        rw [← hW]
        clear hW
        go_wp2_with (first | (go_at_call 34; refine (unhide hA2).mono ?_; rintro e w1 ⟨rfl, hc1, hb1⟩; clear hA2) | (go_at_call 34; refine (unhide hA1 _ (unhide hb1) hc1).mono ?_; rintro e w2 ⟨rfl, hc2, hc3, hb2⟩; clear hA1))
        go_ret
        exact ⟨rfl, unhide hb2⟩
      · rw [if_neg hlt]
        go_enter Tryz.func20, Tryz.ntmps20
        go_upto_region 4 with fail
        rw [← hW]
        clear hW
        go_wp2_with (first | (go_at_call 34; refine (unhide hA2).mono ?_; rintro e w1 ⟨rfl, hc1, hb1⟩; clear hA2) | (go_at_call 34; refine (unhide hA1 _ (unhide hb1) hc1).mono ?_; rintro e w2 ⟨rfl, hc2, hc3, hb2⟩; clear hA1))
        go_ret
        exact ⟨rfl, unhide hb2⟩
/-- What wrapped tells. -/
def WrP (w : World) (c : Int) (n : Nat) (e : Ending) (w' : World) : Prop := Below w.heap.size w w' ∧ ∃ v, e = .returned v ∧ ErW w' c n v
set_option linter.unusedSimpArgs false in
set_option linter.unusedVariables false in
set_option maxHeartbeats 3200000 in
set_option maxRecDepth 20000 in
theorem wrapped_any (a m : Int) (c : Int) (n : Nat) (hc : a.tmod 9 = c) (hc0 : 0 ≤ c) (hc9 : c < 9) (hn : m.tmod 6 = (n : Int)) (hn6 : n < 6) (w : World) : Calls Tryz.prog 19 #[.int .u8 a, .int .u8 m] w (WrP w c n) := by
  have hwc : IntKind.wrap .i64 c = c := by rw [IntKind.wrap_i64]; omega
  have hwn : IntKind.wrap .i64 (n : Int) = (n : Int) := by rw [IntKind.wrap_i64]; omega
  by_cases h0 : c = 0
  · subst h0
    clear hc0 hc9 hwc
    go_enter Tryz.func19, Tryz.ntmps19
    go_wp2_with fail
    go_ret
    exact ⟨Below.refl _ _, _, rfl, ErW.nil⟩
  · have HC0 := hide h0
    go_enter Tryz.func19, Tryz.ntmps19
    go_wp2_with fail
    go_loopg [5, 6] n (fun g s5 s6 wr => ∃ i : Nat, g = n - i ∧ s6 = .int .i64 (i : Int) ∧ i ≤ n ∧ Hid (Wr wr c i s5 ∧ Below w.heap.size w wr))
    case atStart => exact ⟨0, rfl, rfl, Nat.zero_le _, rfl, Below.refl _ _⟩
    case round =>
      obtain ⟨i, rfl, rfl, hi, HG⟩ := hrel
      have hi0 : (0 : Int) ≤ (i : Int) := by omega
      by_cases hlt : i < n
      · have hiI : (i : Int) < (n : Int) := by omega
        have hw1 : IntKind.wrap .i64 ((i : Int) + 1) = (i : Int) + 1 := by rw [IntKind.wrap_i64]; omega
        obtain ⟨T, x, rfl⟩ := (unhide HG).1.chn.iface
        by_cases h2 : i % 2 = 0
        · have ht : (i : Int).tmod 2 = 0 := by rw [Int.tmod_eq_emod_of_nonneg hi0]; omega
          have HN : Hid (Wr (wr.alloc (.cells #[.int .i64 (i : Int), .iface T x] 110)) c (i + 1) (.iface 108 (.pointer (some ⟨wr.heap.size, 0, none⟩))) ∧ Below w.heap.size w (wr.alloc (.cells #[.int .i64 (i : Int), .iface T x] 110))) := by
            refine ⟨⟨wr.heap.size, .iface T x, by rw [if_pos h2], by simp, fun _ => by simp, by simp, (unhide HG).1.below (alX (Below.refl _ _) _)⟩, alX (unhide HG).2 _⟩
          go_wp2_with fail
          go_roundg (n - (i + 1))
          case rel => exact ⟨i + 1, rfl, by rw [show ((i + 1 : Nat) : Int) = (i : Int) + 1 from rfl], by omega, HN⟩
          case measure => omega
        · have ht : (i : Int).tmod 2 = 1 := by rw [Int.tmod_eq_emod_of_nonneg hi0]; omega
          have HN : Hid (Wr (wr.alloc (.cells #[.string ⟨#[112, 97, 114, 116]⟩, .iface T x] 113)) c (i + 1) (.iface 111 (.pointer (some ⟨wr.heap.size, 0, none⟩))) ∧ Below w.heap.size w (wr.alloc (.cells #[.string ⟨#[112, 97, 114, 116]⟩, .iface T x] 113))) := by
            refine ⟨⟨wr.heap.size, .iface T x, by rw [if_neg h2], by simp, fun h => absurd h h2, by simp, (unhide HG).1.below (alX (Below.refl _ _) _)⟩, alX (unhide HG).2 _⟩
          go_wp2_with fail
          go_roundg (n - (i + 1))
          case rel => exact ⟨i + 1, rfl, by rw [show ((i + 1 : Nat) : Int) = (i : Int) + 1 from rfl], by omega, HN⟩
          case measure => omega
      · have hiI : ¬ (i : Int) < (n : Int) := by omega
        obtain rfl : i = n := by omega
        go_wp2_with fail
        go_ret
        exact ⟨(unhide HG).2, _, rfl, by unfold ErW; rw [if_neg (unhide HC0)]; exact (unhide HG).1⟩
end Go.Proofs.YtehgoioinogmkaaGreatDoor
