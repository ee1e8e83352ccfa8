/- Contracts of the reader's lists of values, and of wire.Row. -/
import Derived.Test.YtahpfhnekmilmaaGreatDoorRVal
import Derived.Test.YtahpfhnekmilmaaGreatDoorJRows2PutRow
namespace Go.Proofs.YtahpfhnekmilmaaGreatDoor
open Go.RowKit Go.Lib

theorem Tryz.infoV : (Tryz.prog.info? 143).map (fun i => (i.zero, i.size, i.bytes)) = some (some (.agg #[.int .i64 0, .int .i64 0, .string ⟨#[]⟩]), 3, 32) := by kernel_rfl

def gvCells (g : GV) : List Value := [.int .i64 g.kind, .int .i64 g.int, .string g.text]
def gvsCells (gs : List GV) : List Value := gs.flatMap gvCells
theorem gvsCells_length (gs : List GV) : (gvsCells gs).length = gs.length * 3 := by
  induction gs with
  | nil => rfl
  | cons g r ih => simp [gvsCells, gvCells] at ih ⊢; omega
theorem gvsCells_snoc (gs : List GV) (g : GV) : gvsCells (gs ++ [g]) = gvsCells gs ++ gvCells g := by simp [gvsCells]

/-- Reading n values: those that were read, and where the reader is; behind a fault none. -/
def rdVals (l : List UInt8) : Nat → Except Nat Nat → List GV × Except Nat Nat
  | 0, s => ([], s)
  | n + 1, s => match (rdVals l n s).2 with
    | .error c => ([], .error c)
    | .ok a => match (rdVal l (.ok a)).2 with
      | .error c => ([], .error c)
      | .ok b => ((rdVals l n s).1 ++ [(rdVal l (.ok a)).1], .ok b)
/-- Reading a row. -/
def rdRow (l : List UInt8) (s : Except Nat Nat) : List GV × Except Nat Nat :=
  match (rdBetween l 0 64 s).2 with
  | .error c => ([], .error c)
  | .ok a => rdVals l (rdBetween l 0 64 s).1.toNat (.ok a)
theorem rdVals_err {l : List UInt8} {s : Except Nat Nat} {c n m : Nat} (h : (rdVals l n s).2 = .error c) (hm : n ≤ m) : rdVals l m s = ((rdVals l m s).1, .error c) ∧ (rdVals l m s).2 = .error c := by
  induction m with
  | zero => have : n = 0 := by omega
            subst this; exact ⟨Prod.ext rfl h, h⟩
  | succ m ih =>
    by_cases e : n = m + 1
    · subst e; exact ⟨Prod.ext rfl h, h⟩
    · have := (ih (by omega)).2
      simp [rdVals, this]

theorem three_new (w : World) (g : GV) (e : TypeId) : ∀ j v, (gvCells g)[j]? = some v → (w.alloc (.cells #[.int .i64 g.kind, .int .i64 g.int, .string g.text] e)).cell? ((⟨w.heap.size, 0, none⟩ : Addr).add j) = some v := by
  intro j v hj
  match j, hj with
  | 0, hj => simp [gvCells] at hj; subst hj; simp [Addr.add]
  | 1, hj => simp [gvCells] at hj; subst hj; simp [Addr.add]
  | 2, hj => simp [gvCells] at hj; subst hj; simp [Addr.add]
theorem three_cell (g : GV) : ∀ u ∈ gvCells g, u.oneCell' = true := by
  intro u hu
  simp [gvCells] at hu
  rcases hu with rfl | rfl | rfl <;> rfl

theorem own_fq {w w' : World} {p : Nat} {e : TypeId} {sz : Nat} {v : Value} {n : Nat} {xs : List Value} (h : w.ownsRow (p + 1) e sz v n xs) (hf : Fq p w w') : w'.ownsRow (p + 1) e sz v n xs := by
  obtain ⟨h1, h2 | ⟨g, cap, cur, h3, h4, h5, h6⟩⟩ := h
  · exact ⟨h1, .inl h2⟩
  · have hg : g < w.heap.size := by
      rcases Nat.lt_or_ge g w.heap.size with h' | h'
      · exact h'
      · rw [Array.getElem?_eq_none h'] at h5; cases h5
    exact ⟨h1, .inr ⟨g, cap, cur, h3, h4, (hf.2 g hg (by omega)).trans h5, h6⟩⟩
theorem RS.ok_below {w w' : World} {p a : Nat} {l : List UInt8} (h : RS w p l (.ok a)) (hb : Below (p + 1) w w') : RS w' p l (.ok a) := by
  obtain ⟨hE, hG, f1, f2, ⟨v, h0, hv⟩, g1, g2, g3⟩ := h
  exact ⟨hE.below hb (by omega), hG, (hb.frozen (p := ⟨p, 1, none⟩) (by simp)).trans f1, (hb.frozen (p := ⟨p, 2, none⟩) (by simp)).trans f2, ⟨v, (hb.cell (p := ⟨p, 0, none⟩) (by simp)).trans h0, hv.below hb (by omega)⟩, g1, (hb.cell (p := ⟨p, 1, none⟩) (by simp)).trans g2, (hb.cell (p := ⟨p, 2, none⟩) (by simp)).trans g3⟩

set_option maxHeartbeats 3200000 in
set_option maxRecDepth 100000 in
theorem rlist_ok (p n a : Nat) (l : List UInt8) (s : Except Nat Nat) (w : World) (h : RS w p l s) (hs : rdBetween l 0 64 s = ((n : Int), .ok a)) (hn : n ≤ 64) :
    Calls Tryz.prog 82 #[.pointer (some ⟨p, 0, none⟩), .int .i64 64, .func (.func 83) #[.pointer (some ⟨p, 0, none⟩)] #[]] w fun e w' =>
      RS w' p l (rdVals l n (.ok a)).2 ∧ Below p w w' ∧ ∃ v, e = .returned v ∧ (∀ b, (rdVals l n (.ok a)).2 = .ok b → w'.ownsRow (p + 1) 143 3 v (rdVals l n (.ok a)).1.length (gvsCells (rdVals l n (.ok a)).1)) := by
  obtain ⟨i0, hi, hz0, hz1, hz2⟩ := info_parts Tryz.infoV
  have hp := h.lt
  have HB := hide (rbetween_any p 0 64 l s w h (by omega) (by omega) (by omega))
  rw [hs] at HB
  clear h hs
  go_enter Tryz.func82, Tryz.ntmps82
  go_wp2_with (first | (go_at_call 54; refine (unhide HB).mono ?_; rintro e w1 ⟨rfl, hr1, hf1⟩))
  clear HB
  go_loopw [7, 12] (fun v i wr => ∃ k b : Nat, k ≤ n ∧ i = .int .i64 k ∧ (rdVals l k (.ok a)).2 = .ok b ∧ (rdVals l k (.ok a)).1.length = k ∧ RS wr p l (.ok b) ∧ wr.ownsRow (p + 1) 143 3 v k (gvsCells (rdVals l k (.ok a)).1) ∧ Below p w wr) (fun _ i _ => n - (intOf i).toNat)
  case atStart => exact ⟨0, a, Nat.zero_le _, rfl, rfl, rfl, hr1, World.ownsRow_nil _ _ _ _, hf1.1⟩
  case round =>
    obtain ⟨k, b, hk, rfl, hst, hkl, hrs, hown, hbw⟩ := hrel
    by_cases hlt : k < n
    · have HV := hide (rval_any p l (.ok b) wr hrs)
      cases hv2 : (rdVal l (.ok b)).2 with
      | error c =>
        have hfin : (rdVals l (k + 1) (.ok a)).2 = .error c := by simp [rdVals, hst, hv2]
        have HE := hide (rdVals_err hfin (show k + 1 ≤ n by omega)).2
        rw [hv2] at HV
        generalize (rdVal l (.ok b)).1 = g at *
        clear hrs hown hst hkl hfin
        unfold GV.agg at HV
        go_wp2_with (first | (go_at_call 83; refine (unhide HV).mono ?_; rintro e w2 ⟨rfl, hr2, hf2⟩; obtain ⟨b2, k2⟩ := hr2.cells_err; have hp2 := hr2.lt))
        go_ret
        rw [unhide HE]
        exact ⟨hr2.alloc _, (hbw.trans hf2.1).alloc (by omega) _, _, rfl, fun b h => by cases h⟩
      | ok b' =>
        have hfin : (rdVals l (k + 1) (.ok a)).2 = .ok b' := by simp [rdVals, hst, hv2]
        have hfi1 : (rdVals l (k + 1) (.ok a)).1 = (rdVals l k (.ok a)).1 ++ [(rdVal l (.ok b)).1] := by simp [rdVals, hst, hv2]
        have HF := hide hfin
        have HF1 := hide hfi1
        rw [hv2] at HV
        have HK := hide hkl
        generalize (rdVals l k (.ok a)).1 = gs at *
        generalize (rdVal l (.ok b)).1 = g at *
        have HO := hide hown
        clear hrs hst hfin hfi1 hkl hown hv2
        unfold GV.agg at HV
        go_wp2_with (first
          | (go_at_call 83; refine (unhide HV).mono ?_; rintro e w2 ⟨rfl, hr2, hf2⟩; obtain ⟨k1, k2, _⟩ := hr2.cells_ok; have hp2 := hr2.lt; have ho2 := ((own_fq (unhide HO) hf2).alloc (.cells #[.int .i64 g.kind, .int .i64 g.int, .string g.text] 143)).alloc (.cells #[.int .i64 g.kind, .int .i64 g.int, .string g.text] 143))
          | (at_builtin; refine wpList_append_own _ rfl (.tmp 21) (.tmp 23) 115 rfl (p + 1) 143 i0 _ 3 32 Tryz.underlying115 hi hz0 hz1 hz2 rfl (by decide) _ _ _ rfl ho2 ⟨w2.heap.size + 1, 0, none⟩ 1 1 (gvCells g) rfl rfl ?_ (three_cell g) (by unfold maxLen; omega) (by omega) (by simp; omega) ?_))
        · intro j v hj
          have := three_new (w2.alloc (.cells #[.int .i64 g.kind, .int .i64 g.int, .string g.text] 143)) g 143 j v hj
          rwa [World.size_alloc] at this
        · intro v' w3 ho3 hg3 _
          have hb3 : Below (p + 1) w2 w3 := (((Below.refl (p + 1) w2).alloc (by omega) _).alloc (by simp; omega) _).grown hg3 (by simp; omega) (own_block_ge ho2)
          have hr3 := hr2.ok_below hb3
          clear hg3 ho2 HV HO
          go_wp2
          go_roundw
          case rel => exact ⟨k + 1, b', by omega, by go_num, unhide HF, by rw [unhide HF1, List.length_append, unhide HK]; rfl, hr3, by rw [unhide HF1, gvsCells_snoc]; exact ho3, (hbw.trans hf2.1).trans (hb3.mono (by omega))⟩
          case measure => simp [intOf]; omega
    · have e : k = n := by omega
      subst e
      have HO := hide hown
      have HK := hide hkl
      have HS := hide hst
      clear hown hkl hst
      go_wp2
      go_ret
      rw [unhide HS]
      exact ⟨hrs, hbw, _, rfl, fun b _ => by rw [unhide HK]; exact unhide HO⟩

set_option maxHeartbeats 3200000 in
theorem rlist_err (p c : Nat) (l : List UInt8) (s : Except Nat Nat) (w : World) (h : RS w p l s) (hs : rdBetween l 0 64 s = (0, .error c)) :
    Calls Tryz.prog 82 #[.pointer (some ⟨p, 0, none⟩), .int .i64 64, .func (.func 83) #[.pointer (some ⟨p, 0, none⟩)] #[]] w fun e w' =>
      RS w' p l (.error c) ∧ Below p w w' ∧ e = .returned (.slice none 0 0) := by
  have HB := hide (rbetween_any p 0 64 l s w h (by omega) (by omega) (by omega))
  rw [hs] at HB
  clear h hs
  go_enter Tryz.func82, Tryz.ntmps82
  go_wp2_with (first | (go_at_call 54; refine (unhide HB).mono ?_; rintro e w1 ⟨rfl, hr1, hf1⟩))
  clear HB
  refine wp_loop_rounds 1 ?_
  rw [rounds_succ]
  go_wp2
  go_ret
  exact ⟨hr1, hf1.1, rfl⟩

theorem rlist_any (p : Nat) (l : List UInt8) (s : Except Nat Nat) (w : World) (h : RS w p l s) :
    Calls Tryz.prog 82 #[.pointer (some ⟨p, 0, none⟩), .int .i64 64, .func (.func 83) #[.pointer (some ⟨p, 0, none⟩)] #[]] w fun e w' =>
      RS w' p l (rdRow l s).2 ∧ Below p w w' ∧ ∃ v, e = .returned v ∧ (∀ b, (rdRow l s).2 = .ok b → w'.ownsRow (p + 1) 143 3 v (rdRow l s).1.length (gvsCells (rdRow l s).1)) := by
  cases hb : (rdBetween l 0 64 s).2 with
  | error c =>
    have e : rdRow l s = ([], .error c) := by simp [rdRow, hb]
    rw [e]
    refine (rlist_err p c l s w h (rdBetween_err hb)).mono ?_
    rintro e w' ⟨h1, h2, rfl⟩
    exact ⟨h1, h2, _, rfl, fun b h => by cases h⟩
  | ok a =>
    obtain ⟨n, hn, hn2⟩ := rdBetween_ok (by omega) hb
    have hn3 : rdBetween l 0 64 s = ((n : Int), .ok a) := by rw [hn]; simp
    have e : rdRow l s = rdVals l n (.ok a) := by simp [rdRow, hn3]
    rw [e]; exact rlist_ok p n a l s w h hn3 (by omega)

set_option maxHeartbeats 1600000 in
theorem rrow_any (p : Nat) (l : List UInt8) (s : Except Nat Nat) (w : World) (h : RS w p l s) :
    Calls Tryz.prog 72 #[.pointer (some ⟨p, 0, none⟩)] w fun e w' =>
      RS w' p l (rdRow l s).2 ∧ Below p w w' ∧ ∃ v, e = .returned v ∧ (∀ b, (rdRow l s).2 = .ok b → w'.ownsRow (p + 1) 143 3 v (rdRow l s).1.length (gvsCells (rdRow l s).1)) := by
  have hmf : ∀ (fn : Fn) (first cap : Array Value) (w : World), (Instr.makeFunc fn first cap).run Tryz.prog w = .ok (.func fn first cap) w := fun _ _ _ _ => rfl
  have HL := hide (rlist_any p l s w h)
  generalize rdRow l s = r at *
  clear h
  go_enter Tryz.func72, Tryz.ntmps72
  go_wp2_with (first | (go_at_call 82; refine (unhide HL).mono ?_; rintro e w1 ⟨hr1, hb1, v1, rfl, ho1⟩; have HO := hide ho1; clear ho1))
  go_ret
  exact ⟨hr1, hb1, _, rfl, unhide HO⟩

theorem RS.new (w : World) (v : Value) (l : List UInt8) (hE : ET w) (hv : RBp w w.heap.size v l) : RS (w.alloc (.cells #[v, .int .i64 0, .nilIface] 105)) w.heap.size l (.ok 0) := by
  refine ⟨hE.alloc _, hE.lt, by simp, by simp, ⟨v, by simp, hv.below ((Below.refl _ _).alloc (Nat.le_refl _) _) (Nat.le_refl _)⟩, Nat.zero_le _, by simp, by simp⟩

/-- What wire.Row tells. -/
def RowPost (r : List GV × Except Nat Nat) (w : World) (e : Ending) (w' : World) : Prop :=
  match r.2 with
  | .ok b => ∃ v, e = .returned (.tuple #[v, .int .i64 (b : Int), .nilIface]) ∧ w'.ownsRow w.heap.size 143 3 v r.1.length (gvsCells r.1) ∧ Below w.heap.size w w'
  | .error c => ∃ b pl, e = .returned (.tuple #[.slice none 0 0, .int .i64 0, ev b]) ∧ ErrAt w' b pl (c : Int) ∧ w.heap.size ≤ b ∧ Below w.heap.size w w'

end Go.Proofs.YtahpfhnekmilmaaGreatDoor
