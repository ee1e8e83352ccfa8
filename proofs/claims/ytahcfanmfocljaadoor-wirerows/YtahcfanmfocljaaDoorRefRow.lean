/- The document's own reader of a row. -/
import Derived.Test.YtahcfanmfocljaaDoorRdAll
namespace Go.Proofs.YtahcfanmfocljaaDoor
open Go.RowKit Go.Lib

/-- What it tells. -/
def RRPost (r : List GV × Except Nat Nat) (w : World) (e : Ending) (w' : World) : Prop :=
  match r.2 with
  | .ok k => ∃ v, e = .returned (.tuple #[v, .int .i64 (k : Int), .int .i64 0]) ∧ w'.ownsRow w.heap.size 81 3 v r.1.length (gvsCells r.1) ∧ Below w.heap.size w w'
  | .error c => e = .returned (.tuple #[.slice none 0 0, .int .i64 0, .int .i64 (c : Int)]) ∧ Below w.heap.size w w'
theorem rr_err {r : List GV × Except Nat Nat} {w w' : World} {c : Nat} (h : r.2 = .error c) (hb : Below w.heap.size w w') : RRPost r w (.returned (.tuple #[.slice none 0 0, .int .i64 0, .int .i64 (c : Int)])) w' := by
  unfold RRPost; rw [h]; exact ⟨rfl, hb⟩

set_option maxHeartbeats 3200000 in
set_option maxRecDepth 100000 in
theorem refRow_row (b off cap n : Nat) (l : List UInt8) (w : World) (hb : b < w.heap.size) (hl : l.length ≤ 1000000000000) (hl0 : 0 < l.length) (hcap : l.length ≤ cap) (hm : cap ≤ maxLen) (hn : n ≤ 64)
    (h0 : w.cell? ⟨b, off, none⟩ = some (.int .u8 (n : Int))) (hcell : ∀ i, i < l.length → w.cell? ⟨b, off + i, none⟩ = some (.int .u8 ((l.getD i 0).toNat : Int))) :
    Calls Tryd.prog 25 #[.slice (some ⟨b, off, none⟩) l.length cap] w fun e w' => RRPost (rdVals l n (.ok 1)) w e w' := by
  obtain ⟨i0, hi, hz0, hz1, hz2⟩ := info_parts Tryd.infoV
  have hn' : ¬ ((64 : Int) < (n : Int)) := by omega
  have hm' : (cap : Int) ≤ 9223372036854775807 := by unfold maxLen at hm; omega
  have HC := hide hcell
  have H0 := hide h0
  clear hcell
  go_enter Tryd.func25, Tryd.ntmps25
  go_wp2
  clear h0
  go_loopw [5, 6, 7] (fun v p i wr => ∃ k a : Nat, k ≤ n ∧ i = .int .i64 k ∧ p = .int .i64 a ∧ (rdVals l k (.ok 1)).2 = .ok a ∧ a ≤ l.length ∧ (rdVals l k (.ok 1)).1.length = k ∧ wr.ownsRow w.heap.size 81 3 v k (gvsCells (rdVals l k (.ok 1)).1) ∧ Below w.heap.size w wr) (fun _ _ i _ => n - (intOf i).toNat)
  case atStart => exact ⟨0, 1, Nat.zero_le _, rfl, rfl, rfl, hl0, rfl, World.ownsRow_nil _ _ _ _, Below.refl _ _⟩
  case round =>
    obtain ⟨k, a, hk, rfl, rfl, hst, hal, hkl, hown, hbw⟩ := hrel
    have k0 : wr.cell? ⟨b, off, none⟩ = some (.int .u8 (n : Int)) := (hbw.cell (p := ⟨b, off, none⟩) hb).trans (unhide H0)
    by_cases hlt : k < n
    · have hcr : ∀ i, i < l.length → wr.cell? ⟨b, off + i, none⟩ = some (.int .u8 ((l.getD i 0).toNat : Int)) := fun i hi => (hbw.cell (p := ⟨b, off + i, none⟩) hb).trans (unhide HC i hi)
      have hbr : b < wr.heap.size := Nat.lt_of_lt_of_le hb hbw.size
      have hsame := val_same l a
      by_cases hce : cap = a
      · obtain rfl : a = l.length := by omega
        subst hce
        have hnil : l.drop l.length = [] := List.drop_eq_nil_of_le (Nat.le_refl _)
        have hrb : RBp wr wr.heap.size (.slice (some ⟨b, off, none⟩) 0 0) [] := by
          have := rb_end (w := wr) (l := l) (at' := l.length) (cap := l.length) hbr (Nat.le_refl _) (Nat.le_refl _) rfl off
          rwa [hnil, Nat.sub_self] at this
        have HV := hide (refValue_any _ _ wr hrb)
        have e22 : refVal (l.drop l.length) = (zV, 0, 22) := by rw [hnil]; rfl
        have e23 : refVal [] = (zV, 0, 22) := rfl
        rw [e22] at hsame
        rw [e23] at HV
        have hv2 : (rdVal l (.ok l.length)).2 = .error 22 := hsame.2 (by decide)
        have hfin : (rdVals l (k + 1) (.ok 1)).2 = .error 22 := by simp [rdVals, hst, hv2]
        have HE := hide (rdVals_err hfin (show k + 1 ≤ n by omega)).2
        unfold VR zV GV.agg at HV
        clear hown hst hkl hfin hsame e22 e23 hrb hcr hnil hv2
        go_wp2_with (first | (go_at_call 49; refine (unhide HV).mono ?_; rintro e w2 ⟨rfl, hb2⟩))
        go_ret3
        exact rr_err (unhide HE) ((hbw.trans (hb2.mono hbw.size)).alloc (Nat.le_trans hbw.size hb2.size) _)
      · have hrb : RBp wr wr.heap.size (.slice (some ⟨b, off + a, none⟩) (l.length - a) (cap - a)) (l.drop a) := rb_drop hbr hal hcap hm hl hcr
        have HV := hide (refValue_any _ _ wr hrb)
        obtain ⟨g, kk, cc, hg⟩ : ∃ g kk cc, refVal (l.drop a) = (g, kk, cc) := ⟨_, _, _, rfl⟩
        rw [hg] at hsame HV
        unfold VR GV.agg at HV
        by_cases hcc : cc = 0
        · obtain ⟨hv2, hkk, hle⟩ := hsame.1 hcc
          dsimp only at hv2 hkk hle
          subst hcc
          have hfin : (rdVals l (k + 1) (.ok 1)).2 = .ok (a + kk) := by simp [rdVals, hst, hv2]
          have hfi1 : (rdVals l (k + 1) (.ok 1)).1 = (rdVals l k (.ok 1)).1 ++ [g] := by simp [rdVals, hst, hv2]
          have HF := hide hfin
          have HF1 := hide hfi1
          have HK := hide hkl
          generalize (rdVals l k (.ok 1)).1 = gs at *
          have HO := hide hown
          clear hst hfin hfi1 hkl hown hv2 hsame hrb hcr hg
          go_wp2_with (first
            | (go_at_call 49; refine (unhide HV).mono ?_; rintro e w2 ⟨rfl, hb2⟩; have ho2 := ((own_later (unhide HO) hb2).alloc (.cells #[.int .i64 g.kind, .int .i64 g.int, .string g.text] 81)).alloc (.cells #[.int .i64 g.kind, .int .i64 g.int, .string g.text] 81); have z2 := Nat.le_trans hbw.size hb2.size)
            | (at_builtin; refine wpList_append_own _ rfl (.tmp 37) (.tmp 39) 45 rfl w.heap.size 81 i0 _ 3 32 Tryd.underlying45 hi hz0 hz1 hz2 rfl (by decide) _ _ _ rfl ho2 ⟨w2.heap.size + 1, 0, none⟩ 1 1 (gvCells g) rfl rfl ?_ (three_cell g) (by unfold maxLen; omega) (by omega) (by simp; omega) ?_))
          · intro j v hj
            have := three_new (w2.alloc (.cells #[.int .i64 g.kind, .int .i64 g.int, .string g.text] 81)) g 81 j v hj
            rwa [World.size_alloc] at this
          · intro v' w3 ho3 hg3 _
            have hb3 : Below w.heap.size w2 w3 := (((Below.refl w.heap.size w2).alloc z2 _).alloc (by simp; omega) _).grown hg3 (by simp; omega) (own_block_ge ho2)
            clear hg3 ho2 HV HO
            go_wp2
            go_roundw
            case rel => exact ⟨k + 1, a + kk, by omega, by go_num, by go_num, unhide HF, hle, by rw [unhide HF1, List.length_append, unhide HK]; rfl, by rw [unhide HF1, gvsCells_snoc]; exact ho3, (hbw.trans (hb2.mono hbw.size)).trans hb3⟩
            case measure => simp [intOf]; omega
        · have hv2 : (rdVal l (.ok a)).2 = .error cc := hsame.2 hcc
          have hfin : (rdVals l (k + 1) (.ok 1)).2 = .error cc := by simp [rdVals, hst, hv2]
          have HE := hide (rdVals_err hfin (show k + 1 ≤ n by omega)).2
          have hc' : ((cc : Int) == 0) = false := by simp; omega
          clear hown hst hkl hfin hsame hrb hcr hg hv2
          go_wp2_with (first | (go_at_call 49; refine (unhide HV).mono ?_; rintro e w2 ⟨rfl, hb2⟩))
          go_ret3
          exact rr_err (unhide HE) ((hbw.trans (hb2.mono hbw.size)).alloc (Nat.le_trans hbw.size hb2.size) _)
    · have e : k = n := by omega
      subst e
      have HO := hide hown
      have HK := hide hkl
      have HS := hide hst
      clear hown hkl hst
      go_wp2
      go_ret3
      unfold RRPost
      rw [unhide HS]
      exact ⟨_, rfl, by rw [unhide HK]; exact unhide HO, hbw⟩

set_option maxHeartbeats 1600000 in
theorem refRow_great (b off cap n len : Nat) (w : World) (hl0 : 0 < len) (hl : len ≤ 1000000000000) (hn : 64 < n) (h0 : w.cell? ⟨b, off, none⟩ = some (.int .u8 (n : Int))) :
    Calls Tryd.prog 25 #[.slice (some ⟨b, off, none⟩) len cap] w fun e w' => e = .returned (.tuple #[.slice none 0 0, .int .i64 0, .int .i64 20]) ∧ w' = w := by
  have hn' : (64 : Int) < (n : Int) := by omega
  go_enter Tryd.func25, Tryd.ntmps25
  go_wp2
  go_ret3
  exact ⟨rfl, rfl⟩
set_option maxHeartbeats 1600000 in
theorem refRow_none (ad : Option Addr) (cap : Nat) (w : World) :
    Calls Tryd.prog 25 #[.slice ad 0 cap] w fun e w' => e = .returned (.tuple #[.slice none 0 0, .int .i64 0, .int .i64 22]) ∧ w' = w := by
  go_enter Tryd.func25, Tryd.ntmps25
  go_wp2
  go_ret3
  exact ⟨rfl, rfl⟩

theorem refRow_any (v : Value) (l : List UInt8) (w : World) (hv : RBp w w.heap.size v l) :
    Calls Tryd.prog 25 #[v] w fun e w' => RRPost (rdRow l (.ok 0)) w e w' := by
  obtain ⟨hlen, ⟨rfl, rfl⟩ | ⟨b, off, cap, hbB, hcap, hm, rfl, hcell⟩⟩ := hv
  · refine (refRow_none none 0 w).mono ?_
    rintro e w' ⟨rfl, rfl⟩
    have h3 : rdBetween [] 0 64 (.ok 0) = (0, .error 22) := rdB_nil (hi := 64) rfl
    exact rr_err (c := 22) (by simp [rdRow, h3]) (Below.refl _ _)
  · cases l with
    | nil =>
      refine (refRow_none (some ⟨b, off, none⟩) cap w).mono ?_
      rintro e w' ⟨rfl, rfl⟩
      have h3 : rdBetween [] 0 64 (.ok 0) = (0, .error 22) := rdB_nil (hi := 64) rfl
      exact rr_err (c := 22) (by simp [rdRow, h3]) (Below.refl _ _)
    | cons c r =>
      have h0 := cell_zero hcell
      have h3 : rdBetween (c :: r) 0 64 (.ok 0) = if c.toNat ≤ 64 then ((c.toNat : Int), .ok 1) else (0, .error 20) := rdB_small (hi := 64) (l := c :: r) (a := 0) (r := r) (by decide) rfl
      by_cases hc : c.toNat ≤ 64
      · rw [if_pos hc] at h3
        have e : rdRow (c :: r) (.ok 0) = rdVals (c :: r) c.toNat (.ok 1) := by simp [rdRow, h3]
        rw [e]
        exact refRow_row b off cap c.toNat (c :: r) w hbB hlen (by simp) hcap hm hc h0 hcell
      · rw [if_neg hc] at h3
        refine (refRow_great b off cap c.toNat _ w (by simp) hlen (by omega) h0).mono ?_
        rintro e w' ⟨rfl, rfl⟩
        exact rr_err (c := 20) (by simp [rdRow, h3]) (Below.refl _ _)
end Go.Proofs.YtahcfanmfocljaaDoor
