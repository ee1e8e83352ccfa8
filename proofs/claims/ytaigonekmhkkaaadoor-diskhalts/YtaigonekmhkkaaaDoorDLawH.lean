/- DiskHalts: so many calls are done behind a Halt, and no more. -/
import Derived.Test.YtaigonekmhkkaaaDoorDKnown
namespace Go.Proofs.YtaigonekmhkkaaaDoor
open Go.RowKit Go.Lib Go.Maps

theorem d1_count {w : World} {B p : Nat} {S : St} {n : List UInt8} {st : Option (List UInt8 × Nat)} (h : D1 w B p S n st) : Calls Tryd.prog 30 #[.pointer (some ⟨p, 0, none⟩)] w fun e w' => e = .returned (.int .i64 S.count) ∧ w' = w := by
  obtain ⟨mb, L, O, hd, _⟩ := h
  exact count_any hd
theorem d1_used {w : World} {B p : Nat} {S : St} {n : List UInt8} {st : Option (List UInt8 × Nat)} (h : D1 w B p S n st) : Calls Tryd.prog 28 #[.pointer (some ⟨p, 0, none⟩)] w fun e w' => e = .returned (.int .i64 ((dataOf st).length : Int)) ∧ Below w.heap.size w w' := by
  obtain ⟨mb, L, O, hd, _, hs⟩ := h
  rw [← used1 hs]
  exact used_any hd
theorem d1_halt {w : World} {B p : Nat} {S : St} {n : List UInt8} {st : Option (List UInt8 × Nat)} (k : Int) (h : D1 w B p S n st) : Calls Tryd.prog 20 #[.pointer (some ⟨p, 0, none⟩), .int .i64 k] w fun e w' => e = .returned (.tuple #[]) ∧ FrB B w w' ∧ D1 w' B p { S with halting := decide (0 ≤ k), left := k } n st := by
  obtain ⟨mb, L, O, hd, hO, hs⟩ := h
  refine (halt_any k hd).mono ?_
  rintro e w' ⟨rfl, hd', hf⟩
  exact ⟨rfl, FrB.of_fr hf (fun k hk => (hO k hk).1), mb, L, O, hd', fun k hk => ⟨(hO k hk).1, Nat.lt_of_lt_of_le (hO k hk).2 hf.size⟩, hs⟩

/-- Behind i tries where k are done. -/
def Sat (k i : Nat) : St := ⟨1000, ((min i k : Nat) : Int), decide (k < i), true, (k : Int) - ((min i k : Nat) : Int)⟩
def stat (k i : Nat) : Option (List UInt8 × Nat) := if min i k = 0 then none else some (List.replicate (min i k) 120, 0)
theorem data_stat (k i : Nat) : dataOf (stat k i) = List.replicate (min i k) 120 := by
  unfold stat
  split
  · rename_i h; rw [h]; rfl
  · rfl
theorem sure_stat (k i : Nat) : sureOf (stat k i) = 0 := by
  unfold stat
  split <;> rfl
theorem app_stat {k i : Nat} (hk : k < 20) : app1 (Sat k i) (stat k i) 1 = 0 := by
  unfold app1
  rw [data_stat, List.length_replicate]
  refine if_pos ?_
  show ((1 : Nat) : Int) ≤ 1000 - ((min i k : Nat) : Int) ∧ _
  omega
theorem step_lt {k i : Nat} (hi : i < k) : beginS (Sat k i) 0 = (Sat k (i + 1), 0) := by
  unfold beginS
  have h1 : ¬ (Sat k i).off = true := by show ¬ decide (k < i) = true; simp; omega
  have h2 : ¬ ((Sat k i).halting = true ∧ (Sat k i).left = 0) := by rintro ⟨_, h⟩; have h : (k : Int) - ((min i k : Nat) : Int) = 0 := h; omega
  rw [if_neg h1, if_neg (fun h => h rfl), if_neg h2]
  have e1 : min i k = i := by omega
  have e2 : min (i + 1) k = i + 1 := by omega
  have e3 : decide (k < i) = false := decide_eq_false (by omega)
  have e4 : decide (k < i + 1) = false := decide_eq_false (by omega)
  unfold Sat
  rw [e1, e2, e3, e4]
  simp only [if_true]
  refine congrArg (fun s => (s, (0 : Int))) ?_
  congr 1
  push_cast; omega
theorem step_ge {k i : Nat} (hi : ¬ i < k) : beginS (Sat k i) 0 = (Sat k (i + 1), 32) := by
  unfold beginS
  have e1 : min i k = k := by omega
  have e2 : min (i + 1) k = k := by omega
  have e4 : decide (k < i + 1) = true := decide_eq_true (by omega)
  by_cases ho : k < i
  · have h1 : (Sat k i).off = true := decide_eq_true ho
    rw [if_pos h1]
    unfold Sat
    rw [e1, e2, e4, decide_eq_true ho]
  · have h1 : ¬ (Sat k i).off = true := by show ¬ decide (k < i) = true; simpa using ho
    have h2 : (Sat k i).halting = true ∧ (Sat k i).left = 0 := ⟨rfl, by show (k : Int) - ((min i k : Nat) : Int) = 0; omega⟩
    rw [if_neg h1, if_neg (fun h => h rfl), if_pos h2]
    unfold Sat
    rw [e1, e2, e4]

/-- One try. -/
theorem try_one {wr w : World} {p k i : Nat} (hE : ET w) (hk : k < 20) (hf : FrB w.heap.size w wr) (hd : D1 wr w.heap.size p (Sat k i) sA.data.toList (stat k i)) :
    Calls Tryd.prog 9 #[.pointer (some ⟨p, 0, none⟩), .string sA, .slice (some ⟨wr.heap.size, 0, none⟩) 1 1] (wr.alloc (.cells #[.int .u8 120] 5 (1, 2))) fun e w' =>
      ((i < k ∧ e = .returned .nilIface) ∨ (¬ i < k ∧ ∃ b, e = .returned (evW b) ∧ ErrW w' b 32)) ∧ FrB w.heap.size w w' ∧ D1 w' w.heap.size p (Sat k (i + 1)) sA.data.toList (stat k (i + 1)) := by
  have hb2 : Below wr.heap.size wr (wr.alloc (.cells #[.int .u8 120] 5 (1, 2))) := (Below.refl _ _).alloc (Nat.le_refl _) _
  have hz := hf.size
  have hEl := hE.lt
  refine (d1_append sA _ [120] hd hb2 hz ((hE.frB hf hEl).below hb2 (by omega)) (by decide) ok_a ⟨by show (0 : Int) ≤ 1000; decide, by show (1000 : Int) ≤ 4611686018427387904; decide⟩ ⟨by show (0 : Int) ≤ ((min i k : Nat) : Int); omega, by show ((min i k : Nat) : Int) < 1000000000; omega⟩ (fun _ => ⟨by show (0 : Int) ≤ (k : Int) - ((min i k : Nat) : Int); omega, by show (k : Int) - ((min i k : Nat) : Int) < 4611686018427387904; omega⟩) (rbn_const (l := [120]) rfl (by decide))).mono ?_
  rintro e w' ⟨v', rfl, he, hf', hd'⟩
  have ha : app1 (Sat k i) (stat k i) [(120 : UInt8)].length = 0 := app_stat hk
  rw [ha] at he hd'
  rw [data_stat, sure_stat] at hd'
  refine ⟨?_, hf.trans ((FrB.of_below hb2).trans hf'), ?_⟩
  · by_cases hi : i < k
    · left
      rw [step_lt hi] at he
      rcases he with ⟨rfl, _⟩ | ⟨hne, _⟩
      · exact ⟨hi, rfl⟩
      · exact absurd rfl hne
    · right
      rw [step_ge hi] at he
      rcases he with ⟨_, h0⟩ | ⟨_, b, rfl, hb⟩
      · exact absurd (show (32 : Int) = 0 from h0) (by decide)
      · exact ⟨hi, b, rfl, hb⟩
  · by_cases hi : i < k
    · rw [step_lt hi] at hd'
      have e1 : min i k = i := by omega
      have e2 : stat k (i + 1) = some (List.replicate (min i k) 120 ++ [120], 0) := by
        unfold stat
        have e3 : min (i + 1) k = i + 1 := by omega
        rw [if_neg (by omega), e3, e1, List.replicate_succ']
      rw [e2]
      exact hd'
    · rw [step_ge hi] at hd'
      have e2 : stat k (i + 1) = stat k i := by
        unfold stat
        have e3 : min (i + 1) k = min i k := by omega
        rw [e3]
      rw [e2]
      exact hd'

theorem keep_one (W : World) (n : Nat) (hn : n ≤ W.heap.size) : KeepAt (W.alloc (.cells #[.int .i64 1000] 3)) (fun k => k < n) (.slice (some ⟨W.heap.size, 0, none⟩) 1 1) [1000] := by
  refine ⟨fun x hx => (by simp at hx; subst hx; decide), .inr ⟨W.heap.size, 0, 1, by simp, by omega, by decide, by unfold maxLen; omega, rfl, fun i x hi => ?_⟩⟩
  match i, hi with
  | 0, hi => simp at hi; subst hi; simp

set_option maxHeartbeats 6400000 in
set_option maxRecDepth 100000 in
theorem halts_law (n tr : Nat) (w : World) (hE : ET w) (hn : n < 256) (ht : tr < 256) : Calls Tryd.prog 5 #[.int .u8 (n : Int), .int .u8 (tr : Int)] w fun e w' => e = .returned (.bool true) ∧ Below w.heap.size w w' := by
  have kc := fun (w : World) (C : Array Value) (n c : Nat) => run_convert_bytes_const (P := Tryd.prog) w 28 5 C n c Tryd.underlying28 Tryd.underlying5
  have HK := hide (known_any w hE)
  obtain ⟨k, hk⟩ : ∃ k : Nat, (n : Int) % 20 = (k : Int) := ⟨n % 20, by omega⟩
  obtain ⟨T, hT⟩ : ∃ T : Nat, (tr : Int) % 30 = (T : Int) := ⟨tr % 30, by omega⟩
  have hk20 : k < 20 := by omega
  have hT30 : T < 30 := by omega
  obtain ⟨D, hD⟩ : ∃ D : Nat, min T k = D := ⟨_, rfl⟩
  have hmin : min (k : Int) (T : Int) = (D : Int) := by omega
  have hD20 : D < 20 := by omega
  have H2 : Hid (∀ w1 w2, Below w.heap.size w w1 → DK w2 w1.heap.size ⟨1000, 0, false, false, 0⟩ none [] (fun k => k = w1.heap.size) → Below w1.heap.size w1 w2 → w2.heap.size = w1.heap.size + 1 →
      Calls Tryd.prog 20 #[.pointer (some ⟨w1.heap.size, 0, none⟩), .int .i64 (k : Int)] w2 fun e w' => e = .returned (.tuple #[]) ∧ FrB w.heap.size w w' ∧ D1 w' w.heap.size w1.heap.size (Sat k 0) sA.data.toList (stat k 0)) := by
    intro w1 w2 hb1 hd2 hb2 hz2
    have hz1 := hb1.size
    have h1 : D1 w2 w.heap.size w1.heap.size ⟨1000, 0, false, false, 0⟩ sA.data.toList none := ⟨none, [], _, hd2, fun k hk => by subst hk; omega, rfl⟩
    refine (d1_halt (k : Int) h1).mono ?_
    rintro e w' ⟨rfl, hf, hd⟩
    refine ⟨rfl, (FrB.of_below hb1).trans ((FrB.of_below hb2).trans hf), ?_⟩
    have e1 : stat k 0 = none := by unfold stat; rw [if_pos (by omega)]
    have e2 : Sat k 0 = ⟨1000, 0, false, decide (0 ≤ (k : Int)), (k : Int)⟩ := by
      unfold Sat
      have : min 0 k = 0 := by omega
      rw [this, decide_eq_false (by omega : ¬ k < 0), decide_eq_true (by omega : (0 : Int) ≤ (k : Int))]
      simp
    rw [e1, e2]
    exact hd
  have HTRY := hide (fun (wr : World) (p i : Nat) (hf : FrB w.heap.size w wr) (hd : D1 wr w.heap.size p (Sat k i) sA.data.toList (stat k i)) => try_one hE hk20 hf hd)
  have HCL := hide (fun (wr : World) (b : Nat) (hf : FrB w.heap.size w wr) (he : ErrW wr b 32) => class_at b 32 wr (hE.frB hf hE.lt) he)
  -- behind the tries
  have HEND : Hid (∀ wr p, FrB w.heap.size w wr → D1 wr w.heap.size p (Sat k T) sA.data.toList (stat k T) →
      Calls Tryd.prog 30 #[.pointer (some ⟨p, 0, none⟩)] wr (fun e w' => e = .returned (.int .i64 (D : Int)) ∧ w' = wr) ∧
      Calls Tryd.prog 28 #[.pointer (some ⟨p, 0, none⟩)] wr (fun e w' => e = .returned (.int .i64 (D : Int)) ∧ FrB w.heap.size w w' ∧
        Calls Tryd.prog 22 #[.pointer (some ⟨p, 0, none⟩), .agg #[.slice (some ⟨w'.heap.size, 0, none⟩) 1 1]] (w'.alloc (.cells #[.int .i64 1000] 3)) (fun e w2 => e = .returned (.tuple #[]) ∧ FrB w.heap.size w w2 ∧ ∃ su, D1 w2 w.heap.size p ⟨1000, (D : Int), false, false, 0⟩ sA.data.toList (if D = 0 then none else some (List.replicate D 120, su))))) := by
    intro wr p hf hd
    have hdl : (dataOf (stat k T)).length = D := by rw [data_stat, List.length_replicate, hD]
    refine ⟨?_, ?_⟩
    · have := d1_count hd
      have e : (Sat k T).count = (D : Int) := by show ((min T k : Nat) : Int) = _; rw [hD]
      rw [e] at this; exact this
    · have := d1_used hd
      rw [hdl] at this
      refine this.mono ?_
      rintro e w' ⟨rfl, hb⟩
      have hf' := hf.trans (FrB.of_below hb)
      have hd' := hd.later hb
      have hb2 : Below w'.heap.size w' (w'.alloc (.cells #[.int .i64 1000] 3)) := (Below.refl _ _).alloc (Nat.le_refl _) _
      refine ⟨rfl, hf', ?_⟩
      refine (d1_crash _ [1000] hd' hb2 (by decide) (keep_one w' _ (Nat.le_refl _)) (by decide)).mono ?_
      rintro e w2 ⟨rfl, hf2, hd2⟩
      refine ⟨rfl, hf'.trans ((FrB.of_below hb2).trans hf2), D, ?_⟩
      have e1 : ({ Sat k T with off := false, halting := false, left := 0 } : St) = ⟨1000, (D : Int), false, false, 0⟩ := by unfold Sat; rw [hD]
      rw [e1] at hd2
      unfold stat at hd2
      rw [hD] at hd2
      by_cases h0 : D = 0
      · rw [if_pos h0] at hd2 ⊢; exact hd2
      · rw [if_neg h0] at hd2 ⊢
        simp only [Option.map_some, List.length_replicate, Nat.sub_zero, Nat.zero_add] at hd2
        have e2 : min (([1000] : List Int).getD 0 0).toNat D = D := by show min (1000 : Nat) D = D; omega
        rw [e2, List.take_of_length_le (by rw [List.length_replicate]; exact Nat.le_refl _)] at hd2
        exact hd2
  have HFIN : Hid (∀ w2 p su, FrB w.heap.size w w2 → D1 w2 w.heap.size p ⟨1000, (D : Int), false, false, 0⟩ sA.data.toList (if D = 0 then none else some (List.replicate D 120, su)) →
      Calls Tryd.prog 28 #[.pointer (some ⟨p, 0, none⟩)] w2 (fun e w3 => e = .returned (.int .i64 (D : Int)) ∧
        Calls Tryd.prog 9 #[.pointer (some ⟨p, 0, none⟩), .string sA, .slice none 0 0] w3 (fun e w4 => e = .returned .nilIface ∧
          Calls Tryd.prog 30 #[.pointer (some ⟨p, 0, none⟩)] w4 (fun e w5 => e = .returned (.int .i64 ((D : Int) + 1)) ∧ FrB w.heap.size w w5)))) := by
    intro w2 p su hf hd
    have hdl : (dataOf (if D = 0 then none else some (List.replicate D (120 : UInt8), su))).length = D := by
      by_cases h0 : D = 0
      · rw [if_pos h0, h0]; rfl
      · rw [if_neg h0]; show (List.replicate D (120 : UInt8)).length = D; rw [List.length_replicate]
    have hu := d1_used hd
    rw [hdl] at hu
    refine hu.mono ?_
    rintro e w3 ⟨rfl, hb⟩
    refine ⟨rfl, ?_⟩
    have hf3 := hf.trans (FrB.of_below (B := w.heap.size) hb)
    have hap : app1 ⟨1000, (D : Int), false, false, 0⟩ (if D = 0 then none else some (List.replicate D 120, su)) ([] : List UInt8).length = 0 := by
      unfold app1
      rw [hdl]
      refine if_pos ?_
      show ((0 : Nat) : Int) ≤ (1000 : Int) - (D : Int) ∧ ((0 : Nat) : Int) ≤ 1048576 - (D : Int)
      omega
    refine (d1_append sA (.slice none 0 0) [] (hd.later hb) (Below.refl _ _) (Nat.le_trans (Nat.le_refl _) hf3.size) (hE.frB hf3 hE.lt) (by decide) ok_a ⟨by show (0 : Int) ≤ 1000; decide, by show (1000 : Int) ≤ 4611686018427387904; decide⟩ ⟨by show (0 : Int) ≤ (D : Int); omega, by show (D : Int) < 1000000000; omega⟩ (fun hh => by cases hh) ⟨by decide, .inl ⟨rfl, rfl⟩⟩).mono ?_
    rintro e w4 ⟨v', rfl, he, hf', hd'⟩
    rw [hap] at he hd'
    rcases he with ⟨rfl, _⟩ | ⟨hne, _⟩
    · refine ⟨rfl, ?_⟩
      refine (d1_count hd').mono ?_
      rintro e w5 ⟨rfl, rfl⟩
      exact ⟨rfl, hf3.trans hf'⟩
    · exact absurd rfl hne
  clear hE
  go_enter Tryd.func5, Tryd.ntmps5
  go_wp2_with (first
    | (go_at_call 6; refine (unhide HK).mono ?_; rintro e w1 ⟨rfl, hb1⟩)
    | (go_at_call 7; refine (new_any w1 1000 (by decide)).mono ?_; rintro e w2 ⟨rfl, hd2, hb2, hz2⟩; have P2 := hide (unhide H2 w1 w2 hb1 hd2 hb2 hz2); clear hd2 hb2 hz2)
    | (go_at_call 20; refine (unhide P2).mono ?_; clear P2; rintro e w3 ⟨rfl, hf3, hd3⟩; have R3 := hide (And.intro hf3 hd3); clear hf3 hd3))
  go_loopw [7] (fun i wr => ∃ j : Nat, j ≤ T ∧ i = .int .i64 j ∧ Hid (FrB w.heap.size w wr ∧ D1 wr w.heap.size w1.heap.size (Sat k j) sA.data.toList (stat k j))) (fun i _ => T - (intOf i).toNat)
  case atStart => exact ⟨0, by omega, rfl, unhide R3⟩
  case round =>
    obtain ⟨j, hj, rfl, hrl⟩ := hrel
    by_cases hlt : j < T
    · have hji : (j : Int) < (T : Int) := by omega
      have PT := hide (unhide HTRY wr w1.heap.size j (unhide hrl).1 (unhide hrl).2)
      by_cases hjk : j < k
      · have hjk' : (j : Int) < (k : Int) := by omega
        go_wp2_with (first
          | (go_at_call 9; refine (unhide PT).mono ?_; rintro e w4 ⟨hor, hf4, hd4⟩; have h5 := hor.resolve_right (fun h => h.1 hjk); obtain ⟨_, rfl⟩ := h5; have R4 := hide (And.intro hf4 hd4); clear hf4 hd4 hor PT))
        go_roundw
        case rel => exact ⟨j + 1, by omega, by go_num, unhide R4⟩
        case measure => simp [intOf]; omega
      · have hjk' : ((j : Int) < (k : Int)) = False := eq_false (by omega)
        go_wp2_with (first
          | (go_at_call 9; refine (unhide PT).mono ?_; rintro e w4 ⟨hor, hf4, hd4⟩; have h5 := hor.resolve_left (fun h => hjk h.1); obtain ⟨_, b4, rfl, he4⟩ := h5; have R4 := hide (And.intro hf4 hd4); have C4 := hide (unhide HCL w4 b4 hf4 he4); clear hf4 hd4 hor PT he4)
          | (go_at_call 24; refine (unhide C4).mono ?_; rintro e w5 ⟨rfl, hb5⟩; have R5 := hide (And.intro ((unhide R4).1.trans (FrB.of_below (B := w.heap.size) hb5)) ((unhide R4).2.later hb5)); clear C4))
        go_roundw
        case rel => exact ⟨j + 1, by omega, by go_num, unhide R5⟩
        case measure => simp [intOf]; omega
    · have hji : ¬ ((j : Int) < (T : Int)) := by omega
      have hjT : j = T := by omega
      subst hjT
      obtain ⟨PC, PU⟩ := unhide HEND wr w1.heap.size (unhide hrl).1 (unhide hrl).2
      have PC' := hide PC
      have PU' := hide PU
      clear PC PU
      go_wp2_with (first
        | (go_at_call 30; refine (unhide PC').mono ?_; clear PC'; rintro e w4 ⟨rfl, rfl⟩)
        | (go_at_call 28; refine (unhide PU').mono ?_; clear PU'; rintro e w5 ⟨rfl, hf5, pc5⟩; have PC5 := hide pc5; clear pc5 hf5)
        | (go_at_call 22; refine (unhide PC5).mono ?_; clear PC5; rintro e w6 ⟨rfl, hf6, su6, hd6⟩; have PU6 := hide (unhide HFIN w6 w1.heap.size su6 hf6 hd6); clear hf6 hd6)
        | (go_at_call 28; refine (unhide PU6).mono ?_; clear PU6; rintro e w7 ⟨rfl, pa7⟩; have PA7 := hide pa7; clear pa7)
        | (go_at_call 9; refine (unhide PA7).mono ?_; clear PA7; rintro e w8 ⟨rfl, pc8⟩; have PC8 := hide pc8; clear pc8)
        | (go_at_call 30; refine (unhide PC8).mono ?_; clear PC8; rintro e w9 ⟨rfl, hf9⟩))
      go_ret
      exact ⟨rfl, hf9.below (Nat.le_refl _)⟩
end Go.Proofs.YtaigonekmhkkaaaDoor
