/- Contract of the statements' own look, known: it answers true. -/
import Derived.Test.YthebgoadeecmpaaDoorDOne
import Derived.Lib.SlBytesConst
namespace Go.Proofs.YthebgoadeecmpaaDoor
open Go.RowKit Go.Lib Go.Maps

theorem nums_eqD (l : List UInt8) : ByteArray.mk ((l.map fun c => (c.toNat : Int)).map fun n => n.toNat.toUInt8).toArray = ⟨l.toArray⟩ := by
  congr 2
  rw [List.map_map]
  conv => rhs; rw [← List.map_id l]
  refine List.map_congr_left fun c _ => ?_
  simp
theorem ownsRow_base0 {w : World} {B : Nat} {T : TypeId} {v : Value} {n : Nat} {xs : List Value} (h : w.ownsRow B T 1 v n xs) : w.ownsRow 0 T 1 v n xs := by
  obtain ⟨h1, h2 | ⟨g, cap, cur, rfl, _, hc, r⟩⟩ := h
  · exact ⟨h1, .inl h2⟩
  · exact ⟨h1, .inr ⟨g, cap, cur, rfl, Nat.zero_le _, hc, r⟩⟩
theorem conv_row {w : World} {v : Value} {B : Nat} {l : List UInt8} (h : w.ownsRow B 5 1 v l.length (byteCells l)) (hl : l.length ≤ 1000000) : (convert 28 9 v).run Tryd.prog w = .ok (.string ⟨l.toArray⟩) w := by
  have hr := rbo_of_row (ownsRow_base0 h) (by omega)
  obtain ⟨hlen, ⟨rfl, rfl⟩ | ⟨b, off, cap, hbB, _, hcap, hm, rfl, hcell⟩⟩ := hr
  · exact run_convert_bytes_nil w _ _ Tryd.underlying28 Tryd.underlying5 0 0 _ Tryd.underlying9
  · have h := run_convert_bytes_arg (P := Tryd.prog) w 28 5 Tryd.underlying28 Tryd.underlying5 b off l.length cap (l.map fun c => (c.toNat : Int)) (by simp) (fun i hi => by
      rw [hcell i hi]; simp [hi]) 9 Tryd.underlying9
    rw [h]
    exact congrArg (fun x => Result.ok (Value.string x) w) (nums_eqD l)

theorem rbn_const {w : World} {C : Array Value} {l : List UInt8} {fz : Nat × Nat} (hC : C.toList = byteCells l) (hl : l.length ≤ 1000) : RBn (w.alloc (.cells C 5 fz)) w.heap.size (.slice (some ⟨w.heap.size, 0, none⟩) l.length l.length) l := by
  refine ⟨by omega, .inr ⟨w.heap.size, 0, l.length, Nat.le_refl _, by simp, Nat.le_refl _, by unfold maxLen; omega, rfl, fun i hi => ?_⟩⟩
  rw [World.cell?_alloc_mark, Nat.zero_add, ← Array.getElem?_toList, hC]
  simp [byteCells, hi]

abbrev sA : ByteArray := ⟨#[97]⟩
theorem ok_a : okN sA.data.toList = true := by decide
theorem keep_nil (W : World) (O : Nat → Prop) : KeepAt W O (.slice none 0 0) [] := ⟨fun x hx => (by cases hx), .inl ⟨⟨none, 0, rfl⟩, rfl⟩⟩

set_option maxHeartbeats 6400000 in
set_option maxRecDepth 100000 in
theorem known_any (w : World) (hE : ET w) : Calls Tryd.prog 4 #[] w fun e w' => e = .returned (.bool true) ∧ Below w.heap.size w w' := by
  have kc := fun (w : World) (C : Array Value) (n c : Nat) => run_convert_bytes_const (P := Tryd.prog) w 28 5 C n c Tryd.underlying28 Tryd.underlying5
  have hEl := hE.lt
  have H0 := hide (new_any w 10 (by decide))
  -- the disk behind each call
  have K1 : Hid (∀ w1, DK w1 w.heap.size ⟨10, 0, false, false, 0⟩ none [] (fun k => k = w.heap.size) → Below w.heap.size w w1 → w1.heap.size = w.heap.size + 1 →
      Calls Tryd.prog 7 #[.pointer (some ⟨w.heap.size, 0, none⟩), .string sA, .slice (some ⟨w1.heap.size, 0, none⟩) 2 2] (w1.alloc (.cells #[.int .u8 120, .int .u8 121] 5 (2, 3))) fun e w' => e = .returned .nilIface ∧ FrB w.heap.size w w' ∧ D1 w' w.heap.size w.heap.size ⟨10, 1, false, false, 0⟩ sA.data.toList (some ([120, 121], 0))) := by
    intro w1 hd hb hz
    have h1 : D1 w1 w.heap.size w.heap.size ⟨10, 0, false, false, 0⟩ sA.data.toList none := ⟨none, [], _, hd, fun k hk => by subst hk; omega, rfl⟩
    have hb2 : Below w1.heap.size w1 (w1.alloc (.cells #[.int .u8 120, .int .u8 121] 5 (2, 3))) := (Below.refl _ _).alloc (Nat.le_refl _) _
    refine (d1_append sA _ [120, 121] h1 hb2 (by omega) ((hE.below hb hEl).below hb2 (by omega)) (by decide) ok_a ⟨by decide, by decide⟩ ⟨by decide, by decide⟩ (fun hh => by cases hh) (rbn_const (l := [120, 121]) rfl (by decide))).mono ?_
    rintro e w' ⟨v', rfl, he, hf, hd'⟩
    rcases he with ⟨rfl, _⟩ | ⟨hne, _⟩
    · exact ⟨rfl, (FrB.of_below hb).trans ((FrB.of_below hb2).trans hf), hd'⟩
    · exact absurd rfl hne
  have K2 : Hid (∀ w2, FrB w.heap.size w w2 → D1 w2 w.heap.size w.heap.size ⟨10, 1, false, false, 0⟩ sA.data.toList (some ([120, 121], 0)) →
      Calls Tryd.prog 10 #[.pointer (some ⟨w.heap.size, 0, none⟩), .string sA] w2 fun e w' => e = .returned .nilIface ∧ FrB w.heap.size w w' ∧ D1 w' w.heap.size w.heap.size ⟨10, 2, false, false, 0⟩ sA.data.toList (some ([120, 121], 2))) := by
    intro w2 hf hd
    refine (d1_sync sA hd (hE.frB hf hEl) (by decide) ⟨by decide, by decide⟩ (fun hh => by cases hh)).mono ?_
    rintro e w' ⟨v', rfl, he, hf', hd'⟩
    rcases he with ⟨rfl, _⟩ | ⟨hne, _⟩
    · exact ⟨rfl, hf.trans hf', hd'⟩
    · exact absurd rfl hne
  have K3 : Hid (∀ w3, FrB w.heap.size w w3 → D1 w3 w.heap.size w.heap.size ⟨10, 2, false, false, 0⟩ sA.data.toList (some ([120, 121], 2)) →
      Calls Tryd.prog 7 #[.pointer (some ⟨w.heap.size, 0, none⟩), .string sA, .slice (some ⟨w3.heap.size, 0, none⟩) 1 1] (w3.alloc (.cells #[.int .u8 122] 5 (1, 2))) fun e w' => e = .returned .nilIface ∧ FrB w.heap.size w w' ∧ D1 w' w.heap.size w.heap.size ⟨10, 3, false, false, 0⟩ sA.data.toList (some ([120, 121, 122], 2))) := by
    intro w3 hf hd
    have hb2 : Below w3.heap.size w3 (w3.alloc (.cells #[.int .u8 122] 5 (1, 2))) := (Below.refl _ _).alloc (Nat.le_refl _) _
    have hz := hf.size
    refine (d1_append sA _ [122] hd hb2 hz ((hE.frB hf hEl).below hb2 (by omega)) (by decide) ok_a ⟨by decide, by decide⟩ ⟨by decide, by decide⟩ (fun hh => by cases hh) (rbn_const (l := [122]) rfl (by decide))).mono ?_
    rintro e w' ⟨v', rfl, he, hf', hd'⟩
    rcases he with ⟨rfl, _⟩ | ⟨hne, _⟩
    · exact ⟨rfl, hf.trans ((FrB.of_below hb2).trans hf'), hd'⟩
    · exact absurd rfl hne
  have K4 : Hid (∀ w4, FrB w.heap.size w w4 → D1 w4 w.heap.size w.heap.size ⟨10, 3, false, false, 0⟩ sA.data.toList (some ([120, 121, 122], 2)) →
      Calls Tryd.prog 20 #[.pointer (some ⟨w.heap.size, 0, none⟩), .agg #[.slice none 0 0]] w4 fun e w' => e = .returned (.tuple #[]) ∧ FrB w.heap.size w w' ∧ D1 w' w.heap.size w.heap.size ⟨10, 3, false, false, 0⟩ sA.data.toList (some ([120, 121], 2))) := by
    intro w4 hf hd
    refine (d1_crash _ [] hd (Below.refl _ _) (by decide) (keep_nil _ _) (by decide)).mono ?_
    rintro e w' ⟨rfl, hf', hd'⟩
    exact ⟨rfl, hf.trans hf', hd'⟩
  have K5 : Hid (∀ w5, FrB w.heap.size w w5 → D1 w5 w.heap.size w.heap.size ⟨10, 3, false, false, 0⟩ sA.data.toList (some ([120, 121], 2)) →
      Calls Tryd.prog 29 #[.pointer (some ⟨w.heap.size, 0, none⟩), .string sA] w5 fun e w' => ∃ a k, e = .returned (.tuple #[.slice a 2 k, .nilIface]) ∧ Below w5.heap.size w5 w' ∧ w'.ownsRow w5.heap.size 5 1 (.slice a 2 k) 2 (byteCells [120, 121]) ∧ FrB w.heap.size w w' ∧ D1 w' w.heap.size w.heap.size ⟨10, 3, false, false, 0⟩ sA.data.toList (some ([120, 121], 2))) := by
    intro w5 hf hd
    refine (d1_read sA hd (hE.frB hf hEl) (by decide) rfl).mono ?_
    rintro e w' ⟨hb, ⟨hx, _⟩ | ⟨_, d, su, v, hst, rfl, hr⟩⟩
    · rcases hx with hx | hx
      · cases hx
      · exact absurd rfl hx
    · cases hst
      obtain ⟨a, k, rfl⟩ := own_sl hr
      exact ⟨a, k, rfl, hb, hr, hf.trans (FrB.of_below hb), hd.later hb⟩
  have K6 : Hid (∀ w6, FrB w.heap.size w w6 → D1 w6 w.heap.size w.heap.size ⟨10, 3, false, false, 0⟩ sA.data.toList (some ([120, 121], 2)) →
      Calls Tryd.prog 29 #[.pointer (some ⟨w.heap.size, 0, none⟩), .string ⟨#[98]⟩] w6 fun e w' => ∃ b, e = .returned (.tuple #[.slice none 0 0, evW b]) ∧ Below w6.heap.size w6 w' ∧ ErrW w' b 30 ∧ ET w' ∧ FrB w.heap.size w w') := by
    intro w6 hf hd
    refine (d1_read ⟨#[98]⟩ hd (hE.frB hf hEl) (by decide) rfl).mono ?_
    rintro e w' ⟨hb, ⟨_, b, rfl, he⟩ | ⟨hx, _⟩⟩
    · exact ⟨b, rfl, hb, he, (hE.frB hf hEl).below hb (Nat.lt_of_lt_of_le hEl hf.size), hf.trans (FrB.of_below hb)⟩
    · exact absurd hx (by decide)
  clear hE
  go_enter Tryd.func4, Tryd.ntmps4
  go_wp2_with (first
    | (go_at_call 5; refine (unhide H0).mono ?_; rintro e w1 ⟨rfl, hd1, hb1, hz1⟩; have P1 := hide (unhide K1 w1 hd1 hb1 hz1); clear hd1 hz1)
    | (go_at_call 7; refine (unhide P1).mono ?_; clear P1; rintro e w2 ⟨rfl, hf2, hd2⟩; have P2 := hide (unhide K2 w2 hf2 hd2); clear hf2 hd2)
    | (go_at_call 10; refine (unhide P2).mono ?_; clear P2; rintro e w3 ⟨rfl, hf3, hd3⟩; have P3 := hide (unhide K3 w3 hf3 hd3); clear hf3 hd3)
    | (go_at_call 7; refine (unhide P3).mono ?_; clear P3; rintro e w4 ⟨rfl, hf4, hd4⟩; have P4 := hide (unhide K4 w4 hf4 hd4); clear hf4 hd4)
    | (go_at_call 20; refine (unhide P4).mono ?_; clear P4; rintro e w5 ⟨rfl, hf5, hd5⟩; have P5 := hide (unhide K5 w5 hf5 hd5); clear hf5 hd5)
    | (go_at_call 29; refine (unhide P5).mono ?_; clear P5; rintro e w6 ⟨a6, k6, rfl, hb6, hr6, hf6, hd6⟩; have P6 := hide (unhide K6 w6 hf6 hd6); have R6 := hide hr6; clear hf6 hd6 hr6)
    | (go_at_call 29; refine (unhide P6).mono ?_; clear P6; rintro e w7 ⟨b7, rfl, hb7, he7, hE7, hf7⟩; have c7 := conv_row (w := w7) (B := w5.heap.size) (l := [120, 121]) (ownsRow_of_same (unhide R6) (fun k hk => hb7.block k ((unhide R6).lt k hk).2)) (by decide); have P7 := hide (class_at b7 30 w7 hE7 he7); have F7 := hide hf7; clear he7 hE7 hf7)
    | (go_at_call 22; refine (unhide P7).mono ?_; clear P7; rintro e w8 ⟨rfl, hb8⟩))
  go_ret
  exact ⟨rfl, ((unhide F7).trans (FrB.of_below hb8)).below (Nat.le_refl _)⟩
end Go.Proofs.YthebgoadeecmpaaDoor
