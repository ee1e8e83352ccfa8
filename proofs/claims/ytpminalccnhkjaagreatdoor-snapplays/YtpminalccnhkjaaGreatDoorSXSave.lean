/- SnapPlays: Save, done or cut off; Load. -/
import Derived.Test.YtpminalccnhkjaaGreatDoorSXSweep
namespace Go.Proofs.YtpminalccnhkjaaGreatDoor
open Go.RowKit Go.Lib

/-- How many calls Save does: it is cut off at one of them. -/
def SaveCut (S : Dk.St) (o : Option Sn) (g : Option (List UInt8 × Nat)) (i : Nat) : Prop :=
  match o with
  | some s => if i < s.1 then Fails S else (match g with
    | none => Fails S ∨ Fails (nx S) ∨ Fails (nx (nx S))
    | some _ => Fails S ∨ Fails (nx S) ∨ Fails (nx (nx S)) ∨ Fails (nx (nx (nx S))))
  | none => match g with
    | none => Fails S ∨ Fails (nx S) ∨ Fails (nx (nx S))
    | some _ => Fails S ∨ Fails (nx S) ∨ Fails (nx (nx S)) ∨ Fails (nx (nx (nx S)))
/-- What the disk has behind a Save that is done. -/
def savedO (o : Option Sn) (s : Sn) : Option Sn := match o with
  | some x => if s.1 < x.1 then some x else some s
  | none => some s
/-- What a Save that is done leaves. -/
def SvP (w : World) (p n : Nat) (o : Option Sn) (O : Nat → Prop) (w' : World) : Prop := ∃ S' g' O', gOk g' ∧ Okk S' n ∧ Dk.DX w' p S' (FS o g') O' ∧ Dk.FrO O w w' ∧ (∀ k, O' k → O k ∨ w.heap.size ≤ k)
variable {w : World} {p n : Nat} {S : Dk.St} {O : Nat → Prop} {o : Option Sn} {g : Option (List UInt8 × Nat)}
/-- Load on the statement's disk. -/
theorem load_fs (h : Dk.DX w p S (FS o g) O) (hE : ET w) (hT : ST w) (hf : S.off = false) (ho : oOk o) :
    Calls Tryz.prog 12 #[.pointer (some ⟨p, 0, none⟩)] w fun e w' => ∃ (da : Option Addr) (m dk : Nat), (match o with
      | some s => e = .returned (.tuple #[.agg #[.int .u64 (s.1 : Int), .int .u64 (s.2.1 : Int), .slice da m dk], .bool true, .nilIface]) ∧ RBn w' w.heap.size (.slice da m dk) s.2.2
      | none => e = .returned (.tuple #[.agg #[.int .u64 0, .int .u64 0, .slice da m dk], .bool false, .nilIface]) ∧ da = none ∧ m = 0 ∧ dk = 0) ∧ Below w.heap.size w w' := by
  cases o with
  | none =>
    refine (load_none h hE hf (look_sn none g)).mono ?_
    rintro e w' ⟨rfl, hb⟩
    exact ⟨none, 0, 0, ⟨rfl, rfl, rfl, rfl⟩, hb⟩
  | some s =>
    have hs := ho s rfl
    refine (load_some (i := s.1) (t := s.2.1) (l := s.2.2) h hE hT ⟨hf, snE s, look_sn (some s) g, rfl⟩ (by have := hs.2.2; omega) hs.1 hs.2.1).mono ?_
    rintro e w' ⟨d, rfl, hd, hb⟩
    obtain ⟨a, k, rfl⟩ := hd.slice
    exact ⟨a, _, k, ⟨rfl, hd⟩, hb⟩
/- The walks of Save. -/
set_option maxHeartbeats 3200000 in
set_option maxRecDepth 100000 in
theorem save_on_false {w : World} {p i t : Nat} (v : Value) (l : List UInt8) (hT : ST w) (hv : RBp w w.heap.size v l) (hl : l.length ≤ 262080) (hi : i < 18446744073709551616) (ht : t < 18446744073709551616) (Q : Value → World → Prop)
    (HL : Hid (∀ W, Below w.heap.size w W → Calls Tryz.prog 12 #[.pointer (some ⟨p, 0, none⟩)] W fun e w' => ∃ (i0 t0 : Nat) (da : Option Addr) (n0 dk : Nat), e = .returned (.tuple #[.agg #[.int .u64 (i0 : Int), .int .u64 (t0 : Int), .slice da n0 dk], .bool false, .nilIface]) ∧ True ∧ Below W.heap.size W w'))
    (HW : Hid (∀ W v1, Below w.heap.size w W → W.ownsRow (w.heap.size + 1) 5 1 v1 (frameBytes (snB i t l)).length (byteCells (frameBytes (snB i t l))) → Calls Tryz.prog 31 #[.pointer (some ⟨p, 0, none⟩), .bool false] W fun e w3 => e = .returned .nilIface ∧ Hid (Calls Tryz.prog 32 #[.pointer (some ⟨p, 0, none⟩), v1] w3 fun e w4 => ∃ rv, e = .returned rv ∧ Hid (Q rv w4)))) :
    Calls Tryz.prog 10 #[.pointer (some ⟨p, 0, none⟩), .agg #[.int .u64 (i : Int), .int .u64 (t : Int), v]] w fun e w' => ∃ rv, e = .returned rv ∧ Q rv w' := by
  obtain ⟨ad, kk, rfl⟩ := rb_len hv
  have q1 := uvarint_length64 hi
  have q2 := uvarint_length64 ht
  have hb0 := below_alloc (B := w.heap.size) (.cells #[.int .u64 (i : Int), .int .u64 (t : Int), .slice ad l.length kk] 34) (Nat.le_refl w.heap.size)
  have hz0 : (w.alloc (.cells #[.int .u64 (i : Int), .int .u64 (t : Int), .slice ad l.length kk] 34)).heap.size = w.heap.size + 1 := by simp
  have HP := hide (pack_any i t _ l _ hi ht (rb_later hv hb0 hb0.size) hl (hT.below hb0 hT.lt))
  rw [hz0] at HP
  have HS0 := hide (Sv.new w (.int .u64 (i : Int)) (.int .u64 (t : Int)) (.slice ad l.length kk))
  have HB0 := hide hb0
  generalize frameBytes (snB i t l) = fb at *
  clear hb0 hz0 hT hv q1 q2
  go_enter Tryz.func10, Tryz.ntmps10
  go_upto_region 4 with (first
    | (go_at_call 30; refine (unhide HP).mono ?_; rintro e w1 ⟨v1, rfl, o1, b1⟩; clear HP; have HO1 := hide o1; have HC1 := hide ((unhide HB0).trans (b1.mono (Nat.le_succ _))); have HS1 := hide ((unhide HS0).below b1 (Nat.lt_succ_self _)); clear o1 b1))
  go_upto_region 7 with (first
    | (go_at_call 12; refine (unhide HL _ (unhide HC1)).mono ?_; rintro e w2 ⟨i0, t0, da, n0, dk, rfl, hi0, b2⟩; clear HL; have HC2 := hide (bt (unhide HC1) b2); have HS2 := hide ((unhide HS1).below b2 (unhide HS1).lt); have HO2 := hide (own_later (unhide HO1) b2); clear b2))
  have hb3 := below_alloc (B := w2.heap.size) (.cells #[.int .u64 (i0 : Int), .int .u64 (t0 : Int), .slice da n0 dk] 34) (Nat.le_refl w2.heap.size)
  obtain ⟨f0, f1, f2, f3, f4, f5⟩ := ((unhide HS2).below hb3 (unhide HS2).lt).cells
  have HC3 := hide (bt (unhide HC2) hb3)
  have HO3 := hide (own_later (unhide HO2) hb3)
  clear hb3
  go_wp2_with (first
    | (go_at_call 31; refine (unhide HW _ _ (unhide HC3) (unhide HO3)).mono ?_; rintro e w3 ⟨rfl, H3⟩; clear HW)
    | (go_at_call 32; refine (unhide H3).mono ?_; rintro e w4 ⟨rv, rfl, H4⟩; clear H3))
  go_ret
  exact ⟨rv, rfl, unhide H4⟩
set_option maxHeartbeats 3200000 in
set_option maxRecDepth 100000 in
theorem save_cut_false {w : World} {p i t : Nat} (v : Value) (l : List UInt8) (hT : ST w) (hv : RBp w w.heap.size v l) (hl : l.length ≤ 262080) (hi : i < 18446744073709551616) (ht : t < 18446744073709551616) (Q : Value → World → Prop)
    (HL : Hid (∀ W, Below w.heap.size w W → Calls Tryz.prog 12 #[.pointer (some ⟨p, 0, none⟩)] W fun e w' => ∃ (i0 t0 : Nat) (da : Option Addr) (n0 dk : Nat), e = .returned (.tuple #[.agg #[.int .u64 (i0 : Int), .int .u64 (t0 : Int), .slice da n0 dk], .bool false, .nilIface]) ∧ True ∧ Below W.heap.size W w'))
    (HW : Hid (∀ W, Below w.heap.size w W → Calls Tryz.prog 31 #[.pointer (some ⟨p, 0, none⟩), .bool false] W fun e w3 => ∃ b, e = .returned (Dk.evW b) ∧ Hid (Q (Dk.evW b) w3))) :
    Calls Tryz.prog 10 #[.pointer (some ⟨p, 0, none⟩), .agg #[.int .u64 (i : Int), .int .u64 (t : Int), v]] w fun e w' => ∃ rv, e = .returned rv ∧ Q rv w' := by
  obtain ⟨ad, kk, rfl⟩ := rb_len hv
  have q1 := uvarint_length64 hi
  have q2 := uvarint_length64 ht
  have hb0 := below_alloc (B := w.heap.size) (.cells #[.int .u64 (i : Int), .int .u64 (t : Int), .slice ad l.length kk] 34) (Nat.le_refl w.heap.size)
  have hz0 : (w.alloc (.cells #[.int .u64 (i : Int), .int .u64 (t : Int), .slice ad l.length kk] 34)).heap.size = w.heap.size + 1 := by simp
  have HP := hide (pack_any i t _ l _ hi ht (rb_later hv hb0 hb0.size) hl (hT.below hb0 hT.lt))
  rw [hz0] at HP
  have HS0 := hide (Sv.new w (.int .u64 (i : Int)) (.int .u64 (t : Int)) (.slice ad l.length kk))
  have HB0 := hide hb0
  generalize frameBytes (snB i t l) = fb at *
  clear hb0 hz0 hT hv q1 q2
  go_enter Tryz.func10, Tryz.ntmps10
  go_upto_region 4 with (first
    | (go_at_call 30; refine (unhide HP).mono ?_; rintro e w1 ⟨v1, rfl, o1, b1⟩; clear HP; have HO1 := hide o1; have HC1 := hide ((unhide HB0).trans (b1.mono (Nat.le_succ _))); have HS1 := hide ((unhide HS0).below b1 (Nat.lt_succ_self _)); clear o1 b1))
  go_upto_region 7 with (first
    | (go_at_call 12; refine (unhide HL _ (unhide HC1)).mono ?_; rintro e w2 ⟨i0, t0, da, n0, dk, rfl, hi0, b2⟩; clear HL; have HC2 := hide (bt (unhide HC1) b2); have HS2 := hide ((unhide HS1).below b2 (unhide HS1).lt); have HO2 := hide (own_later (unhide HO1) b2); clear b2))
  have hb3 := below_alloc (B := w2.heap.size) (.cells #[.int .u64 (i0 : Int), .int .u64 (t0 : Int), .slice da n0 dk] 34) (Nat.le_refl w2.heap.size)
  obtain ⟨f0, f1, f2, f3, f4, f5⟩ := ((unhide HS2).below hb3 (unhide HS2).lt).cells
  have HC3 := hide (bt (unhide HC2) hb3)
  have HO3 := hide (own_later (unhide HO2) hb3)
  clear hb3
  go_wp2_with (first
    | (go_at_call 31; refine (unhide HW _ (unhide HC3)).mono ?_; rintro e w3 ⟨b, rfl, H3⟩; clear HW))
  go_ret
  exact ⟨_, rfl, unhide H3⟩
set_option maxHeartbeats 3200000 in
set_option maxRecDepth 100000 in
theorem save_on_true {w : World} {p i t : Nat} (v : Value) (l : List UInt8) (hT : ST w) (hv : RBp w w.heap.size v l) (hl : l.length ≤ 262080) (hi : i < 18446744073709551616) (ht : t < 18446744073709551616) (Q : Value → World → Prop)
    (HL : Hid (∀ W, Below w.heap.size w W → Calls Tryz.prog 12 #[.pointer (some ⟨p, 0, none⟩)] W fun e w' => ∃ (i0 t0 : Nat) (da : Option Addr) (n0 dk : Nat), e = .returned (.tuple #[.agg #[.int .u64 (i0 : Int), .int .u64 (t0 : Int), .slice da n0 dk], .bool true, .nilIface]) ∧ ¬ i < i0 ∧ Below W.heap.size W w'))
    (HW : Hid (∀ W v1, Below w.heap.size w W → W.ownsRow (w.heap.size + 1) 5 1 v1 (frameBytes (snB i t l)).length (byteCells (frameBytes (snB i t l))) → Calls Tryz.prog 31 #[.pointer (some ⟨p, 0, none⟩), .bool true] W fun e w3 => e = .returned .nilIface ∧ Hid (Calls Tryz.prog 32 #[.pointer (some ⟨p, 0, none⟩), v1] w3 fun e w4 => ∃ rv, e = .returned rv ∧ Hid (Q rv w4)))) :
    Calls Tryz.prog 10 #[.pointer (some ⟨p, 0, none⟩), .agg #[.int .u64 (i : Int), .int .u64 (t : Int), v]] w fun e w' => ∃ rv, e = .returned rv ∧ Q rv w' := by
  obtain ⟨ad, kk, rfl⟩ := rb_len hv
  have q1 := uvarint_length64 hi
  have q2 := uvarint_length64 ht
  have hb0 := below_alloc (B := w.heap.size) (.cells #[.int .u64 (i : Int), .int .u64 (t : Int), .slice ad l.length kk] 34) (Nat.le_refl w.heap.size)
  have hz0 : (w.alloc (.cells #[.int .u64 (i : Int), .int .u64 (t : Int), .slice ad l.length kk] 34)).heap.size = w.heap.size + 1 := by simp
  have HP := hide (pack_any i t _ l _ hi ht (rb_later hv hb0 hb0.size) hl (hT.below hb0 hT.lt))
  rw [hz0] at HP
  have HS0 := hide (Sv.new w (.int .u64 (i : Int)) (.int .u64 (t : Int)) (.slice ad l.length kk))
  have HB0 := hide hb0
  generalize frameBytes (snB i t l) = fb at *
  clear hb0 hz0 hT hv q1 q2
  go_enter Tryz.func10, Tryz.ntmps10
  go_upto_region 4 with (first
    | (go_at_call 30; refine (unhide HP).mono ?_; rintro e w1 ⟨v1, rfl, o1, b1⟩; clear HP; have HO1 := hide o1; have HC1 := hide ((unhide HB0).trans (b1.mono (Nat.le_succ _))); have HS1 := hide ((unhide HS0).below b1 (Nat.lt_succ_self _)); clear o1 b1))
  go_upto_region 7 with (first
    | (go_at_call 12; refine (unhide HL _ (unhide HC1)).mono ?_; rintro e w2 ⟨i0, t0, da, n0, dk, rfl, hi0, b2⟩; clear HL; have HC2 := hide (bt (unhide HC1) b2); have HS2 := hide ((unhide HS1).below b2 (unhide HS1).lt); have HO2 := hide (own_later (unhide HO1) b2); clear b2))
  have hb3 := below_alloc (B := w2.heap.size) (.cells #[.int .u64 (i0 : Int), .int .u64 (t0 : Int), .slice da n0 dk] 34) (Nat.le_refl w2.heap.size)
  obtain ⟨f0, f1, f2, f3, f4, f5⟩ := ((unhide HS2).below hb3 (unhide HS2).lt).cells
  have HC3 := hide (bt (unhide HC2) hb3)
  have HO3 := hide (own_later (unhide HO2) hb3)
  clear hb3
  have hgt : ¬ ((i : Int) < (i0 : Int)) := by omega
  go_wp2_with (first
    | (go_at_call 31; refine (unhide HW _ _ (unhide HC3) (unhide HO3)).mono ?_; rintro e w3 ⟨rfl, H3⟩; clear HW)
    | (go_at_call 32; refine (unhide H3).mono ?_; rintro e w4 ⟨rv, rfl, H4⟩; clear H3))
  go_ret
  exact ⟨rv, rfl, unhide H4⟩
set_option maxHeartbeats 3200000 in
set_option maxRecDepth 100000 in
theorem save_cut_true {w : World} {p i t : Nat} (v : Value) (l : List UInt8) (hT : ST w) (hv : RBp w w.heap.size v l) (hl : l.length ≤ 262080) (hi : i < 18446744073709551616) (ht : t < 18446744073709551616) (Q : Value → World → Prop)
    (HL : Hid (∀ W, Below w.heap.size w W → Calls Tryz.prog 12 #[.pointer (some ⟨p, 0, none⟩)] W fun e w' => ∃ (i0 t0 : Nat) (da : Option Addr) (n0 dk : Nat), e = .returned (.tuple #[.agg #[.int .u64 (i0 : Int), .int .u64 (t0 : Int), .slice da n0 dk], .bool true, .nilIface]) ∧ ¬ i < i0 ∧ Below W.heap.size W w'))
    (HW : Hid (∀ W, Below w.heap.size w W → Calls Tryz.prog 31 #[.pointer (some ⟨p, 0, none⟩), .bool true] W fun e w3 => ∃ b, e = .returned (Dk.evW b) ∧ Hid (Q (Dk.evW b) w3))) :
    Calls Tryz.prog 10 #[.pointer (some ⟨p, 0, none⟩), .agg #[.int .u64 (i : Int), .int .u64 (t : Int), v]] w fun e w' => ∃ rv, e = .returned rv ∧ Q rv w' := by
  obtain ⟨ad, kk, rfl⟩ := rb_len hv
  have q1 := uvarint_length64 hi
  have q2 := uvarint_length64 ht
  have hb0 := below_alloc (B := w.heap.size) (.cells #[.int .u64 (i : Int), .int .u64 (t : Int), .slice ad l.length kk] 34) (Nat.le_refl w.heap.size)
  have hz0 : (w.alloc (.cells #[.int .u64 (i : Int), .int .u64 (t : Int), .slice ad l.length kk] 34)).heap.size = w.heap.size + 1 := by simp
  have HP := hide (pack_any i t _ l _ hi ht (rb_later hv hb0 hb0.size) hl (hT.below hb0 hT.lt))
  rw [hz0] at HP
  have HS0 := hide (Sv.new w (.int .u64 (i : Int)) (.int .u64 (t : Int)) (.slice ad l.length kk))
  have HB0 := hide hb0
  generalize frameBytes (snB i t l) = fb at *
  clear hb0 hz0 hT hv q1 q2
  go_enter Tryz.func10, Tryz.ntmps10
  go_upto_region 4 with (first
    | (go_at_call 30; refine (unhide HP).mono ?_; rintro e w1 ⟨v1, rfl, o1, b1⟩; clear HP; have HO1 := hide o1; have HC1 := hide ((unhide HB0).trans (b1.mono (Nat.le_succ _))); have HS1 := hide ((unhide HS0).below b1 (Nat.lt_succ_self _)); clear o1 b1))
  go_upto_region 7 with (first
    | (go_at_call 12; refine (unhide HL _ (unhide HC1)).mono ?_; rintro e w2 ⟨i0, t0, da, n0, dk, rfl, hi0, b2⟩; clear HL; have HC2 := hide (bt (unhide HC1) b2); have HS2 := hide ((unhide HS1).below b2 (unhide HS1).lt); have HO2 := hide (own_later (unhide HO1) b2); clear b2))
  have hb3 := below_alloc (B := w2.heap.size) (.cells #[.int .u64 (i0 : Int), .int .u64 (t0 : Int), .slice da n0 dk] 34) (Nat.le_refl w2.heap.size)
  obtain ⟨f0, f1, f2, f3, f4, f5⟩ := ((unhide HS2).below hb3 (unhide HS2).lt).cells
  have HC3 := hide (bt (unhide HC2) hb3)
  have HO3 := hide (own_later (unhide HO2) hb3)
  clear hb3
  have hgt : ¬ ((i : Int) < (i0 : Int)) := by omega
  go_wp2_with (first
    | (go_at_call 31; refine (unhide HW _ (unhide HC3)).mono ?_; rintro e w3 ⟨b, rfl, H3⟩; clear HW))
  go_ret
  exact ⟨_, rfl, unhide H3⟩
set_option maxHeartbeats 3200000 in
set_option maxRecDepth 100000 in
theorem save_old {w : World} {p i t : Nat} (v : Value) (l : List UInt8) (hT : ST w) (hv : RBp w w.heap.size v l) (hl : l.length ≤ 262080) (hi : i < 18446744073709551616) (ht : t < 18446744073709551616) (Q : Value → World → Prop)
    (HL : Hid (∀ W, Below w.heap.size w W → Calls Tryz.prog 12 #[.pointer (some ⟨p, 0, none⟩)] W fun e w' => ∃ (i0 t0 : Nat) (da : Option Addr) (n0 dk : Nat), e = .returned (.tuple #[.agg #[.int .u64 (i0 : Int), .int .u64 (t0 : Int), .slice da n0 dk], .bool true, .nilIface]) ∧ i < i0 ∧ Below W.heap.size W w'))
    (HW : Hid (∀ W, Below w.heap.size w W → Calls Tryz.prog 9 #[.pointer (some ⟨p, 0, none⟩), .string snN] W fun e w3 => ∃ rv, e = .returned rv ∧ Hid (Q rv w3))) :
    Calls Tryz.prog 10 #[.pointer (some ⟨p, 0, none⟩), .agg #[.int .u64 (i : Int), .int .u64 (t : Int), v]] w fun e w' => ∃ rv, e = .returned rv ∧ Q rv w' := by
  obtain ⟨ad, kk, rfl⟩ := rb_len hv
  have q1 := uvarint_length64 hi
  have q2 := uvarint_length64 ht
  have hb0 := below_alloc (B := w.heap.size) (.cells #[.int .u64 (i : Int), .int .u64 (t : Int), .slice ad l.length kk] 34) (Nat.le_refl w.heap.size)
  have hz0 : (w.alloc (.cells #[.int .u64 (i : Int), .int .u64 (t : Int), .slice ad l.length kk] 34)).heap.size = w.heap.size + 1 := by simp
  have HP := hide (pack_any i t _ l _ hi ht (rb_later hv hb0 hb0.size) hl (hT.below hb0 hT.lt))
  rw [hz0] at HP
  have HS0 := hide (Sv.new w (.int .u64 (i : Int)) (.int .u64 (t : Int)) (.slice ad l.length kk))
  have HB0 := hide hb0
  generalize frameBytes (snB i t l) = fb at *
  clear hb0 hz0 hT hv q1 q2
  go_enter Tryz.func10, Tryz.ntmps10
  go_upto_region 4 with (first
    | (go_at_call 30; refine (unhide HP).mono ?_; rintro e w1 ⟨v1, rfl, o1, b1⟩; clear HP; have HO1 := hide o1; have HC1 := hide ((unhide HB0).trans (b1.mono (Nat.le_succ _))); have HS1 := hide ((unhide HS0).below b1 (Nat.lt_succ_self _)); clear o1 b1))
  go_upto_region 7 with (first
    | (go_at_call 12; refine (unhide HL _ (unhide HC1)).mono ?_; rintro e w2 ⟨i0, t0, da, n0, dk, rfl, hi0, b2⟩; clear HL; have HC2 := hide (bt (unhide HC1) b2); have HS2 := hide ((unhide HS1).below b2 (unhide HS1).lt); have HO2 := hide (own_later (unhide HO1) b2); clear b2))
  have hb3 := below_alloc (B := w2.heap.size) (.cells #[.int .u64 (i0 : Int), .int .u64 (t0 : Int), .slice da n0 dk] 34) (Nat.le_refl w2.heap.size)
  obtain ⟨f0, f1, f2, f3, f4, f5⟩ := ((unhide HS2).below hb3 (unhide HS2).lt).cells
  have HC3 := hide (bt (unhide HC2) hb3)
  have HO3 := hide (own_later (unhide HO2) hb3)
  clear hb3
  have hgt : (i : Int) < (i0 : Int) := by omega
  unfold snN at HW
  go_wp2_with (first
    | (go_at_call 9; refine (unhide HW _ (unhide HC3)).mono ?_; rintro e w3 ⟨rv, rfl, H3⟩; clear HW))
  go_ret
  exact ⟨rv, rfl, unhide H3⟩
end Go.Proofs.YtpminalccnhkjaaGreatDoor
