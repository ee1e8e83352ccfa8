/- Package snap's Save on a disk that goes on. -/
import Derived.Test.YtpminalccnhkjaaGreatDoorSLoad
import Derived.Test.YtpminalccnhkjaaGreatDoorJSPreSRepSSweep
namespace Go.Proofs.YtpminalccnhkjaaGreatDoor
open Go.RowKit Go.Lib

theorem rbo_own {w : World} {B : Nat} {v : Value} {l : List UInt8} {O : Nat → Prop} (h : w.ownsRow B 5 1 v l.length (byteCells l)) (hO : ∀ k, O k → k < B) (hl : l.length ≤ 1000000000) : Dk.RBo w O v l := by
  by_cases hne : l = []
  · subst hne
    rcases h.2 with ⟨rfl, _⟩ | ⟨g, cap, cur, rfl, hB, hc, h1, h2, _⟩
    · exact ⟨hl, .inl ⟨rfl, rfl⟩⟩
    · exact ⟨hl, .inr ⟨g, 0, cap, (Array.getElem?_eq_some_iff.1 hc).1, fun hk => absurd (hO g hk) (Nat.not_lt.2 hB), h1, h2, rfl, fun i hi => by simp at hi⟩⟩
  · obtain ⟨g, cap, rfl, hB, hg, h1, h2, hc⟩ := own_open h hne
    exact ⟨hl, .inr ⟨g, 0, cap, hg, fun hk => absurd (hO g hk) (Nat.not_lt.2 hB), h1, h2, rfl, hc⟩⟩

/-- What the disk has: a whole snapshot, not newer than i, or none. -/
def Older (S : Dk.St) (F : List Dk.Ent) (th : Bool) (i : Nat) : Prop :=
  (th = false ∧ Dk.look F snN.data.toList = none) ∨ (th = true ∧ ∃ i0 t0 l0, Has S F i0 t0 l0 ∧ i0 ≤ i ∧ t0 < 18446744073709551616 ∧ l0.length ≤ 262080)

theorem load_older {w : World} {p : Nat} {S : Dk.St} {F : List Dk.Ent} {O : Nat → Prop} {th : Bool} {i : Nat} (h : Dk.DX w p S F O) (hE : ET w) (hT : ST w) (ho : S.off = false) (hH : Older S F th i) (hi : i < 18446744073709551616) :
    Calls Tryz.prog 12 #[.pointer (some ⟨p, 0, none⟩)] w fun e w' => ∃ (i0 t0 : Nat) (da : Option Addr) (n0 dk : Nat), e = .returned (.tuple #[.agg #[.int .u64 (i0 : Int), .int .u64 (t0 : Int), .slice da n0 dk], .bool th, .nilIface]) ∧ i0 ≤ i ∧ Below w.heap.size w w' := by
  rcases hH with ⟨rfl, hx⟩ | ⟨rfl, i0, t0, l0, hx, h1, h2, h3⟩
  · refine (load_none h hE ho hx).mono ?_
    rintro e w' ⟨rfl, hb⟩
    exact ⟨0, 0, none, 0, 0, rfl, Nat.zero_le _, hb⟩
  · refine (load_some h hE hT hx h3 (by omega) h2).mono ?_
    rintro e w' ⟨d, rfl, hd, hb⟩
    obtain ⟨a, k, rfl⟩ := hd.slice
    exact ⟨i0, t0, a, _, k, rfl, h1, hb⟩

set_option maxHeartbeats 6400000 in
set_option maxRecDepth 100000 in
theorem save_ok {w : World} {p : Nat} {S : Dk.St} {F : List Dk.Ent} {O : Nat → Prop} {n i t : Nat} {th : Bool} (v : Value) (l : List UInt8) (h : Dk.DX w p S F O) (hE : ET w) (hT : ST w) (hEO : ¬ O 0) (hU : Dk.Up1 S (n + 3)) (hv : RBp w w.heap.size v l) (hl : l.length ≤ 262080) (hi : i < 18446744073709551616) (ht : t < 18446744073709551616)
    (hH : Older S F th i) (hk : ∀ e ∈ F, keepN th e.name = true) (hn : ∀ e ∈ F, e.name.length ≤ 1000) (hno : Dk.look F nwN.data.toList = none) (hok : Dk.appC S F nwN.data.toList (frameBytes (snB i t l)).length = 0) :
    Calls Tryz.prog 10 #[.pointer (some ⟨p, 0, none⟩), .agg #[.int .u64 (i : Int), .int .u64 (t : Int), v]] w fun e w' => ∃ O', e = .returned .nilIface ∧ Dk.DX w' p (Dk.more S 3) (Dk.putE (Dk.fl snN.data.toList (frameBytes (snB i t l)) (frameBytes (snB i t l)).length) F) O' ∧ Dk.FrO O w w' ∧ (∀ k, O' k → O k ∨ w.heap.size ≤ k) := by
  obtain ⟨ad, kk, rfl⟩ := rb_len hv
  have q1 := uvarint_length64 hi
  have q2 := uvarint_length64 ht
  have hfl : (frameBytes (snB i t l)).length ≤ 1000000000 := by simp [frameBytes, word4_length, snB]; omega
  have hb0 := below_alloc (B := w.heap.size) (.cells #[.int .u64 (i : Int), .int .u64 (t : Int), .slice ad l.length kk] 34) (Nat.le_refl w.heap.size)
  have hz0 : (w.alloc (.cells #[.int .u64 (i : Int), .int .u64 (t : Int), .slice ad l.length kk] 34)).heap.size = w.heap.size + 1 := by simp
  have HP := hide (pack_any i t _ l _ hi ht (rb_later hv hb0 hb0.size) hl (hT.below hb0 hT.lt))
  have HL : Hid (∀ W, Below w.heap.size w W → Calls Tryz.prog 12 #[.pointer (some ⟨p, 0, none⟩)] W fun e w' => ∃ (i0 t0 : Nat) (da : Option Addr) (n0 dk : Nat), e = .returned (.tuple #[.agg #[.int .u64 (i0 : Int), .int .u64 (t0 : Int), .slice da n0 dk], .bool th, .nilIface]) ∧ i0 ≤ i ∧ Below W.heap.size W w') := fun W hb => load_older (h.below hb) (hE.below hb hE.lt) (hT.below hb hT.lt) hU.1 hH hi
  have HW : Hid (∀ W, Below w.heap.size w W → Calls Tryz.prog 31 #[.pointer (some ⟨p, 0, none⟩), .bool th] W fun e w' => e = .returned .nilIface ∧ Below W.heap.size W w') := fun W hb => sweep_keep th (h.below hb) hk hn
  obtain ⟨fb, hfb⟩ : ∃ x, x = frameBytes (snB i t l) := ⟨_, rfl⟩
  rw [← hfb] at HP hok hfl ⊢
  have HR : Hid (∀ W v1, Below w.heap.size w W → W.ownsRow (w.alloc (.cells #[.int .u64 (i : Int), .int .u64 (t : Int), .slice ad l.length kk] 34)).heap.size 5 1 v1 fb.length (byteCells fb) → Calls Tryz.prog 32 #[.pointer (some ⟨p, 0, none⟩), v1] W fun e w' => ∃ O', e = .returned .nilIface ∧ Dk.DX w' p (Dk.more S 3) (Dk.putE (Dk.fl snN.data.toList fb fb.length) F) O' ∧ Dk.FrO O W w' ∧ (∀ k, O' k → O k ∨ W.heap.size ≤ k)) :=
    fun W v1 hb ho => replace_ok v1 fb (h.below hb) (hE.below hb hE.lt) hEO hU (rbo_own ho (fun k hk => by rw [hz0]; exact Nat.lt_succ_of_lt (h.lt k hk)) hfl) hno hok
  have HS0 := hide (Sv.new w (.int .u64 (i : Int)) (.int .u64 (t : Int)) (.slice ad l.length kk))
  have HB0 := hide hb0
  clear hb0 hz0 h hE hT hEO hU hv hH hk hn hno hok hfb hfl
  cases th
  case false =>
    go_enter Tryz.func10, Tryz.ntmps10
    go_upto_region 4 with (first
      | (go_at_call 30; refine (unhide HP).mono ?_; rintro e w1 ⟨v1, rfl, o1, b1⟩; clear HP; have HO1 := hide o1; have HB1 := hide b1; have HC1 := hide (bt (unhide HB0) b1); clear o1 b1))
    go_upto_region 7 with (first
      | (go_at_call 12; refine (unhide HL _ (unhide HC1)).mono ?_; rintro e w2 ⟨i0, t0, da, n0, dk, rfl, hi0, b2⟩; clear HL; have HB2 := hide b2; have HC2 := hide (bt (unhide HC1) b2); have HS2 := hide (((unhide HS0).later (unhide HB1)).later b2); clear b2))
    have hb3 := below_alloc (B := w2.heap.size) (.cells #[.int .u64 (i0 : Int), .int .u64 (t0 : Int), .slice da n0 dk] 34) (Nat.le_refl w2.heap.size)
    obtain ⟨f0, f1, f2, f3, f4, f5⟩ := ((unhide HS2).later hb3).cells
    have HC3 := hide (bt (unhide HC2) hb3)
    have HB3 := hide (bt (unhide HB2) hb3)
    clear hb3
    go_wp2_with (first
      | (go_at_call 31; refine (unhide HW _ (unhide HC3)).mono ?_; rintro e w3 ⟨rfl, b4⟩; clear HW; have HC4 := hide (bt (unhide HC3) b4); have HO4 := hide (own_later (unhide HO1) (bt (unhide HB3) b4)); clear b4)
      | (go_at_call 32; refine (unhide HR _ _ (unhide HC4) (unhide HO4)).mono ?_; rintro e w4 ⟨O4, rfl, d4, f4', o4⟩; clear HR))
    go_ret
    refine ⟨O4, rfl, d4, (Dk.FrO.of_below (unhide HC4)).trans f4' (fun k _ hk => hk), fun k hk => (o4 k hk).elim .inl (fun hx => .inr (Nat.le_trans (unhide HC4).size hx))⟩
  case true =>
    go_enter Tryz.func10, Tryz.ntmps10
    go_upto_region 4 with (first
      | (go_at_call 30; refine (unhide HP).mono ?_; rintro e w1 ⟨v1, rfl, o1, b1⟩; clear HP; have HO1 := hide o1; have HB1 := hide b1; have HC1 := hide (bt (unhide HB0) b1); clear o1 b1))
    go_upto_region 7 with (first
      | (go_at_call 12; refine (unhide HL _ (unhide HC1)).mono ?_; rintro e w2 ⟨i0, t0, da, n0, dk, rfl, hi0, b2⟩; clear HL; have HB2 := hide b2; have HC2 := hide (bt (unhide HC1) b2); have HS2 := hide (((unhide HS0).later (unhide HB1)).later b2); clear b2))
    have hb3 := below_alloc (B := w2.heap.size) (.cells #[.int .u64 (i0 : Int), .int .u64 (t0 : Int), .slice da n0 dk] 34) (Nat.le_refl w2.heap.size)
    obtain ⟨f0, f1, f2, f3, f4, f5⟩ := ((unhide HS2).later hb3).cells
    have HC3 := hide (bt (unhide HC2) hb3)
    have HB3 := hide (bt (unhide HB2) hb3)
    clear hb3
    have hgt : ¬ ((i : Int) < (i0 : Int)) := by omega
    go_wp2_with (first
      | (go_at_call 31; refine (unhide HW _ (unhide HC3)).mono ?_; rintro e w3 ⟨rfl, b4⟩; clear HW; have HC4 := hide (bt (unhide HC3) b4); have HO4 := hide (own_later (unhide HO1) (bt (unhide HB3) b4)); clear b4)
      | (go_at_call 32; refine (unhide HR _ _ (unhide HC4) (unhide HO4)).mono ?_; rintro e w4 ⟨O4, rfl, d4, f4', o4⟩; clear HR))
    go_ret
    refine ⟨O4, rfl, d4, (Dk.FrO.of_below (unhide HC4)).trans f4' (fun k _ hk => hk), fun k hk => (o4 k hk).elim .inl (fun hx => .inr (Nat.le_trans (unhide HC4).size hx))⟩
end Go.Proofs.YtpminalccnhkjaaGreatDoor
