/- Package snap's Save on a disk that goes on. -/
import Derived.Test.YtpminalccnhkjaaGreatDoorSLoad
import Derived.Test.YtpminalccnhkjaaGreatDoorJDAbs2SPreSOkSRepSSweep
import Derived.Test.YtpminalccnhkjaaGreatDoorDOne
import Derived.Lib.SlBytesConst
import Derived.Test.YtpminalccnhkjaaGreatDoorSChunk
namespace Go.Proofs.YtpminalccnhkjaaGreatDoor
open Go.RowKit Go.Lib

theorem rbo_own {w : World} {B : Nat} {v : Value} {l : List UInt8} {O : Nat → Prop} (h : w.ownsRow B 5 1 v l.length (byteCells l)) (hO : ∀ k, O k → k < B) (hl : l.length ≤ 1000000000) : Dk.RBo w O v l := by
  by_cases hne : l = []
  · subst hne
    rcases h.2 with ⟨rfl, _⟩ | ⟨g, cap, cur, rfl, hB, hc, h1, h2, _⟩
    · exact ⟨hl, .inl ⟨rfl, rfl⟩⟩
    · exact ⟨hl, .inr ⟨g, 0, cap, (Array.getElem?_eq_some_iff.1 hc).1, fun hk => absurd (hO g hk) (Nat.not_lt.2 hB), h1, h2, rfl, fun i hi => by simp at hi⟩⟩
  · obtain ⟨g, cap, rfl, hB, hg, h1, h2, hc⟩ := own_open h hne
    exact ⟨hl, .inr ⟨g, 0, cap, hg, fun hk => absurd (hO g hk) (Nat.not_lt.2 hB), h1, h2, rfl, hc⟩⟩

/-- What the disk has: a whole snapshot, not newer than i, or none. -/
def Older (S : Dk.St) (F : List Dk.Ent) (th : Bool) (i : Nat) : Prop :=
  (th = false ∧ Dk.look F snN.data.toList = none) ∨ (th = true ∧ ∃ i0 t0 l0, Has S F i0 t0 l0 ∧ i0 ≤ i ∧ t0 < 18446744073709551616 ∧ l0.length ≤ 262080)

theorem load_older {w : World} {p : Nat} {S : Dk.St} {F : List Dk.Ent} {O : Nat → Prop} {th : Bool} {i : Nat} (h : Dk.DX w p S F O) (hE : ET w) (hT : ST w) (ho : S.off = false) (hH : Older S F th i) (hi : i < 18446744073709551616) :
    Calls Tryz.prog 12 #[.pointer (some ⟨p, 0, none⟩)] w fun e w' => ∃ (i0 t0 : Nat) (da : Option Addr) (n0 dk : Nat), e = .returned (.tuple #[.agg #[.int .u64 (i0 : Int), .int .u64 (t0 : Int), .slice da n0 dk], .bool th, .nilIface]) ∧ i0 ≤ i ∧ Below w.heap.size w w' := by
  rcases hH with ⟨rfl, hx⟩ | ⟨rfl, i0, t0, l0, hx, h1, h2, h3⟩
  · refine (load_none h hE ho hx).mono ?_
    rintro e w' ⟨rfl, hb⟩
    exact ⟨0, 0, none, 0, 0, rfl, Nat.zero_le _, hb⟩
  · refine (load_some h hE hT hx h3 (by omega) h2).mono ?_
    rintro e w' ⟨d, rfl, hd, hb⟩
    obtain ⟨a, k, rfl⟩ := hd.slice
    exact ⟨i0, t0, a, _, k, rfl, h1, hb⟩

set_option maxHeartbeats 6400000 in
set_option maxRecDepth 100000 in
theorem save_ok {w : World} {p : Nat} {S : Dk.St} {F : List Dk.Ent} {O : Nat → Prop} {n i t : Nat} {th : Bool} (v : Value) (l : List UInt8) (h : Dk.DX w p S F O) (hE : ET w) (hT : ST w) (hEO : ¬ O 0) (hU : Dk.Up1 S (n + 3)) (hv : RBp w w.heap.size v l) (hl : l.length ≤ 262080) (hi : i < 18446744073709551616) (ht : t < 18446744073709551616)
    (hH : Older S F th i) (hk : ∀ e ∈ F, keepN th e.name = true) (hn : ∀ e ∈ F, e.name.length ≤ 1000) (hno : Dk.look F nwN.data.toList = none) (hok : Dk.appC S F nwN.data.toList (frameBytes (snB i t l)).length = 0) :
    Calls Tryz.prog 10 #[.pointer (some ⟨p, 0, none⟩), .agg #[.int .u64 (i : Int), .int .u64 (t : Int), v]] w fun e w' => ∃ O', e = .returned .nilIface ∧ Dk.DX w' p (Dk.more S 3) (Dk.putE (Dk.fl snN.data.toList (frameBytes (snB i t l)) (frameBytes (snB i t l)).length) F) O' ∧ Dk.FrO O w w' ∧ (∀ k, O' k → O k ∨ w.heap.size ≤ k) := by
  obtain ⟨ad, kk, rfl⟩ := rb_len hv
  have q1 := uvarint_length64 hi
  have q2 := uvarint_length64 ht
  have hfl : (frameBytes (snB i t l)).length ≤ 1000000000 := by simp [frameBytes, word4_length, snB]; omega
  have hb0 := below_alloc (B := w.heap.size) (.cells #[.int .u64 (i : Int), .int .u64 (t : Int), .slice ad l.length kk] 34) (Nat.le_refl w.heap.size)
  have hz0 : (w.alloc (.cells #[.int .u64 (i : Int), .int .u64 (t : Int), .slice ad l.length kk] 34)).heap.size = w.heap.size + 1 := by simp
  have HP := hide (pack_any i t _ l _ hi ht (rb_later hv hb0 hb0.size) hl (hT.below hb0 hT.lt))
  have HL : Hid (∀ W, Below w.heap.size w W → Calls Tryz.prog 12 #[.pointer (some ⟨p, 0, none⟩)] W fun e w' => ∃ (i0 t0 : Nat) (da : Option Addr) (n0 dk : Nat), e = .returned (.tuple #[.agg #[.int .u64 (i0 : Int), .int .u64 (t0 : Int), .slice da n0 dk], .bool th, .nilIface]) ∧ i0 ≤ i ∧ Below W.heap.size W w') := fun W hb => load_older (h.below hb) (hE.below hb hE.lt) (hT.below hb hT.lt) hU.1 hH hi
  have HW : Hid (∀ W, Below w.heap.size w W → Calls Tryz.prog 31 #[.pointer (some ⟨p, 0, none⟩), .bool th] W fun e w' => e = .returned .nilIface ∧ Below W.heap.size W w') := fun W hb => sweep_keep th (h.below hb) hk hn
  obtain ⟨fb, hfb⟩ : ∃ x, x = frameBytes (snB i t l) := ⟨_, rfl⟩
  rw [← hfb] at HP hok hfl ⊢
  have HR : Hid (∀ W v1, Below w.heap.size w W → W.ownsRow (w.alloc (.cells #[.int .u64 (i : Int), .int .u64 (t : Int), .slice ad l.length kk] 34)).heap.size 5 1 v1 fb.length (byteCells fb) → Calls Tryz.prog 32 #[.pointer (some ⟨p, 0, none⟩), v1] W fun e w' => ∃ O', e = .returned .nilIface ∧ Dk.DX w' p (Dk.more S 3) (Dk.putE (Dk.fl snN.data.toList fb fb.length) F) O' ∧ Dk.FrO O W w' ∧ (∀ k, O' k → O k ∨ W.heap.size ≤ k)) :=
    fun W v1 hb ho => replace_ok v1 fb (h.below hb) (hE.below hb hE.lt) hEO hU (rbo_own ho (fun k hk => by rw [hz0]; exact Nat.lt_succ_of_lt (h.lt k hk)) hfl) hno hok
  have HS0 := hide (Sv.new w (.int .u64 (i : Int)) (.int .u64 (t : Int)) (.slice ad l.length kk))
  have HB0 := hide hb0
  clear hb0 hz0 h hE hT hEO hU hv hH hk hn hno hok hfb hfl
  cases th
  case false =>
    go_enter Tryz.func10, Tryz.ntmps10
    go_upto_region 4 with (first
      | (go_at_call 30; refine (unhide HP).mono ?_; rintro e w1 ⟨v1, rfl, o1, b1⟩; clear HP; have HO1 := hide o1; have HB1 := hide b1; have HC1 := hide (bt (unhide HB0) b1); clear o1 b1))
    go_upto_region 7 with (first
      | (go_at_call 12; refine (unhide HL _ (unhide HC1)).mono ?_; rintro e w2 ⟨i0, t0, da, n0, dk, rfl, hi0, b2⟩; clear HL; have HB2 := hide b2; have HC2 := hide (bt (unhide HC1) b2); have HS2 := hide (((unhide HS0).later (unhide HB1)).later b2); clear b2))
    have hb3 := below_alloc (B := w2.heap.size) (.cells #[.int .u64 (i0 : Int), .int .u64 (t0 : Int), .slice da n0 dk] 34) (Nat.le_refl w2.heap.size)
    obtain ⟨f0, f1, f2, f3, f4, f5⟩ := ((unhide HS2).later hb3).cells
    have HC3 := hide (bt (unhide HC2) hb3)
    have HB3 := hide (bt (unhide HB2) hb3)
    clear hb3
    go_wp2_with (first
      | (go_at_call 31; refine (unhide HW _ (unhide HC3)).mono ?_; rintro e w3 ⟨rfl, b4⟩; clear HW; have HC4 := hide (bt (unhide HC3) b4); have HO4 := hide (own_later (unhide HO1) (bt (unhide HB3) b4)); clear b4)
      | (go_at_call 32; refine (unhide HR _ _ (unhide HC4) (unhide HO4)).mono ?_; rintro e w4 ⟨O4, rfl, d4, f4', o4⟩; clear HR))
    go_ret
    refine ⟨O4, rfl, d4, (Dk.FrO.of_below (unhide HC4)).trans f4' (fun k _ hk => hk), fun k hk => (o4 k hk).elim .inl (fun hx => .inr (Nat.le_trans (unhide HC4).size hx))⟩
  case true =>
    go_enter Tryz.func10, Tryz.ntmps10
    go_upto_region 4 with (first
      | (go_at_call 30; refine (unhide HP).mono ?_; rintro e w1 ⟨v1, rfl, o1, b1⟩; clear HP; have HO1 := hide o1; have HB1 := hide b1; have HC1 := hide (bt (unhide HB0) b1); clear o1 b1))
    go_upto_region 7 with (first
      | (go_at_call 12; refine (unhide HL _ (unhide HC1)).mono ?_; rintro e w2 ⟨i0, t0, da, n0, dk, rfl, hi0, b2⟩; clear HL; have HB2 := hide b2; have HC2 := hide (bt (unhide HC1) b2); have HS2 := hide (((unhide HS0).later (unhide HB1)).later b2); clear b2))
    have hb3 := below_alloc (B := w2.heap.size) (.cells #[.int .u64 (i0 : Int), .int .u64 (t0 : Int), .slice da n0 dk] 34) (Nat.le_refl w2.heap.size)
    obtain ⟨f0, f1, f2, f3, f4, f5⟩ := ((unhide HS2).later hb3).cells
    have HC3 := hide (bt (unhide HC2) hb3)
    have HB3 := hide (bt (unhide HB2) hb3)
    clear hb3
    have hgt : ¬ ((i : Int) < (i0 : Int)) := by omega
    go_wp2_with (first
      | (go_at_call 31; refine (unhide HW _ (unhide HC3)).mono ?_; rintro e w3 ⟨rfl, b4⟩; clear HW; have HC4 := hide (bt (unhide HC3) b4); have HO4 := hide (own_later (unhide HO1) (bt (unhide HB3) b4)); clear b4)
      | (go_at_call 32; refine (unhide HR _ _ (unhide HC4) (unhide HO4)).mono ?_; rintro e w4 ⟨O4, rfl, d4, f4', o4⟩; clear HR))
    go_ret
    refine ⟨O4, rfl, d4, (Dk.FrO.of_below (unhide HC4)).trans f4' (fun k _ hk => hk), fun k hk => (o4 k hk).elim .inl (fun hx => .inr (Nat.le_trans (unhide HC4).size hx))⟩
end Go.Proofs.YtpminalccnhkjaaGreatDoor
/- Contract of the statements' own look, known: it answers true. -/
namespace Go.Proofs.YtpminalccnhkjaaGreatDoor.Dk
open Go.RowKit Go.Lib Go.Maps

theorem nums_eqD (l : List UInt8) : ByteArray.mk ((l.map fun c => (c.toNat : Int)).map fun n => n.toNat.toUInt8).toArray = ⟨l.toArray⟩ := by
  congr 2
  rw [List.map_map]
  conv => rhs; rw [← List.map_id l]
  refine List.map_congr_left fun c _ => ?_
  simp
theorem ownsRow_base0 {w : World} {B : Nat} {T : TypeId} {v : Value} {n : Nat} {xs : List Value} (h : w.ownsRow B T 1 v n xs) : w.ownsRow 0 T 1 v n xs := by
  obtain ⟨h1, h2 | ⟨g, cap, cur, rfl, _, hc, r⟩⟩ := h
  · exact ⟨h1, .inl h2⟩
  · exact ⟨h1, .inr ⟨g, cap, cur, rfl, Nat.zero_le _, hc, r⟩⟩
theorem conv_row {w : World} {v : Value} {B : Nat} {l : List UInt8} (h : w.ownsRow B 5 1 v l.length (byteCells l)) (hl : l.length ≤ 1000000) : (convert 29 9 v).run Tryz.prog w = .ok (.string ⟨l.toArray⟩) w := by
  have hr := rbo_of_row (ownsRow_base0 h) (by omega)
  obtain ⟨hlen, ⟨rfl, rfl⟩ | ⟨b, off, cap, hbB, _, hcap, hm, rfl, hcell⟩⟩ := hr
  · exact run_convert_bytes_nil w _ _ Tryz.underlying29 Tryz.underlying5 0 0 _ Tryz.underlying9
  · have h := run_convert_bytes_arg (P := Tryz.prog) w 29 5 Tryz.underlying29 Tryz.underlying5 b off l.length cap (l.map fun c => (c.toNat : Int)) (by simp) (fun i hi => by
      rw [hcell i hi]; simp [hi]) 9 Tryz.underlying9
    rw [h]
    exact congrArg (fun x => Result.ok (Value.string x) w) (nums_eqD l)

theorem rbn_const {w : World} {C : Array Value} {l : List UInt8} {fz : Nat × Nat} (hC : C.toList = byteCells l) (hl : l.length ≤ 1000) : RBn (w.alloc (.cells C 5 fz)) w.heap.size (.slice (some ⟨w.heap.size, 0, none⟩) l.length l.length) l := by
  refine ⟨by omega, .inr ⟨w.heap.size, 0, l.length, Nat.le_refl _, by simp, Nat.le_refl _, by unfold maxLen; omega, rfl, fun i hi => ?_⟩⟩
  rw [World.cell?_alloc_mark, Nat.zero_add, ← Array.getElem?_toList, hC]
  simp [byteCells, hi]

abbrev sA : ByteArray := ⟨#[97]⟩
theorem ok_a : okN sA.data.toList = true := by decide
theorem keep_nil (W : World) (O : Nat → Prop) : KeepAt W O (.slice none 0 0) [] := ⟨fun x hx => (by cases hx), .inl ⟨⟨none, 0, rfl⟩, rfl⟩⟩

end Go.Proofs.YtpminalccnhkjaaGreatDoor.Dk
/- Contract of the snapshots' statements' own look, known: it answers true. -/
namespace Go.Proofs.YtpminalccnhkjaaGreatDoor
open Go.RowKit Go.Lib

theorem below_fro {B : Nat} {w w1 w2 : World} {O : Nat → Prop} (hb : Below B w w1) (hf : Dk.FrO O w1 w2) (hO : ∀ k, O k → B ≤ k) (hB : B ≤ w.heap.size) : Below B w w2 :=
  ⟨hf.env.1.trans hb.os, hf.env.2.1.trans hb.tape, hf.env.2.2.trans hb.output, Nat.le_trans hb.size hf.size, fun k hk => (hf.blk k (Nat.lt_of_lt_of_le hk (Nat.le_trans hB hb.size)) (fun h => absurd hk (Nat.not_lt.2 (hO k h)))).trans (hb.block k hk)⟩
theorem rb_const {w : World} {C : Array Value} {l : List UInt8} {fz : Nat × Nat} (hC : C.toList = byteCells l) (hl : l.length ≤ 1000) : RBp (w.alloc (.cells C 5 fz)) (w.heap.size + 1) (.slice (some ⟨w.heap.size, 0, none⟩) l.length l.length) l := by
  refine ⟨by omega, .inr ⟨w.heap.size, 0, l.length, Nat.lt_succ_self _, Nat.le_refl _, by unfold maxLen; omega, rfl, fun i hi => ?_⟩⟩
  rw [World.cell?_alloc_mark, Nat.zero_add, ← Array.getElem?_toList, hC]
  simp [byteCells, hi]

def S0 : Dk.St := ⟨10000, 0, false, false, 0⟩
def fb0 : List UInt8 := frameBytes (snB 3 1 [97, 98, 99])
def F0 : List Dk.Ent := [Dk.fl snN.data.toList fb0 fb0.length]
theorem fb0_len : fb0.length = 13 := by
  unfold fb0
  simp [frameBytes, word4_length, snB, uvarint_small]
theorem put0 : Dk.putE (Dk.fl snN.data.toList fb0 fb0.length) [] = F0 := rfl
theorem has0 : Has (Dk.more S0 3) F0 3 1 [97, 98, 99] := ⟨rfl, Dk.fl snN.data.toList fb0 fb0.length, by unfold F0 Dk.look; simp [Dk.fl], rfl⟩
theorem app0 : Dk.appC S0 [] nwN.data.toList fb0.length = 0 := by
  rw [fb0_len]
  decide

theorem known_save (w w1 : World) (hE : ET w) (hT : ST w) (hd : Dk.DX w1 w.heap.size S0 [] (fun k => k = w.heap.size)) (hb : Below w.heap.size w w1) :
    Calls Tryz.prog 10 #[.pointer (some ⟨w.heap.size, 0, none⟩), .agg #[.int .u64 3, .int .u64 1, .slice (some ⟨w1.heap.size, 0, none⟩) 3 3]] (w1.alloc (.cells #[.int .u8 97, .int .u8 98, .int .u8 99] 5 (3, 4))) fun e w' => e = .returned .nilIface ∧ (∃ O', Dk.DX w' w.heap.size (Dk.more S0 3) F0 O') ∧ Below w.heap.size w w' := by
  have hb2 : Below w1.heap.size w1 (w1.alloc (.cells #[.int .u8 97, .int .u8 98, .int .u8 99] 5 (3, 4))) := (Below.refl _ _).alloc (Nat.le_refl _) _
  have hb3 := bt hb hb2
  have hr := rb_const (w := w1) (C := #[.int .u8 97, .int .u8 98, .int .u8 99]) (l := [97, 98, 99]) (fz := (3, 4)) rfl (by decide)
  have hz : w1.heap.size + 1 = (w1.alloc (.cells #[.int .u8 97, .int .u8 98, .int .u8 99] 5 (3, 4))).heap.size := by simp
  rw [hz] at hr
  refine (save_ok (n := 0) (i := 3) (t := 1) (th := false) (.slice (some ⟨w1.heap.size, 0, none⟩) 3 3) [97, 98, 99] (hd.below hb2) (hE.below hb3 hE.lt) (hT.below hb3 hT.lt) (fun hh => absurd hE.lt (by rw [hh]; exact Nat.lt_irrefl _)) ⟨rfl, rfl, by decide, by decide, by decide, by decide⟩ hr (by decide) (by decide) (by decide) (.inl ⟨rfl, rfl⟩) (fun e he => by cases he) (fun e he => by cases he) rfl app0).mono ?_
  rintro e w' ⟨O', rfl, hx, hf, _⟩
  exact ⟨rfl, ⟨O', hx⟩, below_fro hb3 hf (fun k hk => by omega) (Nat.le_refl _)⟩

theorem known_load (w w1 : World) (O : Nat → Prop) (hE : ET w) (hT : ST w) (hd : Dk.DX w1 w.heap.size (Dk.more S0 3) F0 O) (hb : Below w.heap.size w w1) :
    Calls Tryz.prog 12 #[.pointer (some ⟨w.heap.size, 0, none⟩)] w1 fun e w' => ∃ g o cap, e = .returned (.tuple #[.agg #[.int .u64 3, .int .u64 1, .slice (some ⟨g, o, none⟩) 3 cap], .bool true, .nilIface]) ∧ (g < w'.heap.size ∧ 3 ≤ cap ∧ cap ≤ maxLen ∧ ∀ j, j < 3 → w'.cell? ⟨g, o + j, none⟩ = some (.int .u8 ((([97, 98, 99] : List UInt8).getD j 0).toNat : Int))) ∧ Below w.heap.size w w' := by
  refine (load_some (i := 3) (t := 1) (l := [97, 98, 99]) hd (hE.below hb hE.lt) (hT.below hb hT.lt) has0 (by decide) (by decide) (by decide)).mono ?_
  rintro e w' ⟨d, rfl, ⟨_, ⟨_, h2⟩ | ⟨g, o, cap, h1, _, h3, h4, rfl, h5⟩⟩, hb2⟩
  · cases h2
  · exact ⟨g, o, cap, rfl, ⟨h1, h3, h4, h5⟩, bt hb hb2⟩

theorem known_chunk (w w1 : World) (g o cap : Nat) (hb : Below w.heap.size w w1) (h : g < w1.heap.size ∧ 3 ≤ cap ∧ cap ≤ maxLen ∧ ∀ j, j < 3 → w1.cell? ⟨g, o + j, none⟩ = some (.int .u8 ((([97, 98, 99] : List UInt8).getD j 0).toNat : Int))) :
    Calls Tryz.prog 20 #[.agg #[.int .u64 3, .int .u64 1, .slice (some ⟨g, o, none⟩) 3 cap], .int .i64 1] w1 fun e w' => ∃ c, e = .returned (.tuple #[c, .bool true, .nilIface]) ∧ w'.ownsRow w1.heap.size 5 1 c 2 (byteCells [98, 99]) ∧ Below w.heap.size w w' ∧ Below w1.heap.size w1 w' := by
  refine (chunk_some 3 1 1 g o (o + 1) cap [97, 98, 99] w1 (by decide) (by decide) h.2.1 h.2.2.1 (.inr ⟨by omega, rfl⟩) h.1 h.2.2.2).mono ?_
  rintro e w' ⟨c, rfl, ho, hb2⟩
  exact ⟨c, rfl, ho, bt hb hb2, hb2⟩

set_option maxHeartbeats 6400000 in
set_option maxRecDepth 100000 in
theorem known4_any (w : World) (hE : ET w) (hT : ST w) : Calls Tryz.prog 6 #[] w fun e w' => e = .returned (.bool true) ∧ Below w.heap.size w w' := by
  have kc := fun (w : World) (C : Array Value) (n c : Nat) => run_convert_bytes_const (P := Tryz.prog) w 29 5 C n c Tryz.underlying29 Tryz.underlying5
  have H0 := hide (Dk.dx_new w 10000 (by decide))
  have H1 := hide (fun w1 hd hb => known_save w w1 hE hT hd hb)
  have H2 := hide (fun w1 O hd hb => known_load w w1 O hE hT hd hb)
  have H3 := hide (fun w1 g o cap hb h => known_chunk w w1 g o cap hb h)
  clear hE hT
  go_enter Tryz.func6, Tryz.ntmps6
  go_upto_region 3 with (first
    | (go_at_call 7; refine (unhide H0).mono ?_; rintro e w1 ⟨rfl, d1, b1⟩; clear H0)
    | (go_at_call 10; refine (unhide H1 _ d1 b1).mono ?_; rintro e w2 ⟨rfl, ⟨O2, d2⟩, b2⟩; clear H1))
  go_upto_region 4 with (first
    | (go_at_call 12; refine (unhide H2 _ _ d2 b2).mono ?_; rintro e w3 ⟨g, o, cap, rfl, h3, b3⟩; clear H2))
  have h3' : g < (w3.alloc (.cells #[.int .u64 3, .int .u64 1, .slice (some ⟨g, o, none⟩) 3 cap] 34)).heap.size ∧ 3 ≤ cap ∧ cap ≤ maxLen ∧ ∀ j, j < 3 → (w3.alloc (.cells #[.int .u64 3, .int .u64 1, .slice (some ⟨g, o, none⟩) 3 cap] 34)).cell? ⟨g, o + j, none⟩ = some (.int .u8 ((([97, 98, 99] : List UInt8).getD j 0).toNat : Int)) :=
    ⟨by simp; omega, h3.2.1, h3.2.2.1, fun j hj => (World.cell?_alloc_lt _ _ ⟨g, o + j, none⟩ h3.1).trans (h3.2.2.2 j hj)⟩
  have HB3 := hide (bt b3 (below_alloc (.cells #[.int .u64 3, .int .u64 1, .slice (some ⟨g, o, none⟩) 3 cap] 34) (Nat.le_refl _)))
  have HF3 := hide h3'
  have HS3 := hide (Sn3.new w3 (.int .u64 3) (.int .u64 1) (.slice (some ⟨g, o, none⟩) 3 cap) 34)
  clear h3 h3' b3 d2 b2 d1 b1
  go_wp2_with (first
    | (go_at_call 20; refine (unhide H3 _ g o cap (unhide HB3) (unhide HF3)).mono ?_; rintro e w4 ⟨c, rfl, o4, b4, b5⟩; obtain ⟨c0, c1, c2⟩ := (unhide HS3).later b5; have hcv := Dk.conv_row (l := [98, 99]) o4 (by decide); have HB4 := hide b4; clear b4 b5 o4 H3))
  go_ret
  exact ⟨rfl, unhide HB4⟩
end Go.Proofs.YtpminalccnhkjaaGreatDoor
