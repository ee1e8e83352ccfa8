/- The walk of the statement SnapRounds: it answers true; nothing old turns. -/
import Derived.Test.YtpminalccnhkjaaGreatDoorSRound
namespace Go.Proofs.YtpminalccnhkjaaGreatDoor
open Go.RowKit Go.Lib

/-- The disk, in blocks from w's end on. -/
def DD (w wr : World) (p : Nat) (c : Int) (F : List Dk.Ent) : Prop := ∃ O, Dk.DX wr p (SR c) F O ∧ (∀ k, O k → w.heap.size ≤ k) ∧ Below w.heap.size w wr
theorem SDX.dd {w wr : World} {p : Nat} {c : Int} {F : List Dk.Ent} {v : Value} {l : List UInt8} (h : SDX w wr p c F v l) : DD w wr p c F := by
  obtain ⟨O, h1, h2, h3, _⟩ := h
  exact ⟨O, h1, h2, h3⟩
theorem DD.below {w wr w' : World} {p : Nat} {c : Int} {F : List Dk.Ent} (h : DD w wr p c F) (hb : Below wr.heap.size wr w') : DD w w' p c F := by
  obtain ⟨O, h1, h2, h3⟩ := h
  exact ⟨O, h1.below hb, h2, bt h3 hb⟩
theorem upR {c : Int} (n : Nat) (h0 : 0 ≤ c) (h1 : c ≤ 1000) (hn : n ≤ 100) : Dk.Up1 (SR c) n := ⟨rfl, rfl, by show (0 : Int) ≤ 1048576; decide, by show (1048576 : Int) ≤ 4611686018427387904; decide, h0, by show c + (n : Int) < 1000000000; omega⟩

theorem r_new (w w1 : World) (hb : Below w.heap.size w w1) : Calls Tryz.prog 7 #[.int .i64 1048576] w1 fun e w' => e = .returned (.pointer (some ⟨w1.heap.size, 0, none⟩)) ∧ DD w w' w1.heap.size 0 [] := by
  refine (Dk.dx_new w1 1048576 (by decide)).mono ?_
  rintro e w' ⟨rfl, hd, hb2⟩
  exact ⟨rfl, _, hd, fun k hk => by rw [hk]; exact hb.size, bt hb hb2⟩
theorem r_append (w w2 : World) (p : Nat) (hE : ET w) (h : DD w w2 p 0 []) :
    Calls Tryz.prog 8 #[.pointer (some ⟨p, 0, none⟩), .string ⟨#[109, 105, 110, 101]⟩, .slice (some ⟨w2.heap.size, 0, none⟩) 4 4] (w2.alloc (.cells #[.int .u8 107, .int .u8 101, .int .u8 112, .int .u8 116] 5 (4, 5))) fun e w' => e = .returned .nilIface ∧ DD w w' p 1 [Dk.fl mnN.data.toList kept 0] := by
  obtain ⟨O, h1, h2, h3⟩ := h
  have hb2 : Below w2.heap.size w2 (w2.alloc (.cells #[.int .u8 107, .int .u8 101, .int .u8 112, .int .u8 116] 5 (4, 5))) := (Below.refl _ _).alloc (Nat.le_refl _) _
  have hb3 := bt h3 hb2
  have hr : Dk.RBo (w2.alloc (.cells #[.int .u8 107, .int .u8 101, .int .u8 112, .int .u8 116] 5 (4, 5))) O (.slice (some ⟨w2.heap.size, 0, none⟩) 4 4) kept := by
    refine ⟨by decide, .inr ⟨w2.heap.size, 0, 4, by simp, fun hh => absurd (h1.lt _ hh) (Nat.lt_irrefl _), by decide, by unfold maxLen; omega, rfl, fun i hi => ?_⟩⟩
    rw [World.cell?_alloc_mark, Nat.zero_add, ← Array.getElem?_toList]
    have : kept.length = 4 := rfl
    rw [this] at hi
    match i, hi with
    | 0, _ => rfl
    | 1, _ => rfl
    | 2, _ => rfl
    | 3, _ => rfl
  refine (Dk.ok_append mnN _ kept (h1.below hb2) (hE.below hb3 hE.lt) (upR 1 (by decide) (by decide) (by decide)) (by decide) hr rfl).mono ?_
  rintro e w' ⟨O', rfl, hx, hf, ho⟩
  refine ⟨rfl, O', hx, fun k hk => (ho k hk).elim (h2 k) (fun hh => Nat.le_trans hb3.size hh), below_fro hb3 hf h2 (Nat.le_refl _)⟩
theorem r_sync (w w2 : World) (p size : Nat) (hE : ET w) (h : DD w w2 p 1 [Dk.fl mnN.data.toList kept 0]) :
    Calls Tryz.prog 9 #[.pointer (some ⟨p, 0, none⟩), .string ⟨#[109, 105, 110, 101]⟩] w2 fun e w' => e = .returned .nilIface ∧ DD w w' p (2 + 3 * ((0 : Nat) : Int)) (FR size 0) := by
  obtain ⟨O, h1, h2, h3⟩ := h
  refine (Dk.ok_sync mnN h1 (hE.below h3 hE.lt) (upR 1 (by decide) (by decide) (by decide)) (by decide) rfl).mono ?_
  rintro e w' ⟨rfl, hx, hf⟩
  exact ⟨rfl, O, hx, h2, below_fro h3 hf h2 (Nat.le_refl _)⟩
theorem r_read (w wr : World) (p size r : Nat) (c : Int) (hE : ET w) (h : DD w wr p c (FR size r)) :
    Calls Tryz.prog 14 #[.pointer (some ⟨p, 0, none⟩), .string ⟨#[109, 105, 110, 101]⟩] wr fun e w' => ∃ v, e = .returned (.tuple #[v, .nilIface]) ∧ (convert 29 9 v).run Tryz.prog w' = .ok (.string ⟨#[107, 101, 112, 116]⟩) w' ∧ Below w.heap.size w w' := by
  obtain ⟨O, h1, h2, h3⟩ := h
  have e1 : Dk.look (FR size r) mnN.data.toList = some mnE := by cases r <;> rfl
  have e2 : Dk.readC (SR c) (FR size r) mnN.data.toList = 0 := by unfold Dk.readC; rw [e1]; rfl
  have e3 : Dk.oldData (FR size r) mnN.data.toList = kept := by unfold Dk.oldData; rw [e1]; rfl
  refine (Dk.dx_read mnN h1 (hE.below h3 hE.lt) (by decide)).mono ?_
  rintro e w' ⟨hb, ⟨h4, _⟩ | ⟨_, _, v, rfl, hv⟩⟩
  · exact absurd e2 h4
  · rw [e3] at hv
    exact ⟨v, rfl, Dk.conv_row hv (by decide), bt h3 hb⟩

theorem make_u16 (w : World) (n : Nat) (hn : n ≤ 2000) : ∃ Z : Array Value, (Instr.makeSlice 29 (.int .u16 (n : Int)) (.int .u16 (n : Int))).run Tryz.prog w = .ok (.slice (some ⟨w.heap.size, 0, none⟩) n n) (w.alloc (.cells Z 5)) ∧ Z.size = n := by
  obtain ⟨i0, hi, hz0, hz1, hz2⟩ := info_parts Tryz.infoB
  have h := run_makeSlice (P := Tryz.prog) w 29 5 i0 (.int .u8 0) Tryz.underlying29 hi hz0 .u16 .u16 (n : Int) (n : Int) (by omega) (by omega) (by rw [hz1]; omega) (by rw [hz2]; omega) (by omega)
  rw [hz1] at h
  refine ⟨_, h, ?_⟩
  show (madeCells #[.int .u8 0] (n * 1)).size = n
  rw [← Array.length_toList, toList_madeCells_one, List.length_replicate, Nat.mul_one]
/-- A row that is being filled. -/
def Fill (wr wq : World) (r k size : Nat) : Prop := ∃ cur : Array Value, wq.heap[wr.heap.size]? = some (.cells cur 5 (0, 0)) ∧ cur.size = size ∧ (∀ j, j < k → cur[j]? = some (.int .u8 (r : Int))) ∧ Below wr.heap.size wr wq
theorem Fill.more {wr wq : World} {r k size : Nat} (h : Fill wr wq r k size) (hk : k < size) : Fill wr (wq.setCell ⟨wr.heap.size, k, none⟩ (.int .u8 (r : Int))) r (k + 1) size := by
  obtain ⟨cur, h1, h2, h3, h4⟩ := h
  refine ⟨_, Dk.heap_setCell_at h1 k _, by simpa using h2, fun j hj => ?_, h4.setCell (p := ⟨wr.heap.size, k, none⟩) (Nat.le_refl _) _⟩
  by_cases e : j = k
  · subst e
    simp [h2, hk]
  · rw [Array.getElem?_setIfInBounds, if_neg (by omega)]
    exact h3 j (by omega)
theorem Fill.cell {wr wq : World} {r k size : Nat} (h : Fill wr wq r k size) (hk : k < size) : (∃ x, wq.cell? ⟨wr.heap.size, k, none⟩ = some x) ∧ wq.frozen? ⟨wr.heap.size, k, none⟩ = false := by
  obtain ⟨cur, h1, h2, h3, h4⟩ := h
  have := Dk.cellB h1 k
  exact ⟨⟨cur[k], by rw [this.1]; simp [h2, hk]⟩, this.2⟩
theorem Fill.done {w wr wq : World} {p r size : Nat} {c : Int} {F : List Dk.Ent} (h : Fill wr wq r size size) (hd : DD w wr p c F) (hs : size ≤ 2000) (hr : r < 40) : SDX w wq p c F (.slice (some ⟨wr.heap.size, 0, none⟩) size size) (sd size r) := by
  obtain ⟨cur, h1, h2, h3, h4⟩ := h
  obtain ⟨O, d1, d2, d3⟩ := hd
  have hl : (sd size r).length = size := by simp [sd]
  refine ⟨O, d1.below h4, d2, bt d3 h4, by rw [hl]; omega, .inr ⟨wr.heap.size, 0, size, (Array.getElem?_eq_some_iff.1 h1).1, fun hh => absurd (d1.lt _ hh) (Nat.lt_irrefl _), by rw [hl]; exact Nat.le_refl _, by unfold maxLen; omega, by rw [hl], fun j hj => ?_⟩⟩
  rw [hl] at hj
  rw [Nat.zero_add, (Dk.cellB h1 j).1, h3 j hj]
  have : (sd size r).getD j 0 = r.toUInt8 := by simp [sd, List.getD_eq_getElem?_getD, hj]
  rw [this]
  have e2 : r.toUInt8.toNat = r := by simp; omega
  rw [e2]
end Go.Proofs.YtpminalccnhkjaaGreatDoor
/- The walk of the statement SnapRounds: it answers true; nothing old turns. -/
namespace Go.Proofs.YtpminalccnhkjaaGreatDoor
open Go.RowKit Go.Lib

set_option maxHeartbeats 12800000 in
set_option maxRecDepth 100000 in
theorem rounds_small (rounds size : Nat) (w : World) (hr : rounds < 256) (hs : size ≤ 2000) (hE : ET w) (hT : ST w) :
    Calls Tryz.prog 3 #[.int .u8 (rounds : Int), .int .u16 (size : Int)] w fun e w' => e = .returned (.bool true) ∧ Below w.heap.size w w' := by
  have HK := hide (known4_any w hE hT)
  have H0 := hide (fun w1 hb => r_new w w1 hb)
  have H1 := hide (fun w1 p h => r_append w w1 p hE h)
  have H2 := hide (fun w1 p h => r_sync w w1 p size hE h)
  have HR := hide (fun wr p (r : Nat) c h => r_read w wr p size r c hE h)
  have HS := hide (fun wr p (r : Nat) v (hr : r < 40) (h : SDX w wr p (2 + 3 * (r : Int)) (FR size r) v (sd size r)) => r_save hE hT hs hr h)
  have HL := hide (fun wr p (r : Nat) c v (hr : r < 40) (h : SDX w wr p c (FR size (r + 1)) v (sd size r)) => r_load hE hT hs hr h)
  obtain ⟨N, hN⟩ : ∃ x, x = rounds % 40 := ⟨_, rfl⟩
  have hN40 : N < 40 := by omega
  have hm1 : (rounds : Int) % 40 = (N : Int) := by omega
  have hm2 : Int.tmod (rounds : Int) 40 = (N : Int) := by rw [Int.tmod_eq_emod_of_nonneg (by omega)]; exact hm1
  have hs1 : ¬ ((2000 : Int) < (size : Int)) := by omega
  have kc := fun (w : World) (C : Array Value) (n c : Nat) => run_convert_bytes_const (P := Tryz.prog) w 29 5 C n c Tryz.underlying29 Tryz.underlying5
  clear hE hT hN
  go_enter Tryz.func3, Tryz.ntmps3
  go_wp2_with (first
    | (go_at_call 6; refine (unhide HK).mono ?_; rintro e w1 ⟨rfl, b1⟩; clear HK)
    | (go_at_call 7; refine (unhide H0 _ b1).mono ?_; rintro e w2 ⟨rfl, d2⟩; clear H0; have HD2 := hide d2; clear d2)
    | (go_at_call 8; refine (unhide H1 _ _ (unhide HD2)).mono ?_; rintro e w3 ⟨rfl, d3⟩; clear H1; have HD3 := hide d3; clear d3)
    | (go_at_call 9; refine (unhide H2 _ _ (unhide HD3)).mono ?_; rintro e w4 ⟨rfl, d4⟩; clear H2; have HD4 := hide d4; clear d4))
  generalize w1.heap.size = p at *
  go_loopw [6] (fun i wr => ∃ r : Nat, r ≤ N ∧ i = .int .i64 r ∧ Hid (DD w wr p (2 + 3 * (r : Int)) (FR size r))) (fun i _ => N - (intOf i).toNat)
  case atStart => exact ⟨0, by omega, rfl, HD4⟩
  case round =>
    obtain ⟨r, hrN, rfl, hrl⟩ := hrel
    by_cases hlt : r < N
    · have hji : (r : Int) < (N : Int) := by omega
      have hr40 : r < 40 := by omega
      obtain ⟨W0, hW0⟩ : ∃ x, x = wr := ⟨_, rfl⟩
      subst hW0
      obtain ⟨Z, hZ, hZs⟩ := make_u16 W0 size hs
      have HF0 : Hid (Fill W0 (W0.alloc (.cells Z 5)) r 0 size) := hide ⟨Z, (MapKept.heap_alloc W0 _).1, hZs, fun j hj => absurd hj (Nat.not_lt_zero _), below_alloc _ (Nat.le_refl _)⟩
      clear hZs
      have hr256 : (r : Int) < 256 := by omega
      go_wp2
      go_loopw [8] (fun i wq => ∃ k : Nat, k ≤ size ∧ i = .int .i64 k ∧ Hid (Fill W0 wq r k size)) (fun i _ => size - (intOf i).toNat)
      case atStart => exact ⟨0, by omega, rfl, HF0⟩
      case round =>
        obtain ⟨k, hk, rfl, hfl⟩ := hrel
        by_cases hlk : k < size
        · have hki : (k : Int) < (size : Int) := by omega
          have H9 := hide ((unhide hfl).more hlk)
          obtain ⟨⟨x, hx⟩, hfz⟩ := (unhide hfl).cell hlk
          go_wp2
          go_roundw
          case rel => exact ⟨k + 1, by omega, by go_num, H9⟩
          case measure => simp [intOf]; omega
        · have hki : ¬ ((k : Int) < (size : Int)) := by omega
          obtain rfl : k = size := by omega
          have PS := hide (unhide HS wr p r _ hr40 ((unhide hfl).done (unhide hrl) hs hr40))
          go_wp2_with (first
            | (go_at_call 10; refine (unhide PS).mono ?_; rintro e w5 ⟨rfl, d5⟩; have P5 := hide d5; clear d5 PS)
            | (go_at_call 11; refine (r_crash (unhide P5)).mono ?_; rintro e w6 ⟨rfl, d6⟩; have P6 := hide d6; clear d6 P5)
            | (go_at_call 12; refine (unhide HL _ p r _ _ hr40 (unhide P6)).mono ?_; rintro e w7 ⟨da, dn, dk, rfl, d7, hby⟩; have P7 := hide d7; have HBY := hide hby; clear d7 hby P6)
            | (go_at_call 13; refine (unhide HBY _ (below_alloc _ (Nat.le_refl _))).mono ?_; rintro e w8 ⟨rfl, rfl⟩))
          go_roundw
          case rel => exact ⟨r + 1, by omega, by go_num, (unhide P7).dd.below (below_alloc _ (Nat.le_refl _))⟩
          case measure => simp [intOf]; omega
    · have hji : ¬ ((r : Int) < (N : Int)) := by omega
      obtain rfl : r = N := by omega
      have PR := hide (unhide HR wr p r _ (unhide hrl))
      go_wp2_with (go_at_call 14; refine (unhide PR).mono ?_; rintro e w5 ⟨v5, rfl, hc5, b5⟩; clear PR)
      go_ret
      exact ⟨rfl, b5⟩

set_option maxHeartbeats 3200000 in
theorem rounds_any (rounds size : Nat) (w : World) (hr : rounds < 256) (hz : size < 65536) (hE : ET w) (hT : ST w) :
    Calls Tryz.prog 3 #[.int .u8 (rounds : Int), .int .u16 (size : Int)] w fun e w' => e = .returned (.bool true) ∧ Below w.heap.size w w' := by
  by_cases hs : size ≤ 2000
  · exact rounds_small rounds size w hr hs hE hT
  · have HK := hide (known4_any w hE hT)
    have hs1 : (2000 : Int) < (size : Int) := by omega
    clear hE hT
    go_enter Tryz.func3, Tryz.ntmps3
    go_wp2_with (go_at_call 6; refine (unhide HK).mono ?_; rintro e w1 ⟨rfl, b1⟩; clear HK)
    go_ret
    exact ⟨rfl, b1⟩
end Go.Proofs.YtpminalccnhkjaaGreatDoor
