/- The walk of the statement SnapChunks: it answers true; nothing old turns. -/
import Derived.Test.YtpminalccnhkjaaGreatDoorSChunkR
namespace Go.Proofs.YtpminalccnhkjaaGreatDoor
open Go.RowKit Go.Lib

/-- A row of small numbers that came in. -/
def InU (w : World) (oa : Option Addr) (os : List Nat) : Prop := ∀ j, j < os.length → ∃ b o, oa = some ⟨b, o, none⟩ ∧ b < w.heap.size ∧ w.cell? ⟨b, o + j, none⟩ = some (.int .u16 ((os.getD j 0 : Nat) : Int)) ∧ os.getD j 0 ≤ 65535
theorem rb_cap {w : World} {B n dk : Nat} {da : Option Addr} {l : List UInt8} (h : RBp w B (.slice da n dk) l) : n ≤ dk := by
  obtain ⟨_, ⟨e, _⟩ | ⟨b, o, c, _, h1, _, e, _⟩⟩ := h
  · injection e with _ e2 e3; omega
  · injection e with _ e2 e3; omega
/-- What the statement's last row finds. -/
def CE (w w' : World) (p I T b1 b2 n : Nat) (l : List UInt8) (v : Value) : Prop := BL w' p I T l true ∧ Sv w' w.heap.size (.int .u64 (I : Int)) (.int .u64 (T : Int)) v ∧ ErrAt w' b1 ((n : Int) + 1) 40 ∧ ErrAt w' b2 (-1) 40 ∧ Below w.heap.size w w'
theorem ce_later {w w1 w2 : World} {p I T b1 b2 n : Nat} {l : List UInt8} {v : Value} (h : CE w w1 p I T b1 b2 n l v) (hb : Below w1.heap.size w1 w2) : CE w w2 p I T b1 b2 n l v :=
  ⟨h.1.later hb, h.2.1.below hb h.2.1.lt, h.2.2.1.below hb h.2.2.1.lt, h.2.2.2.1.below hb h.2.2.2.1.lt, bt h.2.2.2.2 hb⟩
set_option maxHeartbeats 25600000 in
set_option maxRecDepth 100000 in
theorem chunks_small (I T n dk on ok : Nat) (da oa : Option Addr) (l : List UInt8) (os : List Nat) (w : World) (hnl : n = l.length) (hos : on = os.length) (hv : RBp w w.heap.size (.slice da n dk) l) (hO : InU w oa os) (hn : n ≤ 3000) (h60 : on ≤ 60) (hE : ET w) (hT : ST w) :
    Calls Tryz.prog 5 #[.agg #[.int .u64 (I : Int), .int .u64 (T : Int), .slice da n dk], .slice oa on ok] w fun e w' => e = .returned (.bool true) ∧ Below w.heap.size w w' := by
  have hcap := rb_cap hv
  have hb0 := below_alloc (B := w.heap.size) (.cells #[.int .u64 (I : Int), .int .u64 (T : Int), .slice da n dk] 34) (Nat.le_refl w.heap.size)
  have HK := hide (known4_any (w.alloc (.cells #[.int .u64 (I : Int), .int .u64 (T : Int), .slice da n dk] 34)) (hE.below hb0 hE.lt) (hT.below hb0 hT.lt))
  have hs0 := Sv.new w (.int .u64 (I : Int)) (.int .u64 (T : Int)) (.slice da n dk)
  have HCF : Hid (∀ w1 w2, Below (w.alloc (.cells #[.int .u64 (I : Int), .int .u64 (T : Int), .slice da n dk] 34)).heap.size (w.alloc (.cells #[.int .u64 (I : Int), .int .u64 (T : Int), .slice da n dk] 34)) w1 → Below w1.heap.size w1 w2 → CF w w2 w1.heap.size w.heap.size I T (.slice da n dk) l) := hide fun w1 w2 h1 h2 =>
    ⟨(hs0.below h1 hs0.lt).below h2 (hs0.below h1 hs0.lt).lt, (hs0.below h1 hs0.lt).lt, Nat.le_refl _, h2.size, bt (bt hb0 h1) h2, hv, by omega⟩
  have HSV : Hid (∀ w1, Below (w.alloc (.cells #[.int .u64 (I : Int), .int .u64 (T : Int), .slice da n dk] 34)).heap.size (w.alloc (.cells #[.int .u64 (I : Int), .int .u64 (T : Int), .slice da n dk] 34)) w1 → Sv w1 w.heap.size (.int .u64 (I : Int)) (.int .u64 (T : Int)) (.slice da n dk)) := hide fun w1 h1 => hs0.below h1 hs0.lt
  have HEW : Hid (∀ wr, Below w.heap.size w wr → ET wr) := hide fun wr hb => hE.below hb hE.lt
  rw [hos] at h60
  have HO : Hid (∀ k, k < on → ∃ b o, oa = some ⟨b, o, none⟩ ∧ b < w.heap.size ∧ w.cell? ⟨b, o + k, none⟩ = some (.int .u16 ((os.getD k 0 : Nat) : Int)) ∧ os.getD k 0 ≤ 65535) := hide fun k hk => hO k (by omega)
  rw [← hos] at h60
  have hg1 : ¬ ((3000 : Int) < (n : Int)) := by omega
  have hg2 : ¬ ((60 : Int) < (on : Int)) := by omega
  obtain ⟨nq, hnq⟩ : ∃ x, x = n / 200 := ⟨_, rfl⟩
  have j1 : (n : Int) / 200 = (nq : Int) := by omega
  have j2 : Int.tdiv (n : Int) 200 = (nq : Int) := by rw [Int.tdiv_eq_ediv_of_nonneg (by omega)]; exact j1
  have j3 : nq ≤ 15 := by omega
  obtain ⟨K, hK⟩ : ∃ x, x = on + nq + 2 := ⟨_, rfl⟩
  have HNL := hide hnl
  have HKQ := hide (And.intro hK hnq)
  clear hE hT hv hO hb0 hs0 hos hnl hK hnq
  go_enter Tryz.func5, Tryz.ntmps5
  go_wp2_with (first
    | (go_at_call 6; refine (unhide HK).mono ?_; rintro e w1 ⟨rfl, b1⟩; obtain ⟨f0, f1, f2, _, _, _⟩ := (unhide HSV _ b1).cells; have HB1 := hide b1; clear HK b1)
    | (go_at_call 19; refine (begin_any I T _).mono ?_; rintro e W1 ⟨rfl, l2, b2⟩; have HF := hide (unhide HCF _ _ (unhide HB1) b2); have HC0 : Hid (CR W1 W1 w1.heap.size I T on l 0 0 false) := (hide ⟨Nat.zero_le _, l2, Below.refl _ _, (fun hh => by cases hh), fun _ _ => by omega⟩); clear l2 b2 HB1 f0 f1 f2 HSV HCF))
  generalize w1.heap.size = p at *
  go_loopw [6, 7, 8] (fun s6 s7 s8 wr => ∃ (k has : Nat) (wh : Bool), k ≤ K ∧ s6 = .int .i64 has ∧ s7 = .bool wh ∧ s8 = .int .i64 k ∧ Hid (CR W1 wr p I T on l k has wh)) (fun _ _ s8 _ => K - (intOf s8).toNat)
  case atStart => exact ⟨0, 0, false, Nat.zero_le _, rfl, rfl, rfl, HC0⟩
  case round =>
    obtain ⟨k, has, wh, hkK, rfl, rfl, rfl, hrl⟩ := hrel
    obtain ⟨f0, f1, f2, _, _, _⟩ := ((unhide HF).svr (unhide hrl).2.2.1).cells
    have hnl := unhide HNL
    by_cases hlt : k < K
    · have hji : (k : Int) < (on : Int) + (nq : Int) + 2 := by have := (unhide HKQ).1; omega
      by_cases hko : k < on
      · have hki : (k : Int) < (on : Int) := by omega
        obtain ⟨b, o, rfl, hbw, hco, hx16⟩ := unhide HO k hko
        obtain ⟨x, hx⟩ : ∃ x, x = os.getD k 0 := ⟨_, rfl⟩
        rw [← hx] at hco hx16
        have cx : wr.cell? ⟨b, o + k, none⟩ = some (.int .u16 (x : Int)) := (((unhide HF).below (unhide hrl).2.2.1).cell (p := ⟨b, o + k, none⟩) hbw).trans hco
        obtain ⟨r0, hr0⟩ : ∃ y, y = x % (n + 1) := ⟨_, rfl⟩
        obtain ⟨q0, hq0⟩ : ∃ y, y = r0 / 200 := ⟨_, rfl⟩
        obtain ⟨off, hofe⟩ : ∃ y, y = q0 * 200 := ⟨_, rfl⟩
        have hrn : r0 ≤ n := by have := Nat.mod_lt x (show 0 < n + 1 by omega); omega
        have hoff : off ≤ l.length := by omega
        have i1 : (x : Int) % ((n : Int) + 1) = (r0 : Int) := by rw [hr0]; push_cast; rfl
        have i2 : Int.tmod (x : Int) ((n : Int) + 1) = (r0 : Int) := by rw [Int.tmod_eq_emod_of_nonneg (by omega)]; exact i1
        have i3 : (r0 : Int) / 200 = (q0 : Int) := by omega
        have i4 : Int.tdiv (r0 : Int) 200 = (q0 : Int) := by rw [Int.tdiv_eq_ediv_of_nonneg (by omega)]; exact i3
        have i5 : (q0 : Int) * 200 = (off : Int) := by omega
        have i6 : ((n : Int) + 1 = 0) = False := by simp; omega
        have hq16 : q0 ≤ 15 := by omega
        clear hco hx hr0 hq0 hofe
        have hkk : on ≤ k → off = has := fun hh => absurd hko (by omega)
        have hrd := hide (unhide hrl).drew
        obtain ⟨en, hen⟩ : ∃ x, x = min (off + 200) l.length := ⟨_, rfl⟩
        obtain ⟨m, hm⟩ : ∃ x, x = en - off := ⟨_, rfl⟩
        have hmin : min ((off : Int) + 200) (n : Int) = (en : Int) := by omega
        have q1 : off ≤ en := by omega
        have q2 : en ≤ dk := by omega
        have q3 : off ≤ 3000 := by omega
        have q4 : en ≤ 3000 := by omega
        cases wh with
        | true =>
          obtain ⟨dn, hdn⟩ : ∃ x, x = decide (l.length ≤ off + 200) := ⟨_, rfl⟩
          have hee : ((en : Int) == (n : Int)) = dn := by
            rw [hdn]
            by_cases hd : l.length ≤ off + 200
            · rw [decide_eq_true hd]; simp; omega
            · rw [decide_eq_false hd]; simp; omega
          have hcn : CN l off en m has has true true dn := ⟨hoff, hen, hm, hdn, .inr ⟨.inl rfl, rfl, rfl⟩⟩
          have PC := hide (chunk_round (unhide HF) (unhide HNL) (unhide hrd) hcn)
          have HS := hide (fun w5 (x : BL w5 p I T (l.take has) true) (y : Below p W1 w5) => whole_round (unhide HF) (unhide hrd) hcn hkk x y)
          clear hcn hen hm hdn hrl hnl hrd
          have HX := hide (And.intro cx f2)
          clear cx
          go_upto_region 12 with fail
          clear f2
          refine wp_region_held_drew (S := fun w' => w'.cell? ⟨b, o + k, none⟩ = some (.int .u16 (x : Int)) ∧ w'.cell? ⟨w.heap.size, 2, none⟩ = some (.slice da n dk)) (by kernel_rfl) (unhide HX) (fun hHeld => ?_)
          refine hand_to (i := 0) (d := 57) (v := .slice (some ⟨b, o, none⟩) on ok) rfl rfl (by kernel_rfl) (by kernel_rfl) (by kernel_rfl) (fun _ _ _ h => h) (Or.inl ⟨by rfl, ?_⟩) hHeld ?_
          · (intro w' hSw; obtain ⟨hc1, hc2⟩ := hSw; go_simp <;> (try (rw [IntKind.wrap_i64]; omega)))
          simp only [Act.put, List.setIfInBounds_toArray, List.set_cons_zero, List.set_cons_succ]
          refine hand_to (i := 1) (d := 58) (v := .int .i64 (k : Int)) rfl rfl (by kernel_rfl) (by kernel_rfl) (by kernel_rfl) (fun _ _ _ h => h) (Or.inl ⟨by rfl, ?_⟩) hHeld ?_
          · (intro w' hSw; obtain ⟨hc1, hc2⟩ := hSw; go_simp <;> (try (rw [IntKind.wrap_i64]; omega)))
          simp only [Act.put, List.setIfInBounds_toArray, List.set_cons_zero, List.set_cons_succ]
          refine hand_to (i := 2) (d := 59) (v := .pointer (some ⟨b, o + k, none⟩)) rfl rfl (by kernel_rfl) (by kernel_rfl) (by kernel_rfl) (fun _ _ _ h => h) (Or.inl ⟨by rfl, ?_⟩) hHeld ?_
          · (intro w' hSw; obtain ⟨hc1, hc2⟩ := hSw; go_simp <;> (try (rw [IntKind.wrap_i64]; omega)))
          simp only [Act.put, List.setIfInBounds_toArray, List.set_cons_zero, List.set_cons_succ]
          refine hand_to (i := 3) (d := 60) (v := .int .u16 (x : Int)) rfl rfl (by kernel_rfl) (by kernel_rfl) (by kernel_rfl) (fun _ _ _ h => h) (Or.inl ⟨by rfl, ?_⟩) hHeld ?_
          · (intro w' hSw; obtain ⟨hc1, hc2⟩ := hSw; go_simp <;> (try (rw [IntKind.wrap_i64]; omega)))
          simp only [Act.put, List.setIfInBounds_toArray, List.set_cons_zero, List.set_cons_succ]
          refine hand_to (i := 4) (d := 61) (v := .int .i64 (x : Int)) rfl rfl (by kernel_rfl) (by kernel_rfl) (by kernel_rfl) (fun _ _ _ h => h) (Or.inl ⟨by rfl, ?_⟩) hHeld ?_
          · (intro w' hSw; obtain ⟨hc1, hc2⟩ := hSw; go_simp <;> (try (rw [IntKind.wrap_i64]; omega)))
          simp only [Act.put, List.setIfInBounds_toArray, List.set_cons_zero, List.set_cons_succ]
          refine hand_to (i := 5) (d := 62) (v := .pointer (some ⟨w.heap.size, 2, none⟩)) rfl rfl (by kernel_rfl) (by kernel_rfl) (by kernel_rfl) (fun _ _ _ h => h) (Or.inl ⟨by rfl, ?_⟩) hHeld ?_
          · (intro w' hSw; obtain ⟨hc1, hc2⟩ := hSw; go_simp <;> (try (rw [IntKind.wrap_i64]; omega)))
          simp only [Act.put, List.setIfInBounds_toArray, List.set_cons_zero, List.set_cons_succ]
          refine hand_to (i := 6) (d := 63) (v := .slice da n dk) rfl rfl (by kernel_rfl) (by kernel_rfl) (by kernel_rfl) (fun _ _ _ h => h) (Or.inl ⟨by rfl, ?_⟩) hHeld ?_
          · (intro w' hSw; obtain ⟨hc1, hc2⟩ := hSw; go_simp <;> (try (rw [IntKind.wrap_i64]; omega)))
          simp only [Act.put, List.setIfInBounds_toArray, List.set_cons_zero, List.set_cons_succ]
          refine hand_to (i := 7) (d := 64) (v := .int .i64 (n : Int)) rfl rfl (by kernel_rfl) (by kernel_rfl) (by kernel_rfl) (fun _ _ _ h => h) (Or.inl ⟨by rfl, ?_⟩) hHeld ?_
          · (intro w' hSw; obtain ⟨hc1, hc2⟩ := hSw; go_simp <;> (try (rw [IntKind.wrap_i64]; omega)))
          simp only [Act.put, List.setIfInBounds_toArray, List.set_cons_zero, List.set_cons_succ]
          refine hand_to (i := 8) (d := 65) (v := .int .i64 ((n : Int) + 1)) rfl rfl (by kernel_rfl) (by kernel_rfl) (by kernel_rfl) (fun _ _ _ h => h) (Or.inl ⟨by rfl, ?_⟩) hHeld ?_
          · (intro w' hSw; obtain ⟨hc1, hc2⟩ := hSw; go_simp <;> (try (rw [IntKind.wrap_i64]; omega)))
          simp only [Act.put, List.setIfInBounds_toArray, List.set_cons_zero, List.set_cons_succ]
          refine hand_to (i := 9) (d := 66) (v := .int .i64 (r0 : Int)) rfl rfl (by kernel_rfl) (by kernel_rfl) (by kernel_rfl) (fun _ _ _ h => h) (Or.inl ⟨by rfl, ?_⟩) hHeld ?_
          · (intro w' hSw; obtain ⟨hc1, hc2⟩ := hSw; go_simp <;> (try (rw [IntKind.wrap_i64]; omega)))
          simp only [Act.put, List.setIfInBounds_toArray, List.set_cons_zero, List.set_cons_succ]
          refine hand_to (i := 10) (d := 67) (v := .int .i64 (q0 : Int)) rfl rfl (by kernel_rfl) (by kernel_rfl) (by kernel_rfl) (fun _ _ _ h => h) (Or.inl ⟨by rfl, ?_⟩) hHeld ?_
          · (intro w' hSw; obtain ⟨hc1, hc2⟩ := hSw; go_simp <;> (try (rw [IntKind.wrap_i64]; omega)))
          simp only [Act.put, List.setIfInBounds_toArray, List.set_cons_zero, List.set_cons_succ]
          refine hand_to (i := 11) (d := 68) (v := .int .i64 (off : Int)) rfl rfl (by kernel_rfl) (by kernel_rfl) (by kernel_rfl) (fun _ _ _ h => h) (Or.inl ⟨by rfl, ?_⟩) hHeld ?_
          · (intro w' hSw; obtain ⟨hc1, hc2⟩ := hSw; go_simp <;> (try (rw [IntKind.wrap_i64]; omega)))
          simp only [Act.put, List.setIfInBounds_toArray, List.set_cons_zero, List.set_cons_succ]
          refine hand_to (i := 12) (d := 9) (v := .int .i64 (off : Int)) rfl rfl (by kernel_rfl) (by kernel_rfl) (by kernel_rfl) (fun _ _ _ h => h) (Or.inl ⟨by rfl, ?_⟩) hHeld ?_
          · (intro w' hSw; obtain ⟨hc1, hc2⟩ := hSw; go_simp <;> (try (rw [IntKind.wrap_i64]; omega)))
          simp only [Act.put, List.setIfInBounds_toArray, List.set_cons_zero, List.set_cons_succ]
          refine wpAnyH_done (by kernel_rfl) ?_ _
          obtain ⟨_, f2⟩ := hHeld
          have f0 : wr.drew.cell? ⟨w.heap.size, 0, none⟩ = _ := f0
          have f1 : wr.drew.cell? ⟨w.heap.size, 1, none⟩ = _ := f1
          go_wp2_with (first
            | (go_at_call 20; refine (unhide PC).mono ?_; rintro e w3 ⟨ca, ck, rfl, hs3, hby3, had3⟩; obtain ⟨g0, g1, g2, _, _, _⟩ := (unhide hs3).cells; clear hs3 PC f0 f1 f2)
            | (go_at_call 13; refine (unhide hby3 _ (by simp)).mono ?_; rintro e w4 ⟨rfl, hw4⟩; subst hw4; clear hby3)
            | (go_at_call 21; refine (unhide had3).mono ?_; rintro e w5 ⟨rfl, hB5⟩; have PS := hide (unhide HS _ (unhide hB5).1 (unhide hB5).2); clear had3 hB5 HS g0 g1 g2)
            | (go_at_call 22; refine (unhide PS).mono ?_; rintro e w6 ⟨a1, n1, k1, rfl, hs6, hsa6⟩; obtain ⟨e0, e1, e2, _, _, _⟩ := (unhide hs6).cells; clear hs6 PS)
            | (go_at_call 18; refine (unhide hsa6).mono ?_; rintro e w7 ⟨rfl, hcr⟩; clear hsa6))
          go_roundw
          case rel => exact ⟨k + 1, has, true, by omega, rfl, rfl, by go_num, hcr⟩
          case measure => simp [intOf]; omega
        | false =>
          by_cases hoh : off = has
          · have heq : ((off : Int) == (has : Int)) = true := by simp [hoh]
            by_cases hd : l.length ≤ off + 200
            · have hdn0 : decide (l.length ≤ off + 200) = true := decide_eq_true hd
              have hee : ((en : Int) == (n : Int)) = true := by simp; omega
              clear hd
              have hcn : CN l off en m has en false true true := ⟨hoff, hen, hm, hdn0.symm, .inl ⟨rfl, hoh, rfl, rfl⟩⟩
              have PC := hide (chunk_round (unhide HF) (unhide HNL) (unhide hrd) hcn)
              have HS := hide (fun w5 (x : BL w5 p I T (l.take en) true) (y : Below p W1 w5) => whole_round (unhide HF) (unhide hrd) hcn hkk x y)
              clear hoh
              clear hcn hen hm hdn0 hrl hnl hrd
              have HX := hide (And.intro cx f2)
              clear cx
              go_upto_region 12 with fail
              clear f2
              refine wp_region_held_drew (S := fun w' => w'.cell? ⟨b, o + k, none⟩ = some (.int .u16 (x : Int)) ∧ w'.cell? ⟨w.heap.size, 2, none⟩ = some (.slice da n dk)) (by kernel_rfl) (unhide HX) (fun hHeld => ?_)
              refine hand_to (i := 0) (d := 57) (v := .slice (some ⟨b, o, none⟩) on ok) rfl rfl (by kernel_rfl) (by kernel_rfl) (by kernel_rfl) (fun _ _ _ h => h) (Or.inl ⟨by rfl, ?_⟩) hHeld ?_
              · (intro w' hSw; obtain ⟨hc1, hc2⟩ := hSw; go_simp <;> (try (rw [IntKind.wrap_i64]; omega)))
              simp only [Act.put, List.setIfInBounds_toArray, List.set_cons_zero, List.set_cons_succ]
              refine hand_to (i := 1) (d := 58) (v := .int .i64 (k : Int)) rfl rfl (by kernel_rfl) (by kernel_rfl) (by kernel_rfl) (fun _ _ _ h => h) (Or.inl ⟨by rfl, ?_⟩) hHeld ?_
              · (intro w' hSw; obtain ⟨hc1, hc2⟩ := hSw; go_simp <;> (try (rw [IntKind.wrap_i64]; omega)))
              simp only [Act.put, List.setIfInBounds_toArray, List.set_cons_zero, List.set_cons_succ]
              refine hand_to (i := 2) (d := 59) (v := .pointer (some ⟨b, o + k, none⟩)) rfl rfl (by kernel_rfl) (by kernel_rfl) (by kernel_rfl) (fun _ _ _ h => h) (Or.inl ⟨by rfl, ?_⟩) hHeld ?_
              · (intro w' hSw; obtain ⟨hc1, hc2⟩ := hSw; go_simp <;> (try (rw [IntKind.wrap_i64]; omega)))
              simp only [Act.put, List.setIfInBounds_toArray, List.set_cons_zero, List.set_cons_succ]
              refine hand_to (i := 3) (d := 60) (v := .int .u16 (x : Int)) rfl rfl (by kernel_rfl) (by kernel_rfl) (by kernel_rfl) (fun _ _ _ h => h) (Or.inl ⟨by rfl, ?_⟩) hHeld ?_
              · (intro w' hSw; obtain ⟨hc1, hc2⟩ := hSw; go_simp <;> (try (rw [IntKind.wrap_i64]; omega)))
              simp only [Act.put, List.setIfInBounds_toArray, List.set_cons_zero, List.set_cons_succ]
              refine hand_to (i := 4) (d := 61) (v := .int .i64 (x : Int)) rfl rfl (by kernel_rfl) (by kernel_rfl) (by kernel_rfl) (fun _ _ _ h => h) (Or.inl ⟨by rfl, ?_⟩) hHeld ?_
              · (intro w' hSw; obtain ⟨hc1, hc2⟩ := hSw; go_simp <;> (try (rw [IntKind.wrap_i64]; omega)))
              simp only [Act.put, List.setIfInBounds_toArray, List.set_cons_zero, List.set_cons_succ]
              refine hand_to (i := 5) (d := 62) (v := .pointer (some ⟨w.heap.size, 2, none⟩)) rfl rfl (by kernel_rfl) (by kernel_rfl) (by kernel_rfl) (fun _ _ _ h => h) (Or.inl ⟨by rfl, ?_⟩) hHeld ?_
              · (intro w' hSw; obtain ⟨hc1, hc2⟩ := hSw; go_simp <;> (try (rw [IntKind.wrap_i64]; omega)))
              simp only [Act.put, List.setIfInBounds_toArray, List.set_cons_zero, List.set_cons_succ]
              refine hand_to (i := 6) (d := 63) (v := .slice da n dk) rfl rfl (by kernel_rfl) (by kernel_rfl) (by kernel_rfl) (fun _ _ _ h => h) (Or.inl ⟨by rfl, ?_⟩) hHeld ?_
              · (intro w' hSw; obtain ⟨hc1, hc2⟩ := hSw; go_simp <;> (try (rw [IntKind.wrap_i64]; omega)))
              simp only [Act.put, List.setIfInBounds_toArray, List.set_cons_zero, List.set_cons_succ]
              refine hand_to (i := 7) (d := 64) (v := .int .i64 (n : Int)) rfl rfl (by kernel_rfl) (by kernel_rfl) (by kernel_rfl) (fun _ _ _ h => h) (Or.inl ⟨by rfl, ?_⟩) hHeld ?_
              · (intro w' hSw; obtain ⟨hc1, hc2⟩ := hSw; go_simp <;> (try (rw [IntKind.wrap_i64]; omega)))
              simp only [Act.put, List.setIfInBounds_toArray, List.set_cons_zero, List.set_cons_succ]
              refine hand_to (i := 8) (d := 65) (v := .int .i64 ((n : Int) + 1)) rfl rfl (by kernel_rfl) (by kernel_rfl) (by kernel_rfl) (fun _ _ _ h => h) (Or.inl ⟨by rfl, ?_⟩) hHeld ?_
              · (intro w' hSw; obtain ⟨hc1, hc2⟩ := hSw; go_simp <;> (try (rw [IntKind.wrap_i64]; omega)))
              simp only [Act.put, List.setIfInBounds_toArray, List.set_cons_zero, List.set_cons_succ]
              refine hand_to (i := 9) (d := 66) (v := .int .i64 (r0 : Int)) rfl rfl (by kernel_rfl) (by kernel_rfl) (by kernel_rfl) (fun _ _ _ h => h) (Or.inl ⟨by rfl, ?_⟩) hHeld ?_
              · (intro w' hSw; obtain ⟨hc1, hc2⟩ := hSw; go_simp <;> (try (rw [IntKind.wrap_i64]; omega)))
              simp only [Act.put, List.setIfInBounds_toArray, List.set_cons_zero, List.set_cons_succ]
              refine hand_to (i := 10) (d := 67) (v := .int .i64 (q0 : Int)) rfl rfl (by kernel_rfl) (by kernel_rfl) (by kernel_rfl) (fun _ _ _ h => h) (Or.inl ⟨by rfl, ?_⟩) hHeld ?_
              · (intro w' hSw; obtain ⟨hc1, hc2⟩ := hSw; go_simp <;> (try (rw [IntKind.wrap_i64]; omega)))
              simp only [Act.put, List.setIfInBounds_toArray, List.set_cons_zero, List.set_cons_succ]
              refine hand_to (i := 11) (d := 68) (v := .int .i64 (off : Int)) rfl rfl (by kernel_rfl) (by kernel_rfl) (by kernel_rfl) (fun _ _ _ h => h) (Or.inl ⟨by rfl, ?_⟩) hHeld ?_
              · (intro w' hSw; obtain ⟨hc1, hc2⟩ := hSw; go_simp <;> (try (rw [IntKind.wrap_i64]; omega)))
              simp only [Act.put, List.setIfInBounds_toArray, List.set_cons_zero, List.set_cons_succ]
              refine hand_to (i := 12) (d := 9) (v := .int .i64 (off : Int)) rfl rfl (by kernel_rfl) (by kernel_rfl) (by kernel_rfl) (fun _ _ _ h => h) (Or.inl ⟨by rfl, ?_⟩) hHeld ?_
              · (intro w' hSw; obtain ⟨hc1, hc2⟩ := hSw; go_simp <;> (try (rw [IntKind.wrap_i64]; omega)))
              simp only [Act.put, List.setIfInBounds_toArray, List.set_cons_zero, List.set_cons_succ]
              refine wpAnyH_done (by kernel_rfl) ?_ _
              obtain ⟨_, f2⟩ := hHeld
              have f0 : wr.drew.cell? ⟨w.heap.size, 0, none⟩ = _ := f0
              have f1 : wr.drew.cell? ⟨w.heap.size, 1, none⟩ = _ := f1
              go_wp2_with (first
                | (go_at_call 20; refine (unhide PC).mono ?_; rintro e w3 ⟨ca, ck, rfl, hs3, hby3, had3⟩; obtain ⟨g0, g1, g2, _, _, _⟩ := (unhide hs3).cells; clear hs3 PC f0 f1 f2)
                | (go_at_call 13; refine (unhide hby3 _ (by simp)).mono ?_; rintro e w4 ⟨rfl, hw4⟩; subst hw4; clear hby3)
                | (go_at_call 21; refine (unhide had3).mono ?_; rintro e w5 ⟨rfl, hB5⟩; have PS := hide (unhide HS _ (unhide hB5).1 (unhide hB5).2); clear had3 hB5 HS g0 g1 g2)
                | (go_at_call 22; refine (unhide PS).mono ?_; rintro e w6 ⟨a1, n1, k1, rfl, hs6, hsa6⟩; obtain ⟨e0, e1, e2, _, _, _⟩ := (unhide hs6).cells; clear hs6 PS)
                | (go_at_call 18; refine (unhide hsa6).mono ?_; rintro e w7 ⟨rfl, hcr⟩; clear hsa6))
              go_roundw
              case rel => exact ⟨k + 1, en, true, by omega, rfl, rfl, by go_num, hcr⟩
              case measure => simp [intOf]; omega
            · have hdn0 : decide (l.length ≤ off + 200) = false := decide_eq_false hd
              have hee : ((en : Int) == (n : Int)) = false := by simp; omega
              clear hd
              have hcn : CN l off en m has en false false false := ⟨hoff, hen, hm, hdn0.symm, .inl ⟨rfl, hoh, rfl, rfl⟩⟩
              have PC := hide (chunk_round (unhide HF) (unhide HNL) (unhide hrd) hcn)
              have HS := hide (fun w5 (x : BL w5 p I T (l.take en) false) (y : Below p W1 w5) => part_round (unhide HF) (unhide hrd) hcn hkk x y)
              clear hoh
              clear hcn hen hm hdn0 hrl hnl hrd
              have HX := hide (And.intro cx f2)
              clear cx
              go_upto_region 12 with fail
              clear f2
              refine wp_region_held_drew (S := fun w' => w'.cell? ⟨b, o + k, none⟩ = some (.int .u16 (x : Int)) ∧ w'.cell? ⟨w.heap.size, 2, none⟩ = some (.slice da n dk)) (by kernel_rfl) (unhide HX) (fun hHeld => ?_)
              refine hand_to (i := 0) (d := 57) (v := .slice (some ⟨b, o, none⟩) on ok) rfl rfl (by kernel_rfl) (by kernel_rfl) (by kernel_rfl) (fun _ _ _ h => h) (Or.inl ⟨by rfl, ?_⟩) hHeld ?_
              · (intro w' hSw; obtain ⟨hc1, hc2⟩ := hSw; go_simp <;> (try (rw [IntKind.wrap_i64]; omega)))
              simp only [Act.put, List.setIfInBounds_toArray, List.set_cons_zero, List.set_cons_succ]
              refine hand_to (i := 1) (d := 58) (v := .int .i64 (k : Int)) rfl rfl (by kernel_rfl) (by kernel_rfl) (by kernel_rfl) (fun _ _ _ h => h) (Or.inl ⟨by rfl, ?_⟩) hHeld ?_
              · (intro w' hSw; obtain ⟨hc1, hc2⟩ := hSw; go_simp <;> (try (rw [IntKind.wrap_i64]; omega)))
              simp only [Act.put, List.setIfInBounds_toArray, List.set_cons_zero, List.set_cons_succ]
              refine hand_to (i := 2) (d := 59) (v := .pointer (some ⟨b, o + k, none⟩)) rfl rfl (by kernel_rfl) (by kernel_rfl) (by kernel_rfl) (fun _ _ _ h => h) (Or.inl ⟨by rfl, ?_⟩) hHeld ?_
              · (intro w' hSw; obtain ⟨hc1, hc2⟩ := hSw; go_simp <;> (try (rw [IntKind.wrap_i64]; omega)))
              simp only [Act.put, List.setIfInBounds_toArray, List.set_cons_zero, List.set_cons_succ]
              refine hand_to (i := 3) (d := 60) (v := .int .u16 (x : Int)) rfl rfl (by kernel_rfl) (by kernel_rfl) (by kernel_rfl) (fun _ _ _ h => h) (Or.inl ⟨by rfl, ?_⟩) hHeld ?_
              · (intro w' hSw; obtain ⟨hc1, hc2⟩ := hSw; go_simp <;> (try (rw [IntKind.wrap_i64]; omega)))
              simp only [Act.put, List.setIfInBounds_toArray, List.set_cons_zero, List.set_cons_succ]
              refine hand_to (i := 4) (d := 61) (v := .int .i64 (x : Int)) rfl rfl (by kernel_rfl) (by kernel_rfl) (by kernel_rfl) (fun _ _ _ h => h) (Or.inl ⟨by rfl, ?_⟩) hHeld ?_
              · (intro w' hSw; obtain ⟨hc1, hc2⟩ := hSw; go_simp <;> (try (rw [IntKind.wrap_i64]; omega)))
              simp only [Act.put, List.setIfInBounds_toArray, List.set_cons_zero, List.set_cons_succ]
              refine hand_to (i := 5) (d := 62) (v := .pointer (some ⟨w.heap.size, 2, none⟩)) rfl rfl (by kernel_rfl) (by kernel_rfl) (by kernel_rfl) (fun _ _ _ h => h) (Or.inl ⟨by rfl, ?_⟩) hHeld ?_
              · (intro w' hSw; obtain ⟨hc1, hc2⟩ := hSw; go_simp <;> (try (rw [IntKind.wrap_i64]; omega)))
              simp only [Act.put, List.setIfInBounds_toArray, List.set_cons_zero, List.set_cons_succ]
              refine hand_to (i := 6) (d := 63) (v := .slice da n dk) rfl rfl (by kernel_rfl) (by kernel_rfl) (by kernel_rfl) (fun _ _ _ h => h) (Or.inl ⟨by rfl, ?_⟩) hHeld ?_
              · (intro w' hSw; obtain ⟨hc1, hc2⟩ := hSw; go_simp <;> (try (rw [IntKind.wrap_i64]; omega)))
              simp only [Act.put, List.setIfInBounds_toArray, List.set_cons_zero, List.set_cons_succ]
              refine hand_to (i := 7) (d := 64) (v := .int .i64 (n : Int)) rfl rfl (by kernel_rfl) (by kernel_rfl) (by kernel_rfl) (fun _ _ _ h => h) (Or.inl ⟨by rfl, ?_⟩) hHeld ?_
              · (intro w' hSw; obtain ⟨hc1, hc2⟩ := hSw; go_simp <;> (try (rw [IntKind.wrap_i64]; omega)))
              simp only [Act.put, List.setIfInBounds_toArray, List.set_cons_zero, List.set_cons_succ]
              refine hand_to (i := 8) (d := 65) (v := .int .i64 ((n : Int) + 1)) rfl rfl (by kernel_rfl) (by kernel_rfl) (by kernel_rfl) (fun _ _ _ h => h) (Or.inl ⟨by rfl, ?_⟩) hHeld ?_
              · (intro w' hSw; obtain ⟨hc1, hc2⟩ := hSw; go_simp <;> (try (rw [IntKind.wrap_i64]; omega)))
              simp only [Act.put, List.setIfInBounds_toArray, List.set_cons_zero, List.set_cons_succ]
              refine hand_to (i := 9) (d := 66) (v := .int .i64 (r0 : Int)) rfl rfl (by kernel_rfl) (by kernel_rfl) (by kernel_rfl) (fun _ _ _ h => h) (Or.inl ⟨by rfl, ?_⟩) hHeld ?_
              · (intro w' hSw; obtain ⟨hc1, hc2⟩ := hSw; go_simp <;> (try (rw [IntKind.wrap_i64]; omega)))
              simp only [Act.put, List.setIfInBounds_toArray, List.set_cons_zero, List.set_cons_succ]
              refine hand_to (i := 10) (d := 67) (v := .int .i64 (q0 : Int)) rfl rfl (by kernel_rfl) (by kernel_rfl) (by kernel_rfl) (fun _ _ _ h => h) (Or.inl ⟨by rfl, ?_⟩) hHeld ?_
              · (intro w' hSw; obtain ⟨hc1, hc2⟩ := hSw; go_simp <;> (try (rw [IntKind.wrap_i64]; omega)))
              simp only [Act.put, List.setIfInBounds_toArray, List.set_cons_zero, List.set_cons_succ]
              refine hand_to (i := 11) (d := 68) (v := .int .i64 (off : Int)) rfl rfl (by kernel_rfl) (by kernel_rfl) (by kernel_rfl) (fun _ _ _ h => h) (Or.inl ⟨by rfl, ?_⟩) hHeld ?_
              · (intro w' hSw; obtain ⟨hc1, hc2⟩ := hSw; go_simp <;> (try (rw [IntKind.wrap_i64]; omega)))
              simp only [Act.put, List.setIfInBounds_toArray, List.set_cons_zero, List.set_cons_succ]
              refine hand_to (i := 12) (d := 9) (v := .int .i64 (off : Int)) rfl rfl (by kernel_rfl) (by kernel_rfl) (by kernel_rfl) (fun _ _ _ h => h) (Or.inl ⟨by rfl, ?_⟩) hHeld ?_
              · (intro w' hSw; obtain ⟨hc1, hc2⟩ := hSw; go_simp <;> (try (rw [IntKind.wrap_i64]; omega)))
              simp only [Act.put, List.setIfInBounds_toArray, List.set_cons_zero, List.set_cons_succ]
              refine wpAnyH_done (by kernel_rfl) ?_ _
              obtain ⟨_, f2⟩ := hHeld
              have f0 : wr.drew.cell? ⟨w.heap.size, 0, none⟩ = _ := f0
              have f1 : wr.drew.cell? ⟨w.heap.size, 1, none⟩ = _ := f1
              go_wp2_with (first
                | (go_at_call 20; refine (unhide PC).mono ?_; rintro e w3 ⟨ca, ck, rfl, hs3, hby3, had3⟩; obtain ⟨g0, g1, g2, _, _, _⟩ := (unhide hs3).cells; clear hs3 PC f0 f1 f2)
                | (go_at_call 13; refine (unhide hby3 _ (by simp)).mono ?_; rintro e w4 ⟨rfl, hw4⟩; subst hw4; clear hby3)
                | (go_at_call 21; refine (unhide had3).mono ?_; rintro e w5 ⟨rfl, hB5⟩; have PS := hide (unhide HS _ (unhide hB5).1 (unhide hB5).2); clear had3 hB5 HS g0 g1 g2)
                | (go_at_call 22; refine (unhide PS).mono ?_; rintro e w6 ⟨rfl, hs6, hsa6⟩; obtain ⟨e0, e1, e2, _, _, _⟩ := (unhide hs6).cells; clear hs6 PS)
                | (go_at_call 18; refine (unhide hsa6).mono ?_; rintro e w7 ⟨rfl, hcr⟩; clear hsa6))
              go_roundw
              case rel => exact ⟨k + 1, en, false, by omega, rfl, rfl, by go_num, hcr⟩
              case measure => simp [intOf]; omega
          · have heq : ((off : Int) == (has : Int)) = false := by simp; omega
            obtain ⟨dn, hdn⟩ : ∃ x, x = decide (l.length ≤ off + 200) := ⟨_, rfl⟩
            have hee : ((en : Int) == (n : Int)) = dn := by
              rw [hdn]
              by_cases hd : l.length ≤ off + 200
              · rw [decide_eq_true hd]; simp; omega
              · rw [decide_eq_false hd]; simp; omega
            have hcn : CN l off en m has has false false dn := ⟨hoff, hen, hm, hdn, .inr ⟨.inr hoh, rfl, rfl⟩⟩
            have PC := hide (chunk_round (unhide HF) (unhide HNL) (unhide hrd) hcn)
            have HS := hide (fun w5 (x : BL w5 p I T (l.take has) false) (y : Below p W1 w5) => part_round (unhide HF) (unhide hrd) hcn hkk x y)
            clear hcn hen hm hdn hrl hnl hrd
            have HX := hide (And.intro cx f2)
            clear cx
            go_upto_region 12 with fail
            clear f2
            refine wp_region_held_drew (S := fun w' => w'.cell? ⟨b, o + k, none⟩ = some (.int .u16 (x : Int)) ∧ w'.cell? ⟨w.heap.size, 2, none⟩ = some (.slice da n dk)) (by kernel_rfl) (unhide HX) (fun hHeld => ?_)
            refine hand_to (i := 0) (d := 57) (v := .slice (some ⟨b, o, none⟩) on ok) rfl rfl (by kernel_rfl) (by kernel_rfl) (by kernel_rfl) (fun _ _ _ h => h) (Or.inl ⟨by rfl, ?_⟩) hHeld ?_
            · (intro w' hSw; obtain ⟨hc1, hc2⟩ := hSw; go_simp <;> (try (rw [IntKind.wrap_i64]; omega)))
            simp only [Act.put, List.setIfInBounds_toArray, List.set_cons_zero, List.set_cons_succ]
            refine hand_to (i := 1) (d := 58) (v := .int .i64 (k : Int)) rfl rfl (by kernel_rfl) (by kernel_rfl) (by kernel_rfl) (fun _ _ _ h => h) (Or.inl ⟨by rfl, ?_⟩) hHeld ?_
            · (intro w' hSw; obtain ⟨hc1, hc2⟩ := hSw; go_simp <;> (try (rw [IntKind.wrap_i64]; omega)))
            simp only [Act.put, List.setIfInBounds_toArray, List.set_cons_zero, List.set_cons_succ]
            refine hand_to (i := 2) (d := 59) (v := .pointer (some ⟨b, o + k, none⟩)) rfl rfl (by kernel_rfl) (by kernel_rfl) (by kernel_rfl) (fun _ _ _ h => h) (Or.inl ⟨by rfl, ?_⟩) hHeld ?_
            · (intro w' hSw; obtain ⟨hc1, hc2⟩ := hSw; go_simp <;> (try (rw [IntKind.wrap_i64]; omega)))
            simp only [Act.put, List.setIfInBounds_toArray, List.set_cons_zero, List.set_cons_succ]
            refine hand_to (i := 3) (d := 60) (v := .int .u16 (x : Int)) rfl rfl (by kernel_rfl) (by kernel_rfl) (by kernel_rfl) (fun _ _ _ h => h) (Or.inl ⟨by rfl, ?_⟩) hHeld ?_
            · (intro w' hSw; obtain ⟨hc1, hc2⟩ := hSw; go_simp <;> (try (rw [IntKind.wrap_i64]; omega)))
            simp only [Act.put, List.setIfInBounds_toArray, List.set_cons_zero, List.set_cons_succ]
            refine hand_to (i := 4) (d := 61) (v := .int .i64 (x : Int)) rfl rfl (by kernel_rfl) (by kernel_rfl) (by kernel_rfl) (fun _ _ _ h => h) (Or.inl ⟨by rfl, ?_⟩) hHeld ?_
            · (intro w' hSw; obtain ⟨hc1, hc2⟩ := hSw; go_simp <;> (try (rw [IntKind.wrap_i64]; omega)))
            simp only [Act.put, List.setIfInBounds_toArray, List.set_cons_zero, List.set_cons_succ]
            refine hand_to (i := 5) (d := 62) (v := .pointer (some ⟨w.heap.size, 2, none⟩)) rfl rfl (by kernel_rfl) (by kernel_rfl) (by kernel_rfl) (fun _ _ _ h => h) (Or.inl ⟨by rfl, ?_⟩) hHeld ?_
            · (intro w' hSw; obtain ⟨hc1, hc2⟩ := hSw; go_simp <;> (try (rw [IntKind.wrap_i64]; omega)))
            simp only [Act.put, List.setIfInBounds_toArray, List.set_cons_zero, List.set_cons_succ]
            refine hand_to (i := 6) (d := 63) (v := .slice da n dk) rfl rfl (by kernel_rfl) (by kernel_rfl) (by kernel_rfl) (fun _ _ _ h => h) (Or.inl ⟨by rfl, ?_⟩) hHeld ?_
            · (intro w' hSw; obtain ⟨hc1, hc2⟩ := hSw; go_simp <;> (try (rw [IntKind.wrap_i64]; omega)))
            simp only [Act.put, List.setIfInBounds_toArray, List.set_cons_zero, List.set_cons_succ]
            refine hand_to (i := 7) (d := 64) (v := .int .i64 (n : Int)) rfl rfl (by kernel_rfl) (by kernel_rfl) (by kernel_rfl) (fun _ _ _ h => h) (Or.inl ⟨by rfl, ?_⟩) hHeld ?_
            · (intro w' hSw; obtain ⟨hc1, hc2⟩ := hSw; go_simp <;> (try (rw [IntKind.wrap_i64]; omega)))
            simp only [Act.put, List.setIfInBounds_toArray, List.set_cons_zero, List.set_cons_succ]
            refine hand_to (i := 8) (d := 65) (v := .int .i64 ((n : Int) + 1)) rfl rfl (by kernel_rfl) (by kernel_rfl) (by kernel_rfl) (fun _ _ _ h => h) (Or.inl ⟨by rfl, ?_⟩) hHeld ?_
            · (intro w' hSw; obtain ⟨hc1, hc2⟩ := hSw; go_simp <;> (try (rw [IntKind.wrap_i64]; omega)))
            simp only [Act.put, List.setIfInBounds_toArray, List.set_cons_zero, List.set_cons_succ]
            refine hand_to (i := 9) (d := 66) (v := .int .i64 (r0 : Int)) rfl rfl (by kernel_rfl) (by kernel_rfl) (by kernel_rfl) (fun _ _ _ h => h) (Or.inl ⟨by rfl, ?_⟩) hHeld ?_
            · (intro w' hSw; obtain ⟨hc1, hc2⟩ := hSw; go_simp <;> (try (rw [IntKind.wrap_i64]; omega)))
            simp only [Act.put, List.setIfInBounds_toArray, List.set_cons_zero, List.set_cons_succ]
            refine hand_to (i := 10) (d := 67) (v := .int .i64 (q0 : Int)) rfl rfl (by kernel_rfl) (by kernel_rfl) (by kernel_rfl) (fun _ _ _ h => h) (Or.inl ⟨by rfl, ?_⟩) hHeld ?_
            · (intro w' hSw; obtain ⟨hc1, hc2⟩ := hSw; go_simp <;> (try (rw [IntKind.wrap_i64]; omega)))
            simp only [Act.put, List.setIfInBounds_toArray, List.set_cons_zero, List.set_cons_succ]
            refine hand_to (i := 11) (d := 68) (v := .int .i64 (off : Int)) rfl rfl (by kernel_rfl) (by kernel_rfl) (by kernel_rfl) (fun _ _ _ h => h) (Or.inl ⟨by rfl, ?_⟩) hHeld ?_
            · (intro w' hSw; obtain ⟨hc1, hc2⟩ := hSw; go_simp <;> (try (rw [IntKind.wrap_i64]; omega)))
            simp only [Act.put, List.setIfInBounds_toArray, List.set_cons_zero, List.set_cons_succ]
            refine hand_to (i := 12) (d := 9) (v := .int .i64 (off : Int)) rfl rfl (by kernel_rfl) (by kernel_rfl) (by kernel_rfl) (fun _ _ _ h => h) (Or.inl ⟨by rfl, ?_⟩) hHeld ?_
            · (intro w' hSw; obtain ⟨hc1, hc2⟩ := hSw; go_simp <;> (try (rw [IntKind.wrap_i64]; omega)))
            simp only [Act.put, List.setIfInBounds_toArray, List.set_cons_zero, List.set_cons_succ]
            refine wpAnyH_done (by kernel_rfl) ?_ _
            obtain ⟨_, f2⟩ := hHeld
            have f0 : wr.drew.cell? ⟨w.heap.size, 0, none⟩ = _ := f0
            have f1 : wr.drew.cell? ⟨w.heap.size, 1, none⟩ = _ := f1
            go_wp2_with (first
              | (go_at_call 20; refine (unhide PC).mono ?_; rintro e w3 ⟨ca, ck, rfl, hs3, hby3, had3⟩; obtain ⟨g0, g1, g2, _, _, _⟩ := (unhide hs3).cells; clear hs3 PC f0 f1 f2)
              | (go_at_call 13; refine (unhide hby3 _ (by simp)).mono ?_; rintro e w4 ⟨rfl, hw4⟩; subst hw4; clear hby3)
              | (go_at_call 21; refine (unhide had3).mono ?_; rintro e w5 ⟨rfl, hB5⟩; have PS := hide (unhide HS _ (unhide hB5).1 (unhide hB5).2); clear had3 hB5 HS g0 g1 g2)
              | (go_at_call 22; refine (unhide PS).mono ?_; rintro e w6 ⟨rfl, hs6, hsa6⟩; obtain ⟨e0, e1, e2, _, _, _⟩ := (unhide hs6).cells; clear hs6 PS)
              | (go_at_call 18; refine (unhide hsa6).mono ?_; rintro e w7 ⟨rfl, hcr⟩; clear hsa6))
            go_roundw
            case rel => exact ⟨k + 1, has, false, by omega, rfl, rfl, by go_num, hcr⟩
            case measure => simp [intOf]; omega
      · have hki : ¬ ((k : Int) < (on : Int)) := by omega
        have hoff : has ≤ l.length := (unhide hrl).1
        have hkk : on ≤ k → has = has := fun _ => rfl
        obtain ⟨en, hen⟩ : ∃ x, x = min (has + 200) l.length := ⟨_, rfl⟩
        obtain ⟨m, hm⟩ : ∃ x, x = en - has := ⟨_, rfl⟩
        have hmin : min ((has : Int) + 200) (n : Int) = (en : Int) := by omega
        have q1 : has ≤ en := by omega
        have q2 : en ≤ dk := by omega
        have q3 : has ≤ 3000 := by omega
        have q4 : en ≤ 3000 := by omega
        cases wh with
        | true =>
          obtain ⟨dn, hdn⟩ : ∃ x, x = decide (l.length ≤ has + 200) := ⟨_, rfl⟩
          have hee : ((en : Int) == (n : Int)) = dn := by
            rw [hdn]
            by_cases hd : l.length ≤ has + 200
            · rw [decide_eq_true hd]; simp; omega
            · rw [decide_eq_false hd]; simp; omega
          have hcn : CN l has en m has has true true dn := ⟨hoff, hen, hm, hdn, .inr ⟨.inl rfl, rfl, rfl⟩⟩
          have PC := hide (chunk_round (unhide HF) (unhide HNL) (unhide hrl) hcn)
          have HS := hide (fun w5 (x : BL w5 p I T (l.take has) true) (y : Below p W1 w5) => whole_round (unhide HF) (unhide hrl) hcn hkk x y)
          clear hcn hen hm hdn hrl hnl
          go_wp2_with (first
            | (go_at_call 20; refine (unhide PC).mono ?_; rintro e w3 ⟨ca, ck, rfl, hs3, hby3, had3⟩; obtain ⟨g0, g1, g2, _, _, _⟩ := (unhide hs3).cells; clear hs3 PC f0 f1 f2)
            | (go_at_call 13; refine (unhide hby3 _ (by simp)).mono ?_; rintro e w4 ⟨rfl, hw4⟩; subst hw4; clear hby3)
            | (go_at_call 21; refine (unhide had3).mono ?_; rintro e w5 ⟨rfl, hB5⟩; have PS := hide (unhide HS _ (unhide hB5).1 (unhide hB5).2); clear had3 hB5 HS g0 g1 g2)
            | (go_at_call 22; refine (unhide PS).mono ?_; rintro e w6 ⟨a1, n1, k1, rfl, hs6, hsa6⟩; obtain ⟨e0, e1, e2, _, _, _⟩ := (unhide hs6).cells; clear hs6 PS)
            | (go_at_call 18; refine (unhide hsa6).mono ?_; rintro e w7 ⟨rfl, hcr⟩; clear hsa6))
          go_roundw
          case rel => exact ⟨k + 1, has, true, by omega, rfl, rfl, by go_num, hcr⟩
          case measure => simp [intOf]; omega
        | false =>
          by_cases hd : l.length ≤ has + 200
          · have hdn0 : decide (l.length ≤ has + 200) = true := decide_eq_true hd
            have hee : ((en : Int) == (n : Int)) = true := by simp; omega
            clear hd
            have hcn : CN l has en m has en false true true := ⟨hoff, hen, hm, hdn0.symm, .inl ⟨rfl, rfl, rfl, rfl⟩⟩
            have PC := hide (chunk_round (unhide HF) (unhide HNL) (unhide hrl) hcn)
            have HS := hide (fun w5 (x : BL w5 p I T (l.take en) true) (y : Below p W1 w5) => whole_round (unhide HF) (unhide hrl) hcn hkk x y)
            clear hcn hen hm hdn0 hrl hnl
            go_wp2_with (first
              | (go_at_call 20; refine (unhide PC).mono ?_; rintro e w3 ⟨ca, ck, rfl, hs3, hby3, had3⟩; obtain ⟨g0, g1, g2, _, _, _⟩ := (unhide hs3).cells; clear hs3 PC f0 f1 f2)
              | (go_at_call 13; refine (unhide hby3 _ (by simp)).mono ?_; rintro e w4 ⟨rfl, hw4⟩; subst hw4; clear hby3)
              | (go_at_call 21; refine (unhide had3).mono ?_; rintro e w5 ⟨rfl, hB5⟩; have PS := hide (unhide HS _ (unhide hB5).1 (unhide hB5).2); clear had3 hB5 HS g0 g1 g2)
              | (go_at_call 22; refine (unhide PS).mono ?_; rintro e w6 ⟨a1, n1, k1, rfl, hs6, hsa6⟩; obtain ⟨e0, e1, e2, _, _, _⟩ := (unhide hs6).cells; clear hs6 PS)
              | (go_at_call 18; refine (unhide hsa6).mono ?_; rintro e w7 ⟨rfl, hcr⟩; clear hsa6))
            go_roundw
            case rel => exact ⟨k + 1, en, true, by omega, rfl, rfl, by go_num, hcr⟩
            case measure => simp [intOf]; omega
          · have hdn0 : decide (l.length ≤ has + 200) = false := decide_eq_false hd
            have hee : ((en : Int) == (n : Int)) = false := by simp; omega
            clear hd
            have hcn : CN l has en m has en false false false := ⟨hoff, hen, hm, hdn0.symm, .inl ⟨rfl, rfl, rfl, rfl⟩⟩
            have PC := hide (chunk_round (unhide HF) (unhide HNL) (unhide hrl) hcn)
            have HS := hide (fun w5 (x : BL w5 p I T (l.take en) false) (y : Below p W1 w5) => part_round (unhide HF) (unhide hrl) hcn hkk x y)
            clear hcn hen hm hdn0 hrl hnl
            go_wp2_with (first
              | (go_at_call 20; refine (unhide PC).mono ?_; rintro e w3 ⟨ca, ck, rfl, hs3, hby3, had3⟩; obtain ⟨g0, g1, g2, _, _, _⟩ := (unhide hs3).cells; clear hs3 PC f0 f1 f2)
              | (go_at_call 13; refine (unhide hby3 _ (by simp)).mono ?_; rintro e w4 ⟨rfl, hw4⟩; subst hw4; clear hby3)
              | (go_at_call 21; refine (unhide had3).mono ?_; rintro e w5 ⟨rfl, hB5⟩; have PS := hide (unhide HS _ (unhide hB5).1 (unhide hB5).2); clear had3 hB5 HS g0 g1 g2)
              | (go_at_call 22; refine (unhide PS).mono ?_; rintro e w6 ⟨rfl, hs6, hsa6⟩; obtain ⟨e0, e1, e2, _, _, _⟩ := (unhide hs6).cells; clear hs6 PS)
              | (go_at_call 18; refine (unhide hsa6).mono ?_; rintro e w7 ⟨rfl, hcr⟩; clear hsa6))
            go_roundw
            case rel => exact ⟨k + 1, en, false, by omega, rfl, rfl, by go_num, hcr⟩
            case measure => simp [intOf]; omega
    · have hji : ¬ ((k : Int) < (on : Int) + (nq : Int) + 2) := by have := (unhide HKQ).1; omega
      cases wh with
      | false =>
        exfalso
        have c1 := (unhide hrl).1
        have c2 := (unhide hrl).2.2.2.2 rfl (by have := (unhide HKQ).1; omega)
        have c3 := unhide HKQ
        omega
      | true =>
        have PB := hide (chunk_bad I T ((n : Int) + 1) da n dk wr (.inr (by omega)))
        have PB2 := hide (fun w3 => chunk_bad I T (-1) da n dk w3 (.inl (by decide)))
        have HR := hide (And.intro (unhide hrl).2.1 (unhide hrl).2.2.1)
        clear hrl hnl
        go_upto_region 25 with (first
          | (go_at_call 20; refine (unhide PB).mono ?_; rintro e w3 ⟨b1, rfl, he3, hb3⟩; clear PB f0 f1 f2; have HE3 := hide he3; have HR3 := hide (And.intro ((unhide HR).1.later hb3) ((unhide HR).2.trans (hb3.mono (Nat.le_of_lt (unhide HR).1.lt)))); obtain ⟨f0, f1, f2, _, _, _⟩ := ((unhide HF).svr (unhide HR3).2).cells; clear he3 hb3 HR))
        go_upto_region 26 with (first
          | (go_at_call 20; refine (unhide PB2 _).mono ?_; rintro e w4 ⟨b2, rfl, he4, hb4⟩; clear PB2 f0 f1 f2; have hr4 := And.intro ((unhide HR3).1.later hb4) ((unhide HR3).2.trans (hb4.mono (Nat.le_of_lt (unhide HR3).1.lt))); have HE4 : Hid (CE w w4 p I T b1 b2 n (l.take has) (.slice da n dk)) := hide ⟨hr4.1, (unhide HF).svr hr4.2, (unhide HE3).below hb4 (unhide HE3).lt, he4, (unhide HF).below hr4.2⟩; clear he4 hb4 hr4 HR3 HE3))
        refine wp_region_held_drew (S := fun w' => CE w w' p I T b1 b2 n (l.take has) (.slice da n dk)) (by kernel_rfl) (ce_later (unhide HE4) (drew_below _ 1)) (fun hHeld => ?_)
        refine hand_to (i := 0) (d := 173) (v := .bool true) rfl rfl (by kernel_rfl) (by kernel_rfl) (by kernel_rfl) (fun _ _ _ h => h) (Or.inl ⟨by rfl, ?_⟩) hHeld ?_
        · (intro w' hSw; obtain ⟨f0, _, _, _, _, _⟩ := hSw.2.1.cells; go_simp)
        simp only [Act.put, List.setIfInBounds_toArray, List.set_cons_zero, List.set_cons_succ]
        refine hand_to (i := 1) (d := 174) (v := .bool true) rfl rfl (by kernel_rfl) (by kernel_rfl) (by kernel_rfl) (fun _ _ _ h => h) (Or.inl ⟨by rfl, ?_⟩) hHeld ?_
        · (intro w' hSw; obtain ⟨f0, _, _, _, _, _⟩ := hSw.2.1.cells; go_simp)
        simp only [Act.put, List.setIfInBounds_toArray, List.set_cons_zero, List.set_cons_succ]
        refine hand_to (i := 2) (d := 175) (v := .pointer (some ⟨p, 0, none⟩)) rfl rfl (by kernel_rfl) (by kernel_rfl) (by kernel_rfl) (fun _ _ _ h => h) (Or.inl ⟨by rfl, ?_⟩) hHeld ?_
        · (intro w' hSw; obtain ⟨f0, _, _, _, _, _⟩ := hSw.2.1.cells; go_simp)
        simp only [Act.put, List.setIfInBounds_toArray, List.set_cons_zero, List.set_cons_succ]
        refine hand_to (i := 4) (d := 177) (v := .pointer (some ⟨w.heap.size, 0, none⟩)) rfl rfl (by kernel_rfl) (by kernel_rfl) (by kernel_rfl) (fun _ _ _ h => h) (Or.inl ⟨by rfl, ?_⟩) hHeld ?_
        · (intro w' hSw; obtain ⟨f0, _, _, _, _, _⟩ := hSw.2.1.cells; go_simp)
        simp only [Act.put, List.setIfInBounds_toArray, List.set_cons_zero, List.set_cons_succ]
        refine hand_to (i := 5) (d := 178) (v := .int .u64 (I : Int)) rfl rfl (by kernel_rfl) (by kernel_rfl) (by kernel_rfl) (fun _ _ _ h => h) (Or.inl ⟨by rfl, ?_⟩) hHeld ?_
        · (intro w' hSw; obtain ⟨f0, _, _, _, _, _⟩ := hSw.2.1.cells; go_simp)
        simp only [Act.put, List.setIfInBounds_toArray, List.set_cons_zero, List.set_cons_succ]
        refine wpAnyH_ready (rs := [3]) (by kernel_rfl) (by simp) ?_
        refine AllReadyH.cons rfl (fun K hK => ?_) AllReadyH.nil
        go_simp
        (go_at_call 23; refine (index_any hHeld.1).mono ?_; rintro e w9 ⟨rfl, hw9⟩; subst hw9)
        (go_wp2_with fail)
        refine hK.out _ _ hHeld (fun hHeld2 => ?_)
        clear hK K hHeld
        have hHeld := hHeld2
        clear hHeld2
        refine hand_to (i := 6) (d := 179) (v := .bool true) rfl rfl (by kernel_rfl) (by kernel_rfl) (by kernel_rfl) (fun _ _ _ h => h) (Or.inl ⟨by rfl, ?_⟩) hHeld ?_
        · (intro w' hSw; obtain ⟨f0, _, _, _, _, _⟩ := hSw.2.1.cells; go_simp)
        simp only [Act.put, List.setIfInBounds_toArray, List.set_cons_zero, List.set_cons_succ]
        refine hand_to (i := 7) (d := 180) (v := .bool true) rfl rfl (by kernel_rfl) (by kernel_rfl) (by kernel_rfl) (fun _ _ _ h => h) (Or.inl ⟨by rfl, ?_⟩) hHeld ?_
        · (intro w' hSw; obtain ⟨f0, _, _, _, _, _⟩ := hSw.2.1.cells; go_simp)
        simp only [Act.put, List.setIfInBounds_toArray, List.set_cons_zero, List.set_cons_succ]
        refine hand_to (i := 8) (d := 181) (v := .bool true) rfl rfl (by kernel_rfl) (by kernel_rfl) (by kernel_rfl) (fun _ _ _ h => h) (Or.inl ⟨by rfl, ?_⟩) hHeld ?_
        · (intro w' hSw; obtain ⟨f0, _, _, _, _, _⟩ := hSw.2.1.cells; go_simp)
        simp only [Act.put, List.setIfInBounds_toArray, List.set_cons_zero, List.set_cons_succ]
        refine hand_to (i := 9) (d := 182) (v := ev b1) rfl rfl (by kernel_rfl) (by kernel_rfl) (by kernel_rfl) (fun _ _ _ h => h) (Or.inl ⟨by rfl, ?_⟩) hHeld ?_
        · (intro w' hSw; obtain ⟨f0, _, _, _, _, _⟩ := hSw.2.1.cells; go_simp)
        simp only [Act.put, List.setIfInBounds_toArray, List.set_cons_zero, List.set_cons_succ]
        refine wpAnyH_ready (rs := [10]) (by kernel_rfl) (by simp) ?_
        refine AllReadyH.cons rfl (fun K hK => ?_) AllReadyH.nil
        go_simp
        (go_at_call 17; refine (class_at b1 ((n : Int) + 1) 40 _ (unhide HEW _ hHeld.2.2.2.2) hHeld.2.2.1).mono ?_; rintro e w9 ⟨rfl, hb9⟩; have hH9 := ce_later hHeld hb9)
        (go_wp2_with fail)
        refine hK.out _ _ hH9 (fun hHeld2 => ?_)
        clear hK K hHeld
        have hHeld := hHeld2
        clear hHeld2
        refine hand_to (i := 11) (d := 184) (v := .bool true) rfl rfl (by kernel_rfl) (by kernel_rfl) (by kernel_rfl) (fun _ _ _ h => h) (Or.inl ⟨by rfl, ?_⟩) hHeld ?_
        · (intro w' hSw; obtain ⟨f0, _, _, _, _, _⟩ := hSw.2.1.cells; go_simp)
        simp only [Act.put, List.setIfInBounds_toArray, List.set_cons_zero, List.set_cons_succ]
        refine hand_to (i := 12) (d := 185) (v := .bool true) rfl rfl (by kernel_rfl) (by kernel_rfl) (by kernel_rfl) (fun _ _ _ h => h) (Or.inl ⟨by rfl, ?_⟩) hHeld ?_
        · (intro w' hSw; obtain ⟨f0, _, _, _, _, _⟩ := hSw.2.1.cells; go_simp)
        simp only [Act.put, List.setIfInBounds_toArray, List.set_cons_zero, List.set_cons_succ]
        refine hand_to (i := 13) (d := 186) (v := .bool true) rfl rfl (by kernel_rfl) (by kernel_rfl) (by kernel_rfl) (fun _ _ _ h => h) (Or.inl ⟨by rfl, ?_⟩) hHeld ?_
        · (intro w' hSw; obtain ⟨f0, _, _, _, _, _⟩ := hSw.2.1.cells; go_simp)
        simp only [Act.put, List.setIfInBounds_toArray, List.set_cons_zero, List.set_cons_succ]
        refine hand_to (i := 14) (d := 187) (v := ev b2) rfl rfl (by kernel_rfl) (by kernel_rfl) (by kernel_rfl) (fun _ _ _ h => h) (Or.inl ⟨by rfl, ?_⟩) hHeld ?_
        · (intro w' hSw; obtain ⟨f0, _, _, _, _, _⟩ := hSw.2.1.cells; go_simp)
        simp only [Act.put, List.setIfInBounds_toArray, List.set_cons_zero, List.set_cons_succ]
        refine wpAnyH_ready (rs := [15]) (by kernel_rfl) (by simp) ?_
        refine AllReadyH.cons rfl (fun K hK => ?_) AllReadyH.nil
        go_simp
        (go_at_call 17; refine (class_at b2 (-1) 40 _ (unhide HEW _ hHeld.2.2.2.2) hHeld.2.2.2.1).mono ?_; rintro e w9 ⟨rfl, hb9⟩; have hH9 := ce_later hHeld hb9)
        (go_wp2_with fail)
        refine hK.out _ _ hH9 (fun hHeld2 => ?_)
        clear hK K hHeld
        have hHeld := hHeld2
        clear hHeld2
        refine hand_to (i := 16) (d := 189) (v := .bool true) rfl rfl (by kernel_rfl) (by kernel_rfl) (by kernel_rfl) (fun _ _ _ h => h) (Or.inl ⟨by rfl, ?_⟩) hHeld ?_
        · (intro w' hSw; obtain ⟨f0, _, _, _, _, _⟩ := hSw.2.1.cells; go_simp)
        simp only [Act.put, List.setIfInBounds_toArray, List.set_cons_zero, List.set_cons_succ]
        refine hand_to (i := 17) (d := 190) (v := .bool true) rfl rfl (by kernel_rfl) (by kernel_rfl) (by kernel_rfl) (fun _ _ _ h => h) (Or.inl ⟨by rfl, ?_⟩) hHeld ?_
        · (intro w' hSw; obtain ⟨f0, _, _, _, _, _⟩ := hSw.2.1.cells; go_simp)
        simp only [Act.put, List.setIfInBounds_toArray, List.set_cons_zero, List.set_cons_succ]
        refine hand_to (i := 18) (d := 4) (v := .bool true) rfl rfl (by kernel_rfl) (by kernel_rfl) (by kernel_rfl) (fun _ _ _ h => h) (Or.inl ⟨by rfl, ?_⟩) hHeld ?_
        · (intro w' hSw; obtain ⟨f0, _, _, _, _, _⟩ := hSw.2.1.cells; go_simp)
        simp only [Act.put, List.setIfInBounds_toArray, List.set_cons_zero, List.set_cons_succ]
        refine wpAnyH_done (by kernel_rfl) ?_ _
        have HZ := hide hHeld.2.2.2.2
        clear hHeld
        go_wp2
        go_ret
        exact ⟨rfl, unhide HZ⟩

set_option maxHeartbeats 3200000 in
set_option maxRecDepth 100000 in
theorem chunks_any (I T n dk on ok : Nat) (da oa : Option Addr) (l : List UInt8) (os : List Nat) (w : World) (hnl : n = l.length) (hos : on = os.length) (hv : n ≤ 3000 → RBp w w.heap.size (.slice da n dk) l) (hO : InU w oa os) (hE : ET w) (hT : ST w) :
    Calls Tryz.prog 5 #[.agg #[.int .u64 (I : Int), .int .u64 (T : Int), .slice da n dk], .slice oa on ok] w fun e w' => e = .returned (.bool true) ∧ Below w.heap.size w w' := by
  by_cases h1 : n ≤ 3000
  · by_cases h2 : on ≤ 60
    · exact chunks_small I T n dk on ok da oa l os w hnl hos (hv h1) hO h1 h2 hE hT
    · have hb0 := below_alloc (B := w.heap.size) (.cells #[.int .u64 (I : Int), .int .u64 (T : Int), .slice da n dk] 34) (Nat.le_refl w.heap.size)
      have HK := hide (known4_any (w.alloc (.cells #[.int .u64 (I : Int), .int .u64 (T : Int), .slice da n dk] 34)) (hE.below hb0 hE.lt) (hT.below hb0 hT.lt))
      have hs0 := Sv.new w (.int .u64 (I : Int)) (.int .u64 (T : Int)) (.slice da n dk)
      have HSV := hide hs0
      have HB0 := hide hb0
      have g1 : ¬ ((3000 : Int) < (n : Int)) := by omega
      have g2 : (60 : Int) < (on : Int) := by omega
      clear hE hT hv hO hb0 hs0 hos hnl h1 h2
      go_enter Tryz.func5, Tryz.ntmps5
      go_wp2_with (first
        | (go_at_call 6; refine (unhide HK).mono ?_; rintro e w1 ⟨rfl, b1⟩; obtain ⟨f0, f1, f2, _, _, _⟩ := ((unhide HSV).below b1 (unhide HSV).lt).cells; have HB1 := hide (bt (unhide HB0) b1); clear HK b1))
      go_ret
      exact ⟨rfl, unhide HB1⟩
  · have hb0 := below_alloc (B := w.heap.size) (.cells #[.int .u64 (I : Int), .int .u64 (T : Int), .slice da n dk] 34) (Nat.le_refl w.heap.size)
    have HK := hide (known4_any (w.alloc (.cells #[.int .u64 (I : Int), .int .u64 (T : Int), .slice da n dk] 34)) (hE.below hb0 hE.lt) (hT.below hb0 hT.lt))
    have hs0 := Sv.new w (.int .u64 (I : Int)) (.int .u64 (T : Int)) (.slice da n dk)
    have HSV := hide hs0
    have HB0 := hide hb0
    have g1 : (3000 : Int) < (n : Int) := by omega
    clear hE hT hv hO hb0 hs0 hos hnl h1
    go_enter Tryz.func5, Tryz.ntmps5
    go_wp2_with (first
      | (go_at_call 6; refine (unhide HK).mono ?_; rintro e w1 ⟨rfl, b1⟩; obtain ⟨f0, f1, f2, _, _, _⟩ := ((unhide HSV).below b1 (unhide HSV).lt).cells; have HB1 := hide (bt (unhide HB0) b1); clear HK b1))
    go_ret
    exact ⟨rfl, unhide HB1⟩
end Go.Proofs.YtpminalccnhkjaaGreatDoor
