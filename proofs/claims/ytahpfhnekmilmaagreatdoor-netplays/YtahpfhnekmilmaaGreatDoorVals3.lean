/- Contract of package wire's writer of one value. -/
import Derived.Test.YtahpfhnekmilmaaGreatDoorJValsRead3Vals2
namespace Go.Proofs.YtahpfhnekmilmaaGreatDoor
open Go.RowKit Go.Lib

theorem WS.alloc {w : World} {p : Nat} {s : Option (List UInt8)} (h : WS w p s) (o : Obj) : WS (w.alloc o) p s := by
  have hp := h.lt
  cases s with
  | none =>
    obtain ⟨f0, f1, b, pl, h0, h1, hb, he⟩ := h
    exact ⟨by rw [World.frozen?_alloc_old _ _ _ (Nat.ne_of_lt hp)]; exact f0, by rw [World.frozen?_alloc_old _ _ _ (Nat.ne_of_lt hp)]; exact f1, b, pl, (World.cell?_alloc_lt _ _ ⟨p, 0, none⟩ hp).trans h0, (World.cell?_alloc_lt _ _ ⟨p, 1, none⟩ hp).trans h1, hb, he.alloc o⟩
  | some l =>
    obtain ⟨f0, f1, v, h0, h1, ho⟩ := h
    exact ⟨by rw [World.frozen?_alloc_old _ _ _ (Nat.ne_of_lt hp)]; exact f0, by rw [World.frozen?_alloc_old _ _ _ (Nat.ne_of_lt hp)]; exact f1, v, (World.cell?_alloc_lt _ _ ⟨p, 0, none⟩ hp).trans h0, (World.cell?_alloc_lt _ _ ⟨p, 1, none⟩ hp).trans h1, ho.alloc o⟩

/-- The world behind the box and the look. -/
abbrev box2 (w : World) (k n : Int) (t : ByteArray) : World := (w.alloc (.cells #[.int .i64 k, .int .i64 n, .string t] 143)).alloc (.cells #[.int .i64 k, .int .i64 n, .string t] 143)
theorem box_at (w : World) (k n : Int) (t : ByteArray) : (box2 w k n t).heap[w.heap.size]? = some (.cells #[.int .i64 k, .int .i64 n, .string t] 143 (0, 0)) := by
  rw [box2, Below.heap_alloc _ _ _ (by simp)]; exact heap_alloc_new _ _
theorem box_cells {w w' : World} {k n : Int} {t : ByteArray} {p : Nat} (hp : p < w.heap.size) (h : Fr 5 p (box2 w k n t) w') :
    w'.cell? ⟨w.heap.size, 0, none⟩ = some (.int .i64 k) ∧ w'.cell? ⟨w.heap.size, 1, none⟩ = some (.int .i64 n) ∧ w'.cell? ⟨w.heap.size, 2, none⟩ = some (.string t) := by
  have hne : w.heap.size ≠ p := by omega
  have h0 := (h.cell (o := 0) (box_at w k n t) (by decide) hne).2.2
  simp [World.cell?, h0]
theorem box_fr {w w' : World} {k n : Int} {t : ByteArray} {p : Nat} (hp : p < w.heap.size) (h : Fr 5 p (box2 w k n t) w') : Fr 5 p w w' :=
  (((Fr.refl _ p w).alloc (by omega) _).alloc (by simp; omega) _).trans h

/-- What a writer has behind a value. -/
def putVal (g : GV) (s : Option (List UInt8)) : Option (List UInt8) := if g.may then s.map (· ++ g.bytes) else none
theorem bind_len {s : Option (List UInt8)} {x : List UInt8} (h : ∀ l, s = some l → l.length ≤ 800000000) (hx : x.length ≤ 100) : ∀ l, s.map (· ++ x) = some l → l.length ≤ 900000000 := by
  intro l e
  cases s with
  | none => cases e
  | some l0 => simp at e; subst e; have := h l0 rfl; simp; omega
theorem uv_small (x : Nat) (h : x < 18446744073709551616) : (uvarint x).length ≤ 100 := Nat.le_trans (uvarint_length64 h) (by decide)
theorem map_map (s : Option (List UInt8)) (x y : List UInt8) : (s.map (· ++ x)).map (· ++ y) = s.map (· ++ (x ++ y)) := by
  cases s <;> simp

set_option maxHeartbeats 1600000 in
theorem wvalue_any (p : Nat) (g : GV) (s : Option (List UInt8)) (w : World) (hg : g.ok) (hw : WS w p s) (hl : ∀ l, s = some l → l.length ≤ 800000000) :
    Calls Tryz.prog 65 #[.pointer (some ⟨p, 0, none⟩), g.agg] w fun e w' => e = .returned (.tuple #[]) ∧ WS w' p (putVal g s) ∧ Fr 5 p w w' := by
  have hp := hw.lt
  have HM := hide (fun w => mayBe_any g w hg)
  obtain ⟨k, n, t⟩ := g
  have hW := (hw.alloc (.cells #[.int .i64 k, .int .i64 n, .string t] 143)).alloc (.cells #[.int .i64 k, .int .i64 n, .string t] 143)
  have hne : ¬ w.heap.size = p := by omega
  unfold putVal
  unfold GV.agg at *
  dsimp only at *
  cases hmay : GV.may ⟨k, n, t⟩ with
  | false =>
    rw [hmay] at HM
    have HR := hide (wrefuse_any p s (box2 w k n t) hW)
    clear hW hw hl
    go_enter Tryz.func65, Tryz.ntmps65
    go_wp2_with (first | (go_at_call 73; refine (unhide HM _).mono ?_; rintro e w1 ⟨rfl, rfl⟩) | (go_at_call 44; refine (unhide HR).mono ?_; rintro e w2 ⟨rfl, hw2, hf2⟩))
    first | go_end0 | refine bodyPost_ret (results_none rfl _ _ _) rfl ?_
    exact ⟨rfl, by simpa using hw2, box_fr hp hf2⟩
  | true =>
    rw [hmay] at HM
    rw [if_pos rfl]
    obtain ⟨n1, n2, n3⟩ := hg
    dsimp only at n1 n2 n3
    by_cases hk0 : k = 0
    · subst hk0
      have HB := hide (wbetween_any p 0 0 3 s (box2 w 0 n t) (by omega) (by omega) (by omega) hW (fun l h => by have := hl l h; omega))
      rw [if_pos (by omega)] at HB
      clear hW hw hl
      go_enter Tryz.func65, Tryz.ntmps65
      go_wp2_with (first | (go_at_call 73; refine (unhide HM _).mono ?_; rintro e w1 ⟨rfl, rfl⟩) | (go_at_call 23; refine (unhide HB).mono ?_; rintro e w2 ⟨rfl, hw2, hf2⟩; obtain ⟨b0, b1, b2⟩ := box_cells hp hf2))
      first | go_end0 | refine bodyPost_ret (results_none rfl _ _ _) rfl ?_
      exact ⟨rfl, by simpa [GV.bytes] using hw2, box_fr hp hf2⟩
    · by_cases hk1 : k = 1
      · subst hk1
        have hb : n = 0 ∨ n = 1 := by simp [GV.may] at hmay; exact hmay.1
        have HB := hide (wbetween_any p 1 0 3 s (box2 w 1 n t) (by omega) (by omega) (by omega) hW (fun l h => by have := hl l h; omega))
        rw [if_pos (by omega)] at HB
        have HT := hide (fun w2 (h2 : WS w2 p (s.map (· ++ uvarint ((1 : Int) - 0).toNat))) (t : Bool) => wtruth_any p t _ w2 h2 (fun l h => by have := bind_len hl (uv_small 1 (by decide)) l h; omega))
        rcases hb with rfl | rfl
        · clear hW hw hl
          go_enter Tryz.func65, Tryz.ntmps65
          go_wp2_with (first | (go_at_call 73; refine (unhide HM _).mono ?_; rintro e w1 ⟨rfl, rfl⟩) | (go_at_call 23; refine (unhide HB).mono ?_; rintro e w2 ⟨rfl, hw2, hf2⟩; obtain ⟨b0, b1, b2⟩ := box_cells hp hf2) | (go_at_call 27; refine (unhide HT _ hw2 _).mono ?_; rintro e w3 ⟨rfl, hw3, hf3⟩))
          first | go_end0 | refine bodyPost_ret (results_none rfl _ _ _) rfl ?_
          rw [map_map] at hw3
          exact ⟨rfl, by simpa [GV.bytes] using hw3, (box_fr hp hf2).trans hf3⟩
        · clear hW hw hl
          go_enter Tryz.func65, Tryz.ntmps65
          go_wp2_with (first | (go_at_call 73; refine (unhide HM _).mono ?_; rintro e w1 ⟨rfl, rfl⟩) | (go_at_call 23; refine (unhide HB).mono ?_; rintro e w2 ⟨rfl, hw2, hf2⟩; obtain ⟨b0, b1, b2⟩ := box_cells hp hf2) | (go_at_call 27; refine (unhide HT _ hw2 _).mono ?_; rintro e w3 ⟨rfl, hw3, hf3⟩))
          first | go_end0 | refine bodyPost_ret (results_none rfl _ _ _) rfl ?_
          rw [map_map] at hw3
          exact ⟨rfl, by simpa [GV.bytes] using hw3, (box_fr hp hf2).trans hf3⟩
      · by_cases hk2 : k = 2
        · subst hk2
          have HB := hide (wbetween_any p 2 0 3 s (box2 w 2 n t) (by omega) (by omega) (by omega) hW (fun l h => by have := hl l h; omega))
          rw [if_pos (by omega)] at HB
          have hz := zigzag_lt n1 (by omega : n ≤ 9223372036854775807)
          have HT := hide (fun w2 (h2 : WS w2 p (s.map (· ++ uvarint ((2 : Int) - 0).toNat))) => wnumber_any p (zigzag n) _ w2 hz h2 (fun l h => by have := bind_len hl (uv_small 2 (by decide)) l h; omega))
          have HF := hide (fun w => folded_any n w n1 n2)
          clear hW hw hl
          go_enter Tryz.func65, Tryz.ntmps65
          go_wp2_with (first | (go_at_call 73; refine (unhide HM _).mono ?_; rintro e w1 ⟨rfl, rfl⟩) | (go_at_call 23; refine (unhide HB).mono ?_; rintro e w2 ⟨rfl, hw2, hf2⟩; obtain ⟨b0, b1, b2⟩ := box_cells hp hf2) | (go_at_call 74; refine (unhide HF _).mono ?_; rintro e wf ⟨rfl, rfl⟩) | (go_at_call 24; refine (unhide HT _ hw2).mono ?_; rintro e w3 ⟨rfl, hw3, hf3⟩))
          first | go_end0 | refine bodyPost_ret (results_none rfl _ _ _) rfl ?_
          rw [map_map] at hw3
          exact ⟨rfl, by simpa [GV.bytes] using hw3, (box_fr hp hf2).trans hf3⟩
        · have hk3 : k = 3 := by
            have b0 : (k == 0) = false := by simp [hk0]
            have b1 : (k == 1) = false := by simp [hk1]
            have b2 : (k == 2) = false := by simp [hk2]
            simp [GV.may, b0, b1, b2] at hmay; exact hmay.1.1.1
          subst hk3
          have h40 : t.size ≤ 40 := by simp [GV.may] at hmay; exact hmay.1.2
          have HB := hide (wbetween_any p 3 0 3 s (box2 w 3 n t) (by omega) (by omega) (by omega) hW (fun l h => by have := hl l h; omega))
          rw [if_pos (by omega)] at HB
          have HT := hide (fun w2 (h2 : WS w2 p (s.map (· ++ uvarint ((3 : Int) - 0).toNat))) => wtext_any p t 40 _ w2 (by omega) (by omega) n3 h2 (bind_len hl (uv_small 3 (by decide))))
          clear hW hw hl
          go_enter Tryz.func65, Tryz.ntmps65
          go_wp2_with (first | (go_at_call 73; refine (unhide HM _).mono ?_; rintro e w1 ⟨rfl, rfl⟩) | (go_at_call 23; refine (unhide HB).mono ?_; rintro e w2 ⟨rfl, hw2, hf2⟩; obtain ⟨b0, b1, b2⟩ := box_cells hp hf2) | (go_at_call 29; refine (unhide HT _ hw2).mono ?_; rintro e w3 ⟨rfl, hw3, hf3⟩))
          first | go_end0 | refine bodyPost_ret (results_none rfl _ _ _) rfl ?_
          rw [putText, if_pos (by omega), map_map] at hw3
          exact ⟨rfl, by simpa [GV.bytes] using hw3, (box_fr hp hf2).trans hf3⟩
end Go.Proofs.YtahpfhnekmilmaaGreatDoor
