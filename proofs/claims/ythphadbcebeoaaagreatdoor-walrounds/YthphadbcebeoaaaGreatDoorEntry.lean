/- Contracts of package wire's writer of entries. -/
import Derived.Test.YthphadbcebeoaaaGreatDoorJVals3Rows2PutRowListOfKnownLenMathLawLengths
namespace Go.Proofs.YthphadbcebeoaaaGreatDoor
open Go.RowKit Go.Lib

/-- An api.Entry. -/
structure GE where
  term : Nat
  kind : Int
  client : Nat
  seq : Nat
  sql : ByteArray
def GE.cells (g : GE) : Array Value := #[.int .u64 g.term, .int .i64 g.kind, .int .u64 g.client, .int .u64 g.seq, .string g.sql]
def GE.agg (g : GE) : Value := .agg g.cells
def GE.ok (g : GE) : Prop := g.term < 18446744073709551616 ∧ g.client < 18446744073709551616 ∧ g.seq < 18446744073709551616 ∧ g.sql.size ≤ maxLen
/-- It may be written (P1.3). -/
def GE.may (g : GE) : Bool := (g.kind == 0 && g.client == 0 && g.seq == 0 && g.sql.toList.isEmpty || g.kind == 1) && g.sql.size ≤ 2000
def GE.bytes (g : GE) : List UInt8 :=
  uvarint g.term ++ (uvarint g.kind.toNat ++ (if g.kind = 1 then uvarint g.client ++ (uvarint g.seq ++ (uvarint g.sql.size ++ g.sql.data.toList)) else []))

theorem isEmpty_size (t : ByteArray) (h : t.toList.isEmpty = true) : t.size = 0 := by
  have h2 : t.toList = [] := List.isEmpty_iff.1 h
  rw [toList_data] at h2
  rw [← bytes_length, h2]; rfl

set_option maxHeartbeats 1600000 in
theorem entryMayBe_any (g : GE) (w : World) (hg : g.ok) :
    Calls Tryz.prog 108 #[g.agg] w fun e w' => e = .returned (.bool g.may) ∧ w' = w.alloc (.cells #[.int .u64 g.term, .int .i64 g.kind, .int .u64 g.client, .int .u64 g.seq, .string g.sql] 37) := by
  obtain ⟨te, k, c, q, t⟩ := g
  obtain ⟨h1, h2, h3, h4⟩ := hg
  unfold GE.agg GE.cells
  obtain ⟨m, hm⟩ : ∃ m, m = GE.may ⟨te, k, c, q, t⟩ := ⟨_, rfl⟩
  rw [← hm]
  have HM := hide hm
  clear hm
  dsimp only at *
  have h4' : (t.size : Int) ≤ 9223372036854775807 := by unfold maxLen at h4; omega
  clear h4
  by_cases hk0 : k = 0
  · subst hk0
    by_cases hc : c = 0
    · subst hc
      by_cases hq : q = 0
      · subst hq
        cases hE : t.toList.isEmpty with
        | true =>
          have hz := isEmpty_size t hE
          go_enter Tryz.func108, Tryz.ntmps108
          go_wp2
          go_ret
          exact ⟨ret_bool (by rw [unhide HM]; simp [GE.may, hE, hz]), rfl⟩
        | false =>
          go_enter Tryz.func108, Tryz.ntmps108
          go_wp2
          go_ret
          exact ⟨ret_bool (by rw [unhide HM]; simp [GE.may, hE]), rfl⟩
      · have hb : ((q : Int) != 0) = true := by rw [bne_iff_ne]; omega
        have hb2 : (q == 0) = false := by simp [hq]
        go_enter Tryz.func108, Tryz.ntmps108
        go_wp2
        go_ret
        exact ⟨ret_bool (by rw [unhide HM]; simp [GE.may, hb2]), rfl⟩
    · have hb : ((c : Int) != 0) = true := by rw [bne_iff_ne]; omega
      have hb2 : (c == 0) = false := by simp [hc]
      go_enter Tryz.func108, Tryz.ntmps108
      go_wp2
      go_ret
      exact ⟨ret_bool (by rw [unhide HM]; simp [GE.may, hb2]), rfl⟩
  · by_cases hk1 : k = 1
    · subst hk1
      by_cases h20 : t.size ≤ 2000
      · have h20' : (t.size : Int) ≤ 2000 := by omega
        go_enter Tryz.func108, Tryz.ntmps108
        go_wp2
        go_ret
        exact ⟨ret_bool (by rw [unhide HM]; simp [GE.may, h20]), rfl⟩
      · have h20' : ¬ ((t.size : Int) ≤ 2000) := by omega
        go_enter Tryz.func108, Tryz.ntmps108
        go_wp2
        go_ret
        exact ⟨ret_bool (by rw [unhide HM]; simp [GE.may, h20]), rfl⟩
    · have b0 : (k == 0) = false := by simp [hk0]
      have b1 : (k == 1) = false := by simp [hk1]
      go_enter Tryz.func108, Tryz.ntmps108
      go_wp2
      go_ret
      exact ⟨ret_bool (by rw [unhide HM]; simp [GE.may, b0, b1]), rfl⟩

abbrev boxE (w : World) (te : Nat) (k : Int) (c q : Nat) (t : ByteArray) : World := (w.alloc (.cells #[.int .u64 te, .int .i64 k, .int .u64 c, .int .u64 q, .string t] 37)).alloc (.cells #[.int .u64 te, .int .i64 k, .int .u64 c, .int .u64 q, .string t] 37)
theorem boxE_cells {w w' : World} {te c q : Nat} {k : Int} {t : ByteArray} {p : Nat} (hp : p < w.heap.size) (h : Fr 5 p (boxE w te k c q t) w') :
    w'.cell? ⟨w.heap.size, 0, none⟩ = some (.int .u64 te) ∧ w'.cell? ⟨w.heap.size, 1, none⟩ = some (.int .i64 k) ∧ w'.cell? ⟨w.heap.size, 2, none⟩ = some (.int .u64 c) ∧ w'.cell? ⟨w.heap.size, 3, none⟩ = some (.int .u64 q) ∧ w'.cell? ⟨w.heap.size, 4, none⟩ = some (.string t) := by
  have hne : w.heap.size ≠ p := by omega
  have hb : (boxE w te k c q t).heap[w.heap.size]? = some (.cells #[.int .u64 te, .int .i64 k, .int .u64 c, .int .u64 q, .string t] 37 (0, 0)) := by
    rw [boxE, Below.heap_alloc _ _ _ (by simp)]; exact heap_alloc_new _ _
  have h0 := (h.cell (o := 0) hb (by decide) hne).2.2
  simp [World.cell?, h0]
theorem boxE_fr {w w' : World} {te c q : Nat} {k : Int} {t : ByteArray} {p : Nat} (hp : p < w.heap.size) (h : Fr 5 p (boxE w te k c q t) w') : Fr 5 p w w' :=
  (((Fr.refl _ p w).alloc (by omega) _).alloc (by simp; omega) _).trans h

/-- What a writer has behind an entry. -/
def putEnt (g : GE) (s : Option (List UInt8)) : Option (List UInt8) := if g.may then s.map (· ++ g.bytes) else none
theorem map_len {s : Option (List UInt8)} {x : List UInt8} {n m : Nat} (h : ∀ l, s = some l → l.length ≤ n) (hx : x.length ≤ m) : ∀ l, s.map (· ++ x) = some l → l.length ≤ n + m := by
  intro l e
  cases s with
  | none => cases e
  | some l0 => simp at e; subst e; have := h l0 rfl; simp; omega

set_option maxHeartbeats 3200000 in
theorem wentry_any (p : Nat) (g : GE) (s : Option (List UInt8)) (w : World) (hg : g.ok) (hw : WS w p s) (hl : ∀ l, s = some l → l.length ≤ 800000000) :
    Calls Tryz.prog 98 #[.pointer (some ⟨p, 0, none⟩), g.agg] w fun e w' => e = .returned (.tuple #[]) ∧ WS w' p (putEnt g s) ∧ Fr 5 p w w' := by
  have hp := hw.lt
  have HM := hide (fun w => entryMayBe_any g w hg)
  obtain ⟨te, k, c, q, t⟩ := g
  have hW := (hw.alloc (.cells #[.int .u64 te, .int .i64 k, .int .u64 c, .int .u64 q, .string t] 37)).alloc (.cells #[.int .u64 te, .int .i64 k, .int .u64 c, .int .u64 q, .string t] 37)
  have hne : ¬ w.heap.size = p := by omega
  unfold putEnt
  unfold GE.agg GE.cells at *
  dsimp only at *
  obtain ⟨g1, g2, g3, g4⟩ := hg
  dsimp only at g1 g2 g3 g4
  cases hmay : GE.may ⟨te, k, c, q, t⟩ with
  | false =>
    rw [hmay] at HM
    have HR := hide (wrefuse_any p s (boxE w te k c q t) hW)
    clear hW hw hl
    go_enter Tryz.func98, Tryz.ntmps98
    go_wp2_with (first | (go_at_call 108; refine (unhide HM _).mono ?_; rintro e w1 ⟨rfl, rfl⟩) | (go_at_call 109; refine (unhide HR).mono ?_; rintro e w2 ⟨rfl, hw2, hf2⟩))
    first | go_end0 | refine bodyPost_ret (results_none rfl _ _ _) rfl ?_
    exact ⟨rfl, by simpa using hw2, boxE_fr hp hf2⟩
  | true =>
    rw [hmay] at HM
    rw [if_pos rfl]
    have l1 := map_len hl (Nat.le_trans (uvarint_length64 g1) (by decide : 10 ≤ 100))
    have HN := hide (wnumber_any p te s (boxE w te k c q t) g1 hW (fun l h => by have := hl l h; omega))
    by_cases hk0 : k = 0
    · subst hk0
      have HB := hide (fun w2 (h2 : WS w2 p (s.map (· ++ uvarint te))) => wbetween_any p 0 0 1 _ w2 (by omega) (by omega) (by omega) h2 (fun l h => by have := l1 l h; omega))
      clear hW hw hl
      go_enter Tryz.func98, Tryz.ntmps98
      go_wp2_with (first
        | (go_at_call 108; refine (unhide HM _).mono ?_; rintro e w1 ⟨rfl, rfl⟩)
        | (go_at_call 110; refine (unhide HN).mono ?_; rintro e w2 ⟨rfl, hw2, hf2⟩; obtain ⟨a0, a1, a2, a3, a4⟩ := boxE_cells hp hf2)
        | (go_at_call 111; refine (unhide HB _ hw2).mono ?_; rintro e w3 ⟨rfl, hw3, hf3⟩; obtain ⟨b0, b1, b2, b3, b4⟩ := boxE_cells hp (hf2.trans hf3)))
      first | go_end0 | refine bodyPost_ret (results_none rfl _ _ _) rfl ?_
      rw [if_pos (by omega), map_map] at hw3
      exact ⟨rfl, by simpa [GE.bytes] using hw3, boxE_fr hp (hf2.trans hf3)⟩
    · have hk1 : k = 1 := by
        have b0 : (k == 0) = false := by simp [hk0]
        simp [GE.may, b0] at hmay; exact hmay.1
      subst hk1
      have h20 : t.size ≤ 2000 := by simp [GE.may] at hmay; exact hmay
      have HB : Hid (∀ w2, WS w2 p (s.map (· ++ uvarint te)) → Calls Tryz.prog 111 #[.pointer (some ⟨p, 0, none⟩), .int .i64 1, .int .i64 0, .int .i64 1] w2 fun e w' => e = .returned (.tuple #[]) ∧ WS w' p (s.map (· ++ (uvarint te ++ uvarint 1))) ∧ Fr 5 p w2 w') := fun w2 h2 => by
        have := wbetween_any p 1 0 1 _ w2 (by omega) (by omega) (by omega) h2 (fun l h => by have := l1 l h; omega)
        rw [if_pos (by omega), map_map] at this
        exact this
      have l2 := map_len hl (x := uvarint te ++ uvarint 1) (m := 200) (by have := uvarint_length64 g1; have := uvarint_length64 (x := 1) (by decide); rw [List.length_append]; omega)
      have HC : Hid (∀ w2, WS w2 p (s.map (· ++ (uvarint te ++ uvarint 1))) → Calls Tryz.prog 110 #[.pointer (some ⟨p, 0, none⟩), .int .u64 c] w2 fun e w' => e = .returned (.tuple #[]) ∧ WS w' p (s.map (· ++ (uvarint te ++ (uvarint 1 ++ uvarint c)))) ∧ Fr 5 p w2 w') := fun w2 h2 => by
        have := wnumber_any p c _ w2 g2 h2 (fun l h => by have := l2 l h; omega)
        rw [map_map, List.append_assoc] at this
        exact this
      have l3 := map_len hl (x := uvarint te ++ (uvarint 1 ++ uvarint c)) (m := 300) (by have := uvarint_length64 g1; have := uvarint_length64 g2; have := uvarint_length64 (x := 1) (by decide); rw [List.length_append, List.length_append]; omega)
      have HQ : Hid (∀ w2, WS w2 p (s.map (· ++ (uvarint te ++ (uvarint 1 ++ uvarint c)))) → Calls Tryz.prog 110 #[.pointer (some ⟨p, 0, none⟩), .int .u64 q] w2 fun e w' => e = .returned (.tuple #[]) ∧ WS w' p (s.map (· ++ (uvarint te ++ (uvarint 1 ++ (uvarint c ++ uvarint q))))) ∧ Fr 5 p w2 w') := fun w2 h2 => by
        have := wnumber_any p q _ w2 g3 h2 (fun l h => by have := l3 l h; omega)
        rw [map_map, List.append_assoc, List.append_assoc] at this
        exact this
      have l4 := map_len hl (x := uvarint te ++ (uvarint 1 ++ (uvarint c ++ uvarint q))) (m := 400) (by have := uvarint_length64 g1; have := uvarint_length64 g2; have := uvarint_length64 g3; have := uvarint_length64 (x := 1) (by decide); rw [List.length_append, List.length_append, List.length_append]; omega)
      have HT : Hid (∀ w2, WS w2 p (s.map (· ++ (uvarint te ++ (uvarint 1 ++ (uvarint c ++ uvarint q))))) → Calls Tryz.prog 112 #[.pointer (some ⟨p, 0, none⟩), .string t, .int .i64 2000] w2 fun e w' => e = .returned (.tuple #[]) ∧ WS w' p (s.map (· ++ (uvarint te ++ (uvarint 1 ++ (uvarint c ++ (uvarint q ++ (uvarint t.size ++ t.data.toList))))))) ∧ Fr 5 p w2 w') := fun w2 h2 => by
        have := wtext_any p t 2000 _ w2 (by omega) (by omega) g4 h2 (fun l h => by have := l4 l h; omega)
        rw [putText, if_pos (by omega), map_map, List.append_assoc, List.append_assoc, List.append_assoc] at this
        exact this
      clear hW hw hl l1 l2 l3 l4
      go_enter Tryz.func98, Tryz.ntmps98
      go_wp2_with (first
        | (go_at_call 108; refine (unhide HM _).mono ?_; rintro e w1 ⟨rfl, rfl⟩)
        | (go_at_call 110; refine (unhide HN).mono ?_; rintro e w2 ⟨rfl, hw2, hf2⟩; obtain ⟨a0, a1, a2, a3, a4⟩ := boxE_cells hp hf2; clear HN HM)
        | (go_at_call 111; refine (unhide HB _ hw2).mono ?_; rintro e w3 ⟨rfl, hw3, hf3⟩; obtain ⟨b0, b1, b2, b3, b4⟩ := boxE_cells hp (hf2.trans hf3); clear HB hw2)
        | (go_at_call 110; refine (unhide HC _ hw3).mono ?_; rintro e w4 ⟨rfl, hw4, hf4⟩; obtain ⟨d0, d1, d2, d3, d4⟩ := boxE_cells hp ((hf2.trans hf3).trans hf4); clear HC hw3)
        | (go_at_call 110; refine (unhide HQ _ hw4).mono ?_; rintro e w5 ⟨rfl, hw5, hf5⟩; obtain ⟨e0, e1, e2, e3, e4⟩ := boxE_cells hp (((hf2.trans hf3).trans hf4).trans hf5); clear HQ hw4)
        | (go_at_call 112; refine (unhide HT _ hw5).mono ?_; rintro e w6 ⟨rfl, hw6, hf6⟩))
      first | go_end0 | refine bodyPost_ret (results_none rfl _ _ _) rfl ?_
      exact ⟨rfl, by simpa [GE.bytes] using hw6, boxE_fr hp ((((hf2.trans hf3).trans hf4).trans hf5).trans hf6)⟩

set_option maxHeartbeats 1600000 in
theorem putEntry_any (g : GE) (w : World) (hg : g.ok) :
    Calls Tryz.prog 79 #[g.agg] w fun e w' => DonePost (putEnt g (some [])) w.heap.size w e w' := by
  have HW := hide (WS.new (w.alloc (.cells #[.int .u64 g.term, .int .i64 g.kind, .int .u64 g.client, .int .u64 g.seq, .string g.sql] 37)))
  have HR := hide (wentry_any _ g (some []) _ hg (unhide HW) (by intro l h; injection h with h; subst h; simp))
  have HB := hide (((Below.refl w.heap.size w).alloc (Nat.le_refl _) (.cells #[.int .u64 g.term, .int .i64 g.kind, .int .u64 g.client, .int .u64 g.seq, .string g.sql] 37)).alloc (by simp) (.cells #[.slice none 0 0, .nilIface] 181))
  rw [World.size_alloc] at HR
  unfold GE.agg GE.cells at *
  generalize putEnt g (some []) = s at *
  clear HW
  cases s with
  | some l =>
    go_enter Tryz.func79, Tryz.ntmps79
    go_wp2_with (first | (go_at_call 98; refine (unhide HR).mono ?_; rintro e w1 ⟨rfl, hw1, hf1⟩) | (go_at_call 99; refine (wdone_any _ (some l) _ hw1).mono ?_; rintro e w2 ⟨a, k, rfl, ho, hb2⟩))
    go_ret2
    exact ⟨a, k, rfl, own_weaker (by omega) ho, ((unhide HB).trans (hf1.1.mono (by omega))).trans (hb2.mono (by omega))⟩
  | none =>
    go_enter Tryz.func79, Tryz.ntmps79
    go_wp2_with (first | (go_at_call 98; refine (unhide HR).mono ?_; rintro e w1 ⟨rfl, hw1, hf1⟩) | (go_at_call 99; refine (wdone_any _ none _ hw1).mono ?_; rintro e w2 ⟨b, pl, rfl, hb, he, hb2⟩))
    go_ret2
    exact ⟨b, pl, rfl, by omega, he, ((unhide HB).trans (hf1.1.mono (by omega))).trans (hb2.mono (by omega))⟩
end Go.Proofs.YthphadbcebeoaaaGreatDoor
