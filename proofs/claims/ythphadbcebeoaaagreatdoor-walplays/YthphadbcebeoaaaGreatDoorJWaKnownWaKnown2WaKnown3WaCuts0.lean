/- The wal's statements: known. -/
import Derived.Test.YthphadbcebeoaaaGreatDoorJWListsWMsgMsgHelpWaKB
import Derived.BigRegion
namespace Go.Proofs.YthphadbcebeoaaaGreatDoor
open Go.RowKit Go.Lib Go.Maps

set_option maxHeartbeats 6400000 in
set_option maxRecDepth 100000 in
theorem shard_any {w : World} {p t v : Nat} (h1 : w.cell? ⟨p, 1, none⟩ = some (.int .u64 (t : Int))) (h2 : w.cell? ⟨p, 1 + 1, none⟩ = some (.int .u64 (v : Int))) (hv : v ≤ 1001) :
    Calls Tryz.prog 39 #[.pointer (some ⟨p, 1, none⟩)] w fun e w' => e = .returned (.agg #[.int .u64 (t : Int), .int .i64 ((v : Int) - 1)]) ∧ Below w.heap.size w w' := by
  have hpl : p < w.heap.size := lt_of_cell h1
  have hn1 : ¬ p = w.heap.size := by omega
  have hn2 : ¬ w.heap.size = p := by omega
  have hw : IntKind.i64.wrap (v : Int) = (v : Int) := by rw [IntKind.wrap_i64] <;> omega
  have hw2 : IntKind.i64.wrap ((v : Int) - 1) = (v : Int) - 1 := by rw [IntKind.wrap_i64] <;> omega
  go_enter Tryz.func39, Tryz.ntmps39
  go_wp2_with fail
  obtain ⟨W, hW, e1, e2, e3, e4, f3, f4, hb⟩ : ∃ W : World, w.alloc (.cells #[.int .u64 0, .int .i64 0] 47) = W ∧ W.cell? ⟨p, 1, none⟩ = some (.int .u64 (t : Int)) ∧ W.cell? ⟨p, 1 + 1, none⟩ = some (.int .u64 (v : Int)) ∧ W.cell? ⟨w.heap.size, 0, none⟩ = some (.int .u64 0) ∧ W.cell? ⟨w.heap.size, 1, none⟩ = some (.int .i64 0) ∧ W.frozen? ⟨w.heap.size, 0, none⟩ = false ∧ W.frozen? ⟨w.heap.size, 1, none⟩ = false ∧ Hid (Below w.heap.size w W) := by
    have hb := box_below w (.cells #[.int .u64 0, .int .i64 0] 47)
    have hn : (w.alloc (.cells #[.int .u64 0, .int .i64 0] 47)).heap[w.heap.size]? = some (.cells #[.int .u64 0, .int .i64 0] 47 (0, 0)) := heap_alloc_new _ _
    exact ⟨_, rfl, (hb.cell (p := ⟨p, 1, none⟩) hpl).trans h1, (hb.cell (p := ⟨p, 1 + 1, none⟩) hpl).trans h2, (Dk.cellB hn 0).1, (Dk.cellB hn 1).1, (Dk.cellB hn 0).2, (Dk.cellB hn 1).2, hb⟩
  rw [hW]
  clear hW h1 h2
  go_region
  all_goals
    go_wp2_with fail
    refine bodyPost_ret (v := .agg #[.int .u64 (t : Int), .int .i64 ((v : Int) - 1)]) ?_ rfl ?_
    · rw [results_cell1 rfl]
      go_simp
      try rfl
    exact ⟨rfl, below_trans0 (((unhide hb).setCell (p := ⟨w.heap.size, 0, none⟩) (Nat.le_refl _) _).setCell (p := ⟨w.heap.size, 1, none⟩) (Nat.le_refl _) _) (drew_below _ 1)⟩
set_option maxHeartbeats 3200000 in
set_option maxRecDepth 100000 in
theorem hard_any {w : World} {B p q sz : Nat} {S : Dk.St} {F : List Dk.Ent} {s : Sta} {v : Value} {D : Nat → Prop} (h : WX w B p q S F s v sz D) (hs : s.ok) :
    Calls Tryz.prog 19 #[.pointer (some ⟨p, 0, none⟩)] w fun e w' => e = .returned (.agg #[.int .u64 (s.term : Int), .int .i64 ((s.vote : Int) - 1)]) ∧ Below w.heap.size w w' := by
  have hb := box_below w (.cells #[.int .u64 0, .int .i64 0] 47)
  have h1 := h.below hb
  have HS : Hid (Calls Tryz.prog 39 #[.pointer (some ⟨p, 1, none⟩)] (w.alloc (.cells #[.int .u64 0, .int .i64 0] 47)) fun e w' => e = .returned (.agg #[.int .u64 (s.term : Int), .int .i64 ((s.vote : Int) - 1)]) ∧ w'.cell? ⟨w.heap.size, 0, none⟩ = some (.int .u64 0) ∧ w'.cell? ⟨w.heap.size, 1, none⟩ = some (.int .i64 0) ∧ w'.frozen? ⟨w.heap.size, 0, none⟩ = false ∧ w'.frozen? ⟨w.heap.size, 1, none⟩ = false ∧ Hid (Below w.heap.size w w')) := by
    refine (shard_any h1.cells.2.1 h1.cells.2.2.1 hs.2.1).mono ?_
    rintro e w' ⟨rfl, h2⟩
    have hn : w'.heap[w.heap.size]? = some (.cells #[.int .u64 0, .int .i64 0] 47 (0, 0)) := (h2.block _ (by simp)).trans (heap_alloc_new _ _)
    exact ⟨rfl, (Dk.cellB hn 0).1, (Dk.cellB hn 1).1, (Dk.cellB hn 0).2, (Dk.cellB hn 1).2, below_trans0 hb h2⟩
  clear h h1 hb hs
  go_enter Tryz.func19, Tryz.ntmps19
  go_wp2_with (first
    | (go_at_call 39; refine (unhide HS).mono ?_; rintro e w1 ⟨rfl, x0, x1, f0, f1, HB⟩; clear HS))
  refine bodyPost_ret (v := .agg #[.int .u64 (s.term : Int), .int .i64 ((s.vote : Int) - 1)]) ?_ rfl ?_
  · rw [results_cell1 rfl]
    go_simp
    try rfl
  exact ⟨rfl, ((unhide HB).setCell (p := ⟨w.heap.size, 0, none⟩) (Nat.le_refl _) _).setCell (p := ⟨w.heap.size, 1, none⟩) (Nat.le_refl _) _⟩
theorem kb_hard {w0 w : World} {B p q n ns : Nat} {R : Int} {a : Fx} {rs : List Rc} {pr : Bool} {s : Sta} {L : List (Value × List GE)} (h : KB w0 w B p q R a rs ns pr s n L) : Calls Tryz.prog 19 #[.pointer (some ⟨p, 0, none⟩)] w fun e w' => e = .returned (.agg #[.int .u64 (s.term : Int), .int .i64 ((s.vote : Int) - 1)]) ∧ Below w.heap.size w w' := by
  obtain ⟨O, ⟨v, D, S, h1, h2, h3, h4, h5, h6, _⟩, _⟩ := h
  exact hard_any h1 h6
end Go.Proofs.YthphadbcebeoaaaGreatDoor
/- The wal's statements: known. -/
namespace Go.Proofs.YthphadbcebeoaaaGreatDoor
open Go.RowKit Go.Lib Go.Maps

/-- An entry of a term alone. -/
def nE (t : Nat) : GE := ⟨t, 0, 0, 0, ⟨#[]⟩⟩
theorem nE_ok {t : Nat} (h : t < 18446744073709551616) : (nE t).ok ∧ (nE t).may = true := ⟨⟨h, by simp [nE], by simp [nE], by simp [nE]; unfold maxLen; decide⟩, by simp [nE, GE.may]; first | rfl | simp [ByteArray.size]⟩
theorem recs_small : ∀ {rs : List Rc}, (∀ r ∈ rs, r.ok ∧ r.ent.sql.size = 0) → (recsB rs).length ≤ 80 * rs.length
  | [], _ => by simp [recsB]
  | r :: rs, h => by
    have h1 := rc_small (h r (List.mem_cons_self ..)).1
    have h2 := (h r (List.mem_cons_self ..)).2
    have h3 := recs_small (rs := rs) (fun q hq => h q (List.mem_cons_of_mem _ hq))
    rw [recsB_cons, List.length_append, List.length_cons]
    omega
theorem re_one (w : World) (g : GE) : RE (w.alloc (.cells #[.int .u64 (g.term : Int), .int .i64 g.kind, .int .u64 (g.client : Int), .int .u64 (g.seq : Int), .string g.sql] 37)) (.slice (some ⟨w.heap.size, 0, none⟩) 1 1) [g] := by
  have hn : (w.alloc (.cells #[.int .u64 (g.term : Int), .int .i64 g.kind, .int .u64 (g.client : Int), .int .u64 (g.seq : Int), .string g.sql] 37)).heap[w.heap.size]? = some (.cells #[.int .u64 (g.term : Int), .int .i64 g.kind, .int .u64 (g.client : Int), .int .u64 (g.seq : Int), .string g.sql] 37 (0, 0)) := heap_alloc_new _ _
  refine ⟨_, 1, rfl, fun i x hi => ?_⟩
  cases i with
  | zero =>
    simp at hi
    subst hi
    refine ⟨_, _, rfl, by simp, fun j u hu => ?_⟩
    rw [(Dk.cellB hn _).1, ← Array.getElem?_toList]
    simpa [geC] using hu
  | succ i => simp at hi
def two (g h : GE) : Array Value := #[.int .u64 (g.term : Int), .int .i64 g.kind, .int .u64 (g.client : Int), .int .u64 (g.seq : Int), .string g.sql, .int .u64 (h.term : Int), .int .i64 h.kind, .int .u64 (h.client : Int), .int .u64 (h.seq : Int), .string h.sql]
theorem el_two (w : World) (g h : GE) : EL (w.alloc (.cells (two g h) 37)) (.slice (some ⟨w.heap.size, 0, none⟩) 2 2) [g, h] ∧ ∀ b, inB (.slice (some ⟨w.heap.size, 0, none⟩) 2 2) b → w.heap.size ≤ b :=
  ⟨.inr ⟨w.heap.size, 0, 2, two g h, rfl, heap_alloc_new _ _, Nat.le_refl _, by decide, by simp [two], by simp [two, esC, geC]⟩, fun b ⟨_, _, _, e⟩ => by cases e; exact Nat.le_refl _⟩
def kR : List Rc := [rcE (nE 1), rcE (nE 2), rcC 2, rcE (nE 3)]
theorem kR_ok : ∀ r ∈ kR, r.ok ∧ r.ent.sql.size = 0 := by
  intro r hr
  simp [kR] at hr
  rcases hr with rfl | rfl | rfl | rfl
  · exact ⟨rcE_ok (nE_ok (by decide)).1 (nE_ok (by decide)).2, rfl⟩
  · exact ⟨rcE_ok (nE_ok (by decide)).1 (nE_ok (by decide)).2, rfl⟩
  · exact ⟨rcC_ok (by decide), rfl⟩
  · exact ⟨rcE_ok (nE_ok (by decide)).1 (nE_ok (by decide)).2, rfl⟩
theorem kR_len (n : Nat) : (recsB (kR.take n)).length ≤ 320 := by
  have h := recs_small (rs := kR.take n) (fun r hr => kR_ok r (List.mem_of_mem_take hr))
  have h2 : (kR.take n).length ≤ 4 := by rw [List.length_take]; exact Nat.min_le_right _ _
  omega
section
variable {w0 w : World} {p q : Nat}
abbrev KW (w0 w : World) (p q : Nat) (rs : List Rc) (ns : Nat) (pr : Bool) (es : List GE) (n : Nat) : Prop := KB w0 w w0.heap.size p q 65536 none rs ns pr ⟨0, 0, 0, 0, es⟩ n []
theorem roomy_of {x : List UInt8} {m : Nat} (h : x.length + m ≤ 30000) : Roomy 65536 none (some (x, 0)) m := ⟨by omega, by simp only [dB, List.length_nil]; omega⟩
theorem kw_app1 (h : KW w0 w p q [] 0 false [] 9000) {vl : Value} (hl : RE w vl [nE 1, nE 2]) : Calls Tryz.prog 11 #[.pointer (some ⟨p, 0, none⟩), vl] w fun e w' => e = .returned .nilIface ∧ KW w0 w' p q (kR.take 2) 0 true [nE 1, nE 2] 8999 := by
  have h2 := kR_len 2
  have e2 : recsB ([nE 1, nE 2].map rcE) = recsB (kR.take 2) := rfl
  exact kb_app h hl (fun g hg => by simp at hg; rcases hg with rfl | rfl <;> exact nE_ok (by decide)) (roomy_of (by rw [e2]; simp [recsB] at *; omega)) (by rw [e2]; simp [recsB] at *; omega) (by simp)
theorem kw_sync {rs : List Rc} {ns n : Nat} {es : List GE} (h : KW w0 w p q rs ns true es (n + 1)) : Calls Tryz.prog 12 #[.pointer (some ⟨p, 0, none⟩)] w fun e w' => e = .returned .nilIface ∧ KW w0 w' p q rs rs.length true es n := kb_sync h
theorem kw_cut (h : KW w0 w p q (kR.take 2) 2 true [nE 1, nE 2] 8998) : Calls Tryz.prog 10 #[.pointer (some ⟨p, 0, none⟩), .int .u64 2] w fun e w' => e = .returned .nilIface ∧ KW w0 w' p q (kR.take 3) 2 true [nE 1] 8997 := by
  have h2 := kR_len 2
  exact kb_cut (f := 2) h (by decide) rfl (roomy_of (by omega)) (by omega) (by simp)
theorem kw_app2 (h : KW w0 w p q (kR.take 3) 2 true [nE 1] 8997) {vl : Value} (hl : RE w vl [nE 3]) : Calls Tryz.prog 11 #[.pointer (some ⟨p, 0, none⟩), vl] w fun e w' => e = .returned .nilIface ∧ KW w0 w' p q kR 2 true [nE 1, nE 3] 8996 := by
  have h2 := kR_len 3
  have h3 := rc_small (rcE_ok (nE_ok (t := 3) (by decide)).1 (nE_ok (by decide)).2)
  have e2 : recsB ([nE 3].map rcE) = (rcE (nE 3)).bytes := by simp [recsB]
  have e3 : (rcE (nE 3)).ent.sql.size = 0 := rfl
  have e4 : kR.take 3 ++ [nE 3].map rcE = kR := rfl
  refine (kb_app h hl (fun g hg => by simp at hg; subst hg; exact nE_ok (by decide)) (roomy_of (by rw [e2]; omega)) (by rw [e2]; omega) (by simp)).mono ?_
  rintro e w' ⟨q1, q2⟩
  rw [e4] at q2
  exact ⟨q1, q2⟩
theorem keep_none (w : World) (O : Nat → Prop) : Dk.KeepAt w O (.slice none 0 0) [] := ⟨fun x hx => (by cases hx), .inl ⟨⟨none, 0, rfl⟩, rfl⟩⟩
theorem kw_crash (h : KW w0 w p q kR 4 true [nE 1, nE 3] 8995) : Calls Tryz.prog 13 #[.pointer (some ⟨q, 0, none⟩), .agg #[.slice none 0 0]] w fun e w' => e = .returned (.tuple #[]) ∧ KC w0 w' w0.heap.size q 65536 none kR 4 true ⟨0, 0, 0, 0, [nE 1, nE 3]⟩ 8995 [] :=
  kb_crash h (fun y hy => by cases hy) (keep_none _ _) (by simp)
theorem kw_open (h : KC w0 w w0.heap.size q 65536 none kR 4 true ⟨0, 0, 0, 0, [nE 1, nE 3]⟩ 8995 []) : Calls Tryz.prog 9 #[.pointer (some ⟨q, 0, none⟩)] w fun e w' => ∃ p, e = .returned (.tuple #[.pointer (some ⟨p, 0, none⟩), .nilIface]) ∧ KW w0 w' p q kR 4 true [nE 1, nE 3] 8993 := by
  have h2 := kR_len 4
  refine (kc_open (n := 8993) h (by rw [← List.take_length (l := kR)]; exact Nat.le_trans h2 (by decide)) (by decide)).mono ?_
  rintro e w' ⟨p, k, sk, rfl, hk1, hk2, hsk, hkb⟩
  have : k = 4 := by
    have : kR.length = 4 := rfl
    omega
  subst this
  have : runS sta0 (kR.take 4) = .ok ⟨0, 0, 0, 0, [nE 1, nE 3]⟩ := rfl
  rw [this] at hsk
  cases hsk
  exact ⟨p, rfl, hkb⟩
end
end Go.Proofs.YthphadbcebeoaaaGreatDoor
/- The wal's statements: known: its walk. -/
namespace Go.Proofs.YthphadbcebeoaaaGreatDoor
open Go.RowKit Go.Lib Go.Maps

set_option maxHeartbeats 25600000 in
set_option maxRecDepth 100000 in
theorem wknown_any (w : World) (hE : ET w) (hT : ST w) : Calls Tryz.prog 7 #[] w fun e w' => e = .returned (.bool true) ∧ Below w.heap.size w w' := by
  have HN := hide (kb_new (w := w) (room := 65536) (by decide) hE hT)
  have HA1 : Hid (∀ (p : Nat) (W : World), KW w W p w.heap.size [] 0 false [] 9000 → Calls Tryz.prog 11 #[.pointer (some ⟨p, 0, none⟩), .slice (some ⟨W.heap.size, 0, none⟩) 2 2] (W.alloc (.cells #[.int .u64 1, .int .i64 0, .int .u64 0, .int .u64 0, .string ⟨#[]⟩, .int .u64 2, .int .i64 0, .int .u64 0, .int .u64 0, .string ⟨#[]⟩] 37)) fun e w' => e = .returned .nilIface ∧ Hid (KW w w' p w.heap.size (kR.take 2) 0 true [nE 1, nE 2] 8999)) := fun p W h => kw_app1 (h.below (box_below W (.cells (two (nE 1) (nE 2)) 37))) (el_two W (nE 1) (nE 2)).1.re
  have HS1 : Hid (∀ (p : Nat) (W : World), Hid (KW w W p w.heap.size (kR.take 2) 0 true [nE 1, nE 2] 8999) → Calls Tryz.prog 12 #[.pointer (some ⟨p, 0, none⟩)] W fun e w' => e = .returned .nilIface ∧ Hid (KW w w' p w.heap.size (kR.take 2) 2 true [nE 1, nE 2] 8998)) := fun p W h => kw_sync h
  have HC1 : Hid (∀ (p : Nat) (W : World), Hid (KW w W p w.heap.size (kR.take 2) 2 true [nE 1, nE 2] 8998) → Calls Tryz.prog 10 #[.pointer (some ⟨p, 0, none⟩), .int .u64 2] W fun e w' => e = .returned .nilIface ∧ Hid (KW w w' p w.heap.size (kR.take 3) 2 true [nE 1] 8997)) := fun p W h => kw_cut h
  have HA2 : Hid (∀ (p : Nat) (W : World), KW w W p w.heap.size (kR.take 3) 2 true [nE 1] 8997 → Calls Tryz.prog 11 #[.pointer (some ⟨p, 0, none⟩), .slice (some ⟨W.heap.size, 0, none⟩) 1 1] (W.alloc (.cells #[.int .u64 3, .int .i64 0, .int .u64 0, .int .u64 0, .string ⟨#[]⟩] 37)) fun e w' => e = .returned .nilIface ∧ Hid (KW w w' p w.heap.size kR 2 true [nE 1, nE 3] 8996)) := fun p W h => kw_app2 (h.below (box_below W _)) (re_one W (nE 3))
  have HS2 : Hid (∀ (p : Nat) (W : World), Hid (KW w W p w.heap.size kR 2 true [nE 1, nE 3] 8996) → Calls Tryz.prog 12 #[.pointer (some ⟨p, 0, none⟩)] W fun e w' => e = .returned .nilIface ∧ Hid (KW w w' p w.heap.size kR 4 true [nE 1, nE 3] 8995)) := fun p W h => kw_sync h
  have HX : Hid (∀ (p : Nat) (W : World), Hid (KW w W p w.heap.size kR 4 true [nE 1, nE 3] 8995) → Calls Tryz.prog 13 #[.pointer (some ⟨w.heap.size, 0, none⟩), .agg #[.slice none 0 0]] W fun e w' => e = .returned (.tuple #[]) ∧ Hid (Calls Tryz.prog 9 #[.pointer (some ⟨w.heap.size, 0, none⟩)] w' fun e w' => ∃ p, e = .returned (.tuple #[.pointer (some ⟨p, 0, none⟩), .nilIface]) ∧ Hid (KW w w' p w.heap.size kR 4 true [nE 1, nE 3] 8993))) := fun p W h => (kw_crash h).mono fun e w' ⟨h1, h2⟩ => ⟨h1, kw_open h2⟩
  have HEn : Hid (∀ (p : Nat) (W : World), Hid (KW w W p w.heap.size kR 4 true [nE 1, nE 3] 8993) → Calls Tryz.prog 14 #[.pointer (some ⟨p, 0, none⟩)] W fun e w' => ∃ v, e = .returned v ∧ Hid (KW w w' p w.heap.size kR 4 true [nE 1, nE 3] 8993 ∧ EL w' v [nE 1, nE 3])) := fun p W h => (kb_entries (unhide h)).mono fun e w' ⟨v, h1, h2, _, h4⟩ => ⟨v, h1, (unhide h).below h4, h2⟩
  have HSm : Hid (∀ (v : Value) (W : World), EL W v [nE 1, nE 3] → Calls Tryz.prog 15 #[v, .slice (some ⟨W.heap.size, 0, none⟩) 2 2] (W.alloc (.cells #[.int .u64 1, .int .i64 0, .int .u64 0, .int .u64 0, .string ⟨#[]⟩, .int .u64 3, .int .i64 0, .int .u64 0, .int .u64 0, .string ⟨#[]⟩] 37)) fun e w' => e = .returned (.bool true) ∧ Hid (Below W.heap.size W w')) := fun v W h => by
    have hb := box_below W (.cells (two (nE 1) (nE 3)) 37)
    have hok : ∀ g ∈ [nE 1, nE 3], g.ok := fun g hg => by simp at hg; rcases hg with rfl | rfl <;> exact (nE_ok (by decide)).1
    refine (ents_same _ _ _ _ _ _ ((h.below hb).sle hok) ((el_two W (nE 1) (nE 3)).1.sle hok)).mono ?_
    rintro e w' ⟨rfl, m, rfl⟩
    exact ⟨rfl, below_trans0 hb (drew_below _ m)⟩
  have HH : Hid (∀ (p : Nat) (W : World), Hid (KW w W p w.heap.size kR 4 true [nE 1, nE 3] 8993) → Calls Tryz.prog 19 #[.pointer (some ⟨p, 0, none⟩)] W fun e w' => e = .returned (.agg #[.int .u64 0, .int .i64 (-1)]) ∧ Hid (Below w.heap.size w w')) := fun p W h => (kb_hard (unhide h)).mono fun e w' ⟨h1, h2⟩ => ⟨h1, (unhide h).ev.2.2.trans (h2.mono (unhide h).ev.2.1)⟩
  clear hE hT
  go_enter Tryz.func7, Tryz.ntmps7
  go_wp2_with (first
    | (go_at_call 8; refine (unhide HN).mono ?_; rintro e w1 ⟨rfl, _, HO⟩; clear HN)
    | (go_at_call 9; refine (unhide HO).mono ?_; rintro e w2 ⟨p, rfl, K2⟩; clear HO)
    | (go_at_call 28; refine (num_any 1 _).mono ?_; rintro e w3 ⟨rfl, b3⟩; have K3 := hide ((unhide K2).below b3); clear K2 b3)
    | (go_at_call 28; refine (num_any 2 _).mono ?_; rintro e w4 ⟨rfl, b4⟩; have K4 := hide ((unhide K3).below b4); clear K3 b4)
    | (go_at_call 11; refine (unhide HA1 p _ (unhide K4)).mono ?_; rintro e w5 ⟨rfl, K5⟩; clear HA1 K4)
    | (go_at_call 12; refine (unhide HS1 p _ K5).mono ?_; rintro e w6 ⟨rfl, K6⟩; clear HS1 K5)
    | (go_at_call 10; refine (unhide HC1 p _ K6).mono ?_; rintro e w7 ⟨rfl, K7⟩; clear HC1 K6)
    | (go_at_call 28; refine (num_any 3 _).mono ?_; rintro e w8 ⟨rfl, b8⟩; have K8 := hide ((unhide K7).below b8); clear K7 b8)
    | (go_at_call 11; refine (unhide HA2 p _ (unhide K8)).mono ?_; rintro e w9 ⟨rfl, K9⟩; clear HA2 K8)
    | (go_at_call 12; refine (unhide HS2 p _ K9).mono ?_; rintro e w10 ⟨rfl, K10⟩; clear HS2 K9)
    | (go_at_call 13; refine (unhide HX p _ K10).mono ?_; rintro e w11 ⟨rfl, HO2⟩; clear HX K10)
    | (go_at_call 9; refine (unhide HO2).mono ?_; rintro e w12 ⟨p2, rfl, K12⟩; clear HO2)
    | (go_at_call 14; refine (unhide HEn p2 _ K12).mono ?_; rintro e w13 ⟨v13, rfl, K13⟩; clear HEn K12)
    | (go_at_call 28; refine (num_any 1 _).mono ?_; rintro e w14 ⟨rfl, b14⟩; have K14 := hide (And.intro ((unhide K13).1.below b14) ((unhide K13).2.below b14)); clear K13 b14)
    | (go_at_call 28; refine (num_any 3 _).mono ?_; rintro e w15 ⟨rfl, b15⟩; have K15 := hide (And.intro ((unhide K14).1.below b15) ((unhide K14).2.below b15)); clear K14 b15)
    | (go_at_call 15; refine (unhide HSm v13 _ (unhide K15).2).mono ?_; rintro e w16 ⟨rfl, b16⟩; have K16 := hide ((unhide K15).1.below (unhide b16)); clear HSm K15 b16)
    | (go_at_call 19; refine (unhide HH p2 _ K16).mono ?_; rintro e w17 ⟨rfl, B17⟩; clear HH K16))
  go_ret
  exact ⟨rfl, unhide B17⟩
end Go.Proofs.YthphadbcebeoaaaGreatDoor
/- WalCuts: its calls. -/
namespace Go.Proofs.YthphadbcebeoaaaGreatDoor
open Go.RowKit Go.Lib Go.Maps

/-- The entry of round i. -/
def gx (i : Nat) : GE := ⟨i, 1, 0, i, ⟨#[]⟩⟩
theorem gx_ok {i : Nat} (h : i < 18446744073709551616) : (gx i).ok ∧ (gx i).may = true := ⟨⟨h, by simp [gx], h, by simp [gx]; unfold maxLen; decide⟩, by simp [gx, GE.may]; first | rfl | simp [ByteArray.size]⟩
def SmallR (rs : List Rc) : Prop := ∀ r ∈ rs, r.ok ∧ r.ent.sql.size = 0
theorem SmallR.app {a b : List Rc} (h : SmallR a) (h' : SmallR b) : SmallR (a ++ b) := fun r hr => (List.mem_append.1 hr).elim (h r) (h' r)
theorem SmallR.take {a : List Rc} (h : SmallR a) (n : Nat) : SmallR (a.take n) := fun r hr => h r (List.mem_of_mem_take hr)
/-- What stands between two calls of WalCuts. -/
def CW (w0 w : World) (p q : Nat) (rs : List Rc) (ns : Nat) (pr : Bool) (es : List GE) (n : Nat) (L : List (Value × List GE)) : Prop :=
  KB w0 w w0.heap.size p q 65536 none rs ns pr ⟨0, 0, 0, 0, es⟩ n L ∧ SmallR rs
section
variable {w0 w w' : World} {p q n ns : Nat} {rs : List Rc} {pr : Bool} {es : List GE} {L : List (Value × List GE)}
theorem CW.below (h : CW w0 w p q rs ns pr es n L) (hb : Below w.heap.size w w') : CW w0 w' p q rs ns pr es n L := ⟨h.1.below hb, h.2⟩
theorem CW.len (h : CW w0 w p q rs ns pr es n L) (hr : rs.length ≤ 200) : (recsB rs).length ≤ 16000 := by have := recs_small h.2; omega
theorem cw_cut {m : Nat} (h : CW w0 w p q rs ns pr es (n + 1) L) (hr : rs.length ≤ 200) (hm : m ≤ es.length) (hn : es.length ≤ 1000) :
    Calls Tryz.prog 10 #[.pointer (some ⟨p, 0, none⟩), .int .u64 ((m : Int) + 1)] w fun e w' => e = .returned .nilIface ∧ CW w0 w' p q (rs ++ [rcC (m + 1)]) ns true (es.take m) n L := by
  have hl := h.len hr
  have e1 : ((m + 1 : Nat) : Int) = (m : Int) + 1 := by omega
  rw [← e1]
  have ht : takeS ⟨0, 0, 0, 0, es⟩ (rcC (m + 1)) = .ok ⟨0, 0, 0, 0, es.take m⟩ := by
    have : takeS ⟨0, 0, 0, 0, es⟩ (rcC (m + 1)) = if (m + 1 ≤ 0 ∨ 0 + es.length + 1 < m + 1) then .error 40 else .ok ⟨0, 0, 0, 0, es.take (m + 1 - 0 - 1)⟩ := rfl
    rw [this, if_neg (by omega)]
    simp
  refine (kb_cut h.1 (by omega) ht (roomy_of (by omega)) (by omega) (by show es.length ≤ 800000; omega)).mono ?_
  rintro e w' ⟨q1, q2⟩
  exact ⟨q1, q2, h.2.app (fun r hr => by rw [List.mem_singleton.1 hr]; exact ⟨rcC_ok (by omega), rfl⟩)⟩
theorem cw_app {vl : Value} {e2 : List GE} (h : CW w0 w p q rs ns pr es (n + 1) L) (hr : rs.length ≤ 200) (hl : RE w vl e2) (h2 : ∀ g ∈ e2, (g.ok ∧ g.may = true) ∧ g.sql.size = 0) (h2l : e2.length ≤ 10) (hn : es.length ≤ 1000) :
    Calls Tryz.prog 11 #[.pointer (some ⟨p, 0, none⟩), vl] w fun e w' => e = .returned .nilIface ∧ CW w0 w' p q (rs ++ e2.map rcE) ns true (es ++ e2) n L := by
  have hlen := h.len hr
  have hs2 : SmallR (e2.map rcE) := fun r hr => by obtain ⟨g, hg, rfl⟩ := List.mem_map.1 hr; exact ⟨rcE_ok (h2 g hg).1.1 (h2 g hg).1.2, (h2 g hg).2⟩
  have hl2 := recs_small hs2
  rw [List.length_map] at hl2
  refine (kb_app h.1 hl (fun g hg => (h2 g hg).1) (roomy_of (by omega)) (by omega) (by show es.length + e2.length ≤ 800000; omega)).mono ?_
  rintro e w' ⟨q1, q2⟩
  exact ⟨q1, q2, h.2.app hs2⟩
theorem cw_sync (h : CW w0 w p q rs ns true es (n + 1) L) :
    Calls Tryz.prog 12 #[.pointer (some ⟨p, 0, none⟩)] w fun e w' => e = .returned .nilIface ∧ CW w0 w' p q rs rs.length true es n L :=
  (kb_sync h.1).mono fun _ _ ⟨q1, q2⟩ => ⟨q1, q2, h.2⟩
theorem cw_entries (h : CW w0 w p q rs ns pr es n L) : Calls Tryz.prog 14 #[.pointer (some ⟨p, 0, none⟩)] w fun e w' => ∃ v', e = .returned v' ∧ CW w0 w' p q rs ns pr es n L ∧ EL w' v' es :=
  (kb_entries h.1).mono fun _ _ ⟨v', q1, q2, _, q4⟩ => ⟨v', q1, h.below q4, q2⟩
/-- A fall, and Open: all that was sure, and the entry that wasn't, or not. -/
theorem cw_fall {kv : Value} {ks : List Int} {g : GE} (h : CW w0 w p q (rs ++ [rcE g]) rs.length true (es ++ [g]) (n + 2) L) (hr : rs.length ≤ 200) (hrun : runS sta0 rs = .ok ⟨0, 0, 0, 0, es⟩) (hk : Dk.KeepAt w (fun k => w0.heap.size ≤ k) kv ks) (hkl : ks.length ≤ 60) :
    Calls Tryz.prog 13 #[.pointer (some ⟨q, 0, none⟩), .agg #[kv]] w fun e w1 => e = .returned (.tuple #[]) ∧ Hid (Calls Tryz.prog 9 #[.pointer (some ⟨q, 0, none⟩)] w1 fun e w' => ∃ p2, e = .returned (.tuple #[.pointer (some ⟨p2, 0, none⟩), .nilIface]) ∧ Hid (CW w0 w' p2 q rs rs.length true es n L ∨ CW w0 w' p2 q (rs ++ [rcE g]) (rs.length + 1) true (es ++ [g]) n L)) := by
  have hsm := h.2
  have hl2 := recs_small hsm
  rw [List.length_append, List.length_singleton] at hl2
  obtain ⟨hi1, hi2, hi3, hi4⟩ := h.1.info
  refine (kb_crash h.1 (fun y hy => by cases hy) hk (by omega)).mono ?_
  rintro e w1 ⟨rfl, hc⟩
  refine ⟨rfl, (kc_open hc (by omega) (by simp; omega)).mono ?_⟩
  rintro e w' ⟨p2, k, sk, rfl, hk1, hk2, hsk, hkb⟩
  refine ⟨p2, rfl, ?_⟩
  rw [List.length_append, List.length_singleton] at hk2
  rcases Nat.lt_or_ge rs.length k with h' | h'
  · obtain rfl : k = rs.length + 1 := by omega
    have e1 : (rs ++ [rcE g]).take (rs.length + 1) = rs ++ [rcE g] := List.take_of_length_le (by simp)
    rw [e1] at hsk hkb
    rw [hi1] at hsk
    cases hsk
    rw [List.length_append, List.length_singleton] at hkb
    exact .inr ⟨hkb, hsm⟩
  · obtain rfl : k = rs.length := by omega
    have e1 : (rs ++ [rcE g]).take rs.length = rs := List.take_left
    rw [e1] at hsk hkb
    rw [hrun] at hsk
    cases hsk
    exact .inl ⟨hkb, fun r hr => hsm r (List.mem_append_left _ hr)⟩
/-- The statement's rows anew. -/
theorem CW.rows {L' : List (Value × List GE)} (h : CW w0 w p q rs ns pr es n L) (hb : Below w.heap.size w w') (hL : ∀ x ∈ L', x ∈ L ∨ (EL w' x.1 x.2 ∧ ∀ g, inB x.1 g → w.heap.size ≤ g ∨ ∃ y ∈ L, inB y.1 g)) : CW w0 w' p q rs ns pr es n L' := ⟨h.1.rows hb hL, h.2⟩
theorem CW.el (h : CW w0 w p q rs ns pr es n L) : ∀ x ∈ L, EL w x.1 x.2 := by obtain ⟨⟨O, _, _, h3⟩, _⟩ := h; exact fun x hx => (h3 x hx).1
theorem CW.less {m : Nat} (h : CW w0 w p q rs ns pr es n L) (hm : m ≤ n) : CW w0 w p q rs ns pr es m L := ⟨h.1.less hm, h.2⟩
end
/-- The row of the statement: a first part of it, then two more: two appends. -/
theorem own_app2 {W : World} {B : Nat} {a b : List GE} {v : Value} {n : Nat} (ho : W.ownsRow B 37 5 v n (esC a ++ esC b)) (hn : n = a.length + b.length) : EL W v (a ++ b) ∧ ∀ g, inB v g → B ≤ g := EL.own (by rw [esC_app]; exact ho) (by simpa using hn)
end Go.Proofs.YthphadbcebeoaaaGreatDoor
