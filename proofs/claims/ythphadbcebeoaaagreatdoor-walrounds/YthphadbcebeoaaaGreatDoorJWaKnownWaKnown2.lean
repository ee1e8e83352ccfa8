/- The wal's statements: known. -/
import Derived.Test.YthphadbcebeoaaaGreatDoorJWListsWMsgMsgHelpWaKB
import Derived.BigRegion
namespace Go.Proofs.YthphadbcebeoaaaGreatDoor
open Go.RowKit Go.Lib Go.Maps

set_option maxHeartbeats 6400000 in
set_option maxRecDepth 100000 in
theorem shard_any {w : World} {p t v : Nat} (h1 : w.cell? ⟨p, 1, none⟩ = some (.int .u64 (t : Int))) (h2 : w.cell? ⟨p, 1 + 1, none⟩ = some (.int .u64 (v : Int))) (hv : v ≤ 1001) :
    Calls Tryz.prog 39 #[.pointer (some ⟨p, 1, none⟩)] w fun e w' => e = .returned (.agg #[.int .u64 (t : Int), .int .i64 ((v : Int) - 1)]) ∧ Below w.heap.size w w' := by
  have hpl : p < w.heap.size := lt_of_cell h1
  have hn1 : ¬ p = w.heap.size := by omega
  have hn2 : ¬ w.heap.size = p := by omega
  have hw : IntKind.i64.wrap (v : Int) = (v : Int) := by rw [IntKind.wrap_i64] <;> omega
  have hw2 : IntKind.i64.wrap ((v : Int) - 1) = (v : Int) - 1 := by rw [IntKind.wrap_i64] <;> omega
  go_enter Tryz.func39, Tryz.ntmps39
  go_wp2_with fail
  obtain ⟨W, hW, e1, e2, e3, e4, f3, f4, hb⟩ : ∃ W : World, w.alloc (.cells #[.int .u64 0, .int .i64 0] 47) = W ∧ W.cell? ⟨p, 1, none⟩ = some (.int .u64 (t : Int)) ∧ W.cell? ⟨p, 1 + 1, none⟩ = some (.int .u64 (v : Int)) ∧ W.cell? ⟨w.heap.size, 0, none⟩ = some (.int .u64 0) ∧ W.cell? ⟨w.heap.size, 1, none⟩ = some (.int .i64 0) ∧ W.frozen? ⟨w.heap.size, 0, none⟩ = false ∧ W.frozen? ⟨w.heap.size, 1, none⟩ = false ∧ Hid (Below w.heap.size w W) := by
    have hb := box_below w (.cells #[.int .u64 0, .int .i64 0] 47)
    have hn : (w.alloc (.cells #[.int .u64 0, .int .i64 0] 47)).heap[w.heap.size]? = some (.cells #[.int .u64 0, .int .i64 0] 47 (0, 0)) := heap_alloc_new _ _
    exact ⟨_, rfl, (hb.cell (p := ⟨p, 1, none⟩) hpl).trans h1, (hb.cell (p := ⟨p, 1 + 1, none⟩) hpl).trans h2, (Dk.cellB hn 0).1, (Dk.cellB hn 1).1, (Dk.cellB hn 0).2, (Dk.cellB hn 1).2, hb⟩
  rw [hW]
  clear hW h1 h2
  go_region
  all_goals
    go_wp2_with fail
    refine bodyPost_ret (v := .agg #[.int .u64 (t : Int), .int .i64 ((v : Int) - 1)]) ?_ rfl ?_
    · rw [results_cell1 rfl]
      go_simp
      try rfl
    exact ⟨rfl, below_trans0 (((unhide hb).setCell (p := ⟨w.heap.size, 0, none⟩) (Nat.le_refl _) _).setCell (p := ⟨w.heap.size, 1, none⟩) (Nat.le_refl _) _) (drew_below _ 1)⟩
set_option maxHeartbeats 3200000 in
set_option maxRecDepth 100000 in
theorem hard_any {w : World} {B p q sz : Nat} {S : Dk.St} {F : List Dk.Ent} {s : Sta} {v : Value} {D : Nat → Prop} (h : WX w B p q S F s v sz D) (hs : s.ok) :
    Calls Tryz.prog 19 #[.pointer (some ⟨p, 0, none⟩)] w fun e w' => e = .returned (.agg #[.int .u64 (s.term : Int), .int .i64 ((s.vote : Int) - 1)]) ∧ Below w.heap.size w w' := by
  have hb := box_below w (.cells #[.int .u64 0, .int .i64 0] 47)
  have h1 := h.below hb
  have HS : Hid (Calls Tryz.prog 39 #[.pointer (some ⟨p, 1, none⟩)] (w.alloc (.cells #[.int .u64 0, .int .i64 0] 47)) fun e w' => e = .returned (.agg #[.int .u64 (s.term : Int), .int .i64 ((s.vote : Int) - 1)]) ∧ w'.cell? ⟨w.heap.size, 0, none⟩ = some (.int .u64 0) ∧ w'.cell? ⟨w.heap.size, 1, none⟩ = some (.int .i64 0) ∧ w'.frozen? ⟨w.heap.size, 0, none⟩ = false ∧ w'.frozen? ⟨w.heap.size, 1, none⟩ = false ∧ Hid (Below w.heap.size w w')) := by
    refine (shard_any h1.cells.2.1 h1.cells.2.2.1 hs.2.1).mono ?_
    rintro e w' ⟨rfl, h2⟩
    have hn : w'.heap[w.heap.size]? = some (.cells #[.int .u64 0, .int .i64 0] 47 (0, 0)) := (h2.block _ (by simp)).trans (heap_alloc_new _ _)
    exact ⟨rfl, (Dk.cellB hn 0).1, (Dk.cellB hn 1).1, (Dk.cellB hn 0).2, (Dk.cellB hn 1).2, below_trans0 hb h2⟩
  clear h h1 hb hs
  go_enter Tryz.func19, Tryz.ntmps19
  go_wp2_with (first
    | (go_at_call 39; refine (unhide HS).mono ?_; rintro e w1 ⟨rfl, x0, x1, f0, f1, HB⟩; clear HS))
  refine bodyPost_ret (v := .agg #[.int .u64 (s.term : Int), .int .i64 ((s.vote : Int) - 1)]) ?_ rfl ?_
  · rw [results_cell1 rfl]
    go_simp
    try rfl
  exact ⟨rfl, ((unhide HB).setCell (p := ⟨w.heap.size, 0, none⟩) (Nat.le_refl _) _).setCell (p := ⟨w.heap.size, 1, none⟩) (Nat.le_refl _) _⟩
theorem kb_hard {w0 w : World} {B p q n ns : Nat} {R : Int} {a : Fx} {rs : List Rc} {pr : Bool} {s : Sta} {L : List (Value × List GE)} (h : KB w0 w B p q R a rs ns pr s n L) : Calls Tryz.prog 19 #[.pointer (some ⟨p, 0, none⟩)] w fun e w' => e = .returned (.agg #[.int .u64 (s.term : Int), .int .i64 ((s.vote : Int) - 1)]) ∧ Below w.heap.size w w' := by
  obtain ⟨O, ⟨v, D, S, h1, h2, h3, h4, h5, h6, _⟩, _⟩ := h
  exact hard_any h1 h6
end Go.Proofs.YthphadbcebeoaaaGreatDoor
/- The wal's statements: known. -/
namespace Go.Proofs.YthphadbcebeoaaaGreatDoor
open Go.RowKit Go.Lib Go.Maps

/-- An entry of a term alone. -/
def nE (t : Nat) : GE := ⟨t, 0, 0, 0, ⟨#[]⟩⟩
theorem nE_ok {t : Nat} (h : t < 18446744073709551616) : (nE t).ok ∧ (nE t).may = true := ⟨⟨h, by simp [nE], by simp [nE], by simp [nE]; unfold maxLen; decide⟩, by simp [nE, GE.may]; first | rfl | simp [ByteArray.size]⟩
theorem recs_small : ∀ {rs : List Rc}, (∀ r ∈ rs, r.ok ∧ r.ent.sql.size = 0) → (recsB rs).length ≤ 80 * rs.length
  | [], _ => by simp [recsB]
  | r :: rs, h => by
    have h1 := rc_small (h r (List.mem_cons_self ..)).1
    have h2 := (h r (List.mem_cons_self ..)).2
    have h3 := recs_small (rs := rs) (fun q hq => h q (List.mem_cons_of_mem _ hq))
    rw [recsB_cons, List.length_append, List.length_cons]
    omega
theorem re_one (w : World) (g : GE) : RE (w.alloc (.cells #[.int .u64 (g.term : Int), .int .i64 g.kind, .int .u64 (g.client : Int), .int .u64 (g.seq : Int), .string g.sql] 37)) (.slice (some ⟨w.heap.size, 0, none⟩) 1 1) [g] := by
  have hn : (w.alloc (.cells #[.int .u64 (g.term : Int), .int .i64 g.kind, .int .u64 (g.client : Int), .int .u64 (g.seq : Int), .string g.sql] 37)).heap[w.heap.size]? = some (.cells #[.int .u64 (g.term : Int), .int .i64 g.kind, .int .u64 (g.client : Int), .int .u64 (g.seq : Int), .string g.sql] 37 (0, 0)) := heap_alloc_new _ _
  refine ⟨_, 1, rfl, fun i x hi => ?_⟩
  cases i with
  | zero =>
    simp at hi
    subst hi
    refine ⟨_, _, rfl, by simp, fun j u hu => ?_⟩
    rw [(Dk.cellB hn _).1, ← Array.getElem?_toList]
    simpa [geC] using hu
  | succ i => simp at hi
def two (g h : GE) : Array Value := #[.int .u64 (g.term : Int), .int .i64 g.kind, .int .u64 (g.client : Int), .int .u64 (g.seq : Int), .string g.sql, .int .u64 (h.term : Int), .int .i64 h.kind, .int .u64 (h.client : Int), .int .u64 (h.seq : Int), .string h.sql]
theorem el_two (w : World) (g h : GE) : EL (w.alloc (.cells (two g h) 37)) (.slice (some ⟨w.heap.size, 0, none⟩) 2 2) [g, h] ∧ ∀ b, inB (.slice (some ⟨w.heap.size, 0, none⟩) 2 2) b → w.heap.size ≤ b :=
  ⟨.inr ⟨w.heap.size, 0, 2, two g h, rfl, heap_alloc_new _ _, Nat.le_refl _, by decide, by simp [two], by simp [two, esC, geC]⟩, fun b ⟨_, _, _, e⟩ => by cases e; exact Nat.le_refl _⟩
def kR : List Rc := [rcE (nE 1), rcE (nE 2), rcC 2, rcE (nE 3)]
theorem kR_ok : ∀ r ∈ kR, r.ok ∧ r.ent.sql.size = 0 := by
  intro r hr
  simp [kR] at hr
  rcases hr with rfl | rfl | rfl | rfl
  · exact ⟨rcE_ok (nE_ok (by decide)).1 (nE_ok (by decide)).2, rfl⟩
  · exact ⟨rcE_ok (nE_ok (by decide)).1 (nE_ok (by decide)).2, rfl⟩
  · exact ⟨rcC_ok (by decide), rfl⟩
  · exact ⟨rcE_ok (nE_ok (by decide)).1 (nE_ok (by decide)).2, rfl⟩
theorem kR_len (n : Nat) : (recsB (kR.take n)).length ≤ 320 := by
  have h := recs_small (rs := kR.take n) (fun r hr => kR_ok r (List.mem_of_mem_take hr))
  have h2 : (kR.take n).length ≤ 4 := by rw [List.length_take]; exact Nat.min_le_right _ _
  omega
section
variable {w0 w : World} {p q : Nat}
abbrev KW (w0 w : World) (p q : Nat) (rs : List Rc) (ns : Nat) (pr : Bool) (es : List GE) (n : Nat) : Prop := KB w0 w w0.heap.size p q 65536 none rs ns pr ⟨0, 0, 0, 0, es⟩ n []
theorem roomy_of {x : List UInt8} {m : Nat} (h : x.length + m ≤ 30000) : Roomy 65536 none (some (x, 0)) m := ⟨by omega, by simp only [dB, List.length_nil]; omega⟩
theorem kw_app1 (h : KW w0 w p q [] 0 false [] 9000) {vl : Value} (hl : RE w vl [nE 1, nE 2]) : Calls Tryz.prog 11 #[.pointer (some ⟨p, 0, none⟩), vl] w fun e w' => e = .returned .nilIface ∧ KW w0 w' p q (kR.take 2) 0 true [nE 1, nE 2] 8999 := by
  have h2 := kR_len 2
  have e2 : recsB ([nE 1, nE 2].map rcE) = recsB (kR.take 2) := rfl
  exact kb_app h hl (fun g hg => by simp at hg; rcases hg with rfl | rfl <;> exact nE_ok (by decide)) (roomy_of (by rw [e2]; simp [recsB] at *; omega)) (by rw [e2]; simp [recsB] at *; omega) (by simp)
theorem kw_sync {rs : List Rc} {ns n : Nat} {es : List GE} (h : KW w0 w p q rs ns true es (n + 1)) : Calls Tryz.prog 12 #[.pointer (some ⟨p, 0, none⟩)] w fun e w' => e = .returned .nilIface ∧ KW w0 w' p q rs rs.length true es n := kb_sync h
theorem kw_cut (h : KW w0 w p q (kR.take 2) 2 true [nE 1, nE 2] 8998) : Calls Tryz.prog 10 #[.pointer (some ⟨p, 0, none⟩), .int .u64 2] w fun e w' => e = .returned .nilIface ∧ KW w0 w' p q (kR.take 3) 2 true [nE 1] 8997 := by
  have h2 := kR_len 2
  exact kb_cut (f := 2) h (by decide) rfl (roomy_of (by omega)) (by omega) (by simp)
theorem kw_app2 (h : KW w0 w p q (kR.take 3) 2 true [nE 1] 8997) {vl : Value} (hl : RE w vl [nE 3]) : Calls Tryz.prog 11 #[.pointer (some ⟨p, 0, none⟩), vl] w fun e w' => e = .returned .nilIface ∧ KW w0 w' p q kR 2 true [nE 1, nE 3] 8996 := by
  have h2 := kR_len 3
  have h3 := rc_small (rcE_ok (nE_ok (t := 3) (by decide)).1 (nE_ok (by decide)).2)
  have e2 : recsB ([nE 3].map rcE) = (rcE (nE 3)).bytes := by simp [recsB]
  have e3 : (rcE (nE 3)).ent.sql.size = 0 := rfl
  have e4 : kR.take 3 ++ [nE 3].map rcE = kR := rfl
  refine (kb_app h hl (fun g hg => by simp at hg; subst hg; exact nE_ok (by decide)) (roomy_of (by rw [e2]; omega)) (by rw [e2]; omega) (by simp)).mono ?_
  rintro e w' ⟨q1, q2⟩
  rw [e4] at q2
  exact ⟨q1, q2⟩
theorem keep_none (w : World) (O : Nat → Prop) : Dk.KeepAt w O (.slice none 0 0) [] := ⟨fun x hx => (by cases hx), .inl ⟨⟨none, 0, rfl⟩, rfl⟩⟩
theorem kw_crash (h : KW w0 w p q kR 4 true [nE 1, nE 3] 8995) : Calls Tryz.prog 13 #[.pointer (some ⟨q, 0, none⟩), .agg #[.slice none 0 0]] w fun e w' => e = .returned (.tuple #[]) ∧ KC w0 w' w0.heap.size q 65536 none kR 4 true ⟨0, 0, 0, 0, [nE 1, nE 3]⟩ 8995 [] :=
  kb_crash h (fun y hy => by cases hy) (keep_none _ _) (by simp)
theorem kw_open (h : KC w0 w w0.heap.size q 65536 none kR 4 true ⟨0, 0, 0, 0, [nE 1, nE 3]⟩ 8995 []) : Calls Tryz.prog 9 #[.pointer (some ⟨q, 0, none⟩)] w fun e w' => ∃ p, e = .returned (.tuple #[.pointer (some ⟨p, 0, none⟩), .nilIface]) ∧ KW w0 w' p q kR 4 true [nE 1, nE 3] 8993 := by
  have h2 := kR_len 4
  refine (kc_open (n := 8993) h (by rw [← List.take_length (l := kR)]; exact Nat.le_trans h2 (by decide)) (by decide)).mono ?_
  rintro e w' ⟨p, k, sk, rfl, hk1, hk2, hsk, hkb⟩
  have : k = 4 := by
    have : kR.length = 4 := rfl
    omega
  subst this
  have : runS sta0 (kR.take 4) = .ok ⟨0, 0, 0, 0, [nE 1, nE 3]⟩ := rfl
  rw [this] at hsk
  cases hsk
  exact ⟨p, rfl, hkb⟩
end
end Go.Proofs.YthphadbcebeoaaaGreatDoor
