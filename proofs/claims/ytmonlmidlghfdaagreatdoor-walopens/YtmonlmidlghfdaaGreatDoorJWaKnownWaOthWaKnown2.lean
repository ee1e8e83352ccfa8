/- The wal's statements: known. -/
import Derived.Test.YtmonlmidlghfdaaGreatDoorJWListsWMsgMsgHelpWaKB
import Derived.BigRegion
namespace Go.Proofs.YtmonlmidlghfdaaGreatDoor
open Go.RowKit Go.Lib Go.Maps

set_option maxHeartbeats 6400000 in
set_option maxRecDepth 100000 in
theorem shard_any {w : World} {p t v : Nat} (h1 : w.cell? ⟨p, 1, none⟩ = some (.int .u64 (t : Int))) (h2 : w.cell? ⟨p, 1 + 1, none⟩ = some (.int .u64 (v : Int))) (hv : v ≤ 1001) :
    Calls Tryz.prog 39 #[.pointer (some ⟨p, 1, none⟩)] w fun e w' => e = .returned (.agg #[.int .u64 (t : Int), .int .i64 ((v : Int) - 1)]) ∧ Below w.heap.size w w' := by
  have hpl : p < w.heap.size := lt_of_cell h1
  have hn1 : ¬ p = w.heap.size := by omega
  have hn2 : ¬ w.heap.size = p := by omega
  have hw : IntKind.i64.wrap (v : Int) = (v : Int) := by rw [IntKind.wrap_i64] <;> omega
  have hw2 : IntKind.i64.wrap ((v : Int) - 1) = (v : Int) - 1 := by rw [IntKind.wrap_i64] <;> omega
  go_enter Tryz.func39, Tryz.ntmps39
  go_wp2_with fail
  obtain ⟨W, hW, e1, e2, e3, e4, f3, f4, hb⟩ : ∃ W : World, w.alloc (.cells #[.int .u64 0, .int .i64 0] 47) = W ∧ W.cell? ⟨p, 1, none⟩ = some (.int .u64 (t : Int)) ∧ W.cell? ⟨p, 1 + 1, none⟩ = some (.int .u64 (v : Int)) ∧ W.cell? ⟨w.heap.size, 0, none⟩ = some (.int .u64 0) ∧ W.cell? ⟨w.heap.size, 1, none⟩ = some (.int .i64 0) ∧ W.frozen? ⟨w.heap.size, 0, none⟩ = false ∧ W.frozen? ⟨w.heap.size, 1, none⟩ = false ∧ Hid (Below w.heap.size w W) := by
    have hb := box_below w (.cells #[.int .u64 0, .int .i64 0] 47)
    have hn : (w.alloc (.cells #[.int .u64 0, .int .i64 0] 47)).heap[w.heap.size]? = some (.cells #[.int .u64 0, .int .i64 0] 47 (0, 0)) := heap_alloc_new _ _
    exact ⟨_, rfl, (hb.cell (p := ⟨p, 1, none⟩) hpl).trans h1, (hb.cell (p := ⟨p, 1 + 1, none⟩) hpl).trans h2, (Dk.cellB hn 0).1, (Dk.cellB hn 1).1, (Dk.cellB hn 0).2, (Dk.cellB hn 1).2, hb⟩
  rw [hW]
  clear hW h1 h2
  go_region
  all_goals
    go_wp2_with fail
    refine bodyPost_ret (v := .agg #[.int .u64 (t : Int), .int .i64 ((v : Int) - 1)]) ?_ rfl ?_
    · rw [results_cell1 rfl]
      go_simp
      try rfl
    exact ⟨rfl, below_trans0 (((unhide hb).setCell (p := ⟨w.heap.size, 0, none⟩) (Nat.le_refl _) _).setCell (p := ⟨w.heap.size, 1, none⟩) (Nat.le_refl _) _) (drew_below _ 1)⟩
set_option maxHeartbeats 3200000 in
set_option maxRecDepth 100000 in
theorem hard_any {w : World} {B p q sz : Nat} {S : Dk.St} {F : List Dk.Ent} {s : Sta} {v : Value} {D : Nat → Prop} (h : WX w B p q S F s v sz D) (hs : s.ok) :
    Calls Tryz.prog 19 #[.pointer (some ⟨p, 0, none⟩)] w fun e w' => e = .returned (.agg #[.int .u64 (s.term : Int), .int .i64 ((s.vote : Int) - 1)]) ∧ Below w.heap.size w w' := by
  have hb := box_below w (.cells #[.int .u64 0, .int .i64 0] 47)
  have h1 := h.below hb
  have HS : Hid (Calls Tryz.prog 39 #[.pointer (some ⟨p, 1, none⟩)] (w.alloc (.cells #[.int .u64 0, .int .i64 0] 47)) fun e w' => e = .returned (.agg #[.int .u64 (s.term : Int), .int .i64 ((s.vote : Int) - 1)]) ∧ w'.cell? ⟨w.heap.size, 0, none⟩ = some (.int .u64 0) ∧ w'.cell? ⟨w.heap.size, 1, none⟩ = some (.int .i64 0) ∧ w'.frozen? ⟨w.heap.size, 0, none⟩ = false ∧ w'.frozen? ⟨w.heap.size, 1, none⟩ = false ∧ Hid (Below w.heap.size w w')) := by
    refine (shard_any h1.cells.2.1 h1.cells.2.2.1 hs.2.1).mono ?_
    rintro e w' ⟨rfl, h2⟩
    have hn : w'.heap[w.heap.size]? = some (.cells #[.int .u64 0, .int .i64 0] 47 (0, 0)) := (h2.block _ (by simp)).trans (heap_alloc_new _ _)
    exact ⟨rfl, (Dk.cellB hn 0).1, (Dk.cellB hn 1).1, (Dk.cellB hn 0).2, (Dk.cellB hn 1).2, below_trans0 hb h2⟩
  clear h h1 hb hs
  go_enter Tryz.func19, Tryz.ntmps19
  go_wp2_with (first
    | (go_at_call 39; refine (unhide HS).mono ?_; rintro e w1 ⟨rfl, x0, x1, f0, f1, HB⟩; clear HS))
  refine bodyPost_ret (v := .agg #[.int .u64 (s.term : Int), .int .i64 ((s.vote : Int) - 1)]) ?_ rfl ?_
  · rw [results_cell1 rfl]
    go_simp
    try rfl
  exact ⟨rfl, ((unhide HB).setCell (p := ⟨w.heap.size, 0, none⟩) (Nat.le_refl _) _).setCell (p := ⟨w.heap.size, 1, none⟩) (Nat.le_refl _) _⟩
theorem kb_hard {w0 w : World} {B p q n ns : Nat} {R : Int} {a : Fx} {rs : List Rc} {pr : Bool} {s : Sta} {L : List (Value × List GE)} (h : KB w0 w B p q R a rs ns pr s n L) : Calls Tryz.prog 19 #[.pointer (some ⟨p, 0, none⟩)] w fun e w' => e = .returned (.agg #[.int .u64 (s.term : Int), .int .i64 ((s.vote : Int) - 1)]) ∧ Below w.heap.size w w' := by
  obtain ⟨O, ⟨v, D, S, h1, h2, h3, h4, h5, h6, _⟩, _⟩ := h
  exact hard_any h1 h6
end Go.Proofs.YtmonlmidlghfdaaGreatDoor
/- The wal's disk within a statement: another file on it, halts, falls, an Open that is cut off. -/
namespace Go.Proofs.YtmonlmidlghfdaaGreatDoor
open Go.RowKit Go.Lib Go.Maps

/-- A disk within a statement, its files F, its numbers as P says; so many more calls. -/
def DS (w0 w : World) (B q : Nat) (R : Int) (F : List Dk.Ent) (n : Nat) (P : Dk.St → Prop) : Prop :=
  ∃ S D, Dk.DX w q S F D ∧ OkS S R n ∧ P S ∧ Below B w0 w ∧ B ≤ w.heap.size ∧ EV w B ∧ ∀ k, D k → B ≤ k
def On (S : Dk.St) : Prop := S.off = false
def Any (_ : Dk.St) : Prop := True
section
variable {w0 w w' : World} {B p q n : Nat} {R : Int} {F : List Dk.Ent} {P : Dk.St → Prop} {a x : Fx} {rs : List Rc} {s : Sta}
theorem DS.below (h : DS w0 w B q R F n P) (hb : Below w.heap.size w w') : DS w0 w' B q R F n P := by
  obtain ⟨S, D, h1, h2, h3, h4, h5, h6, h7⟩ := h
  exact ⟨S, D, h1.below hb, h2, h3, h4.trans (hb.mono h5), Nat.le_trans h5 hb.size, h6.below (hb.mono h5), h7⟩
theorem DS.less {m : Nat} (h : DS w0 w B q R F n P) (hm : m ≤ n) : DS w0 w B q R F m P := by
  obtain ⟨S, D, h1, h2, h3, h4⟩ := h
  exact ⟨S, D, h1, h2.less hm, h3, h4⟩
theorem DS.imp {Q : Dk.St → Prop} (h : DS w0 w B q R F n P) (hq : ∀ S, P S → Q S) : DS w0 w B q R F n Q := by
  obtain ⟨S, D, h1, h2, h3, h4⟩ := h
  exact ⟨S, D, h1, h2, hq S h3, h4⟩
theorem DS.ev (h : DS w0 w B q R F n P) : EV w B ∧ B ≤ w.heap.size ∧ Below B w0 w := by
  obtain ⟨S, D, h1, h2, h3, h4, h5, h6, h7⟩ := h
  exact ⟨h6, h5, h4⟩
/-- Behind a call of the disk's own. -/
theorem ds_step {S' : Dk.St} {D D' : Nat → Prop} {F' : List Dk.Ent} {m : Nat} {Q : Dk.St → Prop} (h4 : Below B w0 w) (h5 : B ≤ w.heap.size) (h6 : EV w B) (h7 : ∀ k, D k → B ≤ k) (hd : Dk.DX w' q S' F' D') (hf : Dk.FrO D w w') (ho : ∀ k, D' k → D k ∨ w.heap.size ≤ k) (hS : OkS S' R m) (hq : Q S') : DS w0 w' B q R F' m Q := by
  have hb := fro_below hf h7 h5
  exact ⟨S', D', hd, hS, hq, h4.trans hb, Nat.le_trans h5 hf.size, h6.below hb, fun k hk => (ho k hk).elim (h7 k) (fun hh => Nat.le_trans h5 hh)⟩
theorem ds_new {room : Int} (hr : 0 ≤ room) (hE : ET w) (hT : ST w) : Calls Tryz.prog 8 #[.int .i64 room] w fun e w1 => e = .returned (.pointer (some ⟨w.heap.size, 0, none⟩)) ∧ DS w w1 w.heap.size w.heap.size room [] 9100 Hale := by
  refine (Dk.dx_new w room hr).mono ?_
  rintro e w1 ⟨rfl, hd, hb⟩
  have hE1 : EV w w.heap.size := ⟨hE, hT, hE.lt, hT.lt⟩
  exact ⟨rfl, _, _, hd, ⟨rfl, by show (0 : Int) ≤ 0; omega, by show (0 : Int) + ((9100 : Nat) : Int) ≤ 100000; omega, fun hh => by cases hh⟩, ⟨rfl, rfl⟩, hb, hb.size, hE1.below hb, fun k hk => Nat.le_of_eq hk.symm⟩
theorem app_ot {S : Dk.St} {m : Nat} (hS : OkS S R n) (hm : (m : Int) ≤ R) (hR : R ≤ 1000000) : Dk.appC S [] otN.data.toList m = 0 := by
  have h1 : Dk.anotherC [] otN.data.toList = 0 := rfl
  have h2 : Dk.look [] otN.data.toList = none := rfl
  unfold Dk.appC
  rw [h2]
  simp only [h1, if_true]
  rw [if_pos]
  unfold Dk.fitsB
  have h3 : Dk.usedL [] = 0 := rfl
  rw [h3, hS.1]
  simp only [Bool.and_eq_true, decide_eq_true_eq]
  constructor <;> omega
theorem ds_append {W : World} {v : Value} {lb : List UInt8} (h : DS w0 W B q R [] (n + 1) Hale) (hb : Below W.heap.size W w) (ho : ∀ D : Nat → Prop, (∀ k, D k → k < W.heap.size) → Dk.RBo w D v lb) (hm : (lb.length : Int) ≤ R) (hR : R ≤ 1000000) :
    Calls Tryz.prog 25 #[.pointer (some ⟨q, 0, none⟩), .string otN, v] w fun e w' => e = .returned .nilIface ∧ DS w0 w' B q R (FX (some (lb, 0)) none) n Hale := by
  obtain ⟨S, D, h1, h2, h3, h4, h5, h6, h7⟩ := h
  have hd := h1.below hb
  have hB := Nat.le_trans h5 hb.size
  have hE := h6.below (hb.mono h5)
  refine (Dk.dx_append otN v lb hd hE.et (by decide) (by rw [h2.1]; omega) h2.cnt h2.2.2.2 (ho D (fun k hk => h1.lt k hk))).mono ?_
  rw [app_ot h2 hm hR, begin_go h3.go]
  rintro e w' ⟨v', O', rfl, he, hd', hfr, ho'⟩
  obtain rfl := out_none he
  rw [if_pos rfl] at hd'
  have e1 : Dk.putE (Dk.fl otN.data.toList (Dk.oldData [] otN.data.toList ++ lb) (Dk.oldSure [] otN.data.toList)) [] = FX (some (lb, 0)) none := rfl
  rw [e1] at hd'
  exact ⟨rfl, ds_step (h4.trans (hb.mono h5)) hB hE h7 hd' hfr ho' (h2.nx h3.go) h3.nx⟩
theorem data_ot (a x : Fx) : Dk.oldData (FX a x) otN.data.toList = dB a := by unfold Dk.oldData; rw [look_ot]; cases a <;> rfl
theorem ds_sync {y : List UInt8 × Nat} (h : DS w0 w B q R (FX (some y) none) (n + 1) Hale) :
    Calls Tryz.prog 26 #[.pointer (some ⟨q, 0, none⟩), .string otN] w fun e w' => e = .returned .nilIface ∧ DS w0 w' B q R (FX (some (y.1, y.1.length)) none) n Hale := by
  obtain ⟨S, D, h1, h2, h3, h4, h5, h6, h7⟩ := h
  have ht : Dk.thereC (FX (some y) none) otN.data.toList = 0 := by unfold Dk.thereC; rw [look_ot]; rfl
  refine (Dk.dx_sync otN h1 h6.et (by decide) h2.cnt h2.2.2.2).mono ?_
  rw [ht, begin_go h3.go]
  rintro e w' ⟨v', rfl, he, hd, hfr⟩
  obtain rfl := out_none he
  rw [if_pos rfl, data_ot] at hd
  have e1 := repl_ot none (y.1, y.1.length) y
  unfold otE at e1
  simp only [dB] at hd
  rw [e1] at hd
  exact ⟨rfl, ds_step h4 h5 h6 h7 hd hfr (fun k hk => .inl hk) (h2.nx h3.go) h3.nx⟩
/-- Open, where there is no log. -/
theorem ds_open0 (h : DS w0 w B q R (FX a none) (n + 2) Hale) : Calls Tryz.prog 9 #[.pointer (some ⟨q, 0, none⟩)] w fun e w' => ∃ p, e = .returned (.tuple #[.pointer (some ⟨p, 0, none⟩), .nilIface]) ∧ KB w0 w' B p q R a [] 0 false sta0 n [] := by
  obtain ⟨S, D, h1, h2, h3, h4, h5, h6, h7⟩ := h
  refine (open_none h1 h5 h7 h6 h2 h3).mono fun e w' ho => ?_
  obtain ⟨p, O', rfl, q1, q2, q3⟩ := kopen (rs := []) (pr := false) h5 h6 h7 (fun _ => rfl) rfl (fun r hr => by cases hr) sta0_ok ho
  exact ⟨p, rfl, O', q1, h4.trans (fro_below q2 h7 h5), fun x hx => by cases hx⟩
theorem ds_halt {k : Int} (h : DS w0 w B q R F n On) (hk : 0 ≤ k ∧ k < 9223372036854775808) : Calls Tryz.prog 23 #[.pointer (some ⟨q, 0, none⟩), .int .i64 k] w fun e w' => e = .returned (.tuple #[]) ∧ DS w0 w' B q R F n On := by
  obtain ⟨S, D, h1, h2, h3, h4, h5, h6, h7⟩ := h
  refine (Dk.dx_halt k h1).mono ?_
  rintro e w' ⟨rfl, hd, hfr⟩
  exact ⟨rfl, ds_step h4 h5 h6 h7 hd hfr (fun k hk => .inl hk) ⟨h2.1, h2.2.1, h2.2.2.1, fun _ => hk⟩ h3⟩
theorem ds_crash {kv : Value} {ks : List Int} {y : List UInt8 × Nat} (h : DS w0 w B q R (FX a (some y)) n Any) (ha : ∀ y, a = some y → y.2 = y.1.length) (hy : y.2 = y.1.length) (hk : Dk.KeepAt w (fun k => B ≤ k) kv ks) (hkl : ks.length ≤ 1000000) :
    Calls Tryz.prog 13 #[.pointer (some ⟨q, 0, none⟩), .agg #[kv]] w fun e w' => e = .returned (.tuple #[]) ∧ DS w0 w' B q R (FX a (some y)) n Hale := by
  obtain ⟨S, D, h1, h2, h3, h4, h5, h6, h7⟩ := h
  refine (Dk.dx_crash kv ks h1 (keep_less hk h7) hkl (names_fx _ _)).mono ?_
  rintro e w' ⟨rfl, hd, hfr⟩
  obtain ⟨x', e1, e2⟩ := fall_fx ks a (some y) ha (fun y' hy' => by cases hy'; omega)
  rw [e1] at hd
  rcases e2 with ⟨hx, _⟩ | ⟨y', c, hx, q1, q2, rfl⟩
  · cases hx
  · cases hx
    obtain rfl : c = y.1.length := by omega
    rw [List.take_length, ← hy] at hd
    exact ⟨rfl, ds_step h4 h5 h6 h7 hd hfr (fun k hk => .inl hk) ⟨h2.1, h2.2.1, h2.2.2.1, fun hh => by cases hh⟩ ⟨rfl, rfl⟩⟩
/-- Open, where all of the log is whole and sure. -/
theorem ds_open (h : DS w0 w B q R (FX a (some (recsB rs, (recsB rs).length))) (n + 2) Hale) (hrs : ∀ r ∈ rs, r.ok) (hrun : runS sta0 rs = .ok s) (hs : s.ok) (hfew : rs.length ≤ 900000) (hlen : (recsB rs).length ≤ 1000000) :
    Calls Tryz.prog 9 #[.pointer (some ⟨q, 0, none⟩)] w fun e w' => ∃ p, e = .returned (.tuple #[.pointer (some ⟨p, 0, none⟩), .nilIface]) ∧ KB w0 w' B p q R a rs rs.length true s n [] := by
  obtain ⟨S, D, h1, h2, h3, h4, h5, h6, h7⟩ := h
  refine (open_whole h1 h5 h7 h6 h2 h3 hrs hrun hfew hlen).mono fun e w' ho => ?_
  have e1 : xF true rs rs.length = some (recsB rs, (recsB rs).length) := by unfold xF; rw [if_pos rfl, List.take_length]
  rw [← e1] at ho
  obtain ⟨p, O', rfl, q1, q2, q3⟩ := kopen (rs := rs) (pr := true) h5 h6 h7 (fun hh => by cases hh) hrun hrs hs ho
  exact ⟨p, rfl, O', q1, h4.trans (fro_below q2 h7 h5), fun x hx => by cases hx⟩
variable {L : List (Value × List GE)}
/-- The disk of a wal all of which is sure. -/
theorem kb_ds (h : KB w0 w B p q R a rs rs.length true s n L) : DS w0 w B q R (FX a (some (recsB rs, (recsB rs).length))) n Hale := by
  obtain ⟨O, ⟨v, D, S, h1, h2, h3, h4, h5, h6, h7, h8, h9, h10, h11⟩, hb, _⟩ := h
  have e1 : xF true rs rs.length = some (recsB rs, (recsB rs).length) := by unfold xF; rw [if_pos rfl, List.take_length]
  rw [e1] at h1
  exact ⟨S, D, h1.dx, h7, h8, hb, h9, h10, h1.bd⟩
/-- The other file is read. -/
theorem kb_read {y : List UInt8 × Nat} {ns : Nat} {pr : Bool} (h : KB w0 w B p q R (some y) rs ns pr s n L) : Calls Tryz.prog 27 #[.pointer (some ⟨q, 0, none⟩), .string otN] w fun e w' => ∃ v, e = .returned (.tuple #[v, .nilIface]) ∧ w'.ownsRow w.heap.size 5 1 v y.1.length (byteCells y.1) ∧ Below w.heap.size w w' := by
  obtain ⟨O, ⟨v, D, S, h1, h2, h3, h4, h5, h6, h7, h8, h9, h10, h11⟩, hb, _⟩ := h
  have hr : Dk.readC S (FX (some y) (xF pr rs ns)) otN.data.toList = 0 := by unfold Dk.readC; rw [if_neg (by simp [h8.1]), look_ot]; rfl
  refine (Dk.dx_read otN h1.dx h10.et (by decide)).mono ?_
  rw [hr, data_ot]
  rintro e w' ⟨hbl, ⟨h0, _⟩ | ⟨_, _, v', rfl, hv⟩⟩
  · exact absurd rfl h0
  · exact ⟨v', rfl, hv, hbl⟩
end
end Go.Proofs.YtmonlmidlghfdaaGreatDoor
/- The wal's statements: known. -/
namespace Go.Proofs.YtmonlmidlghfdaaGreatDoor
open Go.RowKit Go.Lib Go.Maps

/-- An entry of a term alone. -/
def nE (t : Nat) : GE := ⟨t, 0, 0, 0, ⟨#[]⟩⟩
theorem nE_ok {t : Nat} (h : t < 18446744073709551616) : (nE t).ok ∧ (nE t).may = true := ⟨⟨h, by simp [nE], by simp [nE], by simp [nE]; unfold maxLen; decide⟩, by simp [nE, GE.may]; first | rfl | simp [ByteArray.size]⟩
theorem recs_small : ∀ {rs : List Rc}, (∀ r ∈ rs, r.ok ∧ r.ent.sql.size = 0) → (recsB rs).length ≤ 80 * rs.length
  | [], _ => by simp [recsB]
  | r :: rs, h => by
    have h1 := rc_small (h r (List.mem_cons_self ..)).1
    have h2 := (h r (List.mem_cons_self ..)).2
    have h3 := recs_small (rs := rs) (fun q hq => h q (List.mem_cons_of_mem _ hq))
    rw [recsB_cons, List.length_append, List.length_cons]
    omega
theorem re_one (w : World) (g : GE) : RE (w.alloc (.cells #[.int .u64 (g.term : Int), .int .i64 g.kind, .int .u64 (g.client : Int), .int .u64 (g.seq : Int), .string g.sql] 37)) (.slice (some ⟨w.heap.size, 0, none⟩) 1 1) [g] := by
  have hn : (w.alloc (.cells #[.int .u64 (g.term : Int), .int .i64 g.kind, .int .u64 (g.client : Int), .int .u64 (g.seq : Int), .string g.sql] 37)).heap[w.heap.size]? = some (.cells #[.int .u64 (g.term : Int), .int .i64 g.kind, .int .u64 (g.client : Int), .int .u64 (g.seq : Int), .string g.sql] 37 (0, 0)) := heap_alloc_new _ _
  refine ⟨_, 1, rfl, fun i x hi => ?_⟩
  cases i with
  | zero =>
    simp at hi
    subst hi
    refine ⟨_, _, rfl, by simp, fun j u hu => ?_⟩
    rw [(Dk.cellB hn _).1, ← Array.getElem?_toList]
    simpa [geC] using hu
  | succ i => simp at hi
def two (g h : GE) : Array Value := #[.int .u64 (g.term : Int), .int .i64 g.kind, .int .u64 (g.client : Int), .int .u64 (g.seq : Int), .string g.sql, .int .u64 (h.term : Int), .int .i64 h.kind, .int .u64 (h.client : Int), .int .u64 (h.seq : Int), .string h.sql]
theorem el_two (w : World) (g h : GE) : EL (w.alloc (.cells (two g h) 37)) (.slice (some ⟨w.heap.size, 0, none⟩) 2 2) [g, h] ∧ ∀ b, inB (.slice (some ⟨w.heap.size, 0, none⟩) 2 2) b → w.heap.size ≤ b :=
  ⟨.inr ⟨w.heap.size, 0, 2, two g h, rfl, heap_alloc_new _ _, Nat.le_refl _, by decide, by simp [two], by simp [two, esC, geC]⟩, fun b ⟨_, _, _, e⟩ => by cases e; exact Nat.le_refl _⟩
def kR : List Rc := [rcE (nE 1), rcE (nE 2), rcC 2, rcE (nE 3)]
theorem kR_ok : ∀ r ∈ kR, r.ok ∧ r.ent.sql.size = 0 := by
  intro r hr
  simp [kR] at hr
  rcases hr with rfl | rfl | rfl | rfl
  · exact ⟨rcE_ok (nE_ok (by decide)).1 (nE_ok (by decide)).2, rfl⟩
  · exact ⟨rcE_ok (nE_ok (by decide)).1 (nE_ok (by decide)).2, rfl⟩
  · exact ⟨rcC_ok (by decide), rfl⟩
  · exact ⟨rcE_ok (nE_ok (by decide)).1 (nE_ok (by decide)).2, rfl⟩
theorem kR_len (n : Nat) : (recsB (kR.take n)).length ≤ 320 := by
  have h := recs_small (rs := kR.take n) (fun r hr => kR_ok r (List.mem_of_mem_take hr))
  have h2 : (kR.take n).length ≤ 4 := by rw [List.length_take]; exact Nat.min_le_right _ _
  omega
section
variable {w0 w : World} {p q : Nat}
abbrev KW (w0 w : World) (p q : Nat) (rs : List Rc) (ns : Nat) (pr : Bool) (es : List GE) (n : Nat) : Prop := KB w0 w w0.heap.size p q 65536 none rs ns pr ⟨0, 0, 0, 0, es⟩ n []
theorem roomy_of {x : List UInt8} {m : Nat} (h : x.length + m ≤ 30000) : Roomy 65536 none (some (x, 0)) m := ⟨by omega, by simp only [dB, List.length_nil]; omega⟩
theorem kw_app1 (h : KW w0 w p q [] 0 false [] 9000) {vl : Value} (hl : RE w vl [nE 1, nE 2]) : Calls Tryz.prog 11 #[.pointer (some ⟨p, 0, none⟩), vl] w fun e w' => e = .returned .nilIface ∧ KW w0 w' p q (kR.take 2) 0 true [nE 1, nE 2] 8999 := by
  have h2 := kR_len 2
  have e2 : recsB ([nE 1, nE 2].map rcE) = recsB (kR.take 2) := rfl
  exact kb_app h hl (fun g hg => by simp at hg; rcases hg with rfl | rfl <;> exact nE_ok (by decide)) (roomy_of (by rw [e2]; simp [recsB] at *; omega)) (by rw [e2]; simp [recsB] at *; omega) (by simp)
theorem kw_sync {rs : List Rc} {ns n : Nat} {es : List GE} (h : KW w0 w p q rs ns true es (n + 1)) : Calls Tryz.prog 12 #[.pointer (some ⟨p, 0, none⟩)] w fun e w' => e = .returned .nilIface ∧ KW w0 w' p q rs rs.length true es n := kb_sync h
theorem kw_cut (h : KW w0 w p q (kR.take 2) 2 true [nE 1, nE 2] 8998) : Calls Tryz.prog 10 #[.pointer (some ⟨p, 0, none⟩), .int .u64 2] w fun e w' => e = .returned .nilIface ∧ KW w0 w' p q (kR.take 3) 2 true [nE 1] 8997 := by
  have h2 := kR_len 2
  exact kb_cut (f := 2) h (by decide) rfl (roomy_of (by omega)) (by omega) (by simp)
theorem kw_app2 (h : KW w0 w p q (kR.take 3) 2 true [nE 1] 8997) {vl : Value} (hl : RE w vl [nE 3]) : Calls Tryz.prog 11 #[.pointer (some ⟨p, 0, none⟩), vl] w fun e w' => e = .returned .nilIface ∧ KW w0 w' p q kR 2 true [nE 1, nE 3] 8996 := by
  have h2 := kR_len 3
  have h3 := rc_small (rcE_ok (nE_ok (t := 3) (by decide)).1 (nE_ok (by decide)).2)
  have e2 : recsB ([nE 3].map rcE) = (rcE (nE 3)).bytes := by simp [recsB]
  have e3 : (rcE (nE 3)).ent.sql.size = 0 := rfl
  have e4 : kR.take 3 ++ [nE 3].map rcE = kR := rfl
  refine (kb_app h hl (fun g hg => by simp at hg; subst hg; exact nE_ok (by decide)) (roomy_of (by rw [e2]; omega)) (by rw [e2]; omega) (by simp)).mono ?_
  rintro e w' ⟨q1, q2⟩
  rw [e4] at q2
  exact ⟨q1, q2⟩
theorem keep_none (w : World) (O : Nat → Prop) : Dk.KeepAt w O (.slice none 0 0) [] := ⟨fun x hx => (by cases hx), .inl ⟨⟨none, 0, rfl⟩, rfl⟩⟩
theorem kw_crash (h : KW w0 w p q kR 4 true [nE 1, nE 3] 8995) : Calls Tryz.prog 13 #[.pointer (some ⟨q, 0, none⟩), .agg #[.slice none 0 0]] w fun e w' => e = .returned (.tuple #[]) ∧ KC w0 w' w0.heap.size q 65536 none kR 4 true ⟨0, 0, 0, 0, [nE 1, nE 3]⟩ 8995 [] :=
  kb_crash h (fun y hy => by cases hy) (keep_none _ _) (by simp)
theorem kw_open (h : KC w0 w w0.heap.size q 65536 none kR 4 true ⟨0, 0, 0, 0, [nE 1, nE 3]⟩ 8995 []) : Calls Tryz.prog 9 #[.pointer (some ⟨q, 0, none⟩)] w fun e w' => ∃ p, e = .returned (.tuple #[.pointer (some ⟨p, 0, none⟩), .nilIface]) ∧ KW w0 w' p q kR 4 true [nE 1, nE 3] 8993 := by
  have h2 := kR_len 4
  refine (kc_open (n := 8993) h (by rw [← List.take_length (l := kR)]; exact Nat.le_trans h2 (by decide)) (by decide)).mono ?_
  rintro e w' ⟨p, k, sk, rfl, hk1, hk2, hsk, hkb⟩
  have : k = 4 := by
    have : kR.length = 4 := rfl
    omega
  subst this
  have : runS sta0 (kR.take 4) = .ok ⟨0, 0, 0, 0, [nE 1, nE 3]⟩ := rfl
  rw [this] at hsk
  cases hsk
  exact ⟨p, rfl, hkb⟩
end
end Go.Proofs.YtmonlmidlghfdaaGreatDoor
