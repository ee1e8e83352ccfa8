/- Contracts of package wire's writer of messages: lists as they come, data, replies, PutMsg. -/
import Derived.Test.YtahpfhnekmilmaaGreatDoorWLists
namespace Go.Proofs.YtahpfhnekmilmaaGreatDoor
open Go.RowKit Go.Lib

theorem wents_any (p : Nat) (v : Value) (es : List GE) (s : Option (List UInt8)) (w : World) (hv : SlE w p v es) (hw : WS w p s) (hl : LB s 500000000) :
    Calls Tryz.prog 25 #[.pointer (some ⟨p, 0, none⟩), v, .int .i64 1000, .func (.func 26) #[.pointer (some ⟨p, 0, none⟩)] #[]] w fun e w' =>
      e = .returned (.tuple #[]) ∧ WS w' p (put (eList eEnt 1000 es) s) ∧ Fr 5 p w w' := by
  obtain ⟨h1, h2, a, cap, rfl, h3⟩ := hv
  by_cases hne : es = []
  · subst hne; exact wents_empty p a cap s w hw hl
  · obtain ⟨b, off, rfl, hb, hc⟩ := h3 hne
    exact wents_row codec_ent (by decide) p b off cap es s w hb h1 h2 h2 hc hw hl
theorem wcols_any (p : Nat) (v : Value) (es : List ByteArray) (s : Option (List UInt8)) (w : World) (hv : SlS w p v es) (hw : WS w p s) (hl : LB s 500000000) :
    Calls Tryz.prog 47 #[.pointer (some ⟨p, 0, none⟩), v, .int .i64 64, .func (.func 48) #[.pointer (some ⟨p, 0, none⟩)] #[]] w fun e w' =>
      e = .returned (.tuple #[]) ∧ WS w' p (put (eList (eText 2000) 64 es) s) ∧ Fr 5 p w w' := by
  obtain ⟨h1, h2, a, cap, rfl, h3⟩ := hv
  by_cases hne : es = []
  · subst hne; exact wcols_empty p a cap s w hw hl
  · obtain ⟨b, off, rfl, hb, hc⟩ := h3 hne
    exact wcols_row (codec_text 2000 (by decide)) (by decide) p b off cap es s w hb h1 h2 h2 hc hw hl
theorem wrows_any (p : Nat) (v : Value) (rs : List (Value × List GV)) (s : Option (List UInt8)) (w : World) (hv : SlR w p v rs) (h70 : ∀ x ∈ rs, x.2.length ≤ 1000) (hw : WS w p s) (hl : LB s 500000000) :
    Calls Tryz.prog 49 #[.pointer (some ⟨p, 0, none⟩), v, .int .i64 20000, .func (.func 50) #[.pointer (some ⟨p, 0, none⟩)] #[]] w fun e w' =>
      e = .returned (.tuple #[]) ∧ WS w' p (put (eList (eList eVal 64) 20000 (rs.map Prod.snd)) s) ∧ Fr 5 p w w' := by
  obtain ⟨h1, h2, a, cap, rfl, h3⟩ := hv
  by_cases hne : rs = []
  · subst hne; exact wrows_empty p a cap s w hw hl
  · obtain ⟨b, off, rfl, hb, hc⟩ := h3 hne
    exact wrows_row codec_row (by decide) p b off cap rs s w hb h1 (fun x hx => (h2 x hx).ok) h2 h70 hc hw hl

set_option maxHeartbeats 1600000 in
theorem wdata_none (p most n : Nat) (a : Option Addr) (cap : Nat) (s : Option (List UInt8)) (w : World) (hm : most ≤ 1000000000) (ht : n ≤ 1000000000000) (hw : WS w p s) (hl : LB s 900000000)
    (hn : n ≤ most → s = none) :
    Calls Tryz.prog 28 #[.pointer (some ⟨p, 0, none⟩), .slice a n cap, .int .i64 most] w fun e w' => e = .returned (.tuple #[]) ∧ WS w' p none ∧ Fr 5 p w w' := by
  have ht' : (n : Int) ≤ 9223372036854775807 := by omega
  have HB := hide (wbetween_any p (n : Int) 0 most s w (by omega) (by omega) (by omega) hw (fun l e => by have := hl l e; omega))
  have e : (if 0 ≤ (n : Int) ∧ (n : Int) ≤ most then s.map (· ++ uvarint ((n : Int) - 0).toNat) else none) = none := by
    split
    · rw [hn (by omega)]; rfl
    · rfl
  rw [e] at HB
  clear hw hl hn e
  go_enter Tryz.func28, Tryz.ntmps28
  go_wp2_with (go_at_call 23; refine (unhide HB).mono ?_; rintro e w1 ⟨rfl, ⟨f0, f1, b, pl, c0, c1, hb, he⟩, hb1⟩)
  first | go_end0 | refine bodyPost_ret (results_none rfl _ _ _) rfl ?_
  exact ⟨rfl, ⟨f0, f1, b, pl, c0, c1, hb, he⟩, hb1⟩

set_option maxHeartbeats 1600000 in
theorem wdata_some (p most : Nat) (a : Option Addr) (cap : Nat) (lb : List UInt8) (l : List UInt8) (w : World) (hm : most ≤ 1000000000) (hv : RBp w p (.slice a lb.length cap) lb) (hw : WS w p (some l)) (hl : l.length ≤ 900000000) (ht : lb.length ≤ most) :
    Calls Tryz.prog 28 #[.pointer (some ⟨p, 0, none⟩), .slice a lb.length cap, .int .i64 most] w fun e w' => e = .returned (.tuple #[]) ∧ WS w' p (some (l ++ (uvarint lb.length ++ lb))) ∧ Fr 5 p w w' := by
  have hp := hw.lt
  have HB := hide (wbetween_any p (lb.length : Int) 0 most (some l) w (by omega) (by omega) (by omega) hw (by intro l' h; injection h with h; subst h; omega))
  rw [if_pos (by omega), show ((lb.length : Int) - 0).toNat = lb.length by omega, Option.map_some] at HB
  have hu := uvarint_length64 (x := lb.length) (by omega)
  have HL : Hid ((l ++ uvarint lb.length).length = l.length + (uvarint lb.length).length) := List.length_append
  have HV := hide hv
  have hq : (lb.length : Int) ≤ 9223372036854775807 := by omega
  clear hw hv
  go_enter Tryz.func28, Tryz.ntmps28
  go_wp2_with (first | (go_at_call 23; refine (unhide HB).mono ?_; rintro e w1 ⟨rfl, ⟨f0, f1, v, c0, c1, ho⟩, hb1⟩; have hs1 := hb1.1.size) | (at_builtin; refine wpList_append_rb rfl (.tmp 20) (.tmp 21) rfl (p + 1) _ _ _ rfl ho p _ lb rfl ((unhide HV).below hb1.1 (Nat.le_refl _)) (by have := unhide HL; omega) (by omega) (by omega) ?_))
  intro v' w2 ho2 hk2 hb2
  obtain ⟨a2, k2, hv2⟩ := own_slice ho2
  subst hv2
  have d0 : w2.cell? ⟨p, 0, none⟩ = some v := (hb2.cell (p := ⟨p, 0, none⟩) (Nat.lt_succ_self p)).trans c0
  have g0 : w2.frozen? ⟨p, 0, none⟩ = false := (hb2.frozen (p := ⟨p, 0, none⟩) (Nat.lt_succ_self p)).trans f0
  have R := hide (WS.more (l' := l ++ (uvarint lb.length ++ lb)) c0 c1 f0 f1 hb2 hk2 (by
    have e1 : (l ++ (uvarint lb.length ++ lb)).length = l.length + (uvarint lb.length).length + lb.length := by simp [Nat.add_assoc]
    rw [e1, ← List.append_assoc, byteCells_append]; exact ho2))
  clear ho2 hb2 hk2
  go_wp2
  first | go_end0 | refine bodyPost_ret (results_none rfl _ _ _) rfl ?_
  exact ⟨rfl, (unhide R).1, hb1.trans (unhide R).2⟩

theorem wdata_p (p most : Nat) (v : Value) (lb : List UInt8) (s : Option (List UInt8)) (w : World) (hm : most ≤ 1000000000) (hv : RBp w p v lb) (hw : WS w p s) (hl : LB s 900000000) :
    Calls Tryz.prog 28 #[.pointer (some ⟨p, 0, none⟩), v, .int .i64 (most : Int)] w fun e w' => e = .returned (.tuple #[]) ∧ WS w' p (put (eData most lb) s) ∧ Fr 5 p w w' := by
  obtain ⟨a, cap, rfl⟩ := rb_len hv
  unfold eData
  by_cases h : lb.length ≤ most
  · rw [if_pos h]
    cases s with
    | none => exact wdata_none p most lb.length a cap none w hm hv.1 hw (fun l e => by cases e) (fun _ => rfl)
    | some l => exact wdata_some p most a cap lb l w hm hv hw (hl l rfl) h
  · rw [if_neg h]
    exact wdata_none p most lb.length a cap s w hm hv.1 hw hl (fun h' => absurd h' h)

theorem below_box {w W : World} {cs : Array Value} {T : TypeId} {B i : Nat} {v : Value} (hb : Below B (w.alloc (.cells cs T)) W) (hB : w.heap.size < B) (hc : cs[i]? = some v) : W.cell? ⟨w.heap.size, i, none⟩ = some v := by
  rw [hb.cell (p := ⟨w.heap.size, i, none⟩) hB]
  simpa using hc
theorem below_box2 {w W : World} {cs : Array Value} {T : TypeId} {B i : Nat} {o : Obj} {v : Value} (hb : Below B ((w.alloc (.cells cs T)).alloc o) W) (hB : w.heap.size < B) (hc : cs[i]? = some v) : W.cell? ⟨w.heap.size, i, none⟩ = some v := by
  rw [hb.cell (p := ⟨w.heap.size, i, none⟩) hB, World.cell?_alloc_lt _ _ _ (by simp)]
  simpa using hc
theorem fr_box {w W : World} {cs : Array Value} {T E : TypeId} {p i : Nat} {v : Value} (hf : Fr E p (w.alloc (.cells cs T)) W) (hp : p < w.heap.size) (hT : T ≠ E) (hc : cs[i]? = some v) : W.cell? ⟨w.heap.size, i, none⟩ = some v := by
  have h := (hf.cell (k := w.heap.size) (o := i) (cur := cs) (T' := T) (fz := (0, 0)) (heap_alloc_new _ _) hT (by omega)).1
  rw [h]; simpa using hc

theorem LB.mono {s : Option (List UInt8)} {N M : Nat} (h : LB s N) (hM : N ≤ M) : LB s M := fun l e => Nat.le_trans (h l e) hM
theorem lb_num {x : Nat} (hx : x < 18446744073709551616) {s : Option (List UInt8)} {N : Nat} (h : LB s N) : LB (put (eUp m64 x) s) (N + 10) := h.put _ (fun b hb => codec_num.len x b hx hb) (Nat.le_refl _)
theorem lb_bet (lo hi n : Int) (hlh : lo ≤ hi) (h64 : hi - lo < 18446744073709551616) {s : Option (List UInt8)} {N : Nat} (h : LB s N) : LB (put (eBetween lo hi n) s) (N + 10) := h.put _ (fun b hb => (codec_between lo hi hlh h64).len n b trivial hb) (Nat.le_refl _)
theorem lb_bool (t : Bool) {s : Option (List UInt8)} {N : Nat} (h : LB s N) : LB (put (eBool t) s) (N + 10) := h.put _ (fun b hb => codec_bool.len t b trivial hb) (Nat.le_refl _)

/-- A reply's six cells, with what its slices read as. -/
structure RepAt (w : World) (B : Nat) (vC vR : Value) (cs : List ByteArray) (rs : List (Value × List GV)) : Prop where
  cols : SlS w B vC cs
  rows : SlR w B vR rs
  few : ∀ x ∈ rs, x.2.length ≤ 1000
theorem RepAt.later {w w' : World} {B B' : Nat} {vC vR : Value} {cs : List ByteArray} {rs : List (Value × List GV)} (h : RepAt w B vC vR cs rs) (hb : Below B w w') (hB : B ≤ B') : RepAt w' B' vC vR cs rs :=
  ⟨h.cols.later hb hB, h.rows.later hb hB, h.few⟩

set_option maxHeartbeats 6400000 in
set_option maxRecDepth 100000 in
theorem wreply_p (p sq : Nat) (cl : Int) (vC vR : Value) (ct : Int) (ix : Nat) (cs : List ByteArray) (rs : List (Value × List GV)) (s : Option (List UInt8)) (w : World) (hsq : sq < 18446744073709551616) (hix : ix < 18446744073709551616) (hR : RepAt w p vC vR cs rs) (hw : WS w p s) (hl : LB s 300000000) :
    Calls Tryz.prog 30 #[.pointer (some ⟨p, 0, none⟩), .agg #[.int .u64 sq, .int .i64 cl, vC, vR, .int .i64 ct, .int .u64 ix]] w fun e w' =>
      e = .returned (.tuple #[]) ∧ WS w' p (put (eRep (sq, cl, cs, rs.map Prod.snd, ct, ix)) s) ∧ Fr 5 p w w' := by
  have hmf : ∀ (fn : Fn) (first cap : Array Value) (w : World), (Instr.makeFunc fn first cap).run Tryz.prog w = .ok (.func fn first cap) w := fun _ _ _ _ => rfl
  have hp := hw.lt
  have HE : Hid (put (eRep (sq, cl, cs, rs.map Prod.snd, ct, ix)) s = put (eUp m64 ix) (put (eBetween 0 262144 ct) (put (eList (eList eVal 64) 20000 (rs.map Prod.snd)) (put (eList (eText 2000) 64 cs) (put (eBetween 0 100 cl) (put (eUp m64 sq) s)))))) := by
    show put (ePair _ _ _) s = _
    rw [put_pair, put_pair, put_pair, put_pair, put_pair]
  rw [unhide HE]
  clear HE
  have hV : ∀ x ∈ rs.map Prod.snd, ∀ g ∈ x, g.ok := by
    intro x hx
    obtain ⟨y, hy, rfl⟩ := List.mem_map.1 hx
    exact (hR.rows.2.1 y hy).ok
  have l1 := lb_num hsq hl
  have l2 := lb_bet 0 100 cl (by omega) (by omega) l1
  have l3 := l2.put (eList (eText 2000) 64 cs) (fun b hb => codec_cols.len cs b hR.cols.2.1 hb) (Nat.le_refl _)
  have l4 := l3.put (eList (eList eVal 64) 20000 (rs.map Prod.snd)) (fun b hb => codec_rows.len _ b hV hb) (Nat.le_refl _)
  have l5 := lb_bet 0 262144 ct (by omega) (by omega) l4
  have H1 := hide (fun (W : World) (h : WS W p s) => wnum_p p sq s W hsq h (hl.mono (by omega)))
  have HB := hide (fun (W : World) (hb : Below p w W) => hR.later hb (Nat.le_refl _))
  obtain ⟨s1, e1⟩ : ∃ x, put (eUp m64 sq) s = x := ⟨_, rfl⟩
  rw [e1] at H1 l1 l2 l3 l4 l5 ⊢
  have H2 := hide (fun (W : World) (h : WS W p s1) => wbet_p p cl 0 100 s1 W (by omega) (by omega) (by omega) h (l1.mono (by omega)))
  obtain ⟨s2, e2⟩ : ∃ x, put (eBetween 0 100 cl) s1 = x := ⟨_, rfl⟩
  rw [e2] at H2 l2 l3 l4 l5 ⊢
  have H3 := hide (fun (W : World) (hb : Below p w W) (h : WS W p s2) => wcols_any p vC cs s2 W (unhide HB W hb).cols h (l2.mono (by omega)))
  obtain ⟨s3, e3⟩ : ∃ x, put (eList (eText 2000) 64 cs) s2 = x := ⟨_, rfl⟩
  rw [e3] at H3 l3 l4 l5 ⊢
  have H4 := hide (fun (W : World) (hb : Below p w W) (h : WS W p s3) => wrows_any p vR rs s3 W (unhide HB W hb).rows hR.few h (l3.mono (by omega)))
  obtain ⟨s4, e4⟩ : ∃ x, put (eList (eList eVal 64) 20000 (rs.map Prod.snd)) s3 = x := ⟨_, rfl⟩
  rw [e4] at H4 l4 l5 ⊢
  have H5 := hide (fun (W : World) (h : WS W p s4) => wbet_p p ct 0 262144 s4 W (by omega) (by omega) (by omega) h (l4.mono (by omega)))
  obtain ⟨s5, e5⟩ : ∃ x, put (eBetween 0 262144 ct) s4 = x := ⟨_, rfl⟩
  rw [e5] at H5 l5 ⊢
  have H6 := hide (fun (W : World) (h : WS W p s5) => wnum_p p ix s5 W hix h (l5.mono (by omega)))
  obtain ⟨s6, e6⟩ : ∃ x, put (eUp m64 ix) s5 = x := ⟨_, rfl⟩
  rw [e6] at H6 ⊢
  clear e1 e2 e3 e4 e5 e6 l1 l2 l3 l4 l5 hl hV
  have hfr0 : Fr 5 p w (w.alloc (.cells #[.int .u64 sq, .int .i64 cl, vC, vR, .int .i64 ct, .int .u64 ix] 41)) := (Fr.refl _ p w).alloc (by omega) _
  have HC := hide (fun (W : World) (hf : Fr 5 p (w.alloc (.cells #[.int .u64 sq, .int .i64 cl, vC, vR, .int .i64 ct, .int .u64 ix] 41)) W) (i : Nat) (v : Value) (hc : (#[.int .u64 sq, .int .i64 cl, vC, vR, .int .i64 ct, .int .u64 ix] : Array Value)[i]? = some v) => fr_box hf hp (by decide) hc)
  have HW := hide (hw.alloc (.cells #[.int .u64 sq, .int .i64 cl, vC, vR, .int .i64 ct, .int .u64 ix] 41))
  have HF := hide hfr0
  clear hw hR hfr0 HB
  go_enter Tryz.func30, Tryz.ntmps30
  go_wp2_with (first
    | (go_at_call 24; refine (unhide H1 _ (unhide HW)).mono ?_; rintro e w1 ⟨rfl, hw1, f1⟩; clear H1; have c := unhide HC _ f1 1 _ rfl)
    | (go_at_call 23; refine (unhide H2 _ hw1).mono ?_; rintro e w2 ⟨rfl, hw2, g⟩; clear H2 hw1 c; have f2 := f1.trans g; have c := unhide HC _ f2 2 _ rfl)
    | (go_at_call 47; refine (unhide H3 _ ((unhide HF).trans f2).1 hw2).mono ?_; rintro e w3 ⟨rfl, hw3, g⟩; clear H3 hw2 c; have f3 := f2.trans g; have c := unhide HC _ f3 3 _ rfl)
    | (go_at_call 49; refine (unhide H4 _ ((unhide HF).trans f3).1 hw3).mono ?_; rintro e w4 ⟨rfl, hw4, g⟩; clear H4 hw3 c; have f4 := f3.trans g; have c := unhide HC _ f4 4 _ rfl)
    | (go_at_call 23; refine (unhide H5 _ hw4).mono ?_; rintro e w5 ⟨rfl, hw5, g⟩; clear H5 hw4 c; have f5 := f4.trans g; have c := unhide HC _ f5 5 _ rfl)
    | (go_at_call 24; refine (unhide H6 _ hw5).mono ?_; rintro e w6 ⟨rfl, hw6, g⟩; clear H6 hw5 c; have f6 := f5.trans g))
  first | go_end0 | refine bodyPost_ret (results_none rfl _ _ _) rfl ?_
  exact ⟨rfl, hw6, (unhide HF).trans f6⟩

/-- What a message's slices read as. -/
structure MsgAt (w : World) (B : Nat) (vE vD vC vR : Value) (es : List GE) (lb : List UInt8) (cs : List ByteArray) (rs : List (Value × List GV)) : Prop where
  ents : SlE w B vE es
  data : RBp w B vD lb
  rep : RepAt w B vC vR cs rs
theorem MsgAt.later {w w' : World} {B B' : Nat} {vE vD vC vR : Value} {es : List GE} {lb : List UInt8} {cs : List ByteArray} {rs : List (Value × List GV)} (h : MsgAt w B vE vD vC vR es lb cs rs) (hb : Below B w w') (hB : B ≤ B') : MsgAt w' B' vE vD vC vR es lb cs rs :=
  ⟨h.ents.later hb hB, rb_later h.data hb hB, h.rep.later hb hB⟩
theorem box2_cell {w W : World} {cs : Array Value} {T : TypeId} {o : Obj} (hb : Below (w.heap.size + 1) ((w.alloc (.cells cs T)).alloc o) W) (i : Nat) (v : Value) (hc : cs[i]? = some v) : W.cell? ⟨w.heap.size, i, none⟩ = some v := below_box2 hb (Nat.lt_succ_self _) hc
set_option maxHeartbeats 12800000 in
set_option maxRecDepth 100000 in
theorem putMsg_any (kd fr to : Int) (tm ix lt : Nat) (vE : Value) (cm rd : Nat) (ok : Bool) (off : Int) (vD : Value) (dn : Bool) (cl sq : Nat) (sql : ByteArray) (rsq : Nat) (rcl : Int) (vC vR : Value) (rct : Int) (rix : Nat) (hint : Int) (es : List GE) (lb : List UInt8) (cs : List ByteArray) (rs : List (Value × List GV)) (w : World)
    (htm : tm < 18446744073709551616) (hix : ix < 18446744073709551616) (hlt : lt < 18446744073709551616) (hcm : cm < 18446744073709551616) (hrd : rd < 18446744073709551616) (hcl : cl < 18446744073709551616) (hsq : sq < 18446744073709551616) (hrsq : rsq < 18446744073709551616) (hrix : rix < 18446744073709551616) (hsql : sql.size ≤ maxLen)
    (hM : MsgAt w w.heap.size vE vD vC vR es lb cs rs) :
    Calls Tryz.prog 15 #[.agg #[.int .i64 kd, .int .i64 fr, .int .i64 to, .int .u64 tm, .int .u64 ix, .int .u64 lt, vE, .int .u64 cm, .int .u64 rd, .bool ok, .int .i64 off, vD, .bool dn, .int .u64 cl, .int .u64 sq, .string sql, .int .u64 rsq, .int .i64 rcl, vC, vR, .int .i64 rct, .int .u64 rix, .int .i64 hint]] w fun e w' => DonePost (eMsg (kd, fr, to, tm, ix, lt, es, cm, rd, ok, off, lb, dn, cl, sq, sql, (rsq, rcl, cs, rs.map Prod.snd, rct, rix), hint)) w.heap.size w e w' := by
  have hmf : ∀ (fn : Fn) (first cap : Array Value) (w : World), (Instr.makeFunc fn first cap).run Tryz.prog w = .ok (.func fn first cap) w := fun _ _ _ _ => rfl
  obtain ⟨p, hp⟩ : ∃ p, p = w.heap.size + 1 := ⟨_, rfl⟩
  have HE : Hid (eMsg (kd, fr, to, tm, ix, lt, es, cm, rd, ok, off, lb, dn, cl, sq, sql, (rsq, rcl, cs, rs.map Prod.snd, rct, rix), hint) = put (eBetween (-1) 1000 hint) (put (eRep (rsq, rcl, cs, rs.map Prod.snd, rct, rix)) (put (eText 2000 sql) (put (eUp m64 sq) (put (eUp m64 cl) (put (eBool dn) (put (eData 262144 lb) (put (eBetween 0 262144 off) (put (eBool ok) (put (eUp m64 rd) (put (eUp m64 cm) (put (eList eEnt 1000 es) (put (eUp m64 lt) (put (eUp m64 ix) (put (eUp m64 tm) (put (eBetween (-1) 1000 to) (put (eBetween (-1) 1000 fr) (put (eBetween 1 8 kd) (some []))))))))))))))))))) := by
    rw [← put_nil (eMsg _)]
    show put (ePair _ _ _) (some []) = _
    simp only [put_pair]
  rw [unhide HE]
  clear HE
  have hV : ∀ x ∈ rs.map Prod.snd, ∀ g ∈ x, g.ok := by
    intro x hx
    obtain ⟨y, hy, rfl⟩ := List.mem_map.1 hx
    exact (hM.rep.rows.2.1 y hy).ok
  have hW0 : Below w.heap.size w ((w.alloc (.cells #[.int .i64 kd, .int .i64 fr, .int .i64 to, .int .u64 tm, .int .u64 ix, .int .u64 lt, vE, .int .u64 cm, .int .u64 rd, .bool ok, .int .i64 off, vD, .bool dn, .int .u64 cl, .int .u64 sq, .string sql, .int .u64 rsq, .int .i64 rcl, vC, vR, .int .i64 rct, .int .u64 rix, .int .i64 hint] 43)).alloc (.cells #[.slice none 0 0, .nilIface] 69)) := ((Below.refl _ _).alloc (Nat.le_refl _) _).alloc (by simp) _
  have HB := hide (fun (W : World) (hb : Below p ((w.alloc (.cells #[.int .i64 kd, .int .i64 fr, .int .i64 to, .int .u64 tm, .int .u64 ix, .int .u64 lt, vE, .int .u64 cm, .int .u64 rd, .bool ok, .int .i64 off, vD, .bool dn, .int .u64 cl, .int .u64 sq, .string sql, .int .u64 rsq, .int .i64 rcl, vC, vR, .int .i64 rct, .int .u64 rix, .int .i64 hint] 43)).alloc (.cells #[.slice none 0 0, .nilIface] 69)) W) => (hM.later (hW0.trans (hb.mono (by omega))) (show w.heap.size ≤ p by omega)))
  have l0 : LB (some []) 0 := by intro l e; injection e with e; subst e; simp
  have H1 := hide (fun (W : World) (h : WS W p (some [])) => wbet_p p kd 1 8 (some []) W (by omega) (by omega) (by omega) h (l0.mono (by omega)))
  have l1 := lb_bet 1 8 kd (by omega) (by omega) l0
  obtain ⟨s1, e1⟩ : ∃ x, put (eBetween 1 8 kd) (some []) = x := ⟨_, rfl⟩
  rw [e1] at H1 l1 ⊢
  have H2 := hide (fun (W : World) (h : WS W p s1) => wbet_p p fr (-1) 1000 s1 W (by omega) (by omega) (by omega) h (l1.mono (by omega)))
  have l2 := lb_bet (-1) 1000 fr (by omega) (by omega) l1
  obtain ⟨s2, e2⟩ : ∃ x, put (eBetween (-1) 1000 fr) s1 = x := ⟨_, rfl⟩
  rw [e2] at H2 l2 ⊢
  have H3 := hide (fun (W : World) (h : WS W p s2) => wbet_p p to (-1) 1000 s2 W (by omega) (by omega) (by omega) h (l2.mono (by omega)))
  have l3 := lb_bet (-1) 1000 to (by omega) (by omega) l2
  obtain ⟨s3, e3⟩ : ∃ x, put (eBetween (-1) 1000 to) s2 = x := ⟨_, rfl⟩
  rw [e3] at H3 l3 ⊢
  have H4 := hide (fun (W : World) (h : WS W p s3) => wnum_p p tm s3 W htm h (l3.mono (by omega)))
  have l4 := lb_num htm l3
  obtain ⟨s4, e4⟩ : ∃ x, put (eUp m64 tm) s3 = x := ⟨_, rfl⟩
  rw [e4] at H4 l4 ⊢
  have H5 := hide (fun (W : World) (h : WS W p s4) => wnum_p p ix s4 W hix h (l4.mono (by omega)))
  have l5 := lb_num hix l4
  obtain ⟨s5, e5⟩ : ∃ x, put (eUp m64 ix) s4 = x := ⟨_, rfl⟩
  rw [e5] at H5 l5 ⊢
  have H6 := hide (fun (W : World) (h : WS W p s5) => wnum_p p lt s5 W hlt h (l5.mono (by omega)))
  have l6 := lb_num hlt l5
  obtain ⟨s6, e6⟩ : ∃ x, put (eUp m64 lt) s5 = x := ⟨_, rfl⟩
  rw [e6] at H6 l6 ⊢
  have H7 := hide (fun (W : World) (hb : Below p ((w.alloc (.cells #[.int .i64 kd, .int .i64 fr, .int .i64 to, .int .u64 tm, .int .u64 ix, .int .u64 lt, vE, .int .u64 cm, .int .u64 rd, .bool ok, .int .i64 off, vD, .bool dn, .int .u64 cl, .int .u64 sq, .string sql, .int .u64 rsq, .int .i64 rcl, vC, vR, .int .i64 rct, .int .u64 rix, .int .i64 hint] 43)).alloc (.cells #[.slice none 0 0, .nilIface] 69)) W) (h : WS W p s6) => wents_any p vE es s6 W (unhide HB W hb).ents h (l6.mono (by omega)))
  have l7 := l6.put (eList eEnt 1000 es) (fun b hb => codec_ents.len es b hM.ents.2.1 hb) (Nat.le_refl _)
  obtain ⟨s7, e7⟩ : ∃ x, put (eList eEnt 1000 es) s6 = x := ⟨_, rfl⟩
  rw [e7] at H7 l7 ⊢
  have H8 := hide (fun (W : World) (h : WS W p s7) => wnum_p p cm s7 W hcm h (l7.mono (by omega)))
  have l8 := lb_num hcm l7
  obtain ⟨s8, e8⟩ : ∃ x, put (eUp m64 cm) s7 = x := ⟨_, rfl⟩
  rw [e8] at H8 l8 ⊢
  have H9 := hide (fun (W : World) (h : WS W p s8) => wnum_p p rd s8 W hrd h (l8.mono (by omega)))
  have l9 := lb_num hrd l8
  obtain ⟨s9, e9⟩ : ∃ x, put (eUp m64 rd) s8 = x := ⟨_, rfl⟩
  rw [e9] at H9 l9 ⊢
  have H10 := hide (fun (W : World) (h : WS W p s9) => wtruth_p p ok s9 W h (l9.mono (by omega)))
  have l10 := lb_bool ok l9
  obtain ⟨s10, e10⟩ : ∃ x, put (eBool ok) s9 = x := ⟨_, rfl⟩
  rw [e10] at H10 l10 ⊢
  have H11 := hide (fun (W : World) (h : WS W p s10) => wbet_p p off 0 262144 s10 W (by omega) (by omega) (by omega) h (l10.mono (by omega)))
  have l11 := lb_bet 0 262144 off (by omega) (by omega) l10
  obtain ⟨s11, e11⟩ : ∃ x, put (eBetween 0 262144 off) s10 = x := ⟨_, rfl⟩
  rw [e11] at H11 l11 ⊢
  have H12 := hide (fun (W : World) (hb : Below p ((w.alloc (.cells #[.int .i64 kd, .int .i64 fr, .int .i64 to, .int .u64 tm, .int .u64 ix, .int .u64 lt, vE, .int .u64 cm, .int .u64 rd, .bool ok, .int .i64 off, vD, .bool dn, .int .u64 cl, .int .u64 sq, .string sql, .int .u64 rsq, .int .i64 rcl, vC, vR, .int .i64 rct, .int .u64 rix, .int .i64 hint] 43)).alloc (.cells #[.slice none 0 0, .nilIface] 69)) W) (h : WS W p s11) => wdata_p p 262144 vD lb s11 W (by omega) (unhide HB W hb).data h (l11.mono (by omega)))
  have l12 := l11.put (eData 262144 lb) (fun b hb => (codec_data 262144 (by decide)).len lb b trivial hb) (Nat.le_refl _)
  obtain ⟨s12, e12⟩ : ∃ x, put (eData 262144 lb) s11 = x := ⟨_, rfl⟩
  rw [e12] at H12 l12 ⊢
  have H13 := hide (fun (W : World) (h : WS W p s12) => wtruth_p p dn s12 W h (l12.mono (by omega)))
  have l13 := lb_bool dn l12
  obtain ⟨s13, e13⟩ : ∃ x, put (eBool dn) s12 = x := ⟨_, rfl⟩
  rw [e13] at H13 l13 ⊢
  have H14 := hide (fun (W : World) (h : WS W p s13) => wnum_p p cl s13 W hcl h (l13.mono (by omega)))
  have l14 := lb_num hcl l13
  obtain ⟨s14, e14⟩ : ∃ x, put (eUp m64 cl) s13 = x := ⟨_, rfl⟩
  rw [e14] at H14 l14 ⊢
  have H15 := hide (fun (W : World) (h : WS W p s14) => wnum_p p sq s14 W hsq h (l14.mono (by omega)))
  have l15 := lb_num hsq l14
  obtain ⟨s15, e15⟩ : ∃ x, put (eUp m64 sq) s14 = x := ⟨_, rfl⟩
  rw [e15] at H15 l15 ⊢
  have H16 := hide (fun (W : World) (h : WS W p s15) => wtext_p p sql 2000 s15 W (by omega) hsql h (l15.mono (by omega)))
  have l16 := l15.put (eText 2000 sql) (fun b hb => (codec_text 2000 (by decide)).len sql b hsql hb) (Nat.le_refl _)
  obtain ⟨s16, e16⟩ : ∃ x, put (eText 2000 sql) s15 = x := ⟨_, rfl⟩
  rw [e16] at H16 l16 ⊢
  have H17 := hide (fun (W : World) (hb : Below p ((w.alloc (.cells #[.int .i64 kd, .int .i64 fr, .int .i64 to, .int .u64 tm, .int .u64 ix, .int .u64 lt, vE, .int .u64 cm, .int .u64 rd, .bool ok, .int .i64 off, vD, .bool dn, .int .u64 cl, .int .u64 sq, .string sql, .int .u64 rsq, .int .i64 rcl, vC, vR, .int .i64 rct, .int .u64 rix, .int .i64 hint] 43)).alloc (.cells #[.slice none 0 0, .nilIface] 69)) W) (h : WS W p s16) => wreply_p p rsq rcl vC vR rct rix cs rs s16 W hrsq hrix (unhide HB W hb).rep h (l16.mono (by omega)))
  have l17 := l16.put (eRep (rsq, rcl, cs, rs.map Prod.snd, rct, rix)) (fun b hb => codec_rep.len _ b ⟨hrsq, trivial, hM.rep.cols.2.1, hV, trivial, hrix⟩ hb) (Nat.le_refl _)
  obtain ⟨s17, e17⟩ : ∃ x, put (eRep (rsq, rcl, cs, rs.map Prod.snd, rct, rix)) s16 = x := ⟨_, rfl⟩
  rw [e17] at H17 l17 ⊢
  have H18 := hide (fun (W : World) (h : WS W p s17) => wbet_p p hint (-1) 1000 s17 W (by omega) (by omega) (by omega) h (l17.mono (by omega)))
  have l18 := lb_bet (-1) 1000 hint (by omega) (by omega) l17
  obtain ⟨s18, e18⟩ : ∃ x, put (eBetween (-1) 1000 hint) s17 = x := ⟨_, rfl⟩
  rw [e18] at H18 l18 ⊢
  clear e1 e2 e3 e4 e5 e6 e7 e8 e9 e10 e11 e12 e13 e14 e15 e16 e17 e18 l0 l1 l2 l3 l4 l5 l6 l7 l8 l9 l10 l11 l12 l13 l14 l15 l16 l17 l18 hV
  have HW : Hid (WS ((w.alloc (.cells #[.int .i64 kd, .int .i64 fr, .int .i64 to, .int .u64 tm, .int .u64 ix, .int .u64 lt, vE, .int .u64 cm, .int .u64 rd, .bool ok, .int .i64 off, vD, .bool dn, .int .u64 cl, .int .u64 sq, .string sql, .int .u64 rsq, .int .i64 rcl, vC, vR, .int .i64 rct, .int .u64 rix, .int .i64 hint] 43)).alloc (.cells #[.slice none 0 0, .nilIface] 69)) p (some [])) := by
    have := WS.new (w.alloc (.cells #[.int .i64 kd, .int .i64 fr, .int .i64 to, .int .u64 tm, .int .u64 ix, .int .u64 lt, vE, .int .u64 cm, .int .u64 rd, .bool ok, .int .i64 off, vD, .bool dn, .int .u64 cl, .int .u64 sq, .string sql, .int .u64 rsq, .int .i64 rcl, vC, vR, .int .i64 rct, .int .u64 rix, .int .i64 hint] 43))
    rw [World.size_alloc] at this
    rw [hp]; exact this
  have HC := hide (fun (W : World) (hb : Below p ((w.alloc (.cells #[.int .i64 kd, .int .i64 fr, .int .i64 to, .int .u64 tm, .int .u64 ix, .int .u64 lt, vE, .int .u64 cm, .int .u64 rd, .bool ok, .int .i64 off, vD, .bool dn, .int .u64 cl, .int .u64 sq, .string sql, .int .u64 rsq, .int .i64 rcl, vC, vR, .int .i64 rct, .int .u64 rix, .int .i64 hint] 43)).alloc (.cells #[.slice none 0 0, .nilIface] 69)) W) => box2_cell (hp ▸ hb))
  have HQ := hide hW0
  have b0 := hide (Below.refl p ((w.alloc (.cells #[.int .i64 kd, .int .i64 fr, .int .i64 to, .int .u64 tm, .int .u64 ix, .int .u64 lt, vE, .int .u64 cm, .int .u64 rd, .bool ok, .int .i64 off, vD, .bool dn, .int .u64 cl, .int .u64 sq, .string sql, .int .u64 rsq, .int .i64 rcl, vC, vR, .int .i64 rct, .int .u64 rix, .int .i64 hint] 43)).alloc (.cells #[.slice none 0 0, .nilIface] 69)))
  clear hM hW0 HB
  subst hp
  cases s18 with
  | some l =>
    go_enter Tryz.func15, Tryz.ntmps15
    go_wp2_with (first
      | (go_at_call 23; refine (unhide H1 _ (unhide HW)).mono ?_; rintro e w1 ⟨rfl, hw1, g⟩; clear H1 HW; have b1 := hide ((unhide b0).trans g.1); clear g; have c := unhide HC _ (unhide b1) 1 _ rfl)
      | (go_at_call 23; refine (unhide H2 _ hw1).mono ?_; rintro e w2 ⟨rfl, hw2, g⟩; clear H2 hw1 c; have b2 := hide ((unhide b1).trans g.1); clear g; have c := unhide HC _ (unhide b2) 2 _ rfl)
      | (go_at_call 23; refine (unhide H3 _ hw2).mono ?_; rintro e w3 ⟨rfl, hw3, g⟩; clear H3 hw2 c; have b3 := hide ((unhide b2).trans g.1); clear g; have c := unhide HC _ (unhide b3) 3 _ rfl)
      | (go_at_call 24; refine (unhide H4 _ hw3).mono ?_; rintro e w4 ⟨rfl, hw4, g⟩; clear H4 hw3 c; have b4 := hide ((unhide b3).trans g.1); clear g; have c := unhide HC _ (unhide b4) 4 _ rfl)
      | (go_at_call 24; refine (unhide H5 _ hw4).mono ?_; rintro e w5 ⟨rfl, hw5, g⟩; clear H5 hw4 c; have b5 := hide ((unhide b4).trans g.1); clear g; have c := unhide HC _ (unhide b5) 5 _ rfl)
      | (go_at_call 24; refine (unhide H6 _ hw5).mono ?_; rintro e w6 ⟨rfl, hw6, g⟩; clear H6 hw5 c; have b6 := hide ((unhide b5).trans g.1); clear g; have c := unhide HC _ (unhide b6) 6 _ rfl)
      | (go_at_call 25; refine (unhide H7 _ (unhide b6) hw6).mono ?_; rintro e w7 ⟨rfl, hw7, g⟩; clear H7 hw6 c; have b7 := hide ((unhide b6).trans g.1); clear g; have c := unhide HC _ (unhide b7) 7 _ rfl)
      | (go_at_call 24; refine (unhide H8 _ hw7).mono ?_; rintro e w8 ⟨rfl, hw8, g⟩; clear H8 hw7 c; have b8 := hide ((unhide b7).trans g.1); clear g; have c := unhide HC _ (unhide b8) 8 _ rfl)
      | (go_at_call 24; refine (unhide H9 _ hw8).mono ?_; rintro e w9 ⟨rfl, hw9, g⟩; clear H9 hw8 c; have b9 := hide ((unhide b8).trans g.1); clear g; have c := unhide HC _ (unhide b9) 9 _ rfl)
      | (go_at_call 27; refine (unhide H10 _ hw9).mono ?_; rintro e w10 ⟨rfl, hw10, g⟩; clear H10 hw9 c; have b10 := hide ((unhide b9).trans g.1); clear g; have c := unhide HC _ (unhide b10) 10 _ rfl)
      | (go_at_call 23; refine (unhide H11 _ hw10).mono ?_; rintro e w11 ⟨rfl, hw11, g⟩; clear H11 hw10 c; have b11 := hide ((unhide b10).trans g.1); clear g; have c := unhide HC _ (unhide b11) 11 _ rfl)
      | (go_at_call 28; refine (unhide H12 _ (unhide b11) hw11).mono ?_; rintro e w12 ⟨rfl, hw12, g⟩; clear H12 hw11 c; have b12 := hide ((unhide b11).trans g.1); clear g; have c := unhide HC _ (unhide b12) 12 _ rfl)
      | (go_at_call 27; refine (unhide H13 _ hw12).mono ?_; rintro e w13 ⟨rfl, hw13, g⟩; clear H13 hw12 c; have b13 := hide ((unhide b12).trans g.1); clear g; have c := unhide HC _ (unhide b13) 13 _ rfl)
      | (go_at_call 24; refine (unhide H14 _ hw13).mono ?_; rintro e w14 ⟨rfl, hw14, g⟩; clear H14 hw13 c; have b14 := hide ((unhide b13).trans g.1); clear g; have c := unhide HC _ (unhide b14) 14 _ rfl)
      | (go_at_call 24; refine (unhide H15 _ hw14).mono ?_; rintro e w15 ⟨rfl, hw15, g⟩; clear H15 hw14 c; have b15 := hide ((unhide b14).trans g.1); clear g; have c := unhide HC _ (unhide b15) 15 _ rfl)
      | (go_at_call 29; refine (unhide H16 _ hw15).mono ?_; rintro e w16 ⟨rfl, hw16, g⟩; clear H16 hw15 c; have b16 := hide ((unhide b15).trans g.1); clear g; have c16 := unhide HC _ (unhide b16) 16 _ rfl; have c17 := unhide HC _ (unhide b16) 17 _ rfl; have c18 := unhide HC _ (unhide b16) 18 _ rfl; have c19 := unhide HC _ (unhide b16) 19 _ rfl; have c20 := unhide HC _ (unhide b16) 20 _ rfl; have c21 := unhide HC _ (unhide b16) 21 _ rfl)
      | (go_at_call 30; refine (unhide H17 _ (unhide b16) hw16).mono ?_; rintro e w17 ⟨rfl, hw17, g⟩; clear H17 hw16 c16 c17 c18 c19 c20 c21; have b17 := hide ((unhide b16).trans g.1); clear g; have c := unhide HC _ (unhide b17) 22 _ rfl)
      | (go_at_call 23; refine (unhide H18 _ hw17).mono ?_; rintro e w18 ⟨rfl, hw18, g⟩; clear H18 hw17 c; have b18 := hide ((unhide b17).trans g.1); clear g)
      | (go_at_call 31; refine (wdone_any _ (some l) _ hw18).mono ?_; rintro e wl ⟨a, k, rfl, ho, hb2⟩))
    go_ret2
    exact ⟨a, k, rfl, own_weaker (by omega) ho, ((unhide HQ).trans ((unhide b18).mono (by omega))).trans (hb2.mono (by omega))⟩
  | none =>
    go_enter Tryz.func15, Tryz.ntmps15
    go_wp2_with (first
      | (go_at_call 23; refine (unhide H1 _ (unhide HW)).mono ?_; rintro e w1 ⟨rfl, hw1, g⟩; clear H1 HW; have b1 := hide ((unhide b0).trans g.1); clear g; have c := unhide HC _ (unhide b1) 1 _ rfl)
      | (go_at_call 23; refine (unhide H2 _ hw1).mono ?_; rintro e w2 ⟨rfl, hw2, g⟩; clear H2 hw1 c; have b2 := hide ((unhide b1).trans g.1); clear g; have c := unhide HC _ (unhide b2) 2 _ rfl)
      | (go_at_call 23; refine (unhide H3 _ hw2).mono ?_; rintro e w3 ⟨rfl, hw3, g⟩; clear H3 hw2 c; have b3 := hide ((unhide b2).trans g.1); clear g; have c := unhide HC _ (unhide b3) 3 _ rfl)
      | (go_at_call 24; refine (unhide H4 _ hw3).mono ?_; rintro e w4 ⟨rfl, hw4, g⟩; clear H4 hw3 c; have b4 := hide ((unhide b3).trans g.1); clear g; have c := unhide HC _ (unhide b4) 4 _ rfl)
      | (go_at_call 24; refine (unhide H5 _ hw4).mono ?_; rintro e w5 ⟨rfl, hw5, g⟩; clear H5 hw4 c; have b5 := hide ((unhide b4).trans g.1); clear g; have c := unhide HC _ (unhide b5) 5 _ rfl)
      | (go_at_call 24; refine (unhide H6 _ hw5).mono ?_; rintro e w6 ⟨rfl, hw6, g⟩; clear H6 hw5 c; have b6 := hide ((unhide b5).trans g.1); clear g; have c := unhide HC _ (unhide b6) 6 _ rfl)
      | (go_at_call 25; refine (unhide H7 _ (unhide b6) hw6).mono ?_; rintro e w7 ⟨rfl, hw7, g⟩; clear H7 hw6 c; have b7 := hide ((unhide b6).trans g.1); clear g; have c := unhide HC _ (unhide b7) 7 _ rfl)
      | (go_at_call 24; refine (unhide H8 _ hw7).mono ?_; rintro e w8 ⟨rfl, hw8, g⟩; clear H8 hw7 c; have b8 := hide ((unhide b7).trans g.1); clear g; have c := unhide HC _ (unhide b8) 8 _ rfl)
      | (go_at_call 24; refine (unhide H9 _ hw8).mono ?_; rintro e w9 ⟨rfl, hw9, g⟩; clear H9 hw8 c; have b9 := hide ((unhide b8).trans g.1); clear g; have c := unhide HC _ (unhide b9) 9 _ rfl)
      | (go_at_call 27; refine (unhide H10 _ hw9).mono ?_; rintro e w10 ⟨rfl, hw10, g⟩; clear H10 hw9 c; have b10 := hide ((unhide b9).trans g.1); clear g; have c := unhide HC _ (unhide b10) 10 _ rfl)
      | (go_at_call 23; refine (unhide H11 _ hw10).mono ?_; rintro e w11 ⟨rfl, hw11, g⟩; clear H11 hw10 c; have b11 := hide ((unhide b10).trans g.1); clear g; have c := unhide HC _ (unhide b11) 11 _ rfl)
      | (go_at_call 28; refine (unhide H12 _ (unhide b11) hw11).mono ?_; rintro e w12 ⟨rfl, hw12, g⟩; clear H12 hw11 c; have b12 := hide ((unhide b11).trans g.1); clear g; have c := unhide HC _ (unhide b12) 12 _ rfl)
      | (go_at_call 27; refine (unhide H13 _ hw12).mono ?_; rintro e w13 ⟨rfl, hw13, g⟩; clear H13 hw12 c; have b13 := hide ((unhide b12).trans g.1); clear g; have c := unhide HC _ (unhide b13) 13 _ rfl)
      | (go_at_call 24; refine (unhide H14 _ hw13).mono ?_; rintro e w14 ⟨rfl, hw14, g⟩; clear H14 hw13 c; have b14 := hide ((unhide b13).trans g.1); clear g; have c := unhide HC _ (unhide b14) 14 _ rfl)
      | (go_at_call 24; refine (unhide H15 _ hw14).mono ?_; rintro e w15 ⟨rfl, hw15, g⟩; clear H15 hw14 c; have b15 := hide ((unhide b14).trans g.1); clear g; have c := unhide HC _ (unhide b15) 15 _ rfl)
      | (go_at_call 29; refine (unhide H16 _ hw15).mono ?_; rintro e w16 ⟨rfl, hw16, g⟩; clear H16 hw15 c; have b16 := hide ((unhide b15).trans g.1); clear g; have c16 := unhide HC _ (unhide b16) 16 _ rfl; have c17 := unhide HC _ (unhide b16) 17 _ rfl; have c18 := unhide HC _ (unhide b16) 18 _ rfl; have c19 := unhide HC _ (unhide b16) 19 _ rfl; have c20 := unhide HC _ (unhide b16) 20 _ rfl; have c21 := unhide HC _ (unhide b16) 21 _ rfl)
      | (go_at_call 30; refine (unhide H17 _ (unhide b16) hw16).mono ?_; rintro e w17 ⟨rfl, hw17, g⟩; clear H17 hw16 c16 c17 c18 c19 c20 c21; have b17 := hide ((unhide b16).trans g.1); clear g; have c := unhide HC _ (unhide b17) 22 _ rfl)
      | (go_at_call 23; refine (unhide H18 _ hw17).mono ?_; rintro e w18 ⟨rfl, hw18, g⟩; clear H18 hw17 c; have b18 := hide ((unhide b17).trans g.1); clear g)
      | (go_at_call 31; refine (wdone_any _ (none) _ hw18).mono ?_; rintro e wl ⟨b, pl, rfl, hb, he, hb2⟩))
    go_ret2
    exact ⟨b, pl, rfl, by omega, he, ((unhide HQ).trans ((unhide b18).mono (by omega))).trans (hb2.mono (by omega))⟩
end Go.Proofs.YtahpfhnekmilmaaGreatDoor
