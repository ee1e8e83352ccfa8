/- Contracts of package wire's writer of messages: lists, data, replies, PutMsg. -/
import Derived.Test.YthphadbcebeoaaaGreatDoorMsgMath
import Derived.Test.YthphadbcebeoaaaGreatDoorJRef1IntTextLawNumbersLaidBytesIn
import Derived.Test.YthphadbcebeoaaaGreatDoorEntry
import Derived.Test.YthphadbcebeoaaaGreatDoorJLawReadsLawRows
import Derived.Test.YthphadbcebeoaaaGreatDoorJWaKWaFall
namespace Go.Proofs.YthphadbcebeoaaaGreatDoor
open Go.RowKit Go.Lib

/-- What a writer has behind these bytes; behind what may not be none. -/
def put (o : Option (List UInt8)) (s : Option (List UInt8)) : Option (List UInt8) :=
  match o with
  | some b => s.map (· ++ b)
  | none => none
theorem put_none (o : Option (List UInt8)) : put o none = none := by cases o <;> rfl
theorem put_nil (o : Option (List UInt8)) : put o (some []) = o := by cases o <;> rfl
theorem put_pair {α β : Type} (E : α → Option (List UInt8)) (F : β → Option (List UInt8)) (x : α) (y : β) (s : Option (List UInt8)) : put (ePair E F (x, y)) s = put (F y) (put (E x) s) := by
  unfold ePair
  dsimp only
  cases E x with
  | none => rw [show put none s = none from rfl, put_none]
  | some a =>
    cases F y with
    | none => rfl
    | some b => cases s <;> simp [put]
/-- Of at most N bytes. -/
def LB (s : Option (List UInt8)) (N : Nat) : Prop := ∀ l, s = some l → l.length ≤ N
theorem LB.put {s : Option (List UInt8)} {N K M : Nat} (h : LB s N) (o : Option (List UInt8)) (ho : ∀ b, o = some b → b.length ≤ K) (hM : N + K ≤ M) : LB (put o s) M := by
  intro l e
  cases o with
  | none => cases e
  | some b =>
    cases s with
    | none => cases e
    | some l0 =>
      simp [Go.Proofs.YthphadbcebeoaaaGreatDoor.put] at e
      subst e
      have h1 := h l0 rfl
      have h2 := ho b rfl
      simp; omega
def puts {α : Type} (E : α → Option (List UInt8)) (xs : List α) (s : Option (List UInt8)) : Option (List UInt8) := xs.foldl (fun s x => put (E x) s) s
section
variable {α : Type} (E : α → Option (List UInt8))
theorem puts_none (xs : List α) : puts E xs none = none := by
  induction xs with
  | nil => rfl
  | cons g r ih => simp only [puts, List.foldl_cons, put_none]; exact ih
theorem puts_snoc (xs : List α) (s : Option (List UInt8)) (k : Nat) (x : α) (h : xs[k]? = some x) : puts E (xs.take (k + 1)) s = put (E x) (puts E (xs.take k) s) := by
  rw [List.take_add_one, h, puts, List.foldl_append]; rfl
theorem puts_split (xs : List α) (s : Option (List UInt8)) (k : Nat) : puts E xs s = puts E (xs.drop k) (puts E (xs.take k) s) := by
  rw [puts, puts, puts, ← List.foldl_append, List.take_append_drop]
theorem puts_all : ∀ (xs : List α) (s : Option (List UInt8)), puts E xs s = put (eAll E xs) s
  | [], s => by cases s <;> simp [puts, put, eAll]
  | x :: r, s => by
    have ih := puts_all r (put (E x) s)
    show puts E r (put (E x) s) = _
    rw [ih]
    simp only [eAll]
    cases E x with
    | none => rw [show put none s = none from rfl, put_none]
    | some a =>
      cases eAll E r with
      | none => rfl
      | some b => cases s <;> simp [put]
theorem puts_list (xs : List α) (most : Nat) (s : Option (List UInt8)) : puts E xs (putLen xs.length (most : Int) s) = put (eList E most xs) s := by
  rw [puts_all]
  unfold putLen eList
  by_cases h : xs.length ≤ most
  · rw [if_pos (by omega), if_pos h]
    cases eAll E xs with
    | none => rfl
    | some b => cases s <;> simp [put]
  · rw [if_neg (by omega), if_neg h, put_none]; rfl
theorem puts_len {V : α → Prop} {R : List UInt8 → Except Nat Nat → α × Except Nat Nat} {K : Nat} (C : Codec V R E K) {N : Nat} : ∀ (xs : List α) (s : Option (List UInt8)), (∀ x ∈ xs, V x) → LB s N → LB (puts E xs s) (N + xs.length * K)
  | [], s, _, h => by simpa [puts] using h
  | x :: r, s, hv, h => by
    have h1 : LB (put (E x) s) (N + K) := h.put _ (fun b hb => C.len x b (hv x (by simp)) hb) (Nat.le_refl _)
    have h2 := puts_len C (N := N + K) r (put (E x) s) (fun y hy => hv y (by simp [hy])) h1
    have e : N + (x :: r).length * K = N + K + r.length * K := by rw [List.length_cons, Nat.add_mul]; omega
    rw [e]; exact h2
end

theorem putVal_put (g : GV) (s : Option (List UInt8)) : putVal g s = put (eVal g) s := by unfold putVal eVal; split <;> rfl
theorem putEnt_put (g : GE) (s : Option (List UInt8)) : putEnt g s = put (eEnt g) s := by unfold putEnt eEnt; split <;> rfl
theorem putVals_put (gs : List GV) (s : Option (List UInt8)) : putVals gs s = puts eVal gs s := by
  unfold putVals puts
  congr 1
  funext s g
  exact putVal_put g s
theorem putRow_put (gs : List GV) (s : Option (List UInt8)) : putVals gs (putLen gs.length 64 s) = put (eList eVal 64 gs) s := by rw [putVals_put]; exact puts_list eVal gs 64 s
theorem putText_put (t : ByteArray) (most : Nat) (s : Option (List UInt8)) : putText t (most : Int) s = put (eText most t) s := by
  unfold putText eText eData
  have e : t.data.toList.length = t.size := bytes_length t
  rw [e]
  by_cases h : t.size ≤ most
  · rw [if_pos (by omega), if_pos h]; rfl
  · rw [if_neg (by omega), if_neg h]; rfl

theorem wnum_p (p x : Nat) (s : Option (List UInt8)) (w : World) (hx : x < 18446744073709551616) (hw : WS w p s) (hl : LB s 1000000000) :
    Calls Tryz.prog 110 #[.pointer (some ⟨p, 0, none⟩), .int .u64 x] w fun e w' => e = .returned (.tuple #[]) ∧ WS w' p (put (eUp m64 x) s) ∧ Fr 5 p w w' := by
  have e : put (eUp m64 x) s = s.map (· ++ uvarint x) := by unfold eUp m64; rw [if_pos (by omega)]; rfl
  rw [e]; exact wnumber_any p x s w hx hw hl
theorem wbet_p (p : Nat) (n lo hi : Int) (s : Option (List UInt8)) (w : World) (hlo : -1000 ≤ lo) (hlh : lo ≤ hi) (hhi : hi ≤ 1000000000) (hw : WS w p s) (hl : LB s 1000000000) :
    Calls Tryz.prog 111 #[.pointer (some ⟨p, 0, none⟩), .int .i64 n, .int .i64 lo, .int .i64 hi] w fun e w' => e = .returned (.tuple #[]) ∧ WS w' p (put (eBetween lo hi n) s) ∧ Fr 5 p w w' := by
  have e : put (eBetween lo hi n) s = if lo ≤ n ∧ n ≤ hi then s.map (· ++ uvarint (n - lo).toNat) else none := by unfold eBetween; split <;> rfl
  rw [e]; exact wbetween_any p n lo hi s w hlo hlh hhi hw hl
theorem wtext_p (p : Nat) (t : ByteArray) (most : Nat) (s : Option (List UInt8)) (w : World) (hm : most ≤ 1000000000) (ht : t.size ≤ maxLen) (hw : WS w p s) (hl : LB s 900000000) :
    Calls Tryz.prog 112 #[.pointer (some ⟨p, 0, none⟩), .string t, .int .i64 (most : Int)] w fun e w' => e = .returned (.tuple #[]) ∧ WS w' p (put (eText most t) s) ∧ Fr 5 p w w' := by
  rw [← putText_put]; exact wtext_any p t most s w (by omega) (by omega) ht hw hl
theorem wentry_p (p : Nat) (g : GE) (s : Option (List UInt8)) (w : World) (hg : g.ok) (hw : WS w p s) (hl : LB s 800000000) :
    Calls Tryz.prog 98 #[.pointer (some ⟨p, 0, none⟩), .agg #[.int .u64 g.term, .int .i64 g.kind, .int .u64 g.client, .int .u64 g.seq, .string g.sql]] w fun e w' => e = .returned (.tuple #[]) ∧ WS w' p (put (eEnt g) s) ∧ Fr 5 p w w' := by
  rw [← putEnt_put]; exact wentry_any p g s w hg hw hl
/-- Slices that read as these: entries, texts, rows. -/
def SlE (w : World) (B : Nat) (v : Value) (es : List GE) : Prop :=
  es.length ≤ maxLen ∧ (∀ g ∈ es, g.ok) ∧ ∃ a cap, v = .slice a es.length cap ∧ (es ≠ [] → ∃ b off, a = some ⟨b, off, none⟩ ∧ b < B ∧ ∀ i g, es[i]? = some g → w.cell? ⟨b, off + i * 5, none⟩ = some (.int .u64 g.term) ∧ w.cell? ⟨b, off + i * 5 + 1, none⟩ = some (.int .i64 g.kind) ∧ w.cell? ⟨b, off + i * 5 + 2, none⟩ = some (.int .u64 g.client) ∧ w.cell? ⟨b, off + i * 5 + 3, none⟩ = some (.int .u64 g.seq) ∧ w.cell? ⟨b, off + i * 5 + 4, none⟩ = some (.string g.sql))
def SlS (w : World) (B : Nat) (v : Value) (ts : List ByteArray) : Prop :=
  ts.length ≤ maxLen ∧ (∀ t ∈ ts, t.size ≤ maxLen) ∧ ∃ a cap, v = .slice a ts.length cap ∧ (ts ≠ [] → ∃ b off, a = some ⟨b, off, none⟩ ∧ b < B ∧ ∀ i t, ts[i]? = some t → w.cell? ⟨b, off + i, none⟩ = some (.string t))
def SlR (w : World) (B : Nat) (v : Value) (rs : List (Value × List GV)) : Prop :=
  rs.length ≤ maxLen ∧ (∀ x ∈ rs, RVe w B x.1 x.2) ∧ ∃ a cap, v = .slice a rs.length cap ∧ (rs ≠ [] → ∃ b off, a = some ⟨b, off, none⟩ ∧ b < B ∧ ∀ i x, rs[i]? = some x → w.cell? ⟨b, off + i, none⟩ = some x.1)
theorem SlE.later {w w' : World} {B B' : Nat} {v : Value} {es : List GE} (h : SlE w B v es) (hb : Below B w w') (hB : B ≤ B') : SlE w' B' v es := by
  obtain ⟨h1, h2, a, cap, h3, h4⟩ := h
  refine ⟨h1, h2, a, cap, h3, fun hne => ?_⟩
  obtain ⟨b, off, h5, h6, h7⟩ := h4 hne
  refine ⟨b, off, h5, by omega, fun i g hg => ?_⟩
  rw [hb.cell (p := ⟨b, off + i * 5, none⟩) h6, hb.cell (p := ⟨b, off + i * 5 + 1, none⟩) h6, hb.cell (p := ⟨b, off + i * 5 + 2, none⟩) h6, hb.cell (p := ⟨b, off + i * 5 + 3, none⟩) h6, hb.cell (p := ⟨b, off + i * 5 + 4, none⟩) h6]
  exact h7 i g hg
theorem SlS.later {w w' : World} {B B' : Nat} {v : Value} {es : List ByteArray} (h : SlS w B v es) (hb : Below B w w') (hB : B ≤ B') : SlS w' B' v es := by
  obtain ⟨h1, h2, a, cap, h3, h4⟩ := h
  refine ⟨h1, h2, a, cap, h3, fun hne => ?_⟩
  obtain ⟨b, off, h5, h6, h7⟩ := h4 hne
  exact ⟨b, off, h5, by omega, fun i g hg => (hb.cell (p := ⟨b, off + i, none⟩) h6).trans (h7 i g hg)⟩
theorem SlR.later {w w' : World} {B B' : Nat} {v : Value} {es : List (Value × List GV)} (h : SlR w B v es) (hb : Below B w w') (hB : B ≤ B') : SlR w' B' v es := by
  obtain ⟨h1, h2, a, cap, h3, h4⟩ := h
  refine ⟨h1, fun x hx => (h2 x hx).later hb hB, a, cap, h3, fun hne => ?_⟩
  obtain ⟨b, off, h5, h6, h7⟩ := h4 hne
  exact ⟨b, off, h5, by omega, fun i g hg => (hb.cell (p := ⟨b, off + i, none⟩) h6).trans (h7 i g hg)⟩


end Go.Proofs.YthphadbcebeoaaaGreatDoor
/- Contracts of package wire's writer of messages: lists as they come, data, replies, PutMsg. -/
namespace Go.Proofs.YthphadbcebeoaaaGreatDoor
open Go.RowKit Go.Lib

theorem below_box {w W : World} {cs : Array Value} {T : TypeId} {B i : Nat} {v : Value} (hb : Below B (w.alloc (.cells cs T)) W) (hB : w.heap.size < B) (hc : cs[i]? = some v) : W.cell? ⟨w.heap.size, i, none⟩ = some v := by
  rw [hb.cell (p := ⟨w.heap.size, i, none⟩) hB]
  simpa using hc
theorem below_box2 {w W : World} {cs : Array Value} {T : TypeId} {B i : Nat} {o : Obj} {v : Value} (hb : Below B ((w.alloc (.cells cs T)).alloc o) W) (hB : w.heap.size < B) (hc : cs[i]? = some v) : W.cell? ⟨w.heap.size, i, none⟩ = some v := by
  rw [hb.cell (p := ⟨w.heap.size, i, none⟩) hB, World.cell?_alloc_lt _ _ _ (by simp)]
  simpa using hc
theorem fr_box {w W : World} {cs : Array Value} {T E : TypeId} {p i : Nat} {v : Value} (hf : Fr E p (w.alloc (.cells cs T)) W) (hp : p < w.heap.size) (hT : T ≠ E) (hc : cs[i]? = some v) : W.cell? ⟨w.heap.size, i, none⟩ = some v := by
  have h := (hf.cell (k := w.heap.size) (o := i) (cur := cs) (T' := T) (fz := (0, 0)) (heap_alloc_new _ _) hT (by omega)).1
  rw [h]; simpa using hc

theorem LB.mono {s : Option (List UInt8)} {N M : Nat} (h : LB s N) (hM : N ≤ M) : LB s M := fun l e => Nat.le_trans (h l e) hM
theorem lb_num {x : Nat} (hx : x < 18446744073709551616) {s : Option (List UInt8)} {N : Nat} (h : LB s N) : LB (put (eUp m64 x) s) (N + 10) := h.put _ (fun b hb => codec_num.len x b hx hb) (Nat.le_refl _)
theorem lb_bet (lo hi n : Int) (hlh : lo ≤ hi) (h64 : hi - lo < 18446744073709551616) {s : Option (List UInt8)} {N : Nat} (h : LB s N) : LB (put (eBetween lo hi n) s) (N + 10) := h.put _ (fun b hb => (codec_between lo hi hlh h64).len n b trivial hb) (Nat.le_refl _)
theorem lb_bool (t : Bool) {s : Option (List UInt8)} {N : Nat} (h : LB s N) : LB (put (eBool t) s) (N + 10) := h.put _ (fun b hb => codec_bool.len t b trivial hb) (Nat.le_refl _)

/-- A reply's six cells, with what its slices read as. -/
structure RepAt (w : World) (B : Nat) (vC vR : Value) (cs : List ByteArray) (rs : List (Value × List GV)) : Prop where
  cols : SlS w B vC cs
  rows : SlR w B vR rs
  few : ∀ x ∈ rs, x.2.length ≤ 1000
theorem RepAt.later {w w' : World} {B B' : Nat} {vC vR : Value} {cs : List ByteArray} {rs : List (Value × List GV)} (h : RepAt w B vC vR cs rs) (hb : Below B w w') (hB : B ≤ B') : RepAt w' B' vC vR cs rs :=
  ⟨h.cols.later hb hB, h.rows.later hb hB, h.few⟩

/-- What a message's slices read as. -/
structure MsgAt (w : World) (B : Nat) (vE vD vC vR : Value) (es : List GE) (lb : List UInt8) (cs : List ByteArray) (rs : List (Value × List GV)) : Prop where
  ents : SlE w B vE es
  data : RBp w B vD lb
  rep : RepAt w B vC vR cs rs
theorem MsgAt.later {w w' : World} {B B' : Nat} {vE vD vC vR : Value} {es : List GE} {lb : List UInt8} {cs : List ByteArray} {rs : List (Value × List GV)} (h : MsgAt w B vE vD vC vR es lb cs rs) (hb : Below B w w') (hB : B ≤ B') : MsgAt w' B' vE vD vC vR es lb cs rs :=
  ⟨h.ents.later hb hB, rb_later h.data hb hB, h.rep.later hb hB⟩
theorem box2_cell {w W : World} {cs : Array Value} {T : TypeId} {o : Obj} (hb : Below (w.heap.size + 1) ((w.alloc (.cells cs T)).alloc o) W) (i : Nat) (v : Value) (hc : cs[i]? = some v) : W.cell? ⟨w.heap.size, i, none⟩ = some v := below_box2 hb (Nat.lt_succ_self _) hc
end Go.Proofs.YthphadbcebeoaaaGreatDoor
/- Contracts of the helps that the statement on messages calls: Texts, SameEntries, Short, Values, Answers. -/
namespace Go.Proofs.YthphadbcebeoaaaGreatDoor
open Go.RowKit Go.Lib

set_option maxHeartbeats 1600000 in
set_option maxRecDepth 100000 in
theorem ents_same (v v' : Value) (B B' : Nat) (ts : List GE) (w : World) (h : SlE w B v ts) (h' : SlE w B' v' ts) :
    Calls Tryz.prog 15 #[v, v'] w fun e w' => e = .returned (.bool true) ∧ ∃ m, w' = w.drewN m := by
  obtain ⟨h1, _, a, cap, rfl, hc⟩ := h
  obtain ⟨_, _, a', cap', rfl, hc'⟩ := h'
  by_cases hne : ts = []
  · subst hne
    clear hc hc' h1
    go_enter Tryz.func15, Tryz.ntmps15
    go_wp2
    refine wp_loop_rounds 1 ?_
    rw [rounds_succ]
    go_wp2
    go_ret
    exact ⟨rfl, 0, rfl⟩
  · obtain ⟨b, off, rfl, _, hc⟩ := hc hne
    obtain ⟨b', off', rfl, _, hc'⟩ := hc' hne
    have HC := hide hc
    have HC' := hide hc'
    have hl' : (ts.length : Int) ≤ 9223372036854775807 := by unfold maxLen at h1; omega
    clear hc hc' hne h1
    go_enter Tryz.func15, Tryz.ntmps15
    go_wp2
    go_loopw [5] (fun i wr => ∃ k m : Nat, k ≤ ts.length ∧ i = .int .i64 k ∧ wr = w.drewN m) (fun i _ => ts.length - (intOf i).toNat)
    case atStart => exact ⟨0, 0, by omega, rfl, rfl⟩
    case round =>
      obtain ⟨k, m, hk, rfl, rfl⟩ := hrel
      by_cases hlt : k < ts.length
      · obtain ⟨g, hgk⟩ : ∃ g, ts[k]? = some g := ⟨ts[k], List.getElem?_eq_getElem hlt⟩
        obtain ⟨c0, c1, c2, c3, c4⟩ := unhide HC k g hgk
        obtain ⟨d0, d1, d2, d3, d4⟩ := unhide HC' k g hgk
        have hki : (k : Int) < (ts.length : Int) := by omega
        have hk0 : (0 : Int) ≤ (k : Int) := by omega
        clear HC HC' hgk
        go_wp2
        go_quiet (fail)
        go_wp2
        go_roundw
        case rel => exact ⟨k + 1, m + nq, by omega, by go_num, rfl⟩
        case measure => simp [intOf]; omega
      · clear HC HC'
        go_wp2
        go_ret
        exact ⟨rfl, m, rfl⟩

/-- Few texts, each short. -/
def shortB (ts : List ByteArray) (many most : Nat) : Bool := decide (ts.length ≤ many) && ts.all fun t => decide (t.size ≤ most)
theorem sl_len {w : World} {B : Nat} {v : Value} {rs : List (Value × List GV)} (h : SlR w B v rs) : ∃ a k, v = .slice a rs.length k := by
  obtain ⟨_, _, a, cap, h, _⟩ := h
  exact ⟨a, cap, h⟩
theorem RVe.rwe {w : World} {B : Nat} {v : Value} {gs : List GV} (h : RVe w B v gs) (hB : B ≤ w.heap.size) : RWe w v gs := (h.later (Below.refl _ _) hB).rw'
theorem RWe.drewN {w : World} {v : Value} {gs : List GV} (h : RWe w v gs) (m : Nat) : RWe (w.drewN m) v gs := h

end Go.Proofs.YthphadbcebeoaaaGreatDoor
/- A wal within a statement: beside a row of the statement's own. -/
namespace Go.Proofs.YthphadbcebeoaaaGreatDoor
open Go.RowKit Go.Lib Go.Maps

/-- A wal, and the statement's rows, apart from it. -/
def KB (w0 w : World) (B p q : Nat) (R : Int) (a : Fx) (rs : List Rc) (ns : Nat) (pr : Bool) (s : Sta) (n : Nat) (L : List (Value × List GE)) : Prop :=
  ∃ O, WK w B p q R a rs ns pr s n O ∧ Below B w0 w ∧ ∀ x ∈ L, EL w x.1 x.2 ∧ ∀ g, inB x.1 g → ¬ O g
/-- The disk behind a fall, and the row. -/
def KC (w0 w : World) (B q : Nat) (R : Int) (a : Fx) (rs : List Rc) (ns : Nat) (pr : Bool) (s : Sta) (n : Nat) (L : List (Value × List GE)) : Prop :=
  ∃ D, CX w B q R a rs ns pr s n D ∧ Below B w0 w ∧ ∀ x ∈ L, EL w x.1 x.2 ∧ ∀ g, inB x.1 g → ¬ D g
section
variable {w0 w w' : World} {B p q n ns : Nat} {R : Int} {a : Fx} {rs : List Rc} {pr : Bool} {s s2 : Sta} {L : List (Value × List GE)}
theorem WK.bz {O : Nat → Prop} (h : WK w B p q R a rs ns pr s n O) : B ≤ w.heap.size := by obtain ⟨v, D, S, h1, h2, h3, h4, h5, h6, h7, h8, h9, _⟩ := h; exact h9
theorem WK.ev {O : Nat → Prop} (h : WK w B p q R a rs ns pr s n O) : EV w B := by obtain ⟨v, D, S, h1, h2, h3, h4, h5, h6, h7, h8, h9, h10, _⟩ := h; exact h10
theorem WK.info {O : Nat → Prop} (h : WK w B p q R a rs ns pr s n O) : runS sta0 rs = .ok s ∧ (∀ r ∈ rs, r.ok) ∧ ns ≤ rs.length ∧ s.ok := by obtain ⟨v, D, S, h1, h2, h3, h4, h5, h6, h7, h8, h9, h10, _⟩ := h; exact ⟨h3, h4, h5, h6⟩
theorem KB.below (h : KB w0 w B p q R a rs ns pr s n L) (hb : Below w.heap.size w w') : KB w0 w' B p q R a rs ns pr s n L := by
  obtain ⟨O, h1, h2, h3⟩ := h
  exact ⟨O, h1.below hb, h2.trans (hb.mono h1.bz), fun x hx => ⟨(h3 x hx).1.below hb, (h3 x hx).2⟩⟩
theorem KB.less {m : Nat} (h : KB w0 w B p q R a rs ns pr s n L) (hm : m ≤ n) : KB w0 w B p q R a rs ns pr s m L := by
  obtain ⟨O, h1, h2, h3⟩ := h
  exact ⟨O, h1.less hm, h2, h3⟩
theorem KB.info (h : KB w0 w B p q R a rs ns pr s n L) : runS sta0 rs = .ok s ∧ (∀ r ∈ rs, r.ok) ∧ ns ≤ rs.length ∧ s.ok := by
  obtain ⟨O, h1, _⟩ := h
  exact h1.info
theorem KB.ev (h : KB w0 w B p q R a rs ns pr s n L) : EV w B ∧ B ≤ w.heap.size ∧ Below B w0 w := by
  obtain ⟨O, h1, h2, _⟩ := h
  exact ⟨h1.ev, h1.bz, h2⟩
/-- Other rows in their place. -/
theorem KB.rows {L' : List (Value × List GE)} (h : KB w0 w B p q R a rs ns pr s n L) (hb : Below w.heap.size w w') (hL : ∀ x ∈ L', x ∈ L ∨ (EL w' x.1 x.2 ∧ ∀ g, inB x.1 g → w.heap.size ≤ g ∨ ∃ y ∈ L, inB y.1 g)) : KB w0 w' B p q R a rs ns pr s n L' := by
  obtain ⟨O, h1, h2, h3⟩ := h
  refine ⟨O, h1.below hb, h2.trans (hb.mono h1.bz), fun x hx => ?_⟩
  rcases hL x hx with h' | ⟨h', h''⟩
  · exact ⟨(h3 x h').1.below hb, (h3 x h').2⟩
  · refine ⟨h', fun g hg hO => ?_⟩
    rcases h'' g hg with k | ⟨y, hy, k⟩
    · have := h1.lt g hO; omega
    · exact (h3 y hy).2 g k hO
/-- Rows stay. -/
theorem rows_keep {O O' : Nat → Prop} (h3 : ∀ x ∈ L, EL w x.1 x.2 ∧ ∀ g, inB x.1 g → ¬ O g) (hf : Dk.FrO O w w') (ho : ∀ k, O' k → O k ∨ w.heap.size ≤ k) : ∀ x ∈ L, EL w' x.1 x.2 ∧ ∀ g, inB x.1 g → ¬ O' g := fun x hx => by
  obtain ⟨q1, q2⟩ := h3 x hx
  refine ⟨q1.keep (fun g hg => hf.blk g (q1.lt hg) (q2 g hg)), fun g hg hO => ?_⟩
  rcases ho g hO with h' | h'
  · exact q2 g hg h'
  · have := q1.lt hg; omega
theorem kb_step {qs : List Rc} {m ns' : Nat} {e : Ending} {O : Nat → Prop} (h1 : WK w B p q R a rs ns pr s n O) (h2 : Below B w0 w) (h3 : ∀ x ∈ L, EL w x.1 x.2 ∧ ∀ g, inB x.1 g → ¬ O g) (hd : KDone w B p q R a qs ns' true s2 m O e w') : e = .returned .nilIface ∧ KB w0 w' B p q R a qs ns' true s2 m L := by
  obtain ⟨O', rfl, q1, q2, q3⟩ := hd
  exact ⟨rfl, O', q1, h2.trans (fro_below q2 h1.bo h1.bz), rows_keep h3 q2 q3⟩
theorem kb_cut {f : Nat} (h : KB w0 w B p q R a rs ns pr s (n + 1) L) (hfl : f < 18446744073709551616) (hrun : takeS s (rcC f) = .ok s2) (hm : Roomy R a (some (recsB rs, 0)) 100) (hz : (recsB rs).length + 100 ≤ 32768) (hn : s.es.length ≤ 800000) :
    Calls Tryz.prog 10 #[.pointer (some ⟨p, 0, none⟩), .int .u64 (f : Int)] w fun e w' => e = .returned .nilIface ∧ KB w0 w' B p q R a (rs ++ [rcC f]) ns true s2 n L := by
  obtain ⟨O, h1, h2, h3⟩ := h
  exact (wk_cut h1 hfl hrun hm hz hn).mono fun e w' hd => kb_step h1 h2 h3 hd
theorem kb_app {vl : Value} {es : List GE} (h : KB w0 w B p q R a rs ns pr s (n + 1) L) (hl : RE w vl es) (hes : ∀ g ∈ es, g.ok ∧ g.may = true) (hm : Roomy R a (some (recsB rs, 0)) (recsB (es.map rcE)).length) (hz : (recsB rs).length + (recsB (es.map rcE)).length ≤ 32768) (hn : s.es.length + es.length ≤ 800000) :
    Calls Tryz.prog 11 #[.pointer (some ⟨p, 0, none⟩), vl] w fun e w' => e = .returned .nilIface ∧ KB w0 w' B p q R a (rs ++ es.map rcE) ns true ⟨s.term, s.vote, s.base, s.bt, s.es ++ es⟩ n L := by
  obtain ⟨O, h1, h2, h3⟩ := h
  exact (wk_app h1 hl hes hm hz hn).mono fun e w' hd => kb_step h1 h2 h3 hd
theorem kb_sync (h : KB w0 w B p q R a rs ns true s (n + 1) L) :
    Calls Tryz.prog 12 #[.pointer (some ⟨p, 0, none⟩)] w fun e w' => e = .returned .nilIface ∧ KB w0 w' B p q R a rs rs.length true s n L := by
  obtain ⟨O, h1, h2, h3⟩ := h
  exact (wk_sync h1).mono fun e w' hd => kb_step h1 h2 h3 hd
theorem kb_crash {kv : Value} {ks : List Int} (h : KB w0 w B p q R a rs ns pr s n L) (ha : ∀ y, a = some y → y.2 = y.1.length) (hk : Dk.KeepAt w (fun k => B ≤ k) kv ks) (hkl : ks.length ≤ 1000000) :
    Calls Tryz.prog 13 #[.pointer (some ⟨q, 0, none⟩), .agg #[kv]] w fun e w' => e = .returned (.tuple #[]) ∧ KC w0 w' B q R a rs ns pr s n L := by
  obtain ⟨O, h1, h2, h3⟩ := h
  refine (wk_crash h1 ha (keep_less hk h1.bo) hkl).mono ?_
  rintro e w' ⟨rfl, D, q1, q2, q3⟩
  exact ⟨rfl, D, q1, h2.trans (fro_below q2 h1.bo h1.bz), rows_keep h3 q2 (fun k hk => .inl (q3 k hk))⟩
theorem kc_open (h : KC w0 w B q R a rs ns pr s (n + 2) L) (hlen : (recsB rs).length ≤ 1000000) (hfew : rs.length ≤ 900000) :
    Calls Tryz.prog 9 #[.pointer (some ⟨q, 0, none⟩)] w fun e w' => ∃ p k sk, e = .returned (.tuple #[.pointer (some ⟨p, 0, none⟩), .nilIface]) ∧ ns ≤ k ∧ k ≤ rs.length ∧ runS sta0 (rs.take k) = .ok sk ∧ KB w0 w' B p q R a (rs.take k) (rs.take k).length pr sk n L := by
  obtain ⟨D, h1, h2, h3⟩ := h
  have hbd : ∀ k, D k → B ≤ k := by obtain ⟨S, x', _, _, _, _, _, _, _, _, _, _, hbd⟩ := h1; exact hbd
  have hbz : B ≤ w.heap.size := by obtain ⟨S, x', _, _, _, _, _, _, _, _, hB, _, _⟩ := h1; exact hB
  refine (wk_reopen h1 hlen hfew).mono ?_
  rintro e w' ⟨k, sk, hk1, hk2, hsk, p, O', rfl, q1, q2, q3⟩
  exact ⟨p, k, sk, rfl, hk1, hk2, hsk, O', q1, h2.trans (fro_below q2 hbd hbz), rows_keep h3 q2 q3⟩
/-- A new disk, a new wal on it. -/
theorem kb_new {room : Int} (hr : 0 ≤ room) (hE : ET w) (hT : ST w) :
    Calls Tryz.prog 8 #[.int .i64 room] w fun e w1 => e = .returned (.pointer (some ⟨w.heap.size, 0, none⟩)) ∧ Below w.heap.size w w1 ∧ Hid (Calls Tryz.prog 9 #[.pointer (some ⟨w.heap.size, 0, none⟩)] w1 fun e w2 => ∃ p, e = .returned (.tuple #[.pointer (some ⟨p, 0, none⟩), .nilIface]) ∧ Hid (KB w w2 w.heap.size p w.heap.size room none [] 0 false sta0 9000 [])) := by
  refine (Dk.dx_new w room hr).mono ?_
  rintro e w1 ⟨rfl, hd, hb⟩
  refine ⟨rfl, hb, ?_⟩
  have hE1 : EV w w.heap.size := ⟨hE, hT, hE.lt, hT.lt⟩
  refine (wk_new (B := w.heap.size) (R := room) (n := 9000) hd hb.size (fun k hk => Nat.le_of_eq hk.symm) (hE1.below hb) ⟨rfl, by show (0 : Int) ≤ 0; omega, by show (0 : Int) + ((9000 + 2 : Nat) : Int) ≤ 100000; omega, fun hh => by cases hh⟩ ⟨rfl, rfl⟩).mono ?_
  rintro e w2 ⟨p, O', rfl, q1, q2, q3⟩
  exact ⟨p, rfl, O', q1, hb.trans (fro_below q2 (fun k hk => Nat.le_of_eq hk.symm) hb.size), fun x hx => by cases hx⟩
theorem kb_entries (h : KB w0 w B p q R a rs ns pr s n L) : Calls Tryz.prog 14 #[.pointer (some ⟨p, 0, none⟩)] w fun e w' => ∃ v', e = .returned v' ∧ EL w' v' s.es ∧ (∀ g, inB v' g → w.heap.size ≤ g) ∧ Below w.heap.size w w' := by
  obtain ⟨O, h1, _⟩ := h
  exact wk_entries h1
end
/-- Reading for the statements' own comparison. -/
theorem EL.sle {w : World} {v : Value} {es : List GE} (h : EL w v es) (hes : ∀ g ∈ es, g.ok) : SlE w w.heap.size v es := by
  obtain ⟨a, k, rfl, h1, h2⟩ := h.slice
  refine ⟨by omega, hes, a, k, rfl, fun hne => ?_⟩
  obtain ⟨g0, hg0⟩ : ∃ g0, es[0]? = some g0 := ⟨es[0]'(List.length_pos_iff.2 hne), List.getElem?_eq_getElem _⟩
  obtain ⟨b, off, k', e, hb, _, _⟩ := h.cells hg0
  cases e
  refine ⟨b, off, rfl, hb, fun i g hg => ?_⟩
  obtain ⟨b', off', k'', e', _, _, hc⟩ := h.cells hg
  cases e'
  exact ⟨hc 0 _ rfl, hc 1 _ rfl, hc 2 _ rfl, hc 3 _ rfl, hc 4 _ rfl⟩
set_option maxHeartbeats 1600000 in
theorem num_any (t : Nat) (w : World) : Calls Tryz.prog 28 #[.int .u64 (t : Int)] w fun e w' => e = .returned (.agg #[.int .u64 (t : Int), .int .i64 0, .int .u64 0, .int .u64 0, .string ⟨#[]⟩]) ∧ Below w.heap.size w w' := by
  go_enter Tryz.func28, Tryz.ntmps28
  go_wp2
  refine bodyPost_ret (v := .agg #[.int .u64 (t : Int), .int .i64 0, .int .u64 0, .int .u64 0, .string ⟨#[]⟩]) ?_ rfl ?_
  · rw [results_cell1 rfl]
    go_simp
    try rfl
  exact ⟨rfl, (Below.refl _ _).alloc (Nat.le_refl _) _⟩
end Go.Proofs.YthphadbcebeoaaaGreatDoor
