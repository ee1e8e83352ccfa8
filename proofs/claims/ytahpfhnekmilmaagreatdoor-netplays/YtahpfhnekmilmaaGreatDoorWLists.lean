/- Contracts of package wire's writer of messages: lists, data, replies, PutMsg. -/
import Derived.Test.YtahpfhnekmilmaaGreatDoorMsgMath
import Derived.Test.YtahpfhnekmilmaaGreatDoorJLawNumbersCrcMathFrameLaidBytesIn
import Derived.Test.YtahpfhnekmilmaaGreatDoorEntry
import Derived.Test.YtahpfhnekmilmaaGreatDoorLawRows
namespace Go.Proofs.YtahpfhnekmilmaaGreatDoor
open Go.RowKit Go.Lib

/-- What a writer has behind these bytes; behind what may not be none. -/
def put (o : Option (List UInt8)) (s : Option (List UInt8)) : Option (List UInt8) :=
  match o with
  | some b => s.map (· ++ b)
  | none => none
theorem put_none (o : Option (List UInt8)) : put o none = none := by cases o <;> rfl
theorem put_nil (o : Option (List UInt8)) : put o (some []) = o := by cases o <;> rfl
theorem put_pair {α β : Type} (E : α → Option (List UInt8)) (F : β → Option (List UInt8)) (x : α) (y : β) (s : Option (List UInt8)) : put (ePair E F (x, y)) s = put (F y) (put (E x) s) := by
  unfold ePair
  dsimp only
  cases E x with
  | none => rw [show put none s = none from rfl, put_none]
  | some a =>
    cases F y with
    | none => rfl
    | some b => cases s <;> simp [put]
/-- Of at most N bytes. -/
def LB (s : Option (List UInt8)) (N : Nat) : Prop := ∀ l, s = some l → l.length ≤ N
theorem LB.put {s : Option (List UInt8)} {N K M : Nat} (h : LB s N) (o : Option (List UInt8)) (ho : ∀ b, o = some b → b.length ≤ K) (hM : N + K ≤ M) : LB (put o s) M := by
  intro l e
  cases o with
  | none => cases e
  | some b =>
    cases s with
    | none => cases e
    | some l0 =>
      simp [Go.Proofs.YtahpfhnekmilmaaGreatDoor.put] at e
      subst e
      have h1 := h l0 rfl
      have h2 := ho b rfl
      simp; omega
def puts {α : Type} (E : α → Option (List UInt8)) (xs : List α) (s : Option (List UInt8)) : Option (List UInt8) := xs.foldl (fun s x => put (E x) s) s
section
variable {α : Type} (E : α → Option (List UInt8))
theorem puts_none (xs : List α) : puts E xs none = none := by
  induction xs with
  | nil => rfl
  | cons g r ih => simp only [puts, List.foldl_cons, put_none]; exact ih
theorem puts_snoc (xs : List α) (s : Option (List UInt8)) (k : Nat) (x : α) (h : xs[k]? = some x) : puts E (xs.take (k + 1)) s = put (E x) (puts E (xs.take k) s) := by
  rw [List.take_add_one, h, puts, List.foldl_append]; rfl
theorem puts_split (xs : List α) (s : Option (List UInt8)) (k : Nat) : puts E xs s = puts E (xs.drop k) (puts E (xs.take k) s) := by
  rw [puts, puts, puts, ← List.foldl_append, List.take_append_drop]
theorem puts_all : ∀ (xs : List α) (s : Option (List UInt8)), puts E xs s = put (eAll E xs) s
  | [], s => by cases s <;> simp [puts, put, eAll]
  | x :: r, s => by
    have ih := puts_all r (put (E x) s)
    show puts E r (put (E x) s) = _
    rw [ih]
    simp only [eAll]
    cases E x with
    | none => rw [show put none s = none from rfl, put_none]
    | some a =>
      cases eAll E r with
      | none => rfl
      | some b => cases s <;> simp [put]
theorem puts_list (xs : List α) (most : Nat) (s : Option (List UInt8)) : puts E xs (putLen xs.length (most : Int) s) = put (eList E most xs) s := by
  rw [puts_all]
  unfold putLen eList
  by_cases h : xs.length ≤ most
  · rw [if_pos (by omega), if_pos h]
    cases eAll E xs with
    | none => rfl
    | some b => cases s <;> simp [put]
  · rw [if_neg (by omega), if_neg h, put_none]; rfl
theorem puts_len {V : α → Prop} {R : List UInt8 → Except Nat Nat → α × Except Nat Nat} {K : Nat} (C : Codec V R E K) {N : Nat} : ∀ (xs : List α) (s : Option (List UInt8)), (∀ x ∈ xs, V x) → LB s N → LB (puts E xs s) (N + xs.length * K)
  | [], s, _, h => by simpa [puts] using h
  | x :: r, s, hv, h => by
    have h1 : LB (put (E x) s) (N + K) := h.put _ (fun b hb => C.len x b (hv x (by simp)) hb) (Nat.le_refl _)
    have h2 := puts_len C (N := N + K) r (put (E x) s) (fun y hy => hv y (by simp [hy])) h1
    have e : N + (x :: r).length * K = N + K + r.length * K := by rw [List.length_cons, Nat.add_mul]; omega
    rw [e]; exact h2
end

theorem putVal_put (g : GV) (s : Option (List UInt8)) : putVal g s = put (eVal g) s := by unfold putVal eVal; split <;> rfl
theorem putEnt_put (g : GE) (s : Option (List UInt8)) : putEnt g s = put (eEnt g) s := by unfold putEnt eEnt; split <;> rfl
theorem putVals_put (gs : List GV) (s : Option (List UInt8)) : putVals gs s = puts eVal gs s := by
  unfold putVals puts
  congr 1
  funext s g
  exact putVal_put g s
theorem putRow_put (gs : List GV) (s : Option (List UInt8)) : putVals gs (putLen gs.length 64 s) = put (eList eVal 64 gs) s := by rw [putVals_put]; exact puts_list eVal gs 64 s
theorem putText_put (t : ByteArray) (most : Nat) (s : Option (List UInt8)) : putText t (most : Int) s = put (eText most t) s := by
  unfold putText eText eData
  have e : t.data.toList.length = t.size := bytes_length t
  rw [e]
  by_cases h : t.size ≤ most
  · rw [if_pos (by omega), if_pos h]; rfl
  · rw [if_neg (by omega), if_neg h]; rfl

theorem wnum_p (p x : Nat) (s : Option (List UInt8)) (w : World) (hx : x < 18446744073709551616) (hw : WS w p s) (hl : LB s 1000000000) :
    Calls Tryz.prog 24 #[.pointer (some ⟨p, 0, none⟩), .int .u64 x] w fun e w' => e = .returned (.tuple #[]) ∧ WS w' p (put (eUp m64 x) s) ∧ Fr 5 p w w' := by
  have e : put (eUp m64 x) s = s.map (· ++ uvarint x) := by unfold eUp m64; rw [if_pos (by omega)]; rfl
  rw [e]; exact wnumber_any p x s w hx hw hl
theorem wbet_p (p : Nat) (n lo hi : Int) (s : Option (List UInt8)) (w : World) (hlo : -1000 ≤ lo) (hlh : lo ≤ hi) (hhi : hi ≤ 1000000000) (hw : WS w p s) (hl : LB s 1000000000) :
    Calls Tryz.prog 23 #[.pointer (some ⟨p, 0, none⟩), .int .i64 n, .int .i64 lo, .int .i64 hi] w fun e w' => e = .returned (.tuple #[]) ∧ WS w' p (put (eBetween lo hi n) s) ∧ Fr 5 p w w' := by
  have e : put (eBetween lo hi n) s = if lo ≤ n ∧ n ≤ hi then s.map (· ++ uvarint (n - lo).toNat) else none := by unfold eBetween; split <;> rfl
  rw [e]; exact wbetween_any p n lo hi s w hlo hlh hhi hw hl
theorem wtruth_p (p : Nat) (t : Bool) (s : Option (List UInt8)) (w : World) (hw : WS w p s) (hl : LB s 1000000000) :
    Calls Tryz.prog 27 #[.pointer (some ⟨p, 0, none⟩), .bool t] w fun e w' => e = .returned (.tuple #[]) ∧ WS w' p (put (eBool t) s) ∧ Fr 5 p w w' := by
  have e : put (eBool t) s = s.map (· ++ uvarint (if t then 1 else 0)) := by cases t <;> rfl
  rw [e]; exact wtruth_any p t s w hw hl
theorem wtext_p (p : Nat) (t : ByteArray) (most : Nat) (s : Option (List UInt8)) (w : World) (hm : most ≤ 1000000000) (ht : t.size ≤ maxLen) (hw : WS w p s) (hl : LB s 900000000) :
    Calls Tryz.prog 29 #[.pointer (some ⟨p, 0, none⟩), .string t, .int .i64 (most : Int)] w fun e w' => e = .returned (.tuple #[]) ∧ WS w' p (put (eText most t) s) ∧ Fr 5 p w w' := by
  rw [← putText_put]; exact wtext_any p t most s w (by omega) (by omega) ht hw hl
theorem wentry_p (p : Nat) (g : GE) (s : Option (List UInt8)) (w : World) (hg : g.ok) (hw : WS w p s) (hl : LB s 800000000) :
    Calls Tryz.prog 26 #[.pointer (some ⟨p, 0, none⟩), .agg #[.int .u64 g.term, .int .i64 g.kind, .int .u64 g.client, .int .u64 g.seq, .string g.sql]] w fun e w' => e = .returned (.tuple #[]) ∧ WS w' p (put (eEnt g) s) ∧ Fr 5 p w w' := by
  rw [← putEnt_put]; exact wentry_any p g s w hg hw hl
set_option maxHeartbeats 1600000 in
theorem wcol_p (p : Nat) (t : ByteArray) (s : Option (List UInt8)) (w : World) (ht : t.size ≤ maxLen) (hw : WS w p s) (hl : LB s 800000000) :
    Calls Tryz.prog 48 #[.pointer (some ⟨p, 0, none⟩), .string t] w fun e w' => e = .returned (.tuple #[]) ∧ WS w' p (put (eText 2000 t) s) ∧ Fr 5 p w w' := by
  have HT := hide (wtext_p p t 2000 s w (by decide) ht hw (fun l e => by have := hl l e; omega))
  clear hw hl
  go_enter Tryz.func48, Tryz.ntmps48
  go_wp2_with (first | (go_at_call 29; refine (unhide HT).mono ?_; rintro e w1 ⟨rfl, hw1, hf1⟩))
  first | go_end0 | refine bodyPost_ret (results_none rfl _ _ _) rfl ?_
  exact ⟨rfl, hw1, hf1⟩
theorem wrow_p (p : Nat) (v : Value) (gs : List GV) (s : Option (List UInt8)) (w : World) (hv : RVe w p v gs) (hg : gs.length ≤ 1000) (hw : WS w p s) (hl : LB s 700000000) :
    Calls Tryz.prog 50 #[.pointer (some ⟨p, 0, none⟩), v] w fun e w' => e = .returned (.tuple #[]) ∧ WS w' p (put (eList eVal 64 gs) s) ∧ Fr 5 p w w' := by
  rw [← putRow_put]
  rcases hv with h | ⟨rfl, a, cap, rfl⟩
  · exact wrow_any p v gs s w (h.rv hg) hw hl
  · exact wrow_empty p a cap s w hw hl

/-- Slices that read as these: entries, texts, rows. -/
def SlE (w : World) (B : Nat) (v : Value) (es : List GE) : Prop :=
  es.length ≤ maxLen ∧ (∀ g ∈ es, g.ok) ∧ ∃ a cap, v = .slice a es.length cap ∧ (es ≠ [] → ∃ b off, a = some ⟨b, off, none⟩ ∧ b < B ∧ ∀ i g, es[i]? = some g → w.cell? ⟨b, off + i * 5, none⟩ = some (.int .u64 g.term) ∧ w.cell? ⟨b, off + i * 5 + 1, none⟩ = some (.int .i64 g.kind) ∧ w.cell? ⟨b, off + i * 5 + 2, none⟩ = some (.int .u64 g.client) ∧ w.cell? ⟨b, off + i * 5 + 3, none⟩ = some (.int .u64 g.seq) ∧ w.cell? ⟨b, off + i * 5 + 4, none⟩ = some (.string g.sql))
def SlS (w : World) (B : Nat) (v : Value) (ts : List ByteArray) : Prop :=
  ts.length ≤ maxLen ∧ (∀ t ∈ ts, t.size ≤ maxLen) ∧ ∃ a cap, v = .slice a ts.length cap ∧ (ts ≠ [] → ∃ b off, a = some ⟨b, off, none⟩ ∧ b < B ∧ ∀ i t, ts[i]? = some t → w.cell? ⟨b, off + i, none⟩ = some (.string t))
def SlR (w : World) (B : Nat) (v : Value) (rs : List (Value × List GV)) : Prop :=
  rs.length ≤ maxLen ∧ (∀ x ∈ rs, RVe w B x.1 x.2) ∧ ∃ a cap, v = .slice a rs.length cap ∧ (rs ≠ [] → ∃ b off, a = some ⟨b, off, none⟩ ∧ b < B ∧ ∀ i x, rs[i]? = some x → w.cell? ⟨b, off + i, none⟩ = some x.1)
theorem SlE.later {w w' : World} {B B' : Nat} {v : Value} {es : List GE} (h : SlE w B v es) (hb : Below B w w') (hB : B ≤ B') : SlE w' B' v es := by
  obtain ⟨h1, h2, a, cap, h3, h4⟩ := h
  refine ⟨h1, h2, a, cap, h3, fun hne => ?_⟩
  obtain ⟨b, off, h5, h6, h7⟩ := h4 hne
  refine ⟨b, off, h5, by omega, fun i g hg => ?_⟩
  rw [hb.cell (p := ⟨b, off + i * 5, none⟩) h6, hb.cell (p := ⟨b, off + i * 5 + 1, none⟩) h6, hb.cell (p := ⟨b, off + i * 5 + 2, none⟩) h6, hb.cell (p := ⟨b, off + i * 5 + 3, none⟩) h6, hb.cell (p := ⟨b, off + i * 5 + 4, none⟩) h6]
  exact h7 i g hg
theorem SlS.later {w w' : World} {B B' : Nat} {v : Value} {es : List ByteArray} (h : SlS w B v es) (hb : Below B w w') (hB : B ≤ B') : SlS w' B' v es := by
  obtain ⟨h1, h2, a, cap, h3, h4⟩ := h
  refine ⟨h1, h2, a, cap, h3, fun hne => ?_⟩
  obtain ⟨b, off, h5, h6, h7⟩ := h4 hne
  exact ⟨b, off, h5, by omega, fun i g hg => (hb.cell (p := ⟨b, off + i, none⟩) h6).trans (h7 i g hg)⟩
theorem SlR.later {w w' : World} {B B' : Nat} {v : Value} {es : List (Value × List GV)} (h : SlR w B v es) (hb : Below B w w') (hB : B ≤ B') : SlR w' B' v es := by
  obtain ⟨h1, h2, a, cap, h3, h4⟩ := h
  refine ⟨h1, fun x hx => (h2 x hx).later hb hB, a, cap, h3, fun hne => ?_⟩
  obtain ⟨b, off, h5, h6, h7⟩ := h4 hne
  exact ⟨b, off, h5, by omega, fun i g hg => (hb.cell (p := ⟨b, off + i, none⟩) h6).trans (h7 i g hg)⟩


set_option maxHeartbeats 1600000 in
theorem wents_empty (p : Nat) (a : Option Addr) (cap : Nat) (s : Option (List UInt8)) (w : World) (hw : WS w p s) (hl : LB s 500000000) :
    Calls Tryz.prog 25 #[.pointer (some ⟨p, 0, none⟩), .slice a 0 cap, .int .i64 1000, .func (.func 26) #[.pointer (some ⟨p, 0, none⟩)] #[]] w fun e w' =>
      e = .returned (.tuple #[]) ∧ WS w' p (put (eList eEnt 1000 ([] : List GE)) s) ∧ Fr 5 p w w' := by
  have HB := hide (wbet_p p 0 0 1000 s w (by omega) (by omega) (by omega) hw (fun l h => by have := hl l h; omega))
  have e : eBetween 0 1000 0 = eList eEnt 1000 ([] : List GE) := by
    unfold eBetween eList
    rw [if_pos (by omega), if_pos (by simp)]
    simp [eAll]
  rw [e] at HB
  clear hw hl e
  go_enter Tryz.func25, Tryz.ntmps25
  go_wp2_with (first | (go_at_call 23; refine (unhide HB).mono ?_; rintro e w1 ⟨rfl, hw1, hf1⟩))
  clear HB
  refine wp_loop_rounds 1 ?_
  rw [rounds_succ]
  go_wp2
  first | go_end0 | refine bodyPost_ret (results_none rfl _ _ _) rfl ?_
  exact ⟨rfl, hw1, hf1⟩

set_option maxHeartbeats 3200000 in
set_option maxRecDepth 100000 in
theorem wents_row {R : List UInt8 → Except Nat Nat → GE × Except Nat Nat} {V : GE → Prop} {K : Nat} (C : Codec V R eEnt K) (hK : 1000 * K ≤ 190000000) (p b off cap : Nat) (xs : List GE) (s : Option (List UInt8)) (w : World) (hE : b < p) (hlen : xs.length ≤ maxLen) (hV : ∀ x ∈ xs, V x)
    (hok : ∀ g ∈ xs, g.ok)
    (hc : ∀ i g, xs[i]? = some g → w.cell? ⟨b, off + i * 5, none⟩ = some (.int .u64 g.term) ∧ w.cell? ⟨b, off + i * 5 + 1, none⟩ = some (.int .i64 g.kind) ∧ w.cell? ⟨b, off + i * 5 + 2, none⟩ = some (.int .u64 g.client) ∧ w.cell? ⟨b, off + i * 5 + 3, none⟩ = some (.int .u64 g.seq) ∧ w.cell? ⟨b, off + i * 5 + 4, none⟩ = some (.string g.sql))
    (hw : WS w p s) (hl : LB s 500000000) :
    Calls Tryz.prog 25 #[.pointer (some ⟨p, 0, none⟩), .slice (some ⟨b, off, none⟩) xs.length cap, .int .i64 1000, .func (.func 26) #[.pointer (some ⟨p, 0, none⟩)] #[]] w fun e w' =>
      e = .returned (.tuple #[]) ∧ WS w' p (put (eList eEnt 1000 (xs)) s) ∧ Fr 5 p w w' := by
  have hp := hw.lt
  have hlen' : (xs.length : Int) ≤ 9223372036854775807 := by unfold maxLen at hlen; omega
  have HB := hide (wbetween_any p (xs.length : Int) 0 1000 s w (by omega) (by omega) (by omega) hw (fun l h => by have := hl l h; omega))
  have e : (if 0 ≤ (xs.length : Int) ∧ (xs.length : Int) ≤ 1000 then s.map (· ++ uvarint ((xs.length : Int) - 0).toNat) else none) = putLen xs.length 1000 s := by
    unfold putLen
    have e1 : ((xs.length : Int) - 0).toNat = xs.length := by omega
    rw [e1]
    by_cases h : (xs.length : Int) ≤ 1000
    · rw [if_pos h, if_pos ⟨by omega, h⟩]
    · rw [if_neg h, if_neg (by omega)]
  rw [e] at HB
  have HP : Hid (puts eEnt (xs) (putLen xs.length 1000 s) = put (eList eEnt 1000 (xs)) s) := by
    have := puts_list eEnt (xs) 1000 s
    rw [show (xs.length) = xs.length from rfl] at this
    exact this
  have HLn := hide (show ∀ (k : Nat), LB (puts eEnt ((xs).take k) (putLen xs.length 1000 s)) 700000000 by
    intro k l h
    by_cases h64 : (xs.length : Int) ≤ 1000
    · have h0 : LB (putLen xs.length 1000 s) 500000010 := by
        intro l e
        unfold putLen at e
        rw [if_pos h64] at e
        cases s with
        | none => cases e
        | some l0 =>
          have h2 := hl l0 rfl
          have h3 := uvarint_length64 (x := xs.length) (by omega)
          simp at e; subst e; simp; omega
      have h1 := puts_len eEnt C ((xs).take k) _ (fun x hx => by
        have hx := List.mem_of_mem_take hx
        exact hV x hx) h0 l h
      have h4 : ((xs).take k).length * K ≤ 1000 * K := Nat.mul_le_mul_right _ (by simp; omega)
      omega
    · unfold putLen at h
      rw [if_neg h64, puts_none] at h; cases h)
  rw [← unhide HP]
  clear HP
  generalize putLen xs.length 1000 s = s1 at *
  clear e hl hV
  have HC := hide hc
  clear hc hw
  go_enter Tryz.func25, Tryz.ntmps25
  go_wp2_with (first | (go_at_call 23; refine (unhide HB).mono ?_; rintro e w1 ⟨rfl, hw1, hf1⟩))
  clear HB
  go_loopw [17] (fun i wr => ∃ k : Nat, k ≤ xs.length ∧ i = .int .i64 k ∧ WS wr p (puts eEnt ((xs).take k) s1) ∧ Fr 5 p w wr) (fun i _ => xs.length - (intOf i).toNat)
  case atStart => exact ⟨0, Nat.zero_le _, rfl, hw1, hf1⟩
  case round =>
    obtain ⟨k, hk, rfl, hwr, hfr⟩ := hrel
    by_cases hlt : k < xs.length
    · obtain ⟨g, hgk⟩ : ∃ g, xs[k]? = some g := ⟨xs[k], List.getElem?_eq_getElem hlt⟩
      obtain ⟨c0, c1, c2, c3, c4⟩ := unhide HC k g hgk
      have q0 := (hfr.1.cell (p := ⟨b, off + k * 5, none⟩) hE).trans c0
      have q1 := (hfr.1.cell (p := ⟨b, off + k * 5 + 1, none⟩) hE).trans c1
      have q2 := (hfr.1.cell (p := ⟨b, off + k * 5 + 2, none⟩) hE).trans c2
      have q3 := (hfr.1.cell (p := ⟨b, off + k * 5 + 3, none⟩) hE).trans c3
      have q4 := (hfr.1.cell (p := ⟨b, off + k * 5 + 4, none⟩) hE).trans c4
      have hgo := hok g (List.mem_of_getElem? hgk)
      clear c0 c1 c2 c3 c4 HC
      have hpr := hwr.lt
      have HS := hide (puts_snoc eEnt (xs) s1 k g (hgk))
      have HN0 := hide (puts_split eEnt (xs) s1 k)
      cases hst : puts eEnt ((xs).take k) s1 with
      | none =>
        have HN := HN0
        rw [hst, puts_none] at HN
        rw [hst] at hwr
        have hwn := hwr.alloc (.cells #[.int .u64 g.term, .int .i64 g.kind, .int .u64 g.client, .int .u64 g.seq, .string g.sql] 74)
        have hfn := hfr.alloc (by omega) (.cells #[.int .u64 g.term, .int .i64 g.kind, .int .u64 g.client, .int .u64 g.seq, .string g.sql] 74)
        obtain ⟨f0, f1, b', pl, h0, h1, hb, he⟩ := hwr
        clear hst HS HN0 hgk
        go_wp2
        refine bodyPost_ret (results_none rfl _ _ _) rfl ?_
        exact ⟨rfl, by rw [unhide HN]; exact hwn, hfn⟩
      | some l =>
        have HL := unhide HLn k l hst
        rw [hst] at hwr HS
        have HV := hide (wentry_p p g (some l) _ hgo (hwr.alloc (.cells #[.int .u64 g.term, .int .i64 g.kind, .int .u64 g.client, .int .u64 g.seq, .string g.sql] 74)) (by intro l' e; injection e with e; subst e; omega))
        have hfn := hfr.alloc (by omega) (.cells #[.int .u64 g.term, .int .i64 g.kind, .int .u64 g.client, .int .u64 g.seq, .string g.sql] 74)
        obtain ⟨f0, f1, v, h0, h1, ho⟩ := hwr
        clear hst HL HN0 hgk
        go_wp2_with (first | (go_at_call 26; refine (unhide HV).mono ?_; rintro e w2 ⟨rfl, hw2, hf2⟩))
        rw [← unhide HS] at hw2
        clear HV HS
        go_roundw
        case rel => exact ⟨k + 1, by omega, by go_num, hw2, hfn.trans hf2⟩
        case measure => simp [intOf]; omega
    · have he : (xs).take k = xs := List.take_of_length_le (by  omega)
      rw [he] at hwr
      go_wp2
      first | go_end0 | refine bodyPost_ret (results_none rfl _ _ _) rfl ?_
      exact ⟨rfl, hwr, hfr⟩

set_option maxHeartbeats 1600000 in
theorem wcols_empty (p : Nat) (a : Option Addr) (cap : Nat) (s : Option (List UInt8)) (w : World) (hw : WS w p s) (hl : LB s 500000000) :
    Calls Tryz.prog 47 #[.pointer (some ⟨p, 0, none⟩), .slice a 0 cap, .int .i64 64, .func (.func 48) #[.pointer (some ⟨p, 0, none⟩)] #[]] w fun e w' =>
      e = .returned (.tuple #[]) ∧ WS w' p (put (eList (eText 2000) 64 ([] : List ByteArray)) s) ∧ Fr 5 p w w' := by
  have HB := hide (wbet_p p 0 0 64 s w (by omega) (by omega) (by omega) hw (fun l h => by have := hl l h; omega))
  have e : eBetween 0 64 0 = eList (eText 2000) 64 ([] : List ByteArray) := by
    unfold eBetween eList
    rw [if_pos (by omega), if_pos (by simp)]
    simp [eAll]
  rw [e] at HB
  clear hw hl e
  go_enter Tryz.func47, Tryz.ntmps47
  go_wp2_with (first | (go_at_call 23; refine (unhide HB).mono ?_; rintro e w1 ⟨rfl, hw1, hf1⟩))
  clear HB
  refine wp_loop_rounds 1 ?_
  rw [rounds_succ]
  go_wp2
  first | go_end0 | refine bodyPost_ret (results_none rfl _ _ _) rfl ?_
  exact ⟨rfl, hw1, hf1⟩

set_option maxHeartbeats 3200000 in
set_option maxRecDepth 100000 in
theorem wcols_row {R : List UInt8 → Except Nat Nat → ByteArray × Except Nat Nat} {V : ByteArray → Prop} {K : Nat} (C : Codec V R (eText 2000) K) (hK : 64 * K ≤ 190000000) (p b off cap : Nat) (xs : List ByteArray) (s : Option (List UInt8)) (w : World) (hE : b < p) (hlen : xs.length ≤ maxLen) (hV : ∀ x ∈ xs, V x)
    (hok : ∀ t ∈ xs, t.size ≤ maxLen) (hc : ∀ i t, xs[i]? = some t → w.cell? ⟨b, off + i, none⟩ = some (.string t))
    (hw : WS w p s) (hl : LB s 500000000) :
    Calls Tryz.prog 47 #[.pointer (some ⟨p, 0, none⟩), .slice (some ⟨b, off, none⟩) xs.length cap, .int .i64 64, .func (.func 48) #[.pointer (some ⟨p, 0, none⟩)] #[]] w fun e w' =>
      e = .returned (.tuple #[]) ∧ WS w' p (put (eList (eText 2000) 64 (xs)) s) ∧ Fr 5 p w w' := by
  have hp := hw.lt
  have hlen' : (xs.length : Int) ≤ 9223372036854775807 := by unfold maxLen at hlen; omega
  have HB := hide (wbetween_any p (xs.length : Int) 0 64 s w (by omega) (by omega) (by omega) hw (fun l h => by have := hl l h; omega))
  have e : (if 0 ≤ (xs.length : Int) ∧ (xs.length : Int) ≤ 64 then s.map (· ++ uvarint ((xs.length : Int) - 0).toNat) else none) = putLen xs.length 64 s := by
    unfold putLen
    have e1 : ((xs.length : Int) - 0).toNat = xs.length := by omega
    rw [e1]
    by_cases h : (xs.length : Int) ≤ 64
    · rw [if_pos h, if_pos ⟨by omega, h⟩]
    · rw [if_neg h, if_neg (by omega)]
  rw [e] at HB
  have HP : Hid (puts (eText 2000) (xs) (putLen xs.length 64 s) = put (eList (eText 2000) 64 (xs)) s) := by
    have := puts_list (eText 2000) (xs) 64 s
    rw [show (xs.length) = xs.length from rfl] at this
    exact this
  have HLn := hide (show ∀ (k : Nat), LB (puts (eText 2000) ((xs).take k) (putLen xs.length 64 s)) 700000000 by
    intro k l h
    by_cases h64 : (xs.length : Int) ≤ 64
    · have h0 : LB (putLen xs.length 64 s) 500000010 := by
        intro l e
        unfold putLen at e
        rw [if_pos h64] at e
        cases s with
        | none => cases e
        | some l0 =>
          have h2 := hl l0 rfl
          have h3 := uvarint_length64 (x := xs.length) (by omega)
          simp at e; subst e; simp; omega
      have h1 := puts_len (eText 2000) C ((xs).take k) _ (fun x hx => by
        have hx := List.mem_of_mem_take hx
        exact hV x hx) h0 l h
      have h4 : ((xs).take k).length * K ≤ 64 * K := Nat.mul_le_mul_right _ (by simp; omega)
      omega
    · unfold putLen at h
      rw [if_neg h64, puts_none] at h; cases h)
  rw [← unhide HP]
  clear HP
  generalize putLen xs.length 64 s = s1 at *
  clear e hl hV
  have HC := hide hc
  clear hc hw
  go_enter Tryz.func47, Tryz.ntmps47
  go_wp2_with (first | (go_at_call 23; refine (unhide HB).mono ?_; rintro e w1 ⟨rfl, hw1, hf1⟩))
  clear HB
  go_loopw [17] (fun i wr => ∃ k : Nat, k ≤ xs.length ∧ i = .int .i64 k ∧ WS wr p (puts (eText 2000) ((xs).take k) s1) ∧ Fr 5 p w wr) (fun i _ => xs.length - (intOf i).toNat)
  case atStart => exact ⟨0, Nat.zero_le _, rfl, hw1, hf1⟩
  case round =>
    obtain ⟨k, hk, rfl, hwr, hfr⟩ := hrel
    by_cases hlt : k < xs.length
    · obtain ⟨g, hgk⟩ : ∃ g, xs[k]? = some g := ⟨xs[k], List.getElem?_eq_getElem hlt⟩
      have c0 := unhide HC k g hgk
      have q0 := (hfr.1.cell (p := ⟨b, off + k, none⟩) hE).trans c0
      have hgo := hok g (List.mem_of_getElem? hgk)
      clear c0 HC
      have hpr := hwr.lt
      have HS := hide (puts_snoc (eText 2000) (xs) s1 k g (hgk))
      have HN0 := hide (puts_split (eText 2000) (xs) s1 k)
      cases hst : puts (eText 2000) ((xs).take k) s1 with
      | none =>
        have HN := HN0
        rw [hst, puts_none] at HN
        rw [hst] at hwr
        have hwn := hwr
        have hfn := hfr
        obtain ⟨f0, f1, b', pl, h0, h1, hb, he⟩ := hwr
        clear hst HS HN0 hgk
        go_wp2
        refine bodyPost_ret (results_none rfl _ _ _) rfl ?_
        exact ⟨rfl, by rw [unhide HN]; exact hwn, hfn⟩
      | some l =>
        have HL := unhide HLn k l hst
        rw [hst] at hwr HS
        have HV := hide (wcol_p p g (some l) _ hgo hwr (by intro l' e; injection e with e; subst e; omega))
        have hfn := hfr
        obtain ⟨f0, f1, v, h0, h1, ho⟩ := hwr
        clear hst HL HN0 hgk
        go_wp2_with (first | (go_at_call 48; refine (unhide HV).mono ?_; rintro e w2 ⟨rfl, hw2, hf2⟩))
        rw [← unhide HS] at hw2
        clear HV HS
        go_roundw
        case rel => exact ⟨k + 1, by omega, by go_num, hw2, hfn.trans hf2⟩
        case measure => simp [intOf]; omega
    · have he : (xs).take k = xs := List.take_of_length_le (by  omega)
      rw [he] at hwr
      go_wp2
      first | go_end0 | refine bodyPost_ret (results_none rfl _ _ _) rfl ?_
      exact ⟨rfl, hwr, hfr⟩

set_option maxHeartbeats 1600000 in
theorem wrows_empty (p : Nat) (a : Option Addr) (cap : Nat) (s : Option (List UInt8)) (w : World) (hw : WS w p s) (hl : LB s 500000000) :
    Calls Tryz.prog 49 #[.pointer (some ⟨p, 0, none⟩), .slice a 0 cap, .int .i64 20000, .func (.func 50) #[.pointer (some ⟨p, 0, none⟩)] #[]] w fun e w' =>
      e = .returned (.tuple #[]) ∧ WS w' p (put (eList (eList eVal 64) 20000 ([] : List (List GV))) s) ∧ Fr 5 p w w' := by
  have HB := hide (wbet_p p 0 0 20000 s w (by omega) (by omega) (by omega) hw (fun l h => by have := hl l h; omega))
  have e : eBetween 0 20000 0 = eList (eList eVal 64) 20000 ([] : List (List GV)) := by
    unfold eBetween eList
    rw [if_pos (by omega), if_pos (by simp)]
    simp [eAll]
  rw [e] at HB
  clear hw hl e
  go_enter Tryz.func49, Tryz.ntmps49
  go_wp2_with (first | (go_at_call 23; refine (unhide HB).mono ?_; rintro e w1 ⟨rfl, hw1, hf1⟩))
  clear HB
  refine wp_loop_rounds 1 ?_
  rw [rounds_succ]
  go_wp2
  first | go_end0 | refine bodyPost_ret (results_none rfl _ _ _) rfl ?_
  exact ⟨rfl, hw1, hf1⟩

set_option maxHeartbeats 3200000 in
set_option maxRecDepth 100000 in
theorem wrows_row {R : List UInt8 → Except Nat Nat → (List GV) × Except Nat Nat} {V : (List GV) → Prop} {K : Nat} (C : Codec V R (eList eVal 64) K) (hK : 20000 * K ≤ 190000000) (p b off cap : Nat) (xs : List (Value × List GV)) (s : Option (List UInt8)) (w : World) (hE : b < p) (hlen : xs.length ≤ maxLen) (hV : ∀ x ∈ xs, V x.2)
    (hok : ∀ x ∈ xs, RVe w p x.1 x.2) (hok2 : ∀ x ∈ xs, x.2.length ≤ 1000) (hc : ∀ i x, xs[i]? = some x → w.cell? ⟨b, off + i, none⟩ = some x.1)
    (hw : WS w p s) (hl : LB s 500000000) :
    Calls Tryz.prog 49 #[.pointer (some ⟨p, 0, none⟩), .slice (some ⟨b, off, none⟩) xs.length cap, .int .i64 20000, .func (.func 50) #[.pointer (some ⟨p, 0, none⟩)] #[]] w fun e w' =>
      e = .returned (.tuple #[]) ∧ WS w' p (put (eList (eList eVal 64) 20000 (xs.map Prod.snd)) s) ∧ Fr 5 p w w' := by
  have hp := hw.lt
  have hlen' : (xs.length : Int) ≤ 9223372036854775807 := by unfold maxLen at hlen; omega
  have HB := hide (wbetween_any p (xs.length : Int) 0 20000 s w (by omega) (by omega) (by omega) hw (fun l h => by have := hl l h; omega))
  have e : (if 0 ≤ (xs.length : Int) ∧ (xs.length : Int) ≤ 20000 then s.map (· ++ uvarint ((xs.length : Int) - 0).toNat) else none) = putLen xs.length 20000 s := by
    unfold putLen
    have e1 : ((xs.length : Int) - 0).toNat = xs.length := by omega
    rw [e1]
    by_cases h : (xs.length : Int) ≤ 20000
    · rw [if_pos h, if_pos ⟨by omega, h⟩]
    · rw [if_neg h, if_neg (by omega)]
  rw [e] at HB
  have HP : Hid (puts (eList eVal 64) (xs.map Prod.snd) (putLen xs.length 20000 s) = put (eList (eList eVal 64) 20000 (xs.map Prod.snd)) s) := by
    have := puts_list (eList eVal 64) (xs.map Prod.snd) 20000 s
    rw [List.length_map] at this
    exact this
  have HLn := hide (show ∀ (k : Nat), LB (puts (eList eVal 64) ((xs.map Prod.snd).take k) (putLen xs.length 20000 s)) 700000000 by
    intro k l h
    by_cases h64 : (xs.length : Int) ≤ 20000
    · have h0 : LB (putLen xs.length 20000 s) 500000010 := by
        intro l e
        unfold putLen at e
        rw [if_pos h64] at e
        cases s with
        | none => cases e
        | some l0 =>
          have h2 := hl l0 rfl
          have h3 := uvarint_length64 (x := xs.length) (by omega)
          simp at e; subst e; simp; omega
      have h1 := puts_len (eList eVal 64) C ((xs.map Prod.snd).take k) _ (fun x hx => by
        have hx := List.mem_of_mem_take hx
        obtain ⟨y, hy, rfl⟩ := List.mem_map.1 hx
        exact hV y hy) h0 l h
      have h4 : ((xs.map Prod.snd).take k).length * K ≤ 20000 * K := Nat.mul_le_mul_right _ (by simp; omega)
      omega
    · unfold putLen at h
      rw [if_neg h64, puts_none] at h; cases h)
  rw [← unhide HP]
  clear HP
  generalize putLen xs.length 20000 s = s1 at *
  clear e hl hV
  have HC := hide hc
  clear hc hw
  go_enter Tryz.func49, Tryz.ntmps49
  go_wp2_with (first | (go_at_call 23; refine (unhide HB).mono ?_; rintro e w1 ⟨rfl, hw1, hf1⟩))
  clear HB
  go_loopw [17] (fun i wr => ∃ k : Nat, k ≤ xs.length ∧ i = .int .i64 k ∧ WS wr p (puts (eList eVal 64) ((xs.map Prod.snd).take k) s1) ∧ Fr 5 p w wr) (fun i _ => xs.length - (intOf i).toNat)
  case atStart => exact ⟨0, Nat.zero_le _, rfl, hw1, hf1⟩
  case round =>
    obtain ⟨k, hk, rfl, hwr, hfr⟩ := hrel
    by_cases hlt : k < xs.length
    · obtain ⟨g, hgk⟩ : ∃ g, xs[k]? = some g := ⟨xs[k], List.getElem?_eq_getElem hlt⟩
      have c0 := unhide HC k g hgk
      have q0 := (hfr.1.cell (p := ⟨b, off + k, none⟩) hE).trans c0
      have hgo := hide ((hok g (List.mem_of_getElem? hgk)).later hfr.1 (Nat.le_refl _))
      have hg2 := hok2 g (List.mem_of_getElem? hgk)
      clear c0 HC
      have hpr := hwr.lt
      have HS := hide (puts_snoc (eList eVal 64) (xs.map Prod.snd) s1 k g.2 (by rw [List.getElem?_map, hgk]; rfl))
      have HN0 := hide (puts_split (eList eVal 64) (xs.map Prod.snd) s1 k)
      cases hst : puts (eList eVal 64) ((xs.map Prod.snd).take k) s1 with
      | none =>
        have HN := HN0
        rw [hst, puts_none] at HN
        rw [hst] at hwr
        have hwn := hwr
        have hfn := hfr
        obtain ⟨f0, f1, b', pl, h0, h1, hb, he⟩ := hwr
        clear hst HS HN0 hgk
        go_wp2
        refine bodyPost_ret (results_none rfl _ _ _) rfl ?_
        exact ⟨rfl, by rw [unhide HN]; exact hwn, hfn⟩
      | some l =>
        have HL := unhide HLn k l hst
        rw [hst] at hwr HS
        have HV := hide (wrow_p p g.1 g.2 (some l) _ (unhide hgo) hg2 hwr (by intro l' e; injection e with e; subst e; omega))
        have hfn := hfr
        obtain ⟨f0, f1, v, h0, h1, ho⟩ := hwr
        clear hst HL HN0 hgk
        go_wp2_with (first | (go_at_call 50; refine (unhide HV).mono ?_; rintro e w2 ⟨rfl, hw2, hf2⟩))
        rw [← unhide HS] at hw2
        clear HV HS
        go_roundw
        case rel => exact ⟨k + 1, by omega, by go_num, hw2, hfn.trans hf2⟩
        case measure => simp [intOf]; omega
    · have he : (xs.map Prod.snd).take k = xs.map Prod.snd := List.take_of_length_le (by rw [List.length_map]; omega)
      rw [he] at hwr
      go_wp2
      first | go_end0 | refine bodyPost_ret (results_none rfl _ _ _) rfl ?_
      exact ⟨rfl, hwr, hfr⟩
end Go.Proofs.YtahpfhnekmilmaaGreatDoor
