/- Contract of the statement's own look whether a message may be written. -/
import Derived.Test.YtklclbegmpafpaaGreatDoorMsgHelp
import Derived.Test.YtklclbegmpafpaaGreatDoorMsgGood
namespace Go.Proofs.YtklclbegmpafpaaGreatDoor
open Go.RowKit Go.Lib

theorem ePair_l {α β : Type} {E : α → Option (List UInt8)} {F : β → Option (List UInt8)} {x : α} {y : β} (h : E x = none) : ePair E F (x, y) = none := by simp only [ePair, h]
theorem ePair_r {α β : Type} {E : α → Option (List UInt8)} {F : β → Option (List UInt8)} {x : α} {y : β} (h : F y = none) : ePair E F (x, y) = none := by
  simp only [ePair, h]
  cases E x <;> rfl
theorem ePair_s {α β : Type} {E : α → Option (List UInt8)} {F : β → Option (List UInt8)} {x : α} {y : β} (h : ∃ a, E x = some a) (h' : ∃ b, F y = some b) : ∃ c, ePair E F (x, y) = some c := by
  obtain ⟨a, h⟩ := h
  obtain ⟨b, h'⟩ := h'
  exact ⟨a ++ b, by simp [ePair, h, h']⟩
theorem eBet_none {lo hi n : Int} (h : ¬ (lo ≤ n ∧ n ≤ hi)) : eBetween lo hi n = none := if_neg h
theorem eBet_some {lo hi n : Int} (h : lo ≤ n ∧ n ≤ hi) : ∃ a, eBetween lo hi n = some a := ⟨_, if_pos h⟩
theorem eText_none {most : Nat} {t : ByteArray} (h : most < t.size) : eText most t = none := by
  unfold eText eData
  rw [if_neg (by rw [bytes_length]; omega)]
theorem eText_some {most : Nat} {t : ByteArray} (h : t.size ≤ most) : ∃ a, eText most t = some a := by
  unfold eText eData
  rw [if_pos (by rw [bytes_length]; omega)]
  exact ⟨_, rfl⟩
theorem eAll_none {α : Type} {E : α → Option (List UInt8)} : ∀ {xs : List α} {x : α}, x ∈ xs → E x = none → eAll E xs = none
  | y :: r, x, hx, h => by
    rcases List.mem_cons.1 hx with rfl | hx
    · simp only [eAll, h]
    · simp only [eAll, eAll_none hx h]
      cases E y <;> rfl
theorem eAll_some {α : Type} {E : α → Option (List UInt8)} : ∀ {xs : List α}, (∀ x ∈ xs, ∃ a, E x = some a) → ∃ a, eAll E xs = some a
  | [], _ => ⟨[], rfl⟩
  | y :: r, h => by
    obtain ⟨a, ha⟩ := h y (by simp)
    obtain ⟨b, hb⟩ := eAll_some (xs := r) (fun x hx => h x (by simp [hx]))
    exact ⟨a ++ b, by simp [eAll, ha, hb]⟩
theorem eList_none {α : Type} {E : α → Option (List UInt8)} {most : Nat} {xs : List α} (h : eAll E xs = none) : eList E most xs = none := by
  unfold eList
  split
  · rw [h]; rfl
  · rfl
theorem eList_long {α : Type} {E : α → Option (List UInt8)} {most : Nat} {xs : List α} (h : most < xs.length) : eList E most xs = none := if_neg (by omega)
theorem eList_some {α : Type} {E : α → Option (List UInt8)} {most : Nat} {xs : List α} (hl : xs.length ≤ most) (h : ∀ x ∈ xs, ∃ a, E x = some a) : ∃ a, eList E most xs = some a := by
  obtain ⟨a, ha⟩ := eAll_some h
  unfold eList
  rw [if_pos hl, ha]
  exact ⟨_, rfl⟩
theorem eUp_some {most x : Nat} (h : x ≤ most) : ∃ a, eUp most x = some a := ⟨_, if_pos h⟩
theorem eUp64 {x : Nat} (h : x < 18446744073709551616) : ∃ a, eUp m64 x = some a := eUp_some (Nat.le_of_lt_succ h)
theorem eBool_some (t : Bool) : ∃ a, eBool t = some a := by cases t <;> exact ⟨_, rfl⟩
theorem eData_some {most : Nat} {x : List UInt8} (h : x.length ≤ most) : ∃ a, eData most x = some a := ⟨_, if_pos h⟩
theorem eEnt_some {g : GE} (h : g.may = true) : ∃ a, eEnt g = some a := ⟨_, if_pos h⟩
theorem eEnt_none {g : GE} (h : g.may = false) : eEnt g = none := if_neg (by simp [h])
theorem short_cols {cs : List ByteArray} (h : shortB cs 64 2000 = true) : ∃ a, eList (eText 2000) 64 cs = some a := by
  simp [shortB] at h
  exact eList_some h.1 (fun t ht => eText_some (h.2 t ht))
theorem long_cols {cs : List ByteArray} (h : shortB cs 64 2000 = false) : eList (eText 2000) 64 cs = none := by
  by_cases hl : cs.length ≤ 64
  · simp only [shortB, decide_eq_true hl, Bool.true_and, List.all_eq_false] at h
    obtain ⟨t, ht, hs⟩ := h
    exact eList_none (eAll_none ht (eText_none (by simpa using hs)))
  · exact eList_long (by omega)
theorem rowBytes_e (gs : List GV) : rowBytes gs = eList eVal 64 gs := by
  unfold rowBytes
  rw [putRow_put, put_nil]
theorem entBytes_e (g : GE) : entBytes g = eEnt g := by
  unfold entBytes
  rw [putEnt_put, put_nil]

/-- What the look tells: just whether the message has bytes. -/
def MayPost (m : Option (List UInt8)) (e : Ending) : Prop := ∃ r, e = .returned (.bool r) ∧ (r = true → ∃ b, m = some b) ∧ (r = false → m = none)
theorem MayPost.no {m : Option (List UInt8)} (h : m = none) : MayPost m (.returned (.bool false)) := ⟨false, rfl, (fun h => by cases h), fun _ => h⟩
theorem MayPost.yes {m : Option (List UInt8)} (h : ∃ b, m = some b) : MayPost m (.returned (.bool true)) := ⟨true, rfl, fun _ => h, (fun h => by cases h)⟩

set_option maxHeartbeats 1600000 in
theorem refRow_empty (a : Option Addr) (cap : Nat) (w : World) : Calls Tryz.prog 28 #[.slice a 0 cap] w fun e w' => ∃ p, e = .returned (.tuple #[p, .int .i64 0]) ∧ Below w.heap.size w w' := by
  have HP := hide (refPutUint_any 0 w (by decide))
  go_enter Tryz.func28, Tryz.ntmps28
  go_wp2_with (first | (go_at_call 46; refine (unhide HP).mono ?_; rintro e w1 ⟨v1, rfl, ho1, hb1⟩; have HB := hide hb1; clear ho1 hb1))
  refine wp_loop_rounds 1 ?_
  rw [rounds_succ]
  go_wp2
  go_ret2
  exact ⟨_, rfl, unhide HB⟩
/-- consistoryref1.PutRow's class: 0, where the row has bytes, else 20. -/
theorem refRow_cls (v : Value) (gs : List GV) (w : World) (hv : RVe w w.heap.size v gs) (hl : gs.length ≤ 1000) : Calls Tryz.prog 28 #[v] w fun e w' => ∃ p, e = .returned (.tuple #[p, .int .i64 (clsOf (eList eVal 64 gs))]) ∧ Below w.heap.size w w' := by
  rcases hv with h | ⟨rfl, a, cap, rfl⟩
  · rw [← rowBytes_e]
    exact (refPutRow_wr v gs w (h.rv hl)).mono fun _ _ ⟨p, h1, _, h3⟩ => ⟨p, h1, h3⟩
  · exact (refRow_empty (some a) cap w).mono fun _ _ ⟨p, h1, h2⟩ => ⟨p, h1, h2⟩
theorem refEnt_cls (g : GE) (w : World) (hg : g.ok) : Calls Tryz.prog 27 #[.agg #[.int .u64 g.term, .int .i64 g.kind, .int .u64 g.client, .int .u64 g.seq, .string g.sql]] w fun e w' => ∃ p, e = .returned (.tuple #[p, .int .i64 (clsOf (eEnt g))]) ∧ Below w.heap.size w w' := by
  rw [← entBytes_e]
  exact (refPutEntry_wr g w hg).mono fun _ _ ⟨p, h1, _, h3⟩ => ⟨p, h1, h3⟩

set_option maxHeartbeats 6400000 in
set_option maxRecDepth 100000 in
theorem may_head (kd fr tgt : Int) (tm ix lt : Nat) (aE : Option Addr) (kE : Nat) (cm rd : Nat) (ok : Bool) (off : Int) (vD : Value) (dn : Bool) (cl sq : Nat) (sql : ByteArray) (rsq : Nat) (rcl : Int) (aC : Option Addr) (kC : Nat) (aR : Option Addr) (kR : Nat) (rct : Int) (rix : Nat) (hint : Int) (es : List GE) (lb : List UInt8) (cs : List ByteArray) (rs : List (Value × List GV)) (w : World) (hS : sql.size ≤ maxLen) (hbad : ¬ ((1 ≤ kd ∧ kd ≤ 8) ∧ (-1 ≤ fr ∧ fr ≤ 1000) ∧ (-1 ≤ tgt ∧ tgt ≤ 1000) ∧ (-1 ≤ hint ∧ hint ≤ 1000) ∧ (0 ≤ off ∧ off ≤ 262144) ∧ sql.size ≤ 2000)) :
    Calls Tryz.prog 7 #[.agg #[.int .i64 kd, .int .i64 fr, .int .i64 tgt, .int .u64 (tm : Nat), .int .u64 (ix : Nat), .int .u64 (lt : Nat), .slice aE es.length kE, .int .u64 (cm : Nat), .int .u64 (rd : Nat), .bool ok, .int .i64 off, vD, .bool dn, .int .u64 (cl : Nat), .int .u64 (sq : Nat), .string sql, .int .u64 (rsq : Nat), .int .i64 rcl, .slice aC cs.length kC, .slice aR rs.length kR, .int .i64 rct, .int .u64 (rix : Nat), .int .i64 hint]] w fun e w' => MayPost (eMsg (kd, fr, tgt, tm, ix, lt, es, cm, rd, ok, off, lb, dn, cl, sq, sql, (rsq, rcl, cs, rs.map Prod.snd, rct, rix), hint)) e ∧ Below w.heap.size w w' := by
  have hb0 : Below w.heap.size w (w.alloc (.cells #[.int .i64 kd, .int .i64 fr, .int .i64 tgt, .int .u64 (tm : Nat), .int .u64 (ix : Nat), .int .u64 (lt : Nat), .slice aE es.length kE, .int .u64 (cm : Nat), .int .u64 (rd : Nat), .bool ok, .int .i64 off, vD, .bool dn, .int .u64 (cl : Nat), .int .u64 (sq : Nat), .string sql, .int .u64 (rsq : Nat), .int .i64 rcl, .slice aC cs.length kC, .slice aR rs.length kR, .int .i64 rct, .int .u64 (rix : Nat), .int .i64 hint] 33)) := (Below.refl _ _).alloc (Nat.le_refl _) _
  have HB := hide hb0
  have hS' : (sql.size : Int) ≤ 9223372036854775807 := by unfold maxLen at hS; omega
  clear hb0 hS
  by_cases h0 : kd < 1
  · have HN := hide (show eMsg (kd, fr, tgt, tm, ix, lt, es, cm, rd, ok, off, lb, dn, cl, sq, sql, (rsq, rcl, cs, rs.map Prod.snd, rct, rix), hint) = none from ePair_l (eBet_none (by omega)))
    clear hbad
    go_enter Tryz.func7, Tryz.ntmps7
    go_wp2
    go_ret
    exact ⟨MayPost.no (unhide HN), unhide HB⟩
  by_cases h1 : 8 < kd
  · have HN := hide (show eMsg (kd, fr, tgt, tm, ix, lt, es, cm, rd, ok, off, lb, dn, cl, sq, sql, (rsq, rcl, cs, rs.map Prod.snd, rct, rix), hint) = none from ePair_l (eBet_none (by omega)))
    clear hbad
    go_enter Tryz.func7, Tryz.ntmps7
    go_wp2
    go_ret
    exact ⟨MayPost.no (unhide HN), unhide HB⟩
  by_cases h2 : fr < -1
  · have HN := hide (show eMsg (kd, fr, tgt, tm, ix, lt, es, cm, rd, ok, off, lb, dn, cl, sq, sql, (rsq, rcl, cs, rs.map Prod.snd, rct, rix), hint) = none from ePair_r (ePair_l (eBet_none (by omega))))
    clear hbad
    go_enter Tryz.func7, Tryz.ntmps7
    go_wp2
    go_ret
    exact ⟨MayPost.no (unhide HN), unhide HB⟩
  by_cases h3 : 1000 < fr
  · have HN := hide (show eMsg (kd, fr, tgt, tm, ix, lt, es, cm, rd, ok, off, lb, dn, cl, sq, sql, (rsq, rcl, cs, rs.map Prod.snd, rct, rix), hint) = none from ePair_r (ePair_l (eBet_none (by omega))))
    clear hbad
    go_enter Tryz.func7, Tryz.ntmps7
    go_wp2
    go_ret
    exact ⟨MayPost.no (unhide HN), unhide HB⟩
  by_cases h4 : tgt < -1
  · have HN := hide (show eMsg (kd, fr, tgt, tm, ix, lt, es, cm, rd, ok, off, lb, dn, cl, sq, sql, (rsq, rcl, cs, rs.map Prod.snd, rct, rix), hint) = none from ePair_r (ePair_r (ePair_l (eBet_none (by omega)))))
    clear hbad
    go_enter Tryz.func7, Tryz.ntmps7
    go_wp2
    go_ret
    exact ⟨MayPost.no (unhide HN), unhide HB⟩
  by_cases h5 : 1000 < tgt
  · have HN := hide (show eMsg (kd, fr, tgt, tm, ix, lt, es, cm, rd, ok, off, lb, dn, cl, sq, sql, (rsq, rcl, cs, rs.map Prod.snd, rct, rix), hint) = none from ePair_r (ePair_r (ePair_l (eBet_none (by omega)))))
    clear hbad
    go_enter Tryz.func7, Tryz.ntmps7
    go_wp2
    go_ret
    exact ⟨MayPost.no (unhide HN), unhide HB⟩
  by_cases h6 : hint < -1
  · have HN := hide (show eMsg (kd, fr, tgt, tm, ix, lt, es, cm, rd, ok, off, lb, dn, cl, sq, sql, (rsq, rcl, cs, rs.map Prod.snd, rct, rix), hint) = none from ePair_r (ePair_r (ePair_r (ePair_r (ePair_r (ePair_r (ePair_r (ePair_r (ePair_r (ePair_r (ePair_r (ePair_r (ePair_r (ePair_r (ePair_r (ePair_r (ePair_r (eBet_none (by omega)))))))))))))))))))
    clear hbad
    go_enter Tryz.func7, Tryz.ntmps7
    go_wp2
    go_ret
    exact ⟨MayPost.no (unhide HN), unhide HB⟩
  by_cases h7 : 1000 < hint
  · have HN := hide (show eMsg (kd, fr, tgt, tm, ix, lt, es, cm, rd, ok, off, lb, dn, cl, sq, sql, (rsq, rcl, cs, rs.map Prod.snd, rct, rix), hint) = none from ePair_r (ePair_r (ePair_r (ePair_r (ePair_r (ePair_r (ePair_r (ePair_r (ePair_r (ePair_r (ePair_r (ePair_r (ePair_r (ePair_r (ePair_r (ePair_r (ePair_r (eBet_none (by omega)))))))))))))))))))
    clear hbad
    go_enter Tryz.func7, Tryz.ntmps7
    go_wp2
    go_ret
    exact ⟨MayPost.no (unhide HN), unhide HB⟩
  by_cases h8 : off < 0
  · have HN := hide (show eMsg (kd, fr, tgt, tm, ix, lt, es, cm, rd, ok, off, lb, dn, cl, sq, sql, (rsq, rcl, cs, rs.map Prod.snd, rct, rix), hint) = none from ePair_r (ePair_r (ePair_r (ePair_r (ePair_r (ePair_r (ePair_r (ePair_r (ePair_r (ePair_r (ePair_l (eBet_none (by omega)))))))))))))
    clear hbad
    go_enter Tryz.func7, Tryz.ntmps7
    go_wp2
    go_ret
    exact ⟨MayPost.no (unhide HN), unhide HB⟩
  by_cases h9 : 262144 < off
  · have HN := hide (show eMsg (kd, fr, tgt, tm, ix, lt, es, cm, rd, ok, off, lb, dn, cl, sq, sql, (rsq, rcl, cs, rs.map Prod.snd, rct, rix), hint) = none from ePair_r (ePair_r (ePair_r (ePair_r (ePair_r (ePair_r (ePair_r (ePair_r (ePair_r (ePair_r (ePair_l (eBet_none (by omega)))))))))))))
    clear hbad
    go_enter Tryz.func7, Tryz.ntmps7
    go_wp2
    go_ret
    exact ⟨MayPost.no (unhide HN), unhide HB⟩
  by_cases h10 : (2000 : Int) < (sql.size : Int)
  · have HN := hide (show eMsg (kd, fr, tgt, tm, ix, lt, es, cm, rd, ok, off, lb, dn, cl, sq, sql, (rsq, rcl, cs, rs.map Prod.snd, rct, rix), hint) = none from ePair_r (ePair_r (ePair_r (ePair_r (ePair_r (ePair_r (ePair_r (ePair_r (ePair_r (ePair_r (ePair_r (ePair_r (ePair_r (ePair_r (ePair_r (ePair_l (eText_none (by omega))))))))))))))))))
    clear hbad
    go_enter Tryz.func7, Tryz.ntmps7
    go_wp2
    go_ret
    exact ⟨MayPost.no (unhide HN), unhide HB⟩
  exact absurd ⟨⟨by omega, by omega⟩, ⟨by omega, by omega⟩, ⟨by omega, by omega⟩, ⟨by omega, by omega⟩, ⟨by omega, by omega⟩, by omega⟩ hbad

set_option maxHeartbeats 12800000 in
set_option maxRecDepth 100000 in
theorem may_body (kd fr tgt : Int) (tm ix lt : Nat) (aE : Option Addr) (kE : Nat) (cm rd : Nat) (ok : Bool) (off : Int) (vD : Value) (dn : Bool) (cl sq : Nat) (sql : ByteArray) (rsq : Nat) (rcl : Int) (aC : Option Addr) (kC : Nat) (aR : Option Addr) (kR : Nat) (rct : Int) (rix : Nat) (hint : Int) (es : List GE) (lb : List UInt8) (cs : List ByteArray) (rs : List (Value × List GV)) (w : World) (hg : (1 ≤ kd ∧ kd ≤ 8) ∧ (-1 ≤ fr ∧ fr ≤ 1000) ∧ (-1 ≤ tgt ∧ tgt ≤ 1000) ∧ (-1 ≤ hint ∧ hint ≤ 1000) ∧ (0 ≤ off ∧ off ≤ 262144) ∧ sql.size ≤ 2000)
    (htm : tm < 18446744073709551616) (hix : ix < 18446744073709551616) (hlt : lt < 18446744073709551616) (hcm : cm < 18446744073709551616) (hrd : rd < 18446744073709551616) (hcl : cl < 18446744073709551616) (hsq : sq < 18446744073709551616) (hrsq : rsq < 18446744073709551616) (hrix : rix < 18446744073709551616)
    (hM : MsgAt w w.heap.size (.slice aE es.length kE) vD (.slice aC cs.length kC) (.slice aR rs.length kR) es lb cs rs) (he : es.length ≤ 60) (hd : lb.length ≤ 3000) (hr : rs.length ≤ 40) :
    Calls Tryz.prog 7 #[.agg #[.int .i64 kd, .int .i64 fr, .int .i64 tgt, .int .u64 (tm : Nat), .int .u64 (ix : Nat), .int .u64 (lt : Nat), .slice aE es.length kE, .int .u64 (cm : Nat), .int .u64 (rd : Nat), .bool ok, .int .i64 off, vD, .bool dn, .int .u64 (cl : Nat), .int .u64 (sq : Nat), .string sql, .int .u64 (rsq : Nat), .int .i64 rcl, .slice aC cs.length kC, .slice aR rs.length kR, .int .i64 rct, .int .u64 (rix : Nat), .int .i64 hint]] w fun e w' => MayPost (eMsg (kd, fr, tgt, tm, ix, lt, es, cm, rd, ok, off, lb, dn, cl, sq, sql, (rsq, rcl, cs, rs.map Prod.snd, rct, rix), hint)) e ∧ Below w.heap.size w w' := by
  obtain ⟨⟨g1, g2⟩, ⟨g3, g4⟩, ⟨g5, g6⟩, ⟨g7, g8⟩, ⟨g9, g10⟩, g11⟩ := hg
  have n1 : ¬ kd < 1 := by omega
  have n2 : ¬ 8 < kd := by omega
  have n3 : ¬ fr < -1 := by omega
  have n4 : ¬ 1000 < fr := by omega
  have n5 : ¬ tgt < -1 := by omega
  have n6 : ¬ 1000 < tgt := by omega
  have n7 : ¬ hint < -1 := by omega
  have n8 : ¬ 1000 < hint := by omega
  have n9 : ¬ off < 0 := by omega
  have n10 : ¬ 262144 < off := by omega
  have n11 : ¬ (2000 : Int) < (sql.size : Int) := by omega
  have n12 : (sql.size : Int) ≤ 9223372036854775807 := by omega
  have hel : (es.length : Int) ≤ 60 := by omega
  have hrl : (rs.length : Int) ≤ 40 := by omega
  have hcl' : (cs.length : Int) ≤ 9223372036854775807 := by have := hM.rep.cols.1; unfold maxLen at this; omega
  have hb0 : Below w.heap.size w (w.alloc (.cells #[.int .i64 kd, .int .i64 fr, .int .i64 tgt, .int .u64 (tm : Nat), .int .u64 (ix : Nat), .int .u64 (lt : Nat), .slice aE es.length kE, .int .u64 (cm : Nat), .int .u64 (rd : Nat), .bool ok, .int .i64 off, vD, .bool dn, .int .u64 (cl : Nat), .int .u64 (sq : Nat), .string sql, .int .u64 (rsq : Nat), .int .i64 rcl, .slice aC cs.length kC, .slice aR rs.length kR, .int .i64 rct, .int .u64 (rix : Nat), .int .i64 hint] 33)) := (Below.refl _ _).alloc (Nat.le_refl _) _
  have HGood : Hid ((∀ g ∈ es, g.may = true) → (0 ≤ rcl ∧ rcl ≤ 100) → (0 ≤ rct ∧ rct ≤ 262144) → (∃ a, eList (eText 2000) 64 cs = some a) → (∀ x ∈ rs, ∃ a, eList eVal 64 x.2 = some a) → ∃ b, eMsg (kd, fr, tgt, tm, ix, lt, es, cm, rd, ok, off, lb, dn, cl, sq, sql, (rsq, rcl, cs, rs.map Prod.snd, rct, rix), hint) = some b) := by
    intro h1 h2 h2' h3 h4
    exact ePair_s (eBet_some (by omega)) (ePair_s (eBet_some (by omega)) (ePair_s (eBet_some (by omega)) (ePair_s (eUp64 htm) (ePair_s (eUp64 hix) (ePair_s (eUp64 hlt) (ePair_s (eList_some (by omega) (fun g hg => eEnt_some (h1 g hg))) (ePair_s (eUp64 hcm) (ePair_s (eUp64 hrd) (ePair_s (eBool_some _) (ePair_s (eBet_some (by omega)) (ePair_s (eData_some (by omega)) (ePair_s (eBool_some _) (ePair_s (eUp64 hcl) (ePair_s (eUp64 hsq) (ePair_s (eText_some (by omega)) (ePair_s (ePair_s (eUp64 hrsq) (ePair_s (eBet_some (by omega)) (ePair_s h3 (ePair_s (eList_some (by simp; omega) (fun r hr => by obtain ⟨x, hx, rfl⟩ := List.mem_map.1 hr; exact h4 x hx)) (ePair_s (eBet_some (by omega)) (eUp64 hrix)))))) (eBet_some (by omega))))))))))))))))))
  have HEnt : Hid (∀ g ∈ es, g.may = false → eMsg (kd, fr, tgt, tm, ix, lt, es, cm, rd, ok, off, lb, dn, cl, sq, sql, (rsq, rcl, cs, rs.map Prod.snd, rct, rix), hint) = none) := fun g hg hm => ePair_r (ePair_r (ePair_r (ePair_r (ePair_r (ePair_r (ePair_l (eList_none (eAll_none hg (eEnt_none hm)))))))))
  have HCls : Hid (¬ (0 ≤ rcl ∧ rcl ≤ 100) → eMsg (kd, fr, tgt, tm, ix, lt, es, cm, rd, ok, off, lb, dn, cl, sq, sql, (rsq, rcl, cs, rs.map Prod.snd, rct, rix), hint) = none) := fun h => ePair_r (ePair_r (ePair_r (ePair_r (ePair_r (ePair_r (ePair_r (ePair_r (ePair_r (ePair_r (ePair_r (ePair_r (ePair_r (ePair_r (ePair_r (ePair_r (ePair_l (ePair_r (ePair_l (eBet_none h)))))))))))))))))))
  have HCol : Hid (shortB cs 64 2000 = false → eMsg (kd, fr, tgt, tm, ix, lt, es, cm, rd, ok, off, lb, dn, cl, sq, sql, (rsq, rcl, cs, rs.map Prod.snd, rct, rix), hint) = none) := fun h => ePair_r (ePair_r (ePair_r (ePair_r (ePair_r (ePair_r (ePair_r (ePair_r (ePair_r (ePair_r (ePair_r (ePair_r (ePair_r (ePair_r (ePair_r (ePair_r (ePair_l (ePair_r (ePair_r (ePair_l (long_cols h))))))))))))))))))))
  have HCnt : Hid (¬ (0 ≤ rct ∧ rct ≤ 262144) → eMsg (kd, fr, tgt, tm, ix, lt, es, cm, rd, ok, off, lb, dn, cl, sq, sql, (rsq, rcl, cs, rs.map Prod.snd, rct, rix), hint) = none) := fun h => ePair_r (ePair_r (ePair_r (ePair_r (ePair_r (ePair_r (ePair_r (ePair_r (ePair_r (ePair_r (ePair_r (ePair_r (ePair_r (ePair_r (ePair_r (ePair_r (ePair_l (ePair_r (ePair_r (ePair_r (ePair_r (ePair_l (eBet_none h))))))))))))))))))))))
  have HRow : Hid (∀ x ∈ rs, eList eVal 64 x.2 = none → eMsg (kd, fr, tgt, tm, ix, lt, es, cm, rd, ok, off, lb, dn, cl, sq, sql, (rsq, rcl, cs, rs.map Prod.snd, rct, rix), hint) = none) := fun x hx h => ePair_r (ePair_r (ePair_r (ePair_r (ePair_r (ePair_r (ePair_r (ePair_r (ePair_r (ePair_r (ePair_r (ePair_r (ePair_r (ePair_r (ePair_r (ePair_r (ePair_l (ePair_r (ePair_r (ePair_r (ePair_l (eList_none (eAll_none (List.mem_map_of_mem hx) h))))))))))))))))))))))
  have HE : Hid (∀ (W : World) (k : Nat) (g : GE), Below w.heap.size w W → es[k]? = some g → ∃ b o, aE = some ⟨b, o, none⟩ ∧ g.ok ∧ W.cell? ⟨b, o + k * 5, none⟩ = some (.int .u64 g.term) ∧ W.cell? ⟨b, o + k * 5 + 1, none⟩ = some (.int .i64 g.kind) ∧ W.cell? ⟨b, o + k * 5 + 2, none⟩ = some (.int .u64 g.client) ∧ W.cell? ⟨b, o + k * 5 + 3, none⟩ = some (.int .u64 g.seq) ∧ W.cell? ⟨b, o + k * 5 + 4, none⟩ = some (.string g.sql)) := by
    intro W k g hW hg
    obtain ⟨_, e2, a, cap, e3, e4⟩ := hM.ents.later hW (Nat.le_refl _)
    obtain ⟨b, o, e5, _, e6⟩ := e4 (by intro h; rw [h] at hg; simp at hg)
    injection e3 with e3 _ _
    exact ⟨b, o, by rw [e3]; exact e5, e2 g (List.mem_of_getElem? hg), e6 k g hg⟩
  have HR : Hid (∀ (W : World) (k : Nat) (x : Value × List GV), Below w.heap.size w W → rs[k]? = some x → ∃ b o, aR = some ⟨b, o, none⟩ ∧ W.cell? ⟨b, o + k, none⟩ = some x.1 ∧ Calls Tryz.prog 28 #[x.1] W fun e w' => ∃ p, e = .returned (.tuple #[p, .int .i64 (clsOf (eList eVal 64 x.2))]) ∧ Below W.heap.size W w') := by
    intro W k x hW hx
    have hRl := hM.rep.rows.later hW hW.size
    obtain ⟨_, e2, a, cap, e3, e4⟩ := hRl
    obtain ⟨b, o, e5, _, e6⟩ := e4 (by intro h; rw [h] at hx; simp at hx)
    injection e3 with e3 _ _
    have hmem := List.mem_of_getElem? hx
    exact ⟨b, o, by rw [e3]; exact e5, e6 k x hx, refRow_cls x.1 x.2 W (e2 x hmem) (hM.rep.few x hmem)⟩
  have HS := hide (fun (W : World) (hW : Below w.heap.size w W) => short_any (.slice aC cs.length kC) _ cs 64 2000 W (hM.rep.cols.later hW (Nat.le_refl _)))
  have HB := hide hb0
  clear hM hb0 htm hix hlt hcm hrd hcl hsq hrsq hrix hd g1 g2 g3 g4 g5 g6 g7 g8 g9 g10 g11 he hr
  go_enter Tryz.func7, Tryz.ntmps7
  go_wp2
  go_loopw [3] (fun i wr => ∃ k : Nat, k ≤ es.length ∧ i = .int .i64 k ∧ Hid (Below (w.heap.size + 1) (w.alloc (.cells #[.int .i64 kd, .int .i64 fr, .int .i64 tgt, .int .u64 (tm : Nat), .int .u64 (ix : Nat), .int .u64 (lt : Nat), .slice aE es.length kE, .int .u64 (cm : Nat), .int .u64 (rd : Nat), .bool ok, .int .i64 off, vD, .bool dn, .int .u64 (cl : Nat), .int .u64 (sq : Nat), .string sql, .int .u64 (rsq : Nat), .int .i64 rcl, .slice aC cs.length kC, .slice aR rs.length kR, .int .i64 rct, .int .u64 (rix : Nat), .int .i64 hint] 33)) wr) ∧ wr.cell? ⟨w.heap.size, 6, none⟩ = some (.slice aE es.length kE) ∧ Hid (∀ g ∈ es.take k, g.may = true)) (fun i _ => es.length - (intOf i).toNat)
  case atStart => exact ⟨0, by omega, rfl, Below.refl _ _, by simp, by intro g hg; simp at hg⟩
  case round =>
    obtain ⟨k, hk, rfl, hbr, q6, hall⟩ := hrel
    have hBr := hide ((unhide HB).trans ((unhide hbr).mono (Nat.le_succ _)))
    by_cases hlt : k < es.length
    · obtain ⟨g, hgk⟩ : ∃ g, es[k]? = some g := ⟨es[k], List.getElem?_eq_getElem hlt⟩
      obtain ⟨b, o, hab, hgo, c0, c1, c2, c3, c4⟩ := unhide HE wr k g (unhide hBr) hgk
      subst hab
      have HW := hide (refEnt_cls g wr hgo)
      have HG := hide hgk
      clear HE HR HS HGood HCls HCol HCnt HRow hgk hgo
      go_wp2_with fail
      refine (unhide HW).mono ?_
      rintro e w2 ⟨p2, rfl, hb2⟩
      cases hm : g.may with
      | false =>
        rw [eEnt_none hm]
        have HN := hide (unhide HEnt g (List.mem_of_getElem? (unhide HG)) hm)
        have hc : clsOf none = 20 := rfl
        rw [hc]
        clear hm HEnt hc HW
        go_wp2
        go_ret
        exact ⟨MayPost.no (unhide HN), (unhide hBr).trans (hb2.mono (unhide hBr).size)⟩
      | true =>
        obtain ⟨by', hby⟩ := eEnt_some hm
        rw [hby]
        have hc : clsOf (some by') = 0 := rfl
        rw [hc]
        have HM2 := hide hm
        have q62 := (hb2.cell (p := ⟨w.heap.size, 6, none⟩) (lt_of_cell q6)).trans q6
        have hb3 := hide ((unhide hbr).trans (hb2.mono (by have := (unhide hbr).size; simp at this; omega)))
        clear hm hby hc HW HEnt c0 c1 c2 c3 c4
        go_wp2
        go_roundw
        case rel =>
          refine ⟨k + 1, by omega, by go_num, hb3, q62, ?_⟩
          intro t ht
          rw [List.take_add_one, unhide HG] at ht
          rcases List.mem_append.1 ht with ht | ht
          · exact unhide hall t ht
          · simp at ht; subst ht; exact unhide HM2
        case measure => simp [intOf]; omega
    · have hE1 : Hid (∀ g ∈ es, g.may = true) := fun g hg => unhide hall g (by rw [List.take_of_length_le (by omega)]; exact hg)
      have c16 : wr.cell? ⟨w.heap.size, 16, none⟩ = some (.int .u64 (rsq : Nat)) := below_box (unhide hbr) (Nat.lt_succ_self _) rfl
      have c17 : wr.cell? ⟨w.heap.size, 17, none⟩ = some (.int .i64 rcl) := below_box (unhide hbr) (Nat.lt_succ_self _) rfl
      have c18 : wr.cell? ⟨w.heap.size, 18, none⟩ = some (.slice aC cs.length kC) := below_box (unhide hbr) (Nat.lt_succ_self _) rfl
      have c19 : wr.cell? ⟨w.heap.size, 19, none⟩ = some (.slice aR rs.length kR) := below_box (unhide hbr) (Nat.lt_succ_self _) rfl
      have c20 : wr.cell? ⟨w.heap.size, 20, none⟩ = some (.int .i64 rct) := below_box (unhide hbr) (Nat.lt_succ_self _) rfl
      have c21 : wr.cell? ⟨w.heap.size, 21, none⟩ = some (.int .u64 (rix : Nat)) := below_box (unhide hbr) (Nat.lt_succ_self _) rfl
      clear HE HEnt hall
      have HB2 := hide ((unhide hBr).alloc (unhide hBr).size (.cells #[.int .u64 (rsq : Nat), .int .i64 rcl, .slice aC cs.length kC, .slice aR rs.length kR, .int .i64 rct, .int .u64 (rix : Nat)] 31))
      have HS2 := hide (unhide HS _ (unhide HB2))
      clear HS
      by_cases k1 : rcl < 0
      · have HN := hide (unhide HCls (by omega))
        clear HR HGood HCls HCol HCnt HRow
        go_wp2
        go_ret
        exact ⟨MayPost.no (unhide HN), unhide HB2⟩
      by_cases k2 : 100 < rcl
      · have HN := hide (unhide HCls (by omega))
        clear HR HGood HCls HCol HCnt HRow
        go_wp2
        go_ret
        exact ⟨MayPost.no (unhide HN), unhide HB2⟩
      by_cases k3 : (64 : Int) < (cs.length : Int)
      · have hlong : shortB cs 64 2000 = false := by
          unfold shortB
          rw [decide_eq_false (by omega), Bool.false_and]
        have HN := hide (unhide HCol hlong)
        clear hlong
        clear HR HGood HCls HCol HCnt HRow
        go_wp2
        go_ret
        exact ⟨MayPost.no (unhide HN), unhide HB2⟩
      by_cases k4 : rct < 0
      · have HN := hide (unhide HCnt (by omega))
        clear HR HGood HCls HCol HCnt HRow
        go_wp2
        go_ret
        exact ⟨MayPost.no (unhide HN), unhide HB2⟩
      by_cases k5 : 262144 < rct
      · have HN := hide (unhide HCnt (by omega))
        clear HR HGood HCls HCol HCnt HRow
        go_wp2
        go_ret
        exact ⟨MayPost.no (unhide HN), unhide HB2⟩
      cases hs : shortB cs 64 2000 with
      | false =>
        rw [hs] at HS2
        have HN := hide (unhide HCol hs)
        clear HR HGood HCls HCol HCnt HRow hs
        go_wp2_with (first | (go_at_call 16; refine (unhide HS2).mono ?_; rintro e w5 ⟨rfl, rfl⟩))
        go_ret
        exact ⟨MayPost.no (unhide HN), unhide HB2⟩
      | true =>
        rw [hs] at HS2
        have HG2 := hide (unhide HGood (unhide hE1) ⟨by omega, by omega⟩ ⟨by omega, by omega⟩ (short_cols hs))
        clear HGood HCls HCol HCnt hs hE1
        go_wp2_with (first | (go_at_call 16; refine (unhide HS2).mono ?_; rintro e w5 ⟨rfl, rfl⟩))
        go_loopw [7] (fun i wr' => ∃ k : Nat, k ≤ rs.length ∧ i = .int .i64 k ∧ Hid (Below w.heap.size w wr') ∧ wr.heap.size < wr'.heap.size ∧ wr'.cell? ⟨wr.heap.size, 3, none⟩ = some (.slice aR rs.length kR) ∧ Hid (∀ x ∈ rs.take k, ∃ a, eList eVal 64 x.2 = some a)) (fun i _ => rs.length - (intOf i).toNat)
        case atStart => exact ⟨0, by omega, rfl, unhide HB2, by simp, by simp, by intro g hg; simp at hg⟩
        case round =>
          obtain ⟨k', hk', rfl, hB3, hz3, q3, hall3⟩ := hrel
          by_cases hlt3 : k' < rs.length
          · obtain ⟨x, hx⟩ : ∃ g, rs[k']? = some g := ⟨rs[k'], List.getElem?_eq_getElem hlt3⟩
            obtain ⟨b, o, hab, c0, hcall⟩ := unhide HR _ k' x (unhide hB3) hx
            subst hab
            have HW := hide hcall
            have HG := hide hx
            clear HR HG2 hx hcall
            go_wp2_with fail
            refine (unhide HW).mono ?_
            rintro e w6 ⟨p6, rfl, hb6⟩
            cases hm : eList eVal 64 x.2 with
            | none =>
              have HN := hide (unhide HRow x (List.mem_of_getElem? (unhide HG)) hm)
              have hc : clsOf none = 20 := rfl
              rw [hc]
              clear hm HRow hc HW
              go_wp2
              go_ret
              exact ⟨MayPost.no (unhide HN), (unhide hB3).trans (hb6.mono (unhide hB3).size)⟩
            | some by' =>
              have hc : clsOf (some by') = 0 := rfl
              rw [hc]
              have HM2 : Hid (∃ a, eList eVal 64 x.2 = some a) := ⟨_, hm⟩
              have q63 := (hb6.cell (p := ⟨_, 3, none⟩) (lt_of_cell q3)).trans q3
              have hz6 := Nat.lt_of_lt_of_le hz3 hb6.size
              have hb7 := hide ((unhide hB3).trans (hb6.mono (unhide hB3).size))
              clear hm hc HW HRow c0
              go_wp2
              go_roundw
              case rel =>
                refine ⟨k' + 1, by omega, by go_num, hb7, hz6, q63, ?_⟩
                intro t ht
                rw [List.take_add_one, unhide HG] at ht
                rcases List.mem_append.1 ht with ht | ht
                · exact unhide hall3 t ht
                · simp at ht; subst ht; exact unhide HM2
              case measure => simp [intOf]; omega
          · have HY := hide (unhide HG2 (fun x hx => unhide hall3 x (by rw [List.take_of_length_le (by omega)]; exact hx)))
            clear HR HG2 HRow hall3
            go_wp2
            go_ret
            exact ⟨MayPost.yes (unhide HY), unhide hB3⟩

theorem may_any (kd fr tgt : Int) (tm ix lt : Nat) (aE : Option Addr) (kE : Nat) (cm rd : Nat) (ok : Bool) (off : Int) (vD : Value) (dn : Bool) (cl sq : Nat) (sql : ByteArray) (rsq : Nat) (rcl : Int) (aC : Option Addr) (kC : Nat) (aR : Option Addr) (kR : Nat) (rct : Int) (rix : Nat) (hint : Int) (es : List GE) (lb : List UInt8) (cs : List ByteArray) (rs : List (Value × List GV)) (w : World)
    (htm : tm < 18446744073709551616) (hix : ix < 18446744073709551616) (hlt : lt < 18446744073709551616) (hcm : cm < 18446744073709551616) (hrd : rd < 18446744073709551616) (hcl : cl < 18446744073709551616) (hsq : sq < 18446744073709551616) (hrsq : rsq < 18446744073709551616) (hrix : rix < 18446744073709551616) (hS : sql.size ≤ maxLen)
    (hM : MsgAt w w.heap.size (.slice aE es.length kE) vD (.slice aC cs.length kC) (.slice aR rs.length kR) es lb cs rs) (he : es.length ≤ 60) (hd : lb.length ≤ 3000) (hr : rs.length ≤ 40) :
    Calls Tryz.prog 7 #[.agg #[.int .i64 kd, .int .i64 fr, .int .i64 tgt, .int .u64 (tm : Nat), .int .u64 (ix : Nat), .int .u64 (lt : Nat), .slice aE es.length kE, .int .u64 (cm : Nat), .int .u64 (rd : Nat), .bool ok, .int .i64 off, vD, .bool dn, .int .u64 (cl : Nat), .int .u64 (sq : Nat), .string sql, .int .u64 (rsq : Nat), .int .i64 rcl, .slice aC cs.length kC, .slice aR rs.length kR, .int .i64 rct, .int .u64 (rix : Nat), .int .i64 hint]] w fun e w' => MayPost (eMsg (kd, fr, tgt, tm, ix, lt, es, cm, rd, ok, off, lb, dn, cl, sq, sql, (rsq, rcl, cs, rs.map Prod.snd, rct, rix), hint)) e ∧ Below w.heap.size w w' := by
  by_cases hg : (1 ≤ kd ∧ kd ≤ 8) ∧ (-1 ≤ fr ∧ fr ≤ 1000) ∧ (-1 ≤ tgt ∧ tgt ≤ 1000) ∧ (-1 ≤ hint ∧ hint ≤ 1000) ∧ (0 ≤ off ∧ off ≤ 262144) ∧ sql.size ≤ 2000
  · exact may_body kd fr tgt tm ix lt aE kE cm rd ok off vD dn cl sq sql rsq rcl aC kC aR kR rct rix hint es lb cs rs w hg htm hix hlt hcm hrd hcl hsq hrsq hrix hM he hd hr
  · exact may_head kd fr tgt tm ix lt aE kE cm rd ok off vD dn cl sq sql rsq rcl aC kC aR kR rct rix hint es lb cs rs w hS hg
end Go.Proofs.YtklclbegmpafpaaGreatDoor
