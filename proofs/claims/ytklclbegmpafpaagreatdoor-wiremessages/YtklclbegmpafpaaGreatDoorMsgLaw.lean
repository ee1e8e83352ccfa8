/- The walk of the statement WireMessages. -/
import Derived.Test.YtklclbegmpafpaaGreatDoorJMsgSameMsgOwn
namespace Go.Proofs.YtklclbegmpafpaaGreatDoor
open Go.RowKit Go.Lib

theorem range_below {w w' : World} {b o B : Nat} {cs : List Value} (h : w.rangeAt b o cs) (hb : Below B w w') (hB : b < B) : w'.rangeAt b o cs := fun j v hv => (hb.cell (p := ⟨b, o + j, none⟩) hB).trans (h j v hv)

set_option maxHeartbeats 6400000 in
set_option maxRecDepth 100000 in
/-- A message that may not be: it has no bytes. -/
theorem law_none (kd fr tgt : Int) (tm ix lt : Nat) (aE : Option Addr) (kE : Nat) (cm rd : Nat) (ok : Bool) (off : Int) (aD : Option Addr) (kD : Nat) (dn : Bool) (cl sq : Nat) (sql : ByteArray) (rsq : Nat) (rcl : Int) (aC : Option Addr) (kC : Nat) (aR : Option Addr) (kR : Nat) (rct : Int) (rix : Nat) (hint : Int) (es : List GE) (lb : List UInt8) (cs : List ByteArray) (rs : List (Value × List GV)) (at' : Int) (by' : Nat) (cut' : Int) (w : World) (htm : tm < 18446744073709551616) (hix : ix < 18446744073709551616) (hlt : lt < 18446744073709551616) (hcm : cm < 18446744073709551616) (hrd : rd < 18446744073709551616) (hcl : cl < 18446744073709551616) (hsq : sq < 18446744073709551616) (hrsq : rsq < 18446744073709551616) (hrix : rix < 18446744073709551616) (hS : sql.size ≤ maxLen)
    (hE : ET w) (hT : ST w) (hEs : SlE w w.heap.size (.slice aE es.length kE) es) (hD : lb.length ≤ maxLen) (hDb : lb.length ≤ 1000000000000 → RBp w w.heap.size (.slice aD lb.length kD) lb) (hCs : SlS w w.heap.size (.slice aC cs.length kC) cs) (hRs : SlR w w.heap.size (.slice aR rs.length kR) rs) (hnone : eMsg (kd, fr, tgt, tm, ix, lt, es, cm, rd, ok, off, lb, dn, cl, sq, sql, (rsq, rcl, cs, rs.map Prod.snd, rct, rix), hint) = none) :
    Calls Tryz.prog 3 #[.agg #[.int .i64 kd, .int .i64 fr, .int .i64 tgt, .int .u64 (tm : Nat), .int .u64 (ix : Nat), .int .u64 (lt : Nat), .slice aE es.length kE, .int .u64 (cm : Nat), .int .u64 (rd : Nat), .bool ok, .int .i64 off, .slice aD lb.length kD, .bool dn, .int .u64 (cl : Nat), .int .u64 (sq : Nat), .string sql, .int .u64 (rsq : Nat), .int .i64 rcl, .slice aC cs.length kC, .slice aR rs.length kR, .int .i64 rct, .int .u64 (rix : Nat), .int .i64 hint], .int .i64 at', .int .u8 by', .int .i64 cut'] w fun e w' => e = .returned (.bool true) ∧ Below w.heap.size w w' := by
  have hb0 : Below w.heap.size w (w.alloc (.cells #[.int .i64 kd, .int .i64 fr, .int .i64 tgt, .int .u64 (tm : Nat), .int .u64 (ix : Nat), .int .u64 (lt : Nat), .slice aE es.length kE, .int .u64 (cm : Nat), .int .u64 (rd : Nat), .bool ok, .int .i64 off, .slice aD lb.length kD, .bool dn, .int .u64 (cl : Nat), .int .u64 (sq : Nat), .string sql, .int .u64 (rsq : Nat), .int .i64 rcl, .slice aC cs.length kC, .slice aR rs.length kR, .int .i64 rct, .int .u64 (rix : Nat), .int .i64 hint] 33)) := (Below.refl _ _).alloc (Nat.le_refl _) _
  have HRg : Hid (∀ W, Below (w.heap.size + 1) (w.alloc (.cells #[.int .i64 kd, .int .i64 fr, .int .i64 tgt, .int .u64 (tm : Nat), .int .u64 (ix : Nat), .int .u64 (lt : Nat), .slice aE es.length kE, .int .u64 (cm : Nat), .int .u64 (rd : Nat), .bool ok, .int .i64 off, .slice aD lb.length kD, .bool dn, .int .u64 (cl : Nat), .int .u64 (sq : Nat), .string sql, .int .u64 (rsq : Nat), .int .i64 rcl, .slice aC cs.length kC, .slice aR rs.length kR, .int .i64 rct, .int .u64 (rix : Nat), .int .i64 hint] 33)) W → W.rangeAt w.heap.size 0 [.int .i64 kd, .int .i64 fr, .int .i64 tgt, .int .u64 (tm : Nat), .int .u64 (ix : Nat), .int .u64 (lt : Nat), .slice aE es.length kE, .int .u64 (cm : Nat), .int .u64 (rd : Nat), .bool ok, .int .i64 off, .slice aD lb.length kD, .bool dn, .int .u64 (cl : Nat), .int .u64 (sq : Nat), .string sql, .int .u64 (rsq : Nat), .int .i64 rcl, .slice aC cs.length kC, .slice aR rs.length kR, .int .i64 rct, .int .u64 (rix : Nat), .int .i64 hint]) := fun W hW => range_below (Blk.new w 33 #[.int .i64 kd, .int .i64 fr, .int .i64 tgt, .int .u64 (tm : Nat), .int .u64 (ix : Nat), .int .u64 (lt : Nat), .slice aE es.length kE, .int .u64 (cm : Nat), .int .u64 (rd : Nat), .bool ok, .int .i64 off, .slice aD lb.length kD, .bool dn, .int .u64 (cl : Nat), .int .u64 (sq : Nat), .string sql, .int .u64 (rsq : Nat), .int .i64 rcl, .slice aC cs.length kC, .slice aR rs.length kR, .int .i64 rct, .int .u64 (rix : Nat), .int .i64 hint]).range hW (Nat.lt_succ_self _)
  have HK := hide (known_any (w.alloc (.cells #[.int .i64 kd, .int .i64 fr, .int .i64 tgt, .int .u64 (tm : Nat), .int .u64 (ix : Nat), .int .u64 (lt : Nat), .slice aE es.length kE, .int .u64 (cm : Nat), .int .u64 (rd : Nat), .bool ok, .int .i64 off, .slice aD lb.length kD, .bool dn, .int .u64 (cl : Nat), .int .u64 (sq : Nat), .string sql, .int .u64 (rsq : Nat), .int .i64 rcl, .slice aC cs.length kC, .slice aR rs.length kR, .int .i64 rct, .int .u64 (rix : Nat), .int .i64 hint] 33)) (hE.alloc _) (hT.below hb0 hT.lt))
  have HE := hide (fun (W : World) (hW : Below w.heap.size w W) => hE.below hW hE.lt)
  have HSm := hide (fun (W : World) (hW : Below w.heap.size w W) => small_any kd fr tgt tm ix lt aE kE cm rd ok off aD lb.length kD dn cl sq sql rsq rcl (.slice aC cs.length kC) aR kR rct rix hint es cs rs W (hEs.later hW hW.size) hD hS (hCs.later hW hW.size) (hRs.later hW hW.size))
  have HAt : Hid (lb.length ≤ 3000 → (∀ x ∈ rs, x.2.length ≤ 70) → ∀ W, Below w.heap.size w W → MsgAt W W.heap.size (.slice aE es.length kE) (.slice aD lb.length kD) (.slice aC cs.length kC) (.slice aR rs.length kR) es lb cs rs) := fun h1 h2 W hW =>
    ⟨hEs.later hW hW.size, rb_later (hDb (by omega)) hW hW.size, hCs.later hW hW.size, hRs.later hW hW.size, fun x hx => Nat.le_trans (h2 x hx) (by decide)⟩
  have HP : Hid (∀ W, MsgAt W W.heap.size (.slice aE es.length kE) (.slice aD lb.length kD) (.slice aC cs.length kC) (.slice aR rs.length kR) es lb cs rs → Calls Tryz.prog 6 #[.agg #[.int .i64 kd, .int .i64 fr, .int .i64 tgt, .int .u64 (tm : Nat), .int .u64 (ix : Nat), .int .u64 (lt : Nat), .slice aE es.length kE, .int .u64 (cm : Nat), .int .u64 (rd : Nat), .bool ok, .int .i64 off, .slice aD lb.length kD, .bool dn, .int .u64 (cl : Nat), .int .u64 (sq : Nat), .string sql, .int .u64 (rsq : Nat), .int .i64 rcl, .slice aC cs.length kC, .slice aR rs.length kR, .int .i64 rct, .int .u64 (rix : Nat), .int .i64 hint]] W fun e w' => ∃ b pl, e = .returned (.tuple #[.slice none 0 0, ev b]) ∧ W.heap.size ≤ b ∧ ErrAt w' b pl 20 ∧ Below W.heap.size W w') := fun W hW => by
    refine (putMsg_any kd fr tgt tm ix lt _ cm rd ok off _ dn cl sq sql rsq rcl _ _ rct rix hint es lb cs rs W htm hix hlt hcm hrd hcl hsq hrsq hrix hS hW).mono fun e w' h => ?_
    rw [hnone] at h
    exact h
  have HMay : Hid (es.length ≤ 60 → lb.length ≤ 3000 → rs.length ≤ 40 → ∀ W, MsgAt W W.heap.size (.slice aE es.length kE) (.slice aD lb.length kD) (.slice aC cs.length kC) (.slice aR rs.length kR) es lb cs rs → Calls Tryz.prog 7 #[.agg #[.int .i64 kd, .int .i64 fr, .int .i64 tgt, .int .u64 (tm : Nat), .int .u64 (ix : Nat), .int .u64 (lt : Nat), .slice aE es.length kE, .int .u64 (cm : Nat), .int .u64 (rd : Nat), .bool ok, .int .i64 off, .slice aD lb.length kD, .bool dn, .int .u64 (cl : Nat), .int .u64 (sq : Nat), .string sql, .int .u64 (rsq : Nat), .int .i64 rcl, .slice aC cs.length kC, .slice aR rs.length kR, .int .i64 rct, .int .u64 (rix : Nat), .int .i64 hint]] W fun e w' => e = .returned (.bool false) ∧ Below W.heap.size W w') := fun h1 h2 h3 W hW => by
    refine (may_any kd fr tgt tm ix lt aE kE cm rd ok off _ dn cl sq sql rsq rcl aC kC aR kR rct rix hint es lb cs rs W htm hix hlt hcm hrd hcl hsq hrsq hrix hS hW h1 h2 h3).mono fun e w' ⟨⟨r, h4, h5, _⟩, h7⟩ => ?_
    cases r with
    | false => exact ⟨h4, h7⟩
    | true => obtain ⟨b, hb⟩ := h5 rfl; rw [hnone] at hb; cases hb
  have HB := hide hb0
  clear hE hT hEs hD hDb hCs hRs hb0 htm hix hlt hcm hrd hcl hsq hrsq hrix hS hnone
  go_enter Tryz.func3, Tryz.ntmps3
  go_upto_region 3 with (first | (go_at_call 4; refine (unhide HK).mono ?_; rintro e w1 ⟨rfl, hb1⟩))
  rw [World.size_alloc] at hb1
  have B1 := hide ((unhide HB).trans (hb1.mono (Nat.le_succ _)))
  have C1 := hide hb1
  clear hb1 HK
  refine wp_region_list ?_
  refine wpList_load_mid rfl 33 (.tmp 4) rfl w.heap.size 0 rfl [.int .i64 kd, .int .i64 fr, .int .i64 tgt, .int .u64 (tm : Nat), .int .u64 (ix : Nat), .int .u64 (lt : Nat), .slice aE es.length kE, .int .u64 (cm : Nat), .int .u64 (rd : Nat), .bool ok, .int .i64 off, .slice aD lb.length kD, .bool dn, .int .u64 (cl : Nat), .int .u64 (sq : Nat), .string sql, .int .u64 (rsq : Nat), .int .i64 rcl, .slice aC cs.length kC, .slice aR rs.length kR, .int .i64 rct, .int .u64 (rix : Nat), .int .i64 hint] _ (unhide HRg _ (unhide C1)) Tryz.underlying33 rfl Tryz.sizeM ?_
  go_wp2_with fail
  refine (unhide HSm _ (unhide B1)).mono ?_
  rintro e w2 ⟨⟨m, rfl, hm⟩, hb2⟩
  have s1 := (unhide C1).size
  simp at s1
  have B2 := hide ((unhide B1).trans (hb2.mono (unhide B1).size))
  have C2 := hide ((unhide C1).trans (hb2.mono (by omega)))
  clear hb2 HSm
  cases m
  · clear hm
    go_wp2
    go_ret
    exact ⟨rfl, unhide B2⟩
  · obtain ⟨m1, m2, _, _, m5, m6⟩ := hm rfl
    have HA := hide (unhide HAt m2 m6)
    have HM2 := hide (unhide HMay m1 m2 m5)
    have s2 := (unhide C2).size
    simp at s2
    clear hm HAt HMay m1 m2 m5 m6
    go_upto_region 5 with fail
    refine wp_region_list ?_
    refine wpList_load_mid rfl 33 (.tmp 4) rfl w.heap.size 0 rfl [.int .i64 kd, .int .i64 fr, .int .i64 tgt, .int .u64 (tm : Nat), .int .u64 (ix : Nat), .int .u64 (lt : Nat), .slice aE es.length kE, .int .u64 (cm : Nat), .int .u64 (rd : Nat), .bool ok, .int .i64 off, .slice aD lb.length kD, .bool dn, .int .u64 (cl : Nat), .int .u64 (sq : Nat), .string sql, .int .u64 (rsq : Nat), .int .i64 rcl, .slice aC cs.length kC, .slice aR rs.length kR, .int .i64 rct, .int .u64 (rix : Nat), .int .i64 hint] _ (unhide HRg _ (unhide C2)) Tryz.underlying33 rfl Tryz.sizeM ?_
    go_wp2_with fail
    refine (unhide HP _ (unhide HA _ (unhide B2))).mono ?_
    rintro e w3 ⟨b3, pl3, rfl, hz3, he3, hb3⟩
    have B3 := hide ((unhide B2).trans (hb3.mono (unhide B2).size))
    have C3 := hide ((unhide C2).trans (hb3.mono (by omega)))
    have E3 := hide he3
    have s3 := (unhide C3).size
    simp at s3
    clear hb3 he3 HP
    go_upto_region 6 with fail
    refine wp_region_list ?_
    refine wpList_load_mid rfl 33 (.tmp 4) rfl w.heap.size 0 rfl [.int .i64 kd, .int .i64 fr, .int .i64 tgt, .int .u64 (tm : Nat), .int .u64 (ix : Nat), .int .u64 (lt : Nat), .slice aE es.length kE, .int .u64 (cm : Nat), .int .u64 (rd : Nat), .bool ok, .int .i64 off, .slice aD lb.length kD, .bool dn, .int .u64 (cl : Nat), .int .u64 (sq : Nat), .string sql, .int .u64 (rsq : Nat), .int .i64 rcl, .slice aC cs.length kC, .slice aR rs.length kR, .int .i64 rct, .int .u64 (rix : Nat), .int .i64 hint] _ (unhide HRg _ (unhide C3)) Tryz.underlying33 rfl Tryz.sizeM ?_
    go_wp2_with fail
    refine (unhide HM2 _ (unhide HA _ (unhide B3))).mono ?_
    rintro e w4 ⟨rfl, hb4⟩
    have B4 := hide ((unhide B3).trans (hb4.mono (unhide B3).size))
    have HC := hide (class_at b3 pl3 20 w4 (unhide HE _ (unhide B4)) ((unhide E3).below hb4 (unhide E3).lt))
    clear hb4 HM2 HA
    go_wp2_with (first | (go_at_call 8; refine (unhide HC).mono ?_; rintro e w5 ⟨rfl, hb5⟩))
    go_ret
    exact ⟨rfl, (unhide B4).trans (hb5.mono (unhide B4).size)⟩
end Go.Proofs.YtklclbegmpafpaaGreatDoor
