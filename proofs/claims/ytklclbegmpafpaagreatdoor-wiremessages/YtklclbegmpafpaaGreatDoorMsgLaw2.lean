/- The walk of the statement WireMessages at a message that may be. -/
import Derived.Test.YtklclbegmpafpaaGreatDoorMsgLaw
import Derived.Deep.CutRange
namespace Go.Proofs.YtklclbegmpafpaaGreatDoor
open Go.RowKit Go.Lib

theorem msgAt_nil (w : World) : MsgAt w w.heap.size (.slice none 0 0) (.slice none 0 0) (.slice none 0 0) (.slice none 0 0) [] [] [] [] :=
  ⟨⟨by simp, by simp, none, 0, rfl, fun h => absurd rfl h⟩, ⟨by simp, .inl ⟨rfl, rfl⟩⟩, ⟨by simp, by simp, none, 0, rfl, fun h => absurd rfl h⟩, ⟨by simp, by simp, none, 0, rfl, fun h => absurd rfl h⟩, by simp⟩
theorem xor8 (a b : Nat) (ha : a < 256) (hb : b < 256) : bits BinOp.xor IntKind.u8 (a : Int) (b : Int) = ((a ^^^ b : Nat) : Int) := by
  have hx : a ^^^ b < 2 ^ 8 := Nat.xor_lt_two_pow (by omega) (by omega)
  have h1 : (BitVec.ofInt 8 (a : Int)).toNat = a := by
    rw [BitVec.ofInt_natCast, BitVec.toNat_ofNat]; exact Nat.mod_eq_of_lt (by omega)
  have h2 : (BitVec.ofInt 8 (b : Int)).toNat = b := by
    rw [BitVec.ofInt_natCast, BitVec.toNat_ofNat]; exact Nat.mod_eq_of_lt (by omega)
  show IntKind.u8.wrap ((BitVec.ofInt 8 (a : Int) ^^^ BitVec.ofInt 8 (b : Int)).toNat : Int) = _
  rw [BitVec.toNat_xor, h1, h2, IntKind.wrap_u8]
  omega
theorem own0 {w : World} {B : Nat} {v : Value} {l : List UInt8} (h : w.ownsRow B 5 1 v (0 + l.length) ([] ++ byteCells l)) : w.ownsRow B 5 1 v l.length (byteCells l) := by
  rwa [Nat.zero_add, List.nil_append] at h
theorem own_bytes {w : World} {B : Nat} {a : Option Addr} {k : Nat} {l : List UInt8} (h : w.ownsRow B 5 1 (.slice a l.length k) l.length (byteCells l)) (hne : l.length ≠ 0) :
    ∃ g, a = some ⟨g, 0, none⟩ ∧ (B ≤ g ∧ g < w.heap.size) ∧ l.length ≤ k ∧ k ≤ maxLen ∧ (∀ i, i < l.length → w.cell? ⟨g, i, none⟩ = some (.int .u8 ((l.getD i 0).toNat : Int))) ∧ ∀ i, i < l.length → w.frozen? ⟨g, i, none⟩ = false := by
  have hh := h
  obtain ⟨_, ⟨_, h2⟩ | ⟨g, cap, cur, h3, h4, h5, h6, h7, _⟩⟩ := h
  · exact absurd h2 hne
  · injection h3 with e1 _ e3
    subst e1 e3
    have hg : g < w.heap.size := by
      rcases Nat.lt_or_ge g w.heap.size with h' | h'
      · exact h'
      · rw [Array.getElem?_eq_none h'] at h5; cases h5
    refine ⟨g, rfl, ⟨h4, hg⟩, h6, h7, fun i hi => ?_, fun i _ => by simp [World.frozen?, h5]⟩
    have := hh.cells (g := g) rfl i (.int .u8 ((l.getD i 0).toNat : Int)) (by simp [byteCells, hi])
    rwa [addr_add] at this
theorem rb_set {w : World} {g n k : Nat} {l : List UInt8} {z : UInt8} (hc : ∀ i, i < l.length → w.cell? ⟨g, i, none⟩ = some (.int .u8 ((l.getD i 0).toNat : Int))) (hn : n < l.length) (hg : g < w.heap.size) (hk1 : l.length ≤ k) (hk2 : k ≤ maxLen) (hl : l.length ≤ 1000000000000) :
    RBp (w.setCell ⟨g, n, none⟩ (.int .u8 (z.toNat : Int))) (w.setCell ⟨g, n, none⟩ (.int .u8 (z.toNat : Int))).heap.size (.slice (some ⟨g, 0, none⟩) l.length k) (l.set n z) := by
  refine ⟨by simpa using hl, .inr ⟨g, 0, k, by simpa using hg, by simpa using hk1, hk2, by simp, fun i hi => ?_⟩⟩
  have hi' : i < l.length := by simpa using hi
  rw [Nat.zero_add]
  by_cases e : n = i
  · subst e
    rw [World.cell?_setCell_same _ _ _ (hc n hn)]
    simp [List.getD_eq_getElem?_getD, hn]
  · rw [World.cell?_setCell_other _ _ _ _ (by intro h; injection h; omega), hc i hi']
    simp [List.getD_eq_getElem?_getD, e]
theorem rb_swap {w w' : World} {E n k : Nat} {a : Option Addr} {l : List UInt8} (h : RBp w w.heap.size (.slice a n k) l) (hb : ∀ k, k ≠ E → w'.heap[k]? = w.heap[k]?) (hs : w'.heap.size = w.heap.size) (hE : ∀ ad, a = some ad → ad.block ≠ E) : RBp w' w'.heap.size (.slice a n k) l := by
  obtain ⟨h1, h2 | ⟨b, off, cap, hbB, hc, hm, h3, h4⟩⟩ := h
  · exact ⟨h1, .inl h2⟩
  · injection h3 with e1 e2 e3
    subst e1 e2 e3
    exact ⟨h1, .inr ⟨b, off, k, by rw [hs]; exact hbB, hc, hm, rfl, fun i hi => (World.cell?_of_block (w := w) (a := ⟨b, off + i, none⟩) (hb b (hE _ rfl))).trans (h4 i hi)⟩⟩
theorem rb_some {w : World} {B L k : Nat} {a : Option Addr} {l : List UInt8} (h : RBp w B (.slice a L k) l) (hn : 0 < l.length) : ∃ ad, a = some ad ∧ l.length ≤ k ∧ k ≤ maxLen := by
  obtain ⟨_, ⟨_, rfl⟩ | ⟨b, off, cap, _, hc, hm, h3, _⟩⟩ := h
  · simp at hn
  · injection h3 with e1 _ e3
    subst e1 e3
    exact ⟨_, rfl, hc, hm⟩
theorem rb_takeN {w : World} {B L k n : Nat} {a : Option Addr} {l : List UInt8} (h : RBp w B (.slice a L k) l) (hn : n ≤ l.length) : RBp w B (.slice a n k) (l.take n) := by
  obtain ⟨h1, ⟨h2, rfl⟩ | ⟨b, off, cap, hb, hc, hm, h3, h4⟩⟩ := h
  · injection h2 with e1 _ e3
    subst e1 e3
    have : n = 0 := by simpa using hn
    subst this
    exact ⟨by simp, .inl ⟨rfl, rfl⟩⟩
  · injection h3 with e1 _ e3
    subst e1 e3
    refine ⟨by simp; omega, .inr ⟨b, off, k, hb, by simp; omega, hm, by simp; omega, fun i hi => ?_⟩⟩
    have hi' : i < n ∧ i < l.length := by simp at hi; omega
    rw [h4 i hi'.2]
    simp [List.getD_eq_getElem?_getD, hi'.1]
set_option maxHeartbeats 6400000 in
set_option maxRecDepth 100000 in
theorem law_some (kd fr tgt : Int) (tm ix lt : Nat) (aE : Option Addr) (kE : Nat) (cm rd : Nat) (ok : Bool) (off : Int) (aD : Option Addr) (kD : Nat) (dn : Bool) (cl sq : Nat) (sql : ByteArray) (rsq : Nat) (rcl : Int) (aC : Option Addr) (kC : Nat) (aR : Option Addr) (kR : Nat) (rct : Int) (rix : Nat) (hint : Int) (es : List GE) (lb : List UInt8) (cs : List ByteArray) (rs : List (Value × List GV)) (at' : Int) (by' : Nat) (cut' : Int) (w : World) (htm : tm < 18446744073709551616) (hix : ix < 18446744073709551616) (hlt : lt < 18446744073709551616) (hcm : cm < 18446744073709551616) (hrd : rd < 18446744073709551616) (hcl : cl < 18446744073709551616) (hsq : sq < 18446744073709551616) (hrsq : rsq < 18446744073709551616) (hrix : rix < 18446744073709551616) (hS : sql.size ≤ maxLen)
    (hE : ET w) (hT : ST w) (hEs : SlE w w.heap.size (.slice aE es.length kE) es) (hD : lb.length ≤ maxLen) (hDb : lb.length ≤ 1000000000000 → RBp w w.heap.size (.slice aD lb.length kD) lb) (hCs : SlS w w.heap.size (.slice aC cs.length kC) cs) (hRs : SlR w w.heap.size (.slice aR rs.length kR) rs) (hby : by' < 256) (bs : List UInt8) (hsome : eMsg (kd, fr, tgt, tm, ix, lt, es, cm, rd, ok, off, lb, dn, cl, sq, sql, (rsq, rcl, cs, rs.map Prod.snd, rct, rix), hint) = some bs) :
    Calls Tryz.prog 3 #[.agg #[.int .i64 kd, .int .i64 fr, .int .i64 tgt, .int .u64 (tm : Nat), .int .u64 (ix : Nat), .int .u64 (lt : Nat), .slice aE es.length kE, .int .u64 (cm : Nat), .int .u64 (rd : Nat), .bool ok, .int .i64 off, .slice aD lb.length kD, .bool dn, .int .u64 (cl : Nat), .int .u64 (sq : Nat), .string sql, .int .u64 (rsq : Nat), .int .i64 rcl, .slice aC cs.length kC, .slice aR rs.length kR, .int .i64 rct, .int .u64 (rix : Nat), .int .i64 hint], .int .i64 at', .int .u8 by', .int .i64 cut'] w fun e w' => e = .returned (.bool true) ∧ Below w.heap.size w w' := by
  have hV : ∀ x ∈ rs.map Prod.snd, ∀ g ∈ x, g.ok := by
    intro x hx
    obtain ⟨y, hy, rfl⟩ := List.mem_map.1 hx
    exact (hRs.2.1 y hy).ok
  have hvM : vMsg (kd, fr, tgt, tm, ix, lt, es, cm, rd, ok, off, lb, dn, cl, sq, sql, (rsq, rcl, cs, rs.map Prod.snd, rct, rix), hint) := ⟨trivial, trivial, trivial, htm, hix, hlt, hEs.2.1, hcm, hrd, trivial, trivial, trivial, trivial, hcl, hsq, hS, ⟨hrsq, trivial, hCs.2.1, hV, trivial, hrix⟩, trivial⟩
  have hlen : bs.length ≤ 130693014 := codec_msg.len _ bs hvM hsome
  have hback : rdMsg bs (.ok 0) = ((kd, fr, tgt, tm, ix, lt, es, cm, rd, ok, off, lb, dn, cl, sq, sql, (rsq, rcl, cs, rs.map Prod.snd, rct, rix), hint), .ok bs.length) := by
    have := codec_msg.back bs 0 _ bs [] hvM hsome (by simp) (Nat.zero_le _)
    rwa [Nat.zero_add] at this
  have hinv := eMsg_inv hsome
  have hb0 : Below w.heap.size w (w.alloc (.cells #[.int .i64 kd, .int .i64 fr, .int .i64 tgt, .int .u64 (tm : Nat), .int .u64 (ix : Nat), .int .u64 (lt : Nat), .slice aE es.length kE, .int .u64 (cm : Nat), .int .u64 (rd : Nat), .bool ok, .int .i64 off, .slice aD lb.length kD, .bool dn, .int .u64 (cl : Nat), .int .u64 (sq : Nat), .string sql, .int .u64 (rsq : Nat), .int .i64 rcl, .slice aC cs.length kC, .slice aR rs.length kR, .int .i64 rct, .int .u64 (rix : Nat), .int .i64 hint] 33)) := (Below.refl _ _).alloc (Nat.le_refl _) _
  have HRg : Hid (∀ W, Below (w.heap.size + 1) (w.alloc (.cells #[.int .i64 kd, .int .i64 fr, .int .i64 tgt, .int .u64 (tm : Nat), .int .u64 (ix : Nat), .int .u64 (lt : Nat), .slice aE es.length kE, .int .u64 (cm : Nat), .int .u64 (rd : Nat), .bool ok, .int .i64 off, .slice aD lb.length kD, .bool dn, .int .u64 (cl : Nat), .int .u64 (sq : Nat), .string sql, .int .u64 (rsq : Nat), .int .i64 rcl, .slice aC cs.length kC, .slice aR rs.length kR, .int .i64 rct, .int .u64 (rix : Nat), .int .i64 hint] 33)) W → W.rangeAt w.heap.size 0 [.int .i64 kd, .int .i64 fr, .int .i64 tgt, .int .u64 (tm : Nat), .int .u64 (ix : Nat), .int .u64 (lt : Nat), .slice aE es.length kE, .int .u64 (cm : Nat), .int .u64 (rd : Nat), .bool ok, .int .i64 off, .slice aD lb.length kD, .bool dn, .int .u64 (cl : Nat), .int .u64 (sq : Nat), .string sql, .int .u64 (rsq : Nat), .int .i64 rcl, .slice aC cs.length kC, .slice aR rs.length kR, .int .i64 rct, .int .u64 (rix : Nat), .int .i64 hint]) := fun W hW => range_below (Blk.new w 33 #[.int .i64 kd, .int .i64 fr, .int .i64 tgt, .int .u64 (tm : Nat), .int .u64 (ix : Nat), .int .u64 (lt : Nat), .slice aE es.length kE, .int .u64 (cm : Nat), .int .u64 (rd : Nat), .bool ok, .int .i64 off, .slice aD lb.length kD, .bool dn, .int .u64 (cl : Nat), .int .u64 (sq : Nat), .string sql, .int .u64 (rsq : Nat), .int .i64 rcl, .slice aC cs.length kC, .slice aR rs.length kR, .int .i64 rct, .int .u64 (rix : Nat), .int .i64 hint]).range hW (Nat.lt_succ_self _)
  have HK := hide (known_any (w.alloc (.cells #[.int .i64 kd, .int .i64 fr, .int .i64 tgt, .int .u64 (tm : Nat), .int .u64 (ix : Nat), .int .u64 (lt : Nat), .slice aE es.length kE, .int .u64 (cm : Nat), .int .u64 (rd : Nat), .bool ok, .int .i64 off, .slice aD lb.length kD, .bool dn, .int .u64 (cl : Nat), .int .u64 (sq : Nat), .string sql, .int .u64 (rsq : Nat), .int .i64 rcl, .slice aC cs.length kC, .slice aR rs.length kR, .int .i64 rct, .int .u64 (rix : Nat), .int .i64 hint] 33)) (hE.alloc _) (hT.below hb0 hT.lt))
  have HE := hide (fun (W : World) (hW : Below w.heap.size w W) => hE.below hW hE.lt)
  have HSm := hide (fun (W : World) (hW : Below w.heap.size w W) => small_any kd fr tgt tm ix lt aE kE cm rd ok off aD lb.length kD dn cl sq sql rsq rcl (.slice aC cs.length kC) aR kR rct rix hint es cs rs W (hEs.later hW hW.size) hD hS (hCs.later hW hW.size) (hRs.later hW hW.size))
  have HAt : Hid (lb.length ≤ 3000 → (∀ x ∈ rs, x.2.length ≤ 70) → ∀ W, Below w.heap.size w W → MsgAt W W.heap.size (.slice aE es.length kE) (.slice aD lb.length kD) (.slice aC cs.length kC) (.slice aR rs.length kR) es lb cs rs) := fun h1 h2 W hW =>
    ⟨hEs.later hW hW.size, rb_later (hDb (by omega)) hW hW.size, hCs.later hW hW.size, hRs.later hW hW.size, fun x hx => Nat.le_trans (h2 x hx) (by decide)⟩
  have HP : Hid (∀ W, MsgAt W W.heap.size (.slice aE es.length kE) (.slice aD lb.length kD) (.slice aC cs.length kC) (.slice aR rs.length kR) es lb cs rs → Calls Tryz.prog 6 #[.agg #[.int .i64 kd, .int .i64 fr, .int .i64 tgt, .int .u64 (tm : Nat), .int .u64 (ix : Nat), .int .u64 (lt : Nat), .slice aE es.length kE, .int .u64 (cm : Nat), .int .u64 (rd : Nat), .bool ok, .int .i64 off, .slice aD lb.length kD, .bool dn, .int .u64 (cl : Nat), .int .u64 (sq : Nat), .string sql, .int .u64 (rsq : Nat), .int .i64 rcl, .slice aC cs.length kC, .slice aR rs.length kR, .int .i64 rct, .int .u64 (rix : Nat), .int .i64 hint]] W fun e w' => ∃ a k, e = .returned (.tuple #[.slice a bs.length k, .nilIface]) ∧ RBp w' w'.heap.size (.slice a bs.length k) bs ∧ Below W.heap.size W w') := fun W hW => by
    refine (putMsg_any kd fr tgt tm ix lt _ cm rd ok off _ dn cl sq sql rsq rcl _ _ rct rix hint es lb cs rs W htm hix hlt hcm hrd hcl hsq hrsq hrix hS hW).mono fun e w' h => ?_
    rw [hsome] at h
    obtain ⟨a, k, h1, h2, h3⟩ := h
    exact ⟨a, k, h1, rb_own h2 (by omega), h3⟩
  have HMay : Hid (es.length ≤ 60 → lb.length ≤ 3000 → rs.length ≤ 40 → ∀ W, MsgAt W W.heap.size (.slice aE es.length kE) (.slice aD lb.length kD) (.slice aC cs.length kC) (.slice aR rs.length kR) es lb cs rs → Calls Tryz.prog 7 #[.agg #[.int .i64 kd, .int .i64 fr, .int .i64 tgt, .int .u64 (tm : Nat), .int .u64 (ix : Nat), .int .u64 (lt : Nat), .slice aE es.length kE, .int .u64 (cm : Nat), .int .u64 (rd : Nat), .bool ok, .int .i64 off, .slice aD lb.length kD, .bool dn, .int .u64 (cl : Nat), .int .u64 (sq : Nat), .string sql, .int .u64 (rsq : Nat), .int .i64 rcl, .slice aC cs.length kC, .slice aR rs.length kR, .int .i64 rct, .int .u64 (rix : Nat), .int .i64 hint]] W fun e w' => e = .returned (.bool true) ∧ Below W.heap.size W w') := fun h1 h2 h3 W hW => by
    refine (may_any kd fr tgt tm ix lt aE kE cm rd ok off _ dn cl sq sql rsq rcl aC kC aR kR rct rix hint es lb cs rs W htm hix hlt hcm hrd hcl hsq hrsq hrix hS hW h1 h2 h3).mono fun e w' ⟨⟨r, h4, _, h6⟩, h7⟩ => ?_
    cases r with
    | true => exact ⟨h4, h7⟩
    | false => have := h6 rfl; rw [hsome] at this; cases this
  have HMsg : Hid (∀ W v, Below w.heap.size w W → RBp W W.heap.size v bs → Calls Tryz.prog 9 #[v] W fun e w' => ∃ a6 m6 k6 aF mF kF a2 m2 k2 a3 m3 k3, e = .returned (.tuple #[.agg #[.int .i64 kd, .int .i64 fr, .int .i64 tgt, .int .u64 (tm : Nat), .int .u64 (ix : Nat), .int .u64 (lt : Nat), .slice a6 m6 k6, .int .u64 (cm : Nat), .int .u64 (rd : Nat), .bool ok, .int .i64 off, .slice aF mF kF, .bool dn, .int .u64 (cl : Nat), .int .u64 (sq : Nat), .string sql, .int .u64 (rsq : Nat), .int .i64 rcl, .slice a2 m2 k2, .slice a3 m3 k3, .int .i64 rct, .int .u64 (rix : Nat), .int .i64 hint], .nilIface]) ∧ OwnM w' W.heap.size (.slice a6 m6 k6) (.slice aF mF kF) (.slice a2 m2 k2) (.slice a3 m3 k3) es lb cs (rs.map Prod.snd) ∧ Below W.heap.size W w') := fun W v hW hv =>
    msg_good kd fr tgt tm ix lt es cm rd ok off lb dn cl sq sql rsq rcl cs (rs.map Prod.snd) rct rix hint v bs W (hE.below hW hE.lt) hv hback
  have HOwn : Hid (∀ W B vE vD vC vR, OwnM W B vE vD vC vR es lb cs (rs.map Prod.snd) → ∃ rs' : List (Value × List GV), rs'.map Prod.snd = rs.map Prod.snd ∧ MsgAt W W.heap.size vE vD vC vR es lb cs rs') := fun W B vE vD vC vR h => h.at hinv hEs.2.1 hCs.2.1 hV
  have HB := hide hb0
  clear hE hT hEs hD hDb hCs hRs hb0 htm hix hlt hcm hrd hcl hsq hrsq hrix hS hsome hV hvM hback hinv
  go_enter Tryz.func3, Tryz.ntmps3
  go_upto_region 3 with (first | (go_at_call 4; refine (unhide HK).mono ?_; rintro e w1 ⟨rfl, hb1⟩))
  rw [World.size_alloc] at hb1
  have B1 := hide ((unhide HB).trans (hb1.mono (Nat.le_succ _)))
  have C1 := hide hb1
  clear hb1 HK
  refine wp_region_list ?_
  refine wpList_load_mid rfl 33 (.tmp 4) rfl w.heap.size 0 rfl [.int .i64 kd, .int .i64 fr, .int .i64 tgt, .int .u64 (tm : Nat), .int .u64 (ix : Nat), .int .u64 (lt : Nat), .slice aE es.length kE, .int .u64 (cm : Nat), .int .u64 (rd : Nat), .bool ok, .int .i64 off, .slice aD lb.length kD, .bool dn, .int .u64 (cl : Nat), .int .u64 (sq : Nat), .string sql, .int .u64 (rsq : Nat), .int .i64 rcl, .slice aC cs.length kC, .slice aR rs.length kR, .int .i64 rct, .int .u64 (rix : Nat), .int .i64 hint] _ (unhide HRg _ (unhide C1)) Tryz.underlying33 rfl Tryz.sizeM ?_
  go_wp2_with fail
  refine (unhide HSm _ (unhide B1)).mono ?_
  rintro e w2 ⟨⟨m, rfl, hm⟩, hb2⟩
  have s1 := (unhide C1).size
  simp at s1
  have B2 := hide ((unhide B1).trans (hb2.mono (unhide B1).size))
  have C2 := hide ((unhide C1).trans (hb2.mono (by omega)))
  clear hb2 HSm
  cases m
  · clear hm
    go_wp2
    go_ret
    exact ⟨rfl, unhide B2⟩
  · obtain ⟨m1, m2, -, -, m5, m6⟩ := hm rfl
    have HA := hide (unhide HAt m2 m6)
    have HM2 := hide (unhide HMay m1 m2 m5)
    have s2 := (unhide C2).size
    simp at s2
    clear hm HAt HMay m1 m2 m5 m6
    go_upto_region 5 with fail
    refine wp_region_list ?_
    refine wpList_load_mid rfl 33 (.tmp 4) rfl w.heap.size 0 rfl [.int .i64 kd, .int .i64 fr, .int .i64 tgt, .int .u64 (tm : Nat), .int .u64 (ix : Nat), .int .u64 (lt : Nat), .slice aE es.length kE, .int .u64 (cm : Nat), .int .u64 (rd : Nat), .bool ok, .int .i64 off, .slice aD lb.length kD, .bool dn, .int .u64 (cl : Nat), .int .u64 (sq : Nat), .string sql, .int .u64 (rsq : Nat), .int .i64 rcl, .slice aC cs.length kC, .slice aR rs.length kR, .int .i64 rct, .int .u64 (rix : Nat), .int .i64 hint] _ (unhide HRg _ (unhide C2)) Tryz.underlying33 rfl Tryz.sizeM ?_
    go_wp2_with fail
    refine (unhide HP _ (unhide HA _ (unhide B2))).mono ?_
    rintro e w3 ⟨a3', k3', rfl, hr3, hb3⟩
    have B3 := hide ((unhide B2).trans (hb3.mono (unhide B2).size))
    have C3 := hide ((unhide C2).trans (hb3.mono (by omega)))
    have R3 := hide hr3
    have s3 := (unhide C3).size
    simp at s3
    clear hb3 hr3 HP
    go_upto_region 6 with fail
    refine wp_region_list ?_
    refine wpList_load_mid rfl 33 (.tmp 4) rfl w.heap.size 0 rfl [.int .i64 kd, .int .i64 fr, .int .i64 tgt, .int .u64 (tm : Nat), .int .u64 (ix : Nat), .int .u64 (lt : Nat), .slice aE es.length kE, .int .u64 (cm : Nat), .int .u64 (rd : Nat), .bool ok, .int .i64 off, .slice aD lb.length kD, .bool dn, .int .u64 (cl : Nat), .int .u64 (sq : Nat), .string sql, .int .u64 (rsq : Nat), .int .i64 rcl, .slice aC cs.length kC, .slice aR rs.length kR, .int .i64 rct, .int .u64 (rix : Nat), .int .i64 hint] _ (unhide HRg _ (unhide C3)) Tryz.underlying33 rfl Tryz.sizeM ?_
    go_wp2_with fail
    refine (unhide HM2 _ (unhide HA _ (unhide B3))).mono ?_
    rintro e w4 ⟨rfl, hb4⟩
    have B4 := hide ((unhide B3).trans (hb4.mono (unhide B3).size))
    have C4 := hide ((unhide C3).trans (hb4.mono (by omega)))
    have R4 := hide (rb_later (unhide R3) hb4 hb4.size)
    have s4 := (unhide C4).size
    simp at s4
    clear hb4 HM2 R3
    go_upto_region 10 with fail
    go_wp2_with (first | (at_builtin; refine wpList_append_rb rfl (.const (.slice none 0 0)) (.tmp 37) rfl w4.heap.size _ 0 [] rfl (World.ownsRow_nil _ _ _ _) _ _ bs rfl (unhide R4) (by omega) (by omega) (Nat.le_refl _) ?_; intro v5 w5 ho5 _ hb5; have O5 := hide ho5; clear ho5))
    have r5 : RBp w5 w5.heap.size v5 bs := by
      have := unhide O5
      rw [Nat.zero_add, List.nil_append] at this
      exact rb_own this (by omega)
    have B5 := hide ((unhide B4).trans (hb5.mono (unhide B4).size))
    have C5 := hide ((unhide C4).trans (hb5.mono (by omega)))
    have R5 := hide (rb_later (unhide R4) hb5 hb5.size)
    have s5 := hb5.size
    have M5 := hide (unhide HMsg w5 v5 (unhide B5) r5)
    clear r5 O5 hb5 R4
    refine (unhide M5).mono ?_
    rintro e w6 ⟨a6, m6, k6, aF, mF, kF, a2, m2, k2, a3, m3, k3, rfl, own6, hb6⟩
    have B6 := hide ((unhide B5).trans (hb6.mono (unhide B5).size))
    have C6 := hide ((unhide C5).trans (hb6.mono (by omega)))
    have R6 := hide (rb_later (unhide R5) hb6 hb6.size)
    have s6 := hb6.size
    have N6 := hide (Blk.new w6 33 #[.int .i64 0, .int .i64 0, .int .i64 0, .int .u64 0, .int .u64 0, .int .u64 0, .slice none 0 0, .int .u64 0, .int .u64 0, .bool false, .int .i64 0, .slice none 0 0, .bool false, .int .u64 0, .int .u64 0, .string ⟨#[]⟩, .int .u64 0, .int .i64 0, .slice none 0 0, .slice none 0 0, .int .i64 0, .int .u64 0, .int .i64 0])
    have hW7 : Below w6.heap.size w6 ((w6.alloc (.cells #[.int .i64 0, .int .i64 0, .int .i64 0, .int .u64 0, .int .u64 0, .int .u64 0, .slice none 0 0, .int .u64 0, .int .u64 0, .bool false, .int .i64 0, .slice none 0 0, .bool false, .int .u64 0, .int .u64 0, .string ⟨#[]⟩, .int .u64 0, .int .i64 0, .slice none 0 0, .slice none 0 0, .int .i64 0, .int .u64 0, .int .i64 0] 33)).setCells w6.heap.size 0 [.int .i64 kd, .int .i64 fr, .int .i64 tgt, .int .u64 (tm : Nat), .int .u64 (ix : Nat), .int .u64 (lt : Nat), .slice a6 m6 k6, .int .u64 (cm : Nat), .int .u64 (rd : Nat), .bool ok, .int .i64 off, .slice aF mF kF, .bool dn, .int .u64 (cl : Nat), .int .u64 (sq : Nat), .string sql, .int .u64 (rsq : Nat), .int .i64 rcl, .slice a2 m2 k2, .slice a3 m3 k3, .int .i64 rct, .int .u64 (rix : Nat), .int .i64 hint]) := Below.over (Nat.le_refl _) [.int .i64 kd, .int .i64 fr, .int .i64 tgt, .int .u64 (tm : Nat), .int .u64 (ix : Nat), .int .u64 (lt : Nat), .slice a6 m6 k6, .int .u64 (cm : Nat), .int .u64 (rd : Nat), .bool ok, .int .i64 off, .slice aF mF kF, .bool dn, .int .u64 (cl : Nat), .int .u64 (sq : Nat), .string sql, .int .u64 (rsq : Nat), .int .i64 rcl, .slice a2 m2 k2, .slice a3 m3 k3, .int .i64 rct, .int .u64 (rix : Nat), .int .i64 hint] _ 0 ((Below.refl _ _).alloc (Nat.le_refl _) _)
    have X7 := hide (show ((w6.alloc (.cells #[.int .i64 0, .int .i64 0, .int .i64 0, .int .u64 0, .int .u64 0, .int .u64 0, .slice none 0 0, .int .u64 0, .int .u64 0, .bool false, .int .i64 0, .slice none 0 0, .bool false, .int .u64 0, .int .u64 0, .string ⟨#[]⟩, .int .u64 0, .int .i64 0, .slice none 0 0, .slice none 0 0, .int .i64 0, .int .u64 0, .int .i64 0] 33)).setCells w6.heap.size 0 [.int .i64 kd, .int .i64 fr, .int .i64 tgt, .int .u64 (tm : Nat), .int .u64 (ix : Nat), .int .u64 (lt : Nat), .slice a6 m6 k6, .int .u64 (cm : Nat), .int .u64 (rd : Nat), .bool ok, .int .i64 off, .slice aF mF kF, .bool dn, .int .u64 (cl : Nat), .int .u64 (sq : Nat), .string sql, .int .u64 (rsq : Nat), .int .i64 rcl, .slice a2 m2 k2, .slice a3 m3 k3, .int .i64 rct, .int .u64 (rix : Nat), .int .i64 hint]).rangeAt w6.heap.size 0 [.int .i64 kd, .int .i64 fr, .int .i64 tgt, .int .u64 (tm : Nat), .int .u64 (ix : Nat), .int .u64 (lt : Nat), .slice a6 m6 k6, .int .u64 (cm : Nat), .int .u64 (rd : Nat), .bool ok, .int .i64 off, .slice aF mF kF, .bool dn, .int .u64 (cl : Nat), .int .u64 (sq : Nat), .string sql, .int .u64 (rsq : Nat), .int .i64 rcl, .slice a2 m2 k2, .slice a3 m3 k3, .int .i64 rct, .int .u64 (rix : Nat), .int .i64 hint] from World.rangeAt_setCells_same _ w6.heap.size 0 [.int .i64 kd, .int .i64 fr, .int .i64 tgt, .int .u64 (tm : Nat), .int .u64 (ix : Nat), .int .u64 (lt : Nat), .slice a6 m6 k6, .int .u64 (cm : Nat), .int .u64 (rd : Nat), .bool ok, .int .i64 off, .slice aF mF kF, .bool dn, .int .u64 (cl : Nat), .int .u64 (sq : Nat), .string sql, .int .u64 (rsq : Nat), .int .i64 rcl, .slice a2 m2 k2, .slice a3 m3 k3, .int .i64 rct, .int .u64 (rix : Nat), .int .i64 hint] ((unhide N6).there rfl))
    have T7 := hide (show ((w6.alloc (.cells #[.int .i64 0, .int .i64 0, .int .i64 0, .int .u64 0, .int .u64 0, .int .u64 0, .slice none 0 0, .int .u64 0, .int .u64 0, .bool false, .int .i64 0, .slice none 0 0, .bool false, .int .u64 0, .int .u64 0, .string ⟨#[]⟩, .int .u64 0, .int .i64 0, .slice none 0 0, .slice none 0 0, .int .i64 0, .int .u64 0, .int .i64 0] 33)).setCells w6.heap.size 0 [.int .i64 kd, .int .i64 fr, .int .i64 tgt, .int .u64 (tm : Nat), .int .u64 (ix : Nat), .int .u64 (lt : Nat), .slice a6 m6 k6, .int .u64 (cm : Nat), .int .u64 (rd : Nat), .bool ok, .int .i64 off, .slice aF mF kF, .bool dn, .int .u64 (cl : Nat), .int .u64 (sq : Nat), .string sql, .int .u64 (rsq : Nat), .int .i64 rcl, .slice a2 m2 k2, .slice a3 m3 k3, .int .i64 rct, .int .u64 (rix : Nat), .int .i64 hint]).there w6.heap.size 0 23 from World.there_setCells ((unhide N6).there rfl) _ _ _)
    have B7 := hide ((unhide B6).trans (hW7.mono (unhide B6).size))
    have C7 := hide ((unhide C6).trans (hW7.mono (by omega)))
    have R7 := hide (rb_later (unhide R6) hW7 hW7.size)
    have O7 : Hid (OwnM ((w6.alloc (.cells #[.int .i64 0, .int .i64 0, .int .i64 0, .int .u64 0, .int .u64 0, .int .u64 0, .slice none 0 0, .int .u64 0, .int .u64 0, .bool false, .int .i64 0, .slice none 0 0, .bool false, .int .u64 0, .int .u64 0, .string ⟨#[]⟩, .int .u64 0, .int .i64 0, .slice none 0 0, .slice none 0 0, .int .i64 0, .int .u64 0, .int .i64 0] 33)).setCells w6.heap.size 0 [.int .i64 kd, .int .i64 fr, .int .i64 tgt, .int .u64 (tm : Nat), .int .u64 (ix : Nat), .int .u64 (lt : Nat), .slice a6 m6 k6, .int .u64 (cm : Nat), .int .u64 (rd : Nat), .bool ok, .int .i64 off, .slice aF mF kF, .bool dn, .int .u64 (cl : Nat), .int .u64 (sq : Nat), .string sql, .int .u64 (rsq : Nat), .int .i64 rcl, .slice a2 m2 k2, .slice a3 m3 k3, .int .i64 rct, .int .u64 (rix : Nat), .int .i64 hint]) w5.heap.size (.slice a6 m6 k6) (.slice aF mF kF) (.slice a2 m2 k2) (.slice a3 m3 k3) es lb cs (rs.map Prod.snd)) := own6.hi (((Hi.refl _ w6).alloc _).overNew _ _ _ (Nat.le_refl _))
    have s7 : w6.heap.size < ((w6.alloc (.cells #[.int .i64 0, .int .i64 0, .int .i64 0, .int .u64 0, .int .u64 0, .int .u64 0, .slice none 0 0, .int .u64 0, .int .u64 0, .bool false, .int .i64 0, .slice none 0 0, .bool false, .int .u64 0, .int .u64 0, .string ⟨#[]⟩, .int .u64 0, .int .i64 0, .slice none 0 0, .slice none 0 0, .int .i64 0, .int .u64 0, .int .i64 0] 33)).setCells w6.heap.size 0 [.int .i64 kd, .int .i64 fr, .int .i64 tgt, .int .u64 (tm : Nat), .int .u64 (ix : Nat), .int .u64 (lt : Nat), .slice a6 m6 k6, .int .u64 (cm : Nat), .int .u64 (rd : Nat), .bool ok, .int .i64 off, .slice aF mF kF, .bool dn, .int .u64 (cl : Nat), .int .u64 (sq : Nat), .string sql, .int .u64 (rsq : Nat), .int .i64 rcl, .slice a2 m2 k2, .slice a3 m3 k3, .int .i64 rct, .int .u64 (rix : Nat), .int .i64 hint]).heap.size := by
      rw [show ((w6.alloc (.cells #[.int .i64 0, .int .i64 0, .int .i64 0, .int .u64 0, .int .u64 0, .int .u64 0, .slice none 0 0, .int .u64 0, .int .u64 0, .bool false, .int .i64 0, .slice none 0 0, .bool false, .int .u64 0, .int .u64 0, .string ⟨#[]⟩, .int .u64 0, .int .i64 0, .slice none 0 0, .slice none 0 0, .int .i64 0, .int .u64 0, .int .i64 0] 33)).setCells w6.heap.size 0 [.int .i64 kd, .int .i64 fr, .int .i64 tgt, .int .u64 (tm : Nat), .int .u64 (ix : Nat), .int .u64 (lt : Nat), .slice a6 m6 k6, .int .u64 (cm : Nat), .int .u64 (rd : Nat), .bool ok, .int .i64 off, .slice aF mF kF, .bool dn, .int .u64 (cl : Nat), .int .u64 (sq : Nat), .string sql, .int .u64 (rsq : Nat), .int .i64 rcl, .slice a2 m2 k2, .slice a3 m3 k3, .int .i64 rct, .int .u64 (rix : Nat), .int .i64 hint]).heap.size = _ from over_size w6.heap.size [.int .i64 kd, .int .i64 fr, .int .i64 tgt, .int .u64 (tm : Nat), .int .u64 (ix : Nat), .int .u64 (lt : Nat), .slice a6 m6 k6, .int .u64 (cm : Nat), .int .u64 (rd : Nat), .bool ok, .int .i64 off, .slice aF mF kF, .bool dn, .int .u64 (cl : Nat), .int .u64 (sq : Nat), .string sql, .int .u64 (rsq : Nat), .int .i64 rcl, .slice a2 m2 k2, .slice a3 m3 k3, .int .i64 rct, .int .u64 (rix : Nat), .int .i64 hint] _ 0]; simp
    clear own6 hb6 R5 R6 HMsg M5
    rename_i K6 hK6
    refine hK6 _ _ ?_
    refine wpList_plain rfl (fun K hK => ?_)
    go_simp
    refine hK _ _ ?_
    clear hK K
    refine wpList_plain rfl (fun K hK => ?_)
    go_simp
    refine hK _ _ ?_
    clear hK K
    refine wpList_plain rfl (fun K hK => ?_)
    go_simp
    refine hK _ _ ?_
    clear hK K
    refine wpList_alloc_new rfl 33 rfl #[.int .i64 0, .int .i64 0, .int .i64 0, .int .u64 0, .int .u64 0, .int .u64 0, .slice none 0 0, .int .u64 0, .int .u64 0, .bool false, .int .i64 0, .slice none 0 0, .bool false, .int .u64 0, .int .u64 0, .string ⟨#[]⟩, .int .u64 0, .int .i64 0, .slice none 0 0, .slice none 0 0, .int .i64 0, .int .u64 0, .int .i64 0] (zero_of_info Tryz.zeroM).1 ?_
    refine wpList_store_mid rfl 33 (.tmp 11) (.tmp 40) rfl w6.heap.size 0 #[.int .i64 kd, .int .i64 fr, .int .i64 tgt, .int .u64 (tm : Nat), .int .u64 (ix : Nat), .int .u64 (lt : Nat), .slice a6 m6 k6, .int .u64 (cm : Nat), .int .u64 (rd : Nat), .bool ok, .int .i64 off, .slice aF mF kF, .bool dn, .int .u64 (cl : Nat), .int .u64 (sq : Nat), .string sql, .int .u64 (rsq : Nat), .int .i64 rcl, .slice a2 m2 k2, .slice a3 m3 k3, .int .i64 rct, .int .u64 (rix : Nat), .int .i64 hint] rfl rfl ((unhide N6).there rfl) Tryz.sizeM (all_oneCell_toArray (by intro v hv; simp at hv; rcases hv with rfl | rfl | rfl | rfl | rfl | rfl | rfl | rfl | rfl | rfl | rfl | rfl | rfl | rfl | rfl | rfl | rfl | rfl | rfl | rfl | rfl | rfl | rfl <;> rfl)) ?_
    clear N6 hW7
    rw [show (#[.int .i64 kd, .int .i64 fr, .int .i64 tgt, .int .u64 (tm : Nat), .int .u64 (ix : Nat), .int .u64 (lt : Nat), .slice a6 m6 k6, .int .u64 (cm : Nat), .int .u64 (rd : Nat), .bool ok, .int .i64 off, .slice aF mF kF, .bool dn, .int .u64 (cl : Nat), .int .u64 (sq : Nat), .string sql, .int .u64 (rsq : Nat), .int .i64 rcl, .slice a2 m2 k2, .slice a3 m3 k3, .int .i64 rct, .int .u64 (rix : Nat), .int .i64 hint] : Array Value).toList = [.int .i64 kd, .int .i64 fr, .int .i64 tgt, .int .u64 (tm : Nat), .int .u64 (ix : Nat), .int .u64 (lt : Nat), .slice a6 m6 k6, .int .u64 (cm : Nat), .int .u64 (rd : Nat), .bool ok, .int .i64 off, .slice aF mF kF, .bool dn, .int .u64 (cl : Nat), .int .u64 (sq : Nat), .string sql, .int .u64 (rsq : Nat), .int .i64 rcl, .slice a2 m2 k2, .slice a3 m3 k3, .int .i64 rct, .int .u64 (rix : Nat), .int .i64 hint] from rfl]
    generalize ((w6.alloc (.cells #[.int .i64 0, .int .i64 0, .int .i64 0, .int .u64 0, .int .u64 0, .int .u64 0, .slice none 0 0, .int .u64 0, .int .u64 0, .bool false, .int .i64 0, .slice none 0 0, .bool false, .int .u64 0, .int .u64 0, .string ⟨#[]⟩, .int .u64 0, .int .i64 0, .slice none 0 0, .slice none 0 0, .int .i64 0, .int .u64 0, .int .i64 0] 33)).setCells w6.heap.size 0 [.int .i64 kd, .int .i64 fr, .int .i64 tgt, .int .u64 (tm : Nat), .int .u64 (ix : Nat), .int .u64 (lt : Nat), .slice a6 m6 k6, .int .u64 (cm : Nat), .int .u64 (rd : Nat), .bool ok, .int .i64 off, .slice aF mF kF, .bool dn, .int .u64 (cl : Nat), .int .u64 (sq : Nat), .string sql, .int .u64 (rsq : Nat), .int .i64 rcl, .slice a2 m2 k2, .slice a3 m3 k3, .int .i64 rct, .int .u64 (rix : Nat), .int .i64 hint]) = W7 at *
    obtain ⟨rs', hrs', hAt'⟩ := unhide HOwn W7 _ _ _ _ _ (unhide O7)
    have HSame := hide (same_true kd fr tgt tm ix lt _ cm rd ok off _ dn cl sq sql rsq rcl _ _ rct rix hint es lb cs rs' _ _ _ _ rs W7 hAt' (unhide HA W7 (unhide B7)) hrs')
    clear hAt' hrs' HOwn O7
    go_upto_region 11 with fail
    refine wp_region_list ?_
    refine wpList_plain rfl (fun K hK => ?_)
    go_simp
    refine hK _ _ ?_
    clear hK K
    refine wpList_plain rfl (fun K hK => ?_)
    go_simp
    refine hK _ _ ?_
    clear hK K
    refine wpList_plain rfl (fun K hK => ?_)
    go_simp
    refine hK _ _ ?_
    clear hK K
    refine BigFrame.wpList_want rfl (fun K hK => wp_load_mid 33 (.tmp 11) rfl w6.heap.size 0 rfl [.int .i64 kd, .int .i64 fr, .int .i64 tgt, .int .u64 (tm : Nat), .int .u64 (ix : Nat), .int .u64 (lt : Nat), .slice a6 m6 k6, .int .u64 (cm : Nat), .int .u64 (rd : Nat), .bool ok, .int .i64 off, .slice aF mF kF, .bool dn, .int .u64 (cl : Nat), .int .u64 (sq : Nat), .string sql, .int .u64 (rsq : Nat), .int .i64 rcl, .slice a2 m2 k2, .slice a3 m3 k3, .int .i64 rct, .int .u64 (rix : Nat), .int .i64 hint] _ (unhide X7) Tryz.underlying33 rfl Tryz.sizeM (hK _ _ ?_))
    clear hK K
    refine BigFrame.wpList_want rfl (fun K hK => wp_load_mid 33 (.tmp 4) rfl w.heap.size 0 rfl [.int .i64 kd, .int .i64 fr, .int .i64 tgt, .int .u64 (tm : Nat), .int .u64 (ix : Nat), .int .u64 (lt : Nat), .slice aE es.length kE, .int .u64 (cm : Nat), .int .u64 (rd : Nat), .bool ok, .int .i64 off, .slice aD lb.length kD, .bool dn, .int .u64 (cl : Nat), .int .u64 (sq : Nat), .string sql, .int .u64 (rsq : Nat), .int .i64 rcl, .slice aC cs.length kC, .slice aR rs.length kR, .int .i64 rct, .int .u64 (rix : Nat), .int .i64 hint] _ (unhide HRg _ (unhide C7)) Tryz.underlying33 rfl Tryz.sizeM (hK _ _ ?_))
    clear hK K
    go_wp2_with fail
    refine (unhide HSame).mono ?_
    rintro e w8 ⟨rfl, hb8⟩
    have B8 := hide ((unhide B7).trans (hb8.mono (unhide B7).size))
    have R8 := hide (rb_later (unhide R7) hb8 hb8.size)
    have T8 := hide (there_below (unhide T7) hb8 s7)
    have s8 := hb8.size
    have F8 : Hid (w8.cell? ⟨w6.heap.size, 1, none⟩ = some (.int .i64 fr)) := (hb8.cell (p := ⟨w6.heap.size, 1, none⟩) s7).trans ((unhide X7) 1 (.int .i64 fr) rfl)
    clear HSame X7 T7 R7 hb8 B7 HA
    go_upto_region 14 with (first | (at_builtin; refine wpList_append_rb rfl (.const (.slice none 0 0)) (.tmp 50) rfl w8.heap.size _ 0 [] rfl (World.ownsRow_nil _ _ _ _) _ _ bs rfl (unhide R8) (by omega) (by omega) (Nat.le_refl _) ?_; intro v9 w9 ho9 _ hb9; have O9 := hide (own0 ho9); have B9 := hide hb9; clear ho9 hb9; obtain ⟨a9, k9, hv9⟩ := own_slice (unhide O9); subst hv9; have HA9 := hide (own_block_ge (unhide O9))))
    have hbl : (bs.length : Int) ≤ 130693014 := by omega
    clear R8
    go_cut [59] from 52 to 59 (fun s59 wx => s59 = .bool (decide (0 ≤ at' ∧ at' < (bs.length : Int))) ∧ wx = w9)
    case first =>
      by_cases h1 : 0 ≤ at'
      · by_cases h2 : at' < (bs.length : Int)
        · go_wp2
          go_meet
          case rel => exact ⟨congrArg Value.bool (decide_eq_true (by omega)).symm, rfl⟩
        · go_wp2
          go_meet
          case rel => exact ⟨congrArg Value.bool (decide_eq_false (by omega)).symm, rfl⟩
      · go_wp2
        go_meet
        case rel => exact ⟨congrArg Value.bool (decide_eq_false (by omega)).symm, rfl⟩
    case rest =>
      obtain ⟨rfl, rfl⟩ := hcut
      go_upto_if 59 with fail
      go_cut [] from 52 to 68 (fun wx => Hid (∃ l1 : List UInt8, l1.length = bs.length ∧ RBp wx wx.heap.size (.slice a9 bs.length k9) l1 ∧ Below w8.heap.size w8 wx))
      case first =>
        by_cases h1 : 0 ≤ at'
        · by_cases h2 : at' < (bs.length : Int)
          · obtain ⟨n, hn⟩ := Int.eq_ofNat_of_zero_le h1
            subst hn
            obtain ⟨g, rfl, hg0, hk1, hk2, hcell, hfr⟩ := own_bytes (unhide O9) (by omega)
            have c0 := hcell n (by omega)
            have f0 := hfr n (by omega)
            have hn0 : (0 : Int) ≤ (n : Int) := by omega
            have hn1 : (n : Int) < (bs.length : Int) := h2
            obtain ⟨c, hc⟩ : ∃ c : UInt8, c = bs.getD n 0 := ⟨_, rfl⟩
            rw [← hc] at c0
            have c256 : (c.toNat : Int) < 256 := by have := c.toNat_lt; omega
            obtain ⟨z, hz⟩ : ∃ z : UInt8, bits BinOp.xor IntKind.u8 (c.toNat : Int) (by' : Int) = (z.toNat : Int) := ⟨c ^^^ by'.toUInt8, by rw [xor8 _ _ c.toNat_lt hby, UInt8.toNat_xor, toUInt8_toNat hby]⟩
            have HS := hide (rb_set (z := z) (n := n) hcell (by omega) (Nat.lt_of_lt_of_le hg0.2 (Nat.le_refl _)) hk1 hk2 (by omega))
            have HBS := hide (fun (u : Value) => (unhide B9).setCell (p := ⟨g, n, none⟩) hg0.1 u)
            clear hcell hfr hc
            go_wp2
            go_meet
            case rel => exact ⟨bs.set n z, by simp, unhide HS, unhide HBS _⟩
          · have HS := hide (rb_own (unhide O9) (by omega))
            go_wp2
            go_meet
            case rel => exact ⟨bs, rfl, unhide HS, unhide B9⟩
        · have HS := hide (rb_own (unhide O9) (by omega))
          go_wp2
          go_meet
          case rel => exact ⟨bs, rfl, unhide HS, unhide B9⟩
      case rest =>
        obtain ⟨l1, hl1, r10, b10⟩ := unhide hcut
        have R10 := hide r10
        have B10 := hide b10
        have HL1 := hide hl1
        clear hcut r10 b10 hl1 O9 B9
        go_upto_region 16 with fail
        go_cut [76] from 69 to 76 (fun s76 wx => s76 = .bool (decide (0 ≤ cut' ∧ cut' < (bs.length : Int))) ∧ Hid (wx = wc))
        case first =>
          by_cases h1 : 0 ≤ cut'
          · by_cases h2 : cut' < (bs.length : Int)
            · go_wp2
              go_meet
              case rel => exact ⟨congrArg Value.bool (decide_eq_true (by omega)).symm, rfl⟩
            · go_wp2
              go_meet
              case rel => exact ⟨congrArg Value.bool (decide_eq_false (by omega)).symm, rfl⟩
          · go_wp2
            go_meet
            case rel => exact ⟨congrArg Value.bool (decide_eq_false (by omega)).symm, rfl⟩
        case rest =>
          obtain ⟨rfl, hwc⟩ := hcut
          rw [← unhide hwc] at R10 B10
          clear hwc
          go_upto_if 76 with fail
          go_cut [9] from 69 to 79 (fun s9 wx => ∃ n9 : Nat, s9 = .slice a9 n9 k9 ∧ Hid (∃ l2 : List UInt8, l2.length = n9 ∧ n9 ≤ bs.length ∧ RBp wx wx.heap.size (.slice a9 n9 k9) l2 ∧ Below w8.heap.size w8 wx))
          case first =>
            by_cases h1 : 0 ≤ cut'
            · by_cases h2 : cut' < (bs.length : Int)
              · obtain ⟨n, hn⟩ := Int.eq_ofNat_of_zero_le h1
                subst hn
                obtain ⟨q1, q2, q3, q4⟩ := rb_some (unhide R10) (by have := unhide HL1; omega)
                have HS := hide (rb_takeN (n := n) (unhide R10) (by have := unhide HL1; omega))
                have hkk : (n : Int) ≤ (k9 : Int) := by have := unhide HL1; omega
                have hkm : (k9 : Int) ≤ 9223372036854775807 := by unfold maxLen at q4; omega
                subst q2
                clear q3 q4
                go_wp2
                go_meet
                case rel => exact ⟨n, rfl, l1.take n, by have := unhide HL1; simp; omega, by omega, unhide HS, unhide B10⟩
              · go_wp2
                go_meet
                case rel => exact ⟨bs.length, rfl, l1, unhide HL1, Nat.le_refl _, unhide R10, unhide B10⟩
            · go_wp2
              go_meet
              case rel => exact ⟨bs.length, rfl, l1, unhide HL1, Nat.le_refl _, unhide R10, unhide B10⟩
          case rest =>
            obtain ⟨n9, rfl, h9⟩ := hcut
            obtain ⟨l2, rfl, hn9, r11, b11⟩ := unhide h9
            have R11 := hide r11
            have B11 := hide ((unhide B8).trans (b11.mono (unhide B8).size))
            have T11 := hide (there_below (unhide T8) b11 (by omega))
            have s11 := b11.size
            have F11 : Hid (wc.cell? ⟨w6.heap.size, 1, none⟩ = some (.int .i64 fr)) := (b11.cell (p := ⟨w6.heap.size, 1, none⟩) (by show w6.heap.size < w8.heap.size; omega)).trans (unhide F8)
            clear h9 r11 b11 R10 B10 HL1 T8 hbl
            have HN9 := hide (show ∀ ad, a9 = some ad → ad.block ≠ w6.heap.size from fun ad h => by
              subst h
              have := unhide HA9 ad.block rfl
              omega)
            have E11 := hide (unhide HE wc (unhide B11))
            clear HA9
            by_cases hgood : ∃ m', rdMsg l2 (.ok 0) = (m', .ok l2.length)
            · obtain ⟨⟨x0, x1, x2, x3, x4, x5, x6, x7, x8, x9, x10, x11, x12, x13, x14, x15, ⟨y0, y1, y2, y3, y4, y5⟩, x17⟩, hm'⟩ := hgood
              obtain ⟨hv', b', he', hd', -, -⟩ := codec_msg.canon l2 0 _ l2.length hm' (Nat.zero_le _)
              have hbl2 : b' = l2 := by
                rw [List.drop_length, List.append_nil] at hd'
                exact hd'.symm
              subst hbl2
              have hinv' := eMsg_inv he'
              obtain ⟨-, -, -, h3, h4, h5, h6, h7, h8, -, -, -, -, h13, h14, h15, ⟨g0, -, g2, g3, -, g5⟩, -⟩ := hv'
              have HM := hide (msg_good x0 x1 x2 x3 x4 x5 x6 x7 x8 x9 x10 x11 x12 x13 x14 x15 y0 y1 y2 y3 y4 y5 x17 (.slice a9 b'.length k9) b' wc (unhide E11) (unhide R11) hm')
              have HOw : Hid (∀ W B vE vD vC vR, OwnM W B vE vD vC vR x6 x11 y2 y3 → Calls Tryz.prog 6 #[.agg #[.int .i64 x0, .int .i64 x1, .int .i64 x2, .int .u64 (x3 : Nat), .int .u64 (x4 : Nat), .int .u64 (x5 : Nat), vE, .int .u64 (x7 : Nat), .int .u64 (x8 : Nat), .bool x9, .int .i64 x10, vD, .bool x12, .int .u64 (x13 : Nat), .int .u64 (x14 : Nat), .string x15, .int .u64 (y0 : Nat), .int .i64 y1, vC, vR, .int .i64 y4, .int .u64 (y5 : Nat), .int .i64 x17]] W fun e w' => ∃ a k, e = .returned (.tuple #[.slice a b'.length k, .nilIface]) ∧ RBp w' w'.heap.size (.slice a b'.length k) b' ∧ Below W.heap.size W w') := fun W B vE vD vC vR h => by
                obtain ⟨rs2, e1, hat⟩ := h.at hinv' h6 g2 g3
                refine (putMsg_any x0 x1 x2 x3 x4 x5 vE x7 x8 x9 x10 vD x12 x13 x14 x15 y0 y1 vC vR y4 y5 x17 x6 x11 y2 rs2 W h3 h4 h5 h7 h8 h13 h14 g0 g5 h15 hat).mono fun e w' h => ?_
                rw [e1, he'] at h
                obtain ⟨a, k, k1, k2, k3⟩ := h
                exact ⟨a, k, k1, rb_own k2 (by omega), k3⟩
              clear hm' he' hd' hinv' h3 h4 h5 h6 h7 h8 h13 h14 h15 g0 g2 g3 g5
              go_upto_region 18 with fail
              go_wp2_with fail
              refine (unhide HM).mono ?_
              rintro e w12 ⟨c6, n6, l6, cD, nD, lD, c2, n2, l2', c3, n3, l3', rfl, own12, hb12⟩
              have B12 := hide ((unhide B11).trans (hb12.mono (unhide B11).size))
              have T12 := hide (there_below (unhide T11) hb12 (by omega))
              have s12 := hb12.size
              have W13r := hide (World.rangeAt_setCells_same w12 w6.heap.size 0 [.int .i64 x0, .int .i64 x1, .int .i64 x2, .int .u64 (x3 : Nat), .int .u64 (x4 : Nat), .int .u64 (x5 : Nat), .slice c6 n6 l6, .int .u64 (x7 : Nat), .int .u64 (x8 : Nat), .bool x9, .int .i64 x10, .slice cD nD lD, .bool x12, .int .u64 (x13 : Nat), .int .u64 (x14 : Nat), .string x15, .int .u64 (y0 : Nat), .int .i64 y1, .slice c2 n2 l2', .slice c3 n3 l3', .int .i64 y4, .int .u64 (y5 : Nat), .int .i64 x17] (unhide T12))
              have B13 : Hid (Below w.heap.size w (w12.setCells w6.heap.size 0 [.int .i64 x0, .int .i64 x1, .int .i64 x2, .int .u64 (x3 : Nat), .int .u64 (x4 : Nat), .int .u64 (x5 : Nat), .slice c6 n6 l6, .int .u64 (x7 : Nat), .int .u64 (x8 : Nat), .bool x9, .int .i64 x10, .slice cD nD lD, .bool x12, .int .u64 (x13 : Nat), .int .u64 (x14 : Nat), .string x15, .int .u64 (y0 : Nat), .int .i64 y1, .slice c2 n2 l2', .slice c3 n3 l3', .int .i64 y4, .int .u64 (y5 : Nat), .int .i64 x17])) := Below.over (by omega) [.int .i64 x0, .int .i64 x1, .int .i64 x2, .int .u64 (x3 : Nat), .int .u64 (x4 : Nat), .int .u64 (x5 : Nat), .slice c6 n6 l6, .int .u64 (x7 : Nat), .int .u64 (x8 : Nat), .bool x9, .int .i64 x10, .slice cD nD lD, .bool x12, .int .u64 (x13 : Nat), .int .u64 (x14 : Nat), .string x15, .int .u64 (y0 : Nat), .int .i64 y1, .slice c2 n2 l2', .slice c3 n3 l3', .int .i64 y4, .int .u64 (y5 : Nat), .int .i64 x17] _ 0 (unhide B12)
              have R13 : Hid (RBp (w12.setCells w6.heap.size 0 [.int .i64 x0, .int .i64 x1, .int .i64 x2, .int .u64 (x3 : Nat), .int .u64 (x4 : Nat), .int .u64 (x5 : Nat), .slice c6 n6 l6, .int .u64 (x7 : Nat), .int .u64 (x8 : Nat), .bool x9, .int .i64 x10, .slice cD nD lD, .bool x12, .int .u64 (x13 : Nat), .int .u64 (x14 : Nat), .string x15, .int .u64 (y0 : Nat), .int .i64 y1, .slice c2 n2 l2', .slice c3 n3 l3', .int .i64 y4, .int .u64 (y5 : Nat), .int .i64 x17]) (w12.setCells w6.heap.size 0 [.int .i64 x0, .int .i64 x1, .int .i64 x2, .int .u64 (x3 : Nat), .int .u64 (x4 : Nat), .int .u64 (x5 : Nat), .slice c6 n6 l6, .int .u64 (x7 : Nat), .int .u64 (x8 : Nat), .bool x9, .int .i64 x10, .slice cD nD lD, .bool x12, .int .u64 (x13 : Nat), .int .u64 (x14 : Nat), .string x15, .int .u64 (y0 : Nat), .int .i64 y1, .slice c2 n2 l2', .slice c3 n3 l3', .int .i64 y4, .int .u64 (y5 : Nat), .int .i64 x17]).heap.size (.slice a9 b'.length k9) b') := rb_swap (rb_later (unhide R11) hb12 hb12.size) (fun k hk => over_other w6.heap.size [.int .i64 x0, .int .i64 x1, .int .i64 x2, .int .u64 (x3 : Nat), .int .u64 (x4 : Nat), .int .u64 (x5 : Nat), .slice c6 n6 l6, .int .u64 (x7 : Nat), .int .u64 (x8 : Nat), .bool x9, .int .i64 x10, .slice cD nD lD, .bool x12, .int .u64 (x13 : Nat), .int .u64 (x14 : Nat), .string x15, .int .u64 (y0 : Nat), .int .i64 y1, .slice c2 n2 l2', .slice c3 n3 l3', .int .i64 y4, .int .u64 (y5 : Nat), .int .i64 x17] w12 0 k hk) (over_size w6.heap.size [.int .i64 x0, .int .i64 x1, .int .i64 x2, .int .u64 (x3 : Nat), .int .u64 (x4 : Nat), .int .u64 (x5 : Nat), .slice c6 n6 l6, .int .u64 (x7 : Nat), .int .u64 (x8 : Nat), .bool x9, .int .i64 x10, .slice cD nD lD, .bool x12, .int .u64 (x13 : Nat), .int .u64 (x14 : Nat), .string x15, .int .u64 (y0 : Nat), .int .i64 y1, .slice c2 n2 l2', .slice c3 n3 l3', .int .i64 y4, .int .u64 (y5 : Nat), .int .i64 x17] w12 0) (unhide HN9)
              have O13 : Hid (OwnM (w12.setCells w6.heap.size 0 [.int .i64 x0, .int .i64 x1, .int .i64 x2, .int .u64 (x3 : Nat), .int .u64 (x4 : Nat), .int .u64 (x5 : Nat), .slice c6 n6 l6, .int .u64 (x7 : Nat), .int .u64 (x8 : Nat), .bool x9, .int .i64 x10, .slice cD nD lD, .bool x12, .int .u64 (x13 : Nat), .int .u64 (x14 : Nat), .string x15, .int .u64 (y0 : Nat), .int .i64 y1, .slice c2 n2 l2', .slice c3 n3 l3', .int .i64 y4, .int .u64 (y5 : Nat), .int .i64 x17]) wc.heap.size (.slice c6 n6 l6) (.slice cD nD lD) (.slice c2 n2 l2') (.slice c3 n3 l3') x6 x11 y2 y3) := own12.hi (Hi.swap (E := w6.heap.size) (Hi.refl _ w12) (over_size w6.heap.size [.int .i64 x0, .int .i64 x1, .int .i64 x2, .int .u64 (x3 : Nat), .int .u64 (x4 : Nat), .int .u64 (x5 : Nat), .slice c6 n6 l6, .int .u64 (x7 : Nat), .int .u64 (x8 : Nat), .bool x9, .int .i64 x10, .slice cD nD lD, .bool x12, .int .u64 (x13 : Nat), .int .u64 (x14 : Nat), .string x15, .int .u64 (y0 : Nat), .int .i64 y1, .slice c2 n2 l2', .slice c3 n3 l3', .int .i64 y4, .int .u64 (y5 : Nat), .int .i64 x17] w12 0) (fun k hk => over_other w6.heap.size [.int .i64 x0, .int .i64 x1, .int .i64 x2, .int .u64 (x3 : Nat), .int .u64 (x4 : Nat), .int .u64 (x5 : Nat), .slice c6 n6 l6, .int .u64 (x7 : Nat), .int .u64 (x8 : Nat), .bool x9, .int .i64 x10, .slice cD nD lD, .bool x12, .int .u64 (x13 : Nat), .int .u64 (x14 : Nat), .string x15, .int .u64 (y0 : Nat), .int .i64 y1, .slice c2 n2 l2', .slice c3 n3 l3', .int .i64 y4, .int .u64 (y5 : Nat), .int .i64 x17] w12 0 k hk) (by omega))
              clear own12 hb12 HM R11 T11 B11
              rename_i K12 hK12
              refine hK12 _ _ ?_
              refine wpList_plain rfl (fun K hK => ?_)
              go_simp
              refine hK _ _ ?_
              clear hK K
              refine wpList_plain rfl (fun K hK => ?_)
              go_simp
              refine hK _ _ ?_
              clear hK K
              refine wpList_plain rfl (fun K hK => ?_)
              go_simp
              refine hK _ _ ?_
              clear hK K
              refine wpList_store_mid rfl 33 (.tmp 11) (.tmp 83) rfl w6.heap.size 0 #[.int .i64 x0, .int .i64 x1, .int .i64 x2, .int .u64 (x3 : Nat), .int .u64 (x4 : Nat), .int .u64 (x5 : Nat), .slice c6 n6 l6, .int .u64 (x7 : Nat), .int .u64 (x8 : Nat), .bool x9, .int .i64 x10, .slice cD nD lD, .bool x12, .int .u64 (x13 : Nat), .int .u64 (x14 : Nat), .string x15, .int .u64 (y0 : Nat), .int .i64 y1, .slice c2 n2 l2', .slice c3 n3 l3', .int .i64 y4, .int .u64 (y5 : Nat), .int .i64 x17] rfl rfl (unhide T12) Tryz.sizeM (all_oneCell_toArray (by intro v hv; simp at hv; rcases hv with rfl | rfl | rfl | rfl | rfl | rfl | rfl | rfl | rfl | rfl | rfl | rfl | rfl | rfl | rfl | rfl | rfl | rfl | rfl | rfl | rfl | rfl | rfl <;> rfl)) ?_
              rw [show (#[.int .i64 x0, .int .i64 x1, .int .i64 x2, .int .u64 (x3 : Nat), .int .u64 (x4 : Nat), .int .u64 (x5 : Nat), .slice c6 n6 l6, .int .u64 (x7 : Nat), .int .u64 (x8 : Nat), .bool x9, .int .i64 x10, .slice cD nD lD, .bool x12, .int .u64 (x13 : Nat), .int .u64 (x14 : Nat), .string x15, .int .u64 (y0 : Nat), .int .i64 y1, .slice c2 n2 l2', .slice c3 n3 l3', .int .i64 y4, .int .u64 (y5 : Nat), .int .i64 x17] : Array Value).toList = [.int .i64 x0, .int .i64 x1, .int .i64 x2, .int .u64 (x3 : Nat), .int .u64 (x4 : Nat), .int .u64 (x5 : Nat), .slice c6 n6 l6, .int .u64 (x7 : Nat), .int .u64 (x8 : Nat), .bool x9, .int .i64 x10, .slice cD nD lD, .bool x12, .int .u64 (x13 : Nat), .int .u64 (x14 : Nat), .string x15, .int .u64 (y0 : Nat), .int .i64 y1, .slice c2 n2 l2', .slice c3 n3 l3', .int .i64 y4, .int .u64 (y5 : Nat), .int .i64 x17] from rfl]
              clear T12
              generalize w12.setCells w6.heap.size 0 [.int .i64 x0, .int .i64 x1, .int .i64 x2, .int .u64 (x3 : Nat), .int .u64 (x4 : Nat), .int .u64 (x5 : Nat), .slice c6 n6 l6, .int .u64 (x7 : Nat), .int .u64 (x8 : Nat), .bool x9, .int .i64 x10, .slice cD nD lD, .bool x12, .int .u64 (x13 : Nat), .int .u64 (x14 : Nat), .string x15, .int .u64 (y0 : Nat), .int .i64 y1, .slice c2 n2 l2', .slice c3 n3 l3', .int .i64 y4, .int .u64 (y5 : Nat), .int .i64 x17] = W13 at *
              have HP13 := hide (unhide HOw W13 _ _ _ _ _ (unhide O13))
              clear HOw O13
              go_upto_region 21 with fail
              refine wp_region_list ?_
              refine wpList_load_mid rfl 33 (.tmp 11) rfl w6.heap.size 0 rfl [.int .i64 x0, .int .i64 x1, .int .i64 x2, .int .u64 (x3 : Nat), .int .u64 (x4 : Nat), .int .u64 (x5 : Nat), .slice c6 n6 l6, .int .u64 (x7 : Nat), .int .u64 (x8 : Nat), .bool x9, .int .i64 x10, .slice cD nD lD, .bool x12, .int .u64 (x13 : Nat), .int .u64 (x14 : Nat), .string x15, .int .u64 (y0 : Nat), .int .i64 y1, .slice c2 n2 l2', .slice c3 n3 l3', .int .i64 y4, .int .u64 (y5 : Nat), .int .i64 x17] _ (unhide W13r) Tryz.underlying33 rfl Tryz.sizeM ?_
              go_wp2_with fail
              refine (unhide HP13).mono ?_
              rintro e w14 ⟨ac, kc, rfl, rc, hb14⟩
              have HBy := hide (bytes_same (.slice a9 b'.length k9) (.slice ac b'.length kc) _ _ b' w14 (rb_later (unhide R13) hb14 hb14.size) rc)
              have B14 := hide ((unhide B13).trans (hb14.mono (unhide B13).size))
              clear rc hb14 R13 B13
              go_wp2_with (first | (go_at_call 11; refine (unhide HBy).mono ?_; rintro e w15 ⟨rfl, rfl⟩))
              go_ret
              exact ⟨rfl, unhide B14⟩
            · have HBad : Hid (Calls Tryz.prog 9 #[.slice a9 l2.length k9] wc fun e w' => MsgBad wc e w') := by
                obtain ⟨⟨x0, x1, x2, x3, x4, x5, x6, x7, x8, x9, x10, x11, x12, x13, x14, x15, ⟨y0, y1, y2, y3, y4, y5⟩, x17⟩, s17, hm'⟩ : ∃ m s, rdMsg l2 (.ok 0) = (m, s) := ⟨_, _, rfl⟩
                cases s17 with
                | error c => exact msg_fails x0 x1 x2 x3 x4 x5 x6 x7 x8 x9 x10 x11 x12 x13 x14 x15 y0 y1 y2 y3 y4 y5 x17 _ l2 wc (unhide E11) (unhide R11) c (codec_msg.bad l2 0 c (by rw [hm'])) hm'
                | ok a =>
                  obtain ⟨-, b', -, -, -, hle⟩ := codec_msg.canon l2 0 _ a hm' (Nat.zero_le _)
                  exact msg_left x0 x1 x2 x3 x4 x5 x6 x7 x8 x9 x10 x11 x12 x13 x14 x15 y0 y1 y2 y3 y4 y5 x17 _ l2 wc (unhide E11) (unhide R11) a (Nat.lt_of_le_of_ne hle (by intro h; subst h; exact hgood ⟨_, hm'⟩)) hm'
              clear hgood
              go_upto_region 18 with fail
              go_wp2_with fail
              refine (unhide HBad).mono ?_
              rintro e w12 ⟨b12, pl12, rfl, he12, hb12⟩
              have B12 := hide ((unhide B11).trans (hb12.mono (unhide B11).size))
              have T12 := hide (there_below (unhide T11) hb12 (by omega))
              have W13r := hide (World.rangeAt_setCells_same w12 w6.heap.size 0 [.int .i64 0, .int .i64 0, .int .i64 0, .int .u64 0, .int .u64 0, .int .u64 0, .slice none 0 0, .int .u64 0, .int .u64 0, .bool false, .int .i64 0, .slice none 0 0, .bool false, .int .u64 0, .int .u64 0, .string ⟨#[]⟩, .int .u64 0, .int .i64 0, .slice none 0 0, .slice none 0 0, .int .i64 0, .int .u64 0, .int .i64 0] (unhide T12))
              have B13 : Hid (Below w.heap.size w (w12.setCells w6.heap.size 0 [.int .i64 0, .int .i64 0, .int .i64 0, .int .u64 0, .int .u64 0, .int .u64 0, .slice none 0 0, .int .u64 0, .int .u64 0, .bool false, .int .i64 0, .slice none 0 0, .bool false, .int .u64 0, .int .u64 0, .string ⟨#[]⟩, .int .u64 0, .int .i64 0, .slice none 0 0, .slice none 0 0, .int .i64 0, .int .u64 0, .int .i64 0])) := Below.over (by omega) [.int .i64 0, .int .i64 0, .int .i64 0, .int .u64 0, .int .u64 0, .int .u64 0, .slice none 0 0, .int .u64 0, .int .u64 0, .bool false, .int .i64 0, .slice none 0 0, .bool false, .int .u64 0, .int .u64 0, .string ⟨#[]⟩, .int .u64 0, .int .i64 0, .slice none 0 0, .slice none 0 0, .int .i64 0, .int .u64 0, .int .i64 0] _ 0 (unhide B12)
              have E13 : Hid (ErrAt (w12.setCells w6.heap.size 0 [.int .i64 0, .int .i64 0, .int .i64 0, .int .u64 0, .int .u64 0, .int .u64 0, .slice none 0 0, .int .u64 0, .int .u64 0, .bool false, .int .i64 0, .slice none 0 0, .bool false, .int .u64 0, .int .u64 0, .string ⟨#[]⟩, .int .u64 0, .int .i64 0, .slice none 0 0, .slice none 0 0, .int .i64 0, .int .u64 0, .int .i64 0]) b12 pl12 20) := he12.swap (E := w6.heap.size) (x := fr) (fun k hk => over_other w6.heap.size [.int .i64 0, .int .i64 0, .int .i64 0, .int .u64 0, .int .u64 0, .int .u64 0, .slice none 0 0, .int .u64 0, .int .u64 0, .bool false, .int .i64 0, .slice none 0 0, .bool false, .int .u64 0, .int .u64 0, .string ⟨#[]⟩, .int .u64 0, .int .i64 0, .slice none 0 0, .slice none 0 0, .int .i64 0, .int .u64 0, .int .i64 0] w12 0 k hk) ((hb12.cell (p := ⟨w6.heap.size, 1, none⟩) (by show w6.heap.size < wc.heap.size; omega)).trans (unhide F11))
              have s12 := hb12.size
              clear he12 hb12 HBad R11 T11 B11
              rename_i K12 hK12
              refine hK12 _ _ ?_
              refine wpList_plain rfl (fun K hK => ?_)
              go_simp
              refine hK _ _ ?_
              clear hK K
              refine wpList_plain rfl (fun K hK => ?_)
              go_simp
              refine hK _ _ ?_
              clear hK K
              refine wpList_plain rfl (fun K hK => ?_)
              go_simp
              refine hK _ _ ?_
              clear hK K
              refine wpList_store_mid rfl 33 (.tmp 11) (.tmp 83) rfl w6.heap.size 0 #[.int .i64 0, .int .i64 0, .int .i64 0, .int .u64 0, .int .u64 0, .int .u64 0, .slice none 0 0, .int .u64 0, .int .u64 0, .bool false, .int .i64 0, .slice none 0 0, .bool false, .int .u64 0, .int .u64 0, .string ⟨#[]⟩, .int .u64 0, .int .i64 0, .slice none 0 0, .slice none 0 0, .int .i64 0, .int .u64 0, .int .i64 0] rfl rfl (unhide T12) Tryz.sizeM (by decide +kernel) ?_
              rw [show (#[.int .i64 0, .int .i64 0, .int .i64 0, .int .u64 0, .int .u64 0, .int .u64 0, .slice none 0 0, .int .u64 0, .int .u64 0, .bool false, .int .i64 0, .slice none 0 0, .bool false, .int .u64 0, .int .u64 0, .string ⟨#[]⟩, .int .u64 0, .int .i64 0, .slice none 0 0, .slice none 0 0, .int .i64 0, .int .u64 0, .int .i64 0] : Array Value).toList = [.int .i64 0, .int .i64 0, .int .i64 0, .int .u64 0, .int .u64 0, .int .u64 0, .slice none 0 0, .int .u64 0, .int .u64 0, .bool false, .int .i64 0, .slice none 0 0, .bool false, .int .u64 0, .int .u64 0, .string ⟨#[]⟩, .int .u64 0, .int .i64 0, .slice none 0 0, .slice none 0 0, .int .i64 0, .int .u64 0, .int .i64 0] from rfl]
              clear T12
              have hz13 : w12.heap.size ≤ (w12.setCells w6.heap.size 0 [.int .i64 0, .int .i64 0, .int .i64 0, .int .u64 0, .int .u64 0, .int .u64 0, .slice none 0 0, .int .u64 0, .int .u64 0, .bool false, .int .i64 0, .slice none 0 0, .bool false, .int .u64 0, .int .u64 0, .string ⟨#[]⟩, .int .u64 0, .int .i64 0, .slice none 0 0, .slice none 0 0, .int .i64 0, .int .u64 0, .int .i64 0]).heap.size := Nat.le_of_eq (over_size w6.heap.size [.int .i64 0, .int .i64 0, .int .i64 0, .int .u64 0, .int .u64 0, .int .u64 0, .slice none 0 0, .int .u64 0, .int .u64 0, .bool false, .int .i64 0, .slice none 0 0, .bool false, .int .u64 0, .int .u64 0, .string ⟨#[]⟩, .int .u64 0, .int .i64 0, .slice none 0 0, .slice none 0 0, .int .i64 0, .int .u64 0, .int .i64 0] w12 0).symm
              generalize w12.setCells w6.heap.size 0 [.int .i64 0, .int .i64 0, .int .i64 0, .int .u64 0, .int .u64 0, .int .u64 0, .slice none 0 0, .int .u64 0, .int .u64 0, .bool false, .int .i64 0, .slice none 0 0, .bool false, .int .u64 0, .int .u64 0, .string ⟨#[]⟩, .int .u64 0, .int .i64 0, .slice none 0 0, .slice none 0 0, .int .i64 0, .int .u64 0, .int .i64 0] = W13 at *
              have HC := hide (class_at b12 pl12 20 W13 (unhide HE _ (unhide B13)) (unhide E13))
              go_upto_region 20 with fail
              refine wp_region_list ?_
              go_wp2_with fail
              refine (unhide HC).mono ?_
              rintro e w14 ⟨rfl, hb14⟩
              have B14 := hide ((unhide B13).trans (hb14.mono (unhide B13).size))
              have W14r := hide (range_below (unhide W13r) hb14 (show w6.heap.size < W13.heap.size from Nat.lt_of_lt_of_le (show w6.heap.size < w12.heap.size by omega) hz13))
              have hM0 : MsgAt w14 w14.heap.size (.slice none 0 0) (.slice none 0 0) (.slice none 0 0) (.slice none 0 0) [] [] [] [] := msgAt_nil w14
              have HSm0 := hide (same_true 0 0 0 0 0 0 _ 0 0 false 0 _ false 0 0 ⟨#[]⟩ 0 0 _ _ 0 0 0 [] [] [] [] _ _ _ _ [] w14 hM0 hM0 rfl)
              clear hM0 hb14 HC
              rename_i K13 hK13
              refine hK13 _ _ ?_
              refine wpList_plain rfl (fun K hK => ?_)
              go_simp
              refine hK _ _ ?_
              clear hK K
              refine wpList_plain rfl (fun K hK => ?_)
              go_simp
              refine hK _ _ ?_
              clear hK K
              refine BigFrame.wpList_want rfl (fun K hK => wp_load_mid 33 (.tmp 11) rfl w6.heap.size 0 rfl [.int .i64 0, .int .i64 0, .int .i64 0, .int .u64 0, .int .u64 0, .int .u64 0, .slice none 0 0, .int .u64 0, .int .u64 0, .bool false, .int .i64 0, .slice none 0 0, .bool false, .int .u64 0, .int .u64 0, .string ⟨#[]⟩, .int .u64 0, .int .i64 0, .slice none 0 0, .slice none 0 0, .int .i64 0, .int .u64 0, .int .i64 0] _ (unhide W14r) Tryz.underlying33 rfl Tryz.sizeM (hK _ _ ?_))
              clear hK K
              refine BigFrame.wpList_want rfl (fun K hK => ?_)
              go_simp
              refine hK _ _ ?_
              clear hK K
              go_wp2_with (first | (go_at_call 10; refine (unhide HSm0).mono ?_; rintro e w15 ⟨rfl, hb15⟩))
              go_ret
              exact ⟨rfl, (unhide B14).trans (hb15.mono (unhide B14).size)⟩
end Go.Proofs.YtklclbegmpafpaaGreatDoor
