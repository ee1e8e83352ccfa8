/- The document's disk: Rename, where it is done. -/
import Derived.Test.YthebgoadeecmpaaDoorQRen2
namespace Go.Proofs.YthebgoadeecmpaaDoor
open Go.RowKit Go.Lib Go.Maps Go.WideMaps

theorem er_mid {G : List Ent} {n : List UInt8} {v : Value} {dt : List UInt8} {su : Nat} (hlk : look G n = none) : (G.take (lessN n G) ++ ⟨n, 0, v, dt, su⟩ :: G.drop (lessN n G)).map er = insE (fl n dt su) (G.map er) := by
  rw [mid_ins (e := ⟨n, 0, v, dt, su⟩) hlk rfl, insE_er]
  rfl
theorem look_del_none {G : List Ent} (n : List UInt8) : look (delE n G) n = none := by
  unfold look delE
  rw [List.find?_eq_none]
  intro x hx
  rw [List.mem_filter] at hx
  simpa using hx.2
theorem ren_end {G L : List Ent} {a b : List UInt8} {v : Value} {dt : List UInt8} {su : Nat} (hL : L = delE b (delE a G)) : (L.take (lessN b L) ++ ⟨b, 0, v, dt, su⟩ :: L.drop (lessN b L)).map er = putE (fl b dt su) (delE a (G.map er)) := by
  rw [er_mid (by rw [hL]; exact look_del_none b)]
  subst hL
  rw [delE_er, delE_er]
  rfl
/-- The file is taken out, and lies in a variable. -/
theorem ren_take {w w1 : World} {r : Nat} {R1 : RSt} {vf : Value} {G : List Ent} {Q : Nat → Prop} (i : Nat) (e : Ent) (ea : Option Addr) (ek : Nat) (hev : e.v = .slice ea e.data.length ek) (h1 : RX w1 r R1 vf G Q) (hf1 : FrO Q w w1) (hi : G[i]? = some e) :
    Calls Tryd.prog 44 #[.pointer (some ⟨r, 0, none⟩), .int .i64 (i : Int)] w1 fun ev w2 => ev = .returned (.agg #[.string ⟨e.name.toArray⟩, .slice ea e.data.length ek, .int .i64 (e.sure : Int)]) ∧
      ∃ vf2 Q2, ∀ nm : List UInt8, RF w Q (w2.alloc (.cells #[.string ⟨nm.toArray⟩, .slice ea e.data.length ek, .int .i64 (e.sure : Int)] 61)) r R1 vf2 (G.eraseIdx i) Q2 w2.heap.size nm (.slice ea e.data.length ek) e.data e.sure := by
  refine (take_any i e h1 hi).mono ?_
  rintro ev w2 ⟨vf2, Q2, rfl, hx, hf, hq, hrb⟩
  rw [hev]
  refine ⟨rfl, vf2, Q2, fun nm => RF.begin hx (hrb _ _ (by rw [← hev]; exact h1.dat e (List.mem_of_getElem? hi))) (hf1.trans hf (fun _ _ hh => hh)) (fun q hh => (hq q hh).imp id (fun h => Nat.le_trans hf1.size h))⟩

set_option maxHeartbeats 6400000 in
set_option maxRecDepth 100000 in
theorem rren_new {w : World} {r : Nat} {R : RSt} {vf : Value} {G : List Ent} {Q : Nat → Prop} (a b : List UInt8) (h : RX w r R vf G Q) (hris : Rising G) (hh : -1 ≤ R.halt ∧ R.halt ≤ 9223372036854775807) (hc : 0 ≤ R.count ∧ R.count < 1000000000) (hb : b.length ≤ 1000) (hoff : R.off = false) (hok : okN b = true) (e : Ent) (hlk : look G a = some e) (hm : (mayR R).2 = true) (hab : (a == b) = false) (hlb : look (delE a G) b = none) :
    Calls Tryd.prog 15 #[.pointer (some ⟨r, 0, none⟩), .string ⟨a.toArray⟩, .string ⟨b.toArray⟩] w (RRenPost w r R vf G Q a b) := by
  have HA := hide (at_any a h)
  have HM := hide (may2_any h hh hc)
  rw [hm] at HM
  obtain ⟨i, hi, hat, hen⟩ := at_some hlk
  rw [hat] at HA
  have hi0 : ¬ (i : Int) < 0 := by omega
  have HN := hide (named_any ⟨b.toArray⟩ w (by show b.toArray.size ≤ _; unfold maxLen; simp; omega))
  have hnl : (ByteArray.mk b.toArray).data.toList = b := by simp
  rw [hnl, hok] at HN
  obtain ⟨c0, c1, c2, c3, c4⟩ := h.cells
  have h00 : ¬ ((0 : Int) ≠ 0) := fun h => h rfl
  have hnoff : ¬ R.off = true := by rw [hoff]; decide
  unfold RRenPost mayC renC thereC
  simp only [if_neg hnoff, if_pos hok, hlk, if_neg h00, hm, if_true]
  rw [hoff] at c2
  obtain ⟨ea, ek, hev⟩ := (h.dat e (List.mem_of_getElem? hi)).slice
  have hil : i < G.length := (List.getElem?_eq_some_iff.1 hi).1
  have hdel : G.eraseIdx i = delE a G := by rw [← hen]; exact erase_del hris hi
  have hfewG := h.few
  have hlen := h.len e (List.mem_of_getElem? hi)
  have hb40 : b.length ≤ 40 := by
    unfold okN at hok
    simp only [Bool.and_eq_true, decide_eq_true_eq] at hok
    exact hok.1.2
  have HT : Hid (∀ w1, RX w1 r (mayR R).1 vf G Q → FrO Q w w1 → _) := fun w1 hx1 hf1 => ren_take (w := w) i e ea ek hev hx1 hf1 hi
  have HAT : Hid (∀ w3 vf2 Q2 fb, RF w Q w3 r (mayR R).1 vf2 (G.eraseIdx i) Q2 fb e.name (.slice ea e.data.length ek) e.data e.sure → Calls Tryd.prog 38 #[.pointer (some ⟨r, 0, none⟩), .string ⟨b.toArray⟩] w3 fun ev w' => ev = .returned (.int .i64 (-1)) ∧ w' = w3) := by
    intro w3 vf2 Q2 fb hrf
    have := at_any b hrf.rx
    rw [at_none (by rw [hdel]; exact hlb)] at this
    exact this
  have HAD : Hid (∀ w3 vf2 Q2 fb, RF w Q w3 r (mayR R).1 vf2 (G.eraseIdx i) Q2 fb b (.slice ea e.data.length ek) e.data e.sure → Calls Tryd.prog 41 #[.pointer (some ⟨r, 0, none⟩), .agg #[.string ⟨b.toArray⟩, .slice ea e.data.length ek, .int .i64 (e.sure : Int)]] w3 fun ev w' => ∃ x : Nat, ev = .returned (.int .i64 (x : Int)) ∧ Hid (∃ (vf' : Value) (G' : List Ent) (Q' : Nat → Prop), RX w' r (mayR R).1 vf' G' Q' ∧ FrO Q w w' ∧ (∀ q, Q' q → Q q ∨ w.heap.size ≤ q) ∧ G'.map er = putE (fl b e.data e.sure) (delE a (G.map er)))) := by
    intro w3 vf2 Q2 fb hrf
    refine (hrf.add hlen hb40 (by rw [List.length_eraseIdx]; simp [hil]; omega)).mono ?_
    rintro ev w' ⟨x, vf', Q', rfl, hx, hf, hq⟩
    refine ⟨x, rfl, vf', _, Q', hx, hf, hq, ren_end ?_⟩
    rw [hdel, delE_all (look_none hlb)]
  clear h hi hen hris hlk hlen hil hdel hlb hev
  go_enter Tryd.func15, Tryd.ntmps15
  go_wp2_with (first
    | (go_at_call 39; refine (unhide HN).mono ?_; rintro e1 w0 ⟨rfl, rfl⟩)
    | (go_at_call 40; refine (unhide HM).mono ?_; rintro e0 w1 ⟨rfl, hx1, hf1⟩; have HT1 := hide (unhide HT w1 hx1 hf1); clear hx1 hf1)
    | (go_at_call 44; refine (unhide HT1).mono ?_; rintro e0 w2 ⟨rfl, vf2, Q2, hrf⟩; have HA3 := hide (unhide HAT _ _ _ _ (hrf e.name)); have HD3 := hide (unhide HAD _ _ _ _ (hrf b)); clear hrf)
    | (go_at_call 38; first | (refine (unhide HA).mono ?_; rintro e0 w0 ⟨rfl, rfl⟩; clear HA) | (refine (unhide HA3).mono ?_; rintro e0 w0 ⟨rfl, rfl⟩))
    | (go_at_call 41; refine (unhide HD3).mono ?_; rintro e0 w4 ⟨x4, rfl, H4⟩))
  go_ret
  obtain ⟨vf', G', Q', hx, hf, hq, hg⟩ := unhide H4
  exact ⟨rfl, hf, fun h0 => absurd rfl h0, fun _ => ⟨e, vf', G', Q', rfl, hx, hq, hg⟩⟩

set_option maxHeartbeats 6400000 in
set_option maxRecDepth 100000 in
theorem rren_old {w : World} {r : Nat} {R : RSt} {vf : Value} {G : List Ent} {Q : Nat → Prop} (a b : List UInt8) (h : RX w r R vf G Q) (hris : Rising G) (hh : -1 ≤ R.halt ∧ R.halt ≤ 9223372036854775807) (hc : 0 ≤ R.count ∧ R.count < 1000000000) (hb : b.length ≤ 1000) (hoff : R.off = false) (hok : okN b = true) (e : Ent) (hlk : look G a = some e) (hm : (mayR R).2 = true) (hab : (a == b) = false) (e2 : Ent) (hlb : look (delE a G) b = some e2) :
    Calls Tryd.prog 15 #[.pointer (some ⟨r, 0, none⟩), .string ⟨a.toArray⟩, .string ⟨b.toArray⟩] w (RRenPost w r R vf G Q a b) := by
  have HA := hide (at_any a h)
  have HM := hide (may2_any h hh hc)
  rw [hm] at HM
  obtain ⟨i, hi, hat, hen⟩ := at_some hlk
  rw [hat] at HA
  have hi0 : ¬ (i : Int) < 0 := by omega
  have HN := hide (named_any ⟨b.toArray⟩ w (by show b.toArray.size ≤ _; unfold maxLen; simp; omega))
  have hnl : (ByteArray.mk b.toArray).data.toList = b := by simp
  rw [hnl, hok] at HN
  obtain ⟨c0, c1, c2, c3, c4⟩ := h.cells
  have h00 : ¬ ((0 : Int) ≠ 0) := fun h => h rfl
  have hnoff : ¬ R.off = true := by rw [hoff]; decide
  unfold RRenPost mayC renC thereC
  simp only [if_neg hnoff, if_pos hok, hlk, if_neg h00, hm, if_true]
  rw [hoff] at c2
  obtain ⟨ea, ek, hev⟩ := (h.dat e (List.mem_of_getElem? hi)).slice
  have hil : i < G.length := (List.getElem?_eq_some_iff.1 hi).1
  have hdel : G.eraseIdx i = delE a G := by rw [← hen]; exact erase_del hris hi
  have hfewG := h.few
  have hlen := h.len e (List.mem_of_getElem? hi)
  have hb40 : b.length ≤ 40 := by
    unfold okN at hok
    simp only [Bool.and_eq_true, decide_eq_true_eq] at hok
    exact hok.1.2
  obtain ⟨k, hk, hatk, hen2⟩ := at_some hlb
  rw [← hdel] at hk hatk
  have hk0 : (0 : Int) ≤ (k : Int) := by omega
  have HT : Hid (∀ w1, RX w1 r (mayR R).1 vf G Q → FrO Q w w1 → _) := fun w1 hx1 hf1 => ren_take (w := w) i e ea ek hev hx1 hf1 hi
  have HAT : Hid (∀ w3 vf2 Q2 fb, RF w Q w3 r (mayR R).1 vf2 (G.eraseIdx i) Q2 fb e.name (.slice ea e.data.length ek) e.data e.sure → Calls Tryd.prog 38 #[.pointer (some ⟨r, 0, none⟩), .string ⟨b.toArray⟩] w3 fun ev w' => ev = .returned (.int .i64 (k : Int)) ∧ w' = w3) := by
    intro w3 vf2 Q2 fb hrf
    have := at_any b hrf.rx
    rw [hatk] at this
    exact this
  have HT2 : Hid (∀ w3 vf2 Q2 fb, RF w Q w3 r (mayR R).1 vf2 (G.eraseIdx i) Q2 fb e.name (.slice ea e.data.length ek) e.data e.sure → Calls Tryd.prog 44 #[.pointer (some ⟨r, 0, none⟩), .int .i64 (k : Int)] w3 fun ev w' => ∃ ag, ev = .returned (.agg ag) ∧ w'.cell? ⟨fb, 0, none⟩ = some (.string ⟨e.name.toArray⟩) ∧ w'.cell? ⟨fb, 1, none⟩ = some (.slice ea e.data.length ek) ∧ w'.cell? ⟨fb, 2, none⟩ = some (.int .i64 (e.sure : Int)) ∧ w'.frozen? ⟨fb, 0, none⟩ = false ∧ Hid (∃ vf' Q', RF w Q w' r (mayR R).1 vf' ((G.eraseIdx i).eraseIdx k) Q' fb e.name (.slice ea e.data.length ek) e.data e.sure)) := by
    intro w3 vf2 Q2 fb hrf
    refine (hrf.take k e2 hk).mono ?_
    rintro ev w' ⟨ag, vf', Q', rfl, hrf'⟩
    obtain ⟨q0, q1, q2, q3⟩ := hrf'.cells
    exact ⟨ag, rfl, q0, q1, q2, q3, vf', Q', hrf'⟩
  have HAD : Hid (∀ w3 vf2 Q2 fb, RF w Q w3 r (mayR R).1 vf2 ((G.eraseIdx i).eraseIdx k) Q2 fb e.name (.slice ea e.data.length ek) e.data e.sure → Calls Tryd.prog 41 #[.pointer (some ⟨r, 0, none⟩), .agg #[.string ⟨b.toArray⟩, .slice ea e.data.length ek, .int .i64 (e.sure : Int)]] (w3.setCell ⟨fb, 0, none⟩ (.string ⟨b.toArray⟩)) fun ev w' => ∃ x : Nat, ev = .returned (.int .i64 (x : Int)) ∧ Hid (∃ (vf' : Value) (G' : List Ent) (Q' : Nat → Prop), RX w' r (mayR R).1 vf' G' Q' ∧ FrO Q w w' ∧ (∀ q, Q' q → Q q ∨ w.heap.size ≤ q) ∧ G'.map er = putE (fl b e.data e.sure) (delE a (G.map er)))) := by
    intro w3 vf2 Q2 fb hrf
    refine ((hrf.name b).add hlen hb40 ?_).mono ?_
    · have : ((G.eraseIdx i).eraseIdx k).length ≤ (G.eraseIdx i).length := List.length_eraseIdx_le _ _
      have h2 : (G.eraseIdx i).length < 64 := by rw [List.length_eraseIdx]; simp [hil]; omega
      omega
    rintro ev w' ⟨x, vf', Q', rfl, hx, hf, hq⟩
    refine ⟨x, rfl, vf', _, Q', hx, hf, hq, ren_end ?_⟩
    rw [← hen2, ← erase_del (hris.del a) (by rw [← hdel]; exact hk), hdel]
  clear h hi hen hris hlk hlen hil hdel hlb hev hk hatk
  go_enter Tryd.func15, Tryd.ntmps15
  go_wp2_with (first
    | (go_at_call 39; refine (unhide HN).mono ?_; rintro e1 w0 ⟨rfl, rfl⟩)
    | (go_at_call 40; refine (unhide HM).mono ?_; rintro e0 w1 ⟨rfl, hx1, hf1⟩; have HT1 := hide (unhide HT w1 hx1 hf1); clear hx1 hf1)
    | (go_at_call 44; first
        | (refine (unhide HT1).mono ?_; rintro e0 w2 ⟨rfl, vf2, Q2, hrf⟩; have HA3 := hide (unhide HAT _ _ _ _ (hrf e.name)); have HD3 := hide (unhide HT2 _ _ _ _ (hrf e.name)); clear hrf HT1)
        | (refine (unhide HD3).mono ?_; rintro e0 w5 ⟨ag, rfl, q0, q1, q2, q3, HR5⟩; obtain ⟨vf5, Q5, hrf5⟩ := unhide HR5; have HD5 := hide (unhide HAD _ _ _ _ hrf5); clear hrf5))
    | (go_at_call 38; first | (refine (unhide HA).mono ?_; rintro e0 w0 ⟨rfl, rfl⟩; clear HA) | (refine (unhide HA3).mono ?_; rintro e0 w0 ⟨rfl, rfl⟩))
    | (go_at_call 41; refine (unhide HD5).mono ?_; rintro e0 w4 ⟨x4, rfl, H4⟩))
  go_ret
  obtain ⟨vf', G', Q', hx, hf, hq, hg⟩ := unhide H4
  exact ⟨rfl, hf, fun h0 => absurd rfl h0, fun _ => ⟨e, vf', G', Q', rfl, hx, hq, hg⟩⟩

theorem rrename_any {w : World} {r : Nat} {R : RSt} {vf : Value} {G : List Ent} {Q : Nat → Prop} (a b : List UInt8) (h : RX w r R vf G Q) (hris : Rising G) (hh : -1 ≤ R.halt ∧ R.halt ≤ 9223372036854775807) (hc : 0 ≤ R.count ∧ R.count < 1000000000) (hb : b.length ≤ 1000) :
    Calls Tryd.prog 15 #[.pointer (some ⟨r, 0, none⟩), .string ⟨a.toArray⟩, .string ⟨b.toArray⟩] w (RRenPost w r R vf G Q a b) := by
  cases hoff : R.off with
  | true => exact rren_off a b h hoff
  | false =>
    cases hok : okN b with
    | false => exact rren_bad a b h hb hoff hok
    | true =>
      cases hlk : look G a with
      | none => exact rren_none a b h hb hoff hok hlk
      | some e =>
        cases hm : (mayR R).2 with
        | false => exact rren_may a b h hh hc hb hoff hok e hlk hm
        | true =>
          cases hab : (a == b) with
          | true =>
            have : a = b := by simpa using hab
            subst this
            exact rren_same a h hris hh hc hb hoff hok e hlk hm
          | false =>
            cases hlb : look (delE a G) b with
            | none => exact rren_new a b h hris hh hc hb hoff hok e hlk hm hab hlb
            | some e2 => exact rren_old a b h hris hh hc hb hoff hok e hlk hm hab e2 hlb
end Go.Proofs.YthebgoadeecmpaaDoor
