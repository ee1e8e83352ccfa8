/- The wal: replay of a file's bytes: its walk. -/
import Derived.Test.YtebiekkkmimomaaGreatDoorJWaUn2WaRep
import Derived.Test.YtebiekkkmimomaaGreatDoorErrs
namespace Go.Proofs.YtebiekkkmimomaaGreatDoor
open Go.RowKit Go.Lib Go.Maps

/-- What replay is handed. -/
structure RI (w : World) (p o B : Nat) (T : TypeId) (cur : Array Value) (s : Sta) (v : Value) (rs : List Rc) (t : List UInt8) (s' : Sta) (ad : Option Addr) (N cap : Nat) : Prop where
  se : SE w p o T cur s v
  ok : s.ok
  rsok : ∀ r ∈ rs, r.ok
  run : runS s rs = .ok s'
  few : s.es.length + rs.length ≤ 900000
  len : (recsB rs ++ t).length ≤ 1000000
  torn : t = [] ∨ unfr t = ([], 0, 22)
  by' : BY w p v (.slice ad N cap) (recsB rs ++ t)
  ev : EV w B
  bp : B ≤ p
  bv : ∀ g, inB v g → B ≤ g
  bz : B ≤ w.heap.size
def atJ (rs : List Rc) (j : Nat) : Nat := (recsB (rs.take j)).length
/-- Behind j records. -/
def RJ (w wr : World) (p o : Nat) (T : TypeId) (cur : Array Value) (s : Sta) (v : Value) (rs : List Rc) (j : Nat) : Prop :=
  ∃ sj cj vj, runS s (rs.take j) = .ok sj ∧ sj.ok ∧ sj.es.length ≤ s.es.length + j ∧ SE wr p o T cj sj vj ∧ Out o cur cj ∧ (∀ g, inB vj g → inB v g ∨ w.heap.size ≤ g) ∧ (∀ k, k < w.heap.size → k ≠ p → ¬ inB v k → wr.heap[k]? = w.heap[k]?) ∧ w.heap.size ≤ wr.heap.size ∧ Dk.Env w wr
section
variable {w wr : World} {p o B : Nat} {T : TypeId} {cur : Array Value} {s s' : Sta} {v : Value} {rs : List Rc} {t : List UInt8} {ad : Option Addr} {N cap : Nat}
theorem RJ.below {w1 : World} {j : Nat} (h : RJ w wr p o T cur s v rs j) (hb : Below wr.heap.size wr w1) : RJ w w1 p o T cur s v rs j := by
  obtain ⟨sj, cj, vj, h1, h2, h3, h4, h5, h6, h7, h8, h9⟩ := h
  exact ⟨sj, cj, vj, h1, h2, h3, h4.below hb, h5, h6, fun k hk hne hn => (hb.block k (by omega)).trans (h7 k hk hne hn), Nat.le_trans h8 hb.size, h9.trans ⟨hb.os, hb.tape, hb.output⟩⟩
theorem RJ.one {j : Nat} {sj : Sta} (h : RJ w wr p o T cur s v rs j) (hr : runS s (rs.take j) = .ok sj) : ST1 w wr p o T cur v sj := by
  obtain ⟨sj', cj, vj, h1, h2, h3, h4, h5, h6, h7, h8, h9⟩ := h
  obtain rfl : sj' = sj := by rw [h1] at hr; cases hr; rfl
  exact ⟨⟨cj, vj, h4, h5, h6⟩, h7, h8, h9⟩
theorem RJ.ev {j : Nat} (h : RJ w wr p o T cur s v rs j) (hi : RI w p o B T cur s v rs t s' ad N cap) : EV wr B := by
  obtain ⟨sj, cj, vj, h1, h2, h3, h4, h5, h6, h7, h8, h9⟩ := h
  exact hi.ev.below ⟨h9.1, h9.2.1, h9.2.2, h8, fun k hk => h7 k (by have := hi.bz; omega) (by have := hi.bp; omega) (fun hh => by have := hi.bv k hh; omega)⟩
theorem RJ.bytes {j : Nat} (h : RJ w wr p o T cur s v rs j) (hi : RI w p o B T cur s v rs t s' ad N cap) : RBp wr wr.heap.size (.slice ad N cap) (recsB rs ++ t) := by
  obtain ⟨sj, cj, vj, h1, h2, h3, h4, h5, h6, h7, h8, h9⟩ := h
  exact rb_keep hi.by'.rb h8 (fun b hb => h7 b (rb_lt hi.by'.rb hb) (hi.by'.ne b hb).1 (hi.by'.ne b hb).2)
theorem RI.start (hi : RI w p o B T cur s v rs t s' ad N cap) : RJ w w p o T cur s v rs 0 :=
  ⟨s, cur, v, rfl, hi.ok, by omega, hi.se, Out.refl _ _, fun _ hg => .inl hg, fun _ _ _ _ => rfl, Nat.le_refl _, rfl, rfl, rfl⟩
theorem RI.nn (hi : RI w p o B T cur s v rs t s' ad N cap) : N = (recsB rs ++ t).length := by
  obtain ⟨a, k, h⟩ := rb_len hi.by'.rb
  cases h; rfl
theorem atJ_le (rs : List Rc) (t : List UInt8) (j : Nat) : atJ rs j ≤ (recsB rs ++ t).length := by
  have e : recsB rs = recsB (rs.take j) ++ recsB (rs.drop j) := by rw [← recsB_app, List.take_append_drop]
  unfold atJ
  rw [e]; simp
theorem atJ_all (rs : List Rc) : atJ rs rs.length = (recsB rs).length := by unfold atJ; rw [List.take_length]
theorem atJ_lt {j : Nat} (t : List UInt8) (h : j < rs.length) : atJ rs j < (recsB rs ++ t).length := by
  have h1 := recsB_len rs j rs[j] (List.getElem?_eq_getElem h)
  have h2 := atJ_le rs t (j + 1)
  have h3 := rs[j].len
  unfold atJ at *
  omega
theorem rj_unframe {j : Nat} {r : Rc} {g off : Nat} (hi : RI w p o B T cur s v rs t s' ad N cap) (ha : ad = some ⟨g, off, none⟩) (hj : rs[j]? = some r) (h : RJ w wr p o T cur s v rs j) :
    Calls Tryz.prog 57 #[.slice (some ⟨g, off + atJ rs j, none⟩) (N - atJ rs j) (cap - atJ rs j)] wr fun e w' => e = .returned (.tuple #[.agg r.cells, .int .i64 (r.bytes.length : Int), .nilIface]) ∧ RJ w w' p o T cur s v rs j := by
  have hlt := atJ_lt t (List.getElem?_eq_some_iff.1 hj).1
  have hN := hi.nn
  subst ha
  have hb := h.bytes hi
  obtain ⟨h1, ⟨h2, _⟩ | ⟨b, off', cap', hbB, hc, hm, he, hcell⟩⟩ := hb
  · cases h2
  cases he
  have hd := rb_drop hbB (Nat.le_of_lt hlt) hc hm h1 hcell
  have e := recsB_at rs t j r hj
  unfold atJ at hd ⊢
  rw [e] at hd
  have hl : (r.bytes ++ (recsB (rs.drop (j + 1)) ++ t)).length ≤ 1000000 := by rw [← e]; have := hi.len; simp at this ⊢; omega
  refine (unframe_rc r _ _ wr (h.ev hi).et (h.ev hi).st (hi.rsok r (List.mem_of_getElem? hj)) hl hd).mono ?_
  rintro e w' ⟨rfl, hbl⟩
  exact ⟨rfl, h.below hbl⟩
theorem rj_torn {g off : Nat} (hi : RI w p o B T cur s v rs t s' ad N cap) (ha : ad = some ⟨g, off, none⟩) (ht : t ≠ []) (h : RJ w wr p o T cur s v rs rs.length) :
    Calls Tryz.prog 57 #[.slice (some ⟨g, off + atJ rs rs.length, none⟩) (N - atJ rs rs.length) (cap - atJ rs rs.length)] wr fun e w' => ∃ (b : Nat) (pl : Int), e = .returned (.tuple #[.agg zRec, .int .i64 0, ev b]) ∧ ErrAt w' b pl 22 ∧ RJ w w' p o T cur s v rs rs.length := by
  have hN := hi.nn
  have ha2 := atJ_all rs
  have htl : 0 < t.length := List.length_pos_iff.2 ht
  have hlt : atJ rs rs.length < (recsB rs ++ t).length := by rw [ha2]; simp; omega
  subst ha
  have hb := h.bytes hi
  obtain ⟨h1, ⟨h2, _⟩ | ⟨b, off', cap', hbB, hc, hm, he, hcell⟩⟩ := hb
  · cases h2
  cases he
  have hd := rb_drop hbB (Nat.le_of_lt hlt) hc hm h1 hcell
  have e : (recsB rs ++ t).drop (atJ rs rs.length) = t := by rw [ha2, List.drop_left]
  rw [e] at hd
  refine (unframe_torn _ t wr (h.ev hi).st (by have := hi.len; simp at this; omega) (hi.torn.resolve_left ht) hd).mono ?_
  rintro e w' ⟨b, pl, rfl, he, hbl⟩
  exact ⟨b, pl, rfl, he, h.below hbl⟩
theorem rj_take {j : Nat} {r : Rc} (hi : RI w p o B T cur s v rs t s' ad N cap) (hj : rs[j]? = some r) (h : RJ w wr p o T cur s v rs j) :
    Calls Tryz.prog 58 #[.pointer (some ⟨p, o, none⟩), .agg r.cells] wr fun e w' => e = .returned .nilIface ∧ RJ w w' p o T cur s v rs (j + 1) := by
  obtain ⟨sj, cj, vj, h1, h2, h3, h4, h5, h6, h7, h8, h9⟩ := h
  obtain ⟨s1, s2, q1, q2, q3⟩ := runS_step hi.run hj
  obtain rfl : sj = s1 := by rw [h1] at q1; cases q1; rfl
  have hr := hi.rsok r (List.mem_of_getElem? hj)
  have hjl := (List.getElem?_eq_some_iff.1 hj).1
  have hfew := hi.few
  refine (take_any r h4 h2 hr).mono ?_
  intro e w' ht
  rw [q2] at ht
  obtain ⟨rfl, ht⟩ := ht
  have hz := ht.one
  obtain ⟨⟨c2, v2, z1, z2, z3⟩, z4, z5, z6⟩ := ST1.trans h8 h5 h6 h7 h9 hz
  exact ⟨rfl, s2, c2, v2, q3, takeS_ok h2 hr (by omega) q2, by have := takeS_len q2; omega, z1, z2, z3, z4, z5, z6⟩
set_option maxHeartbeats 12800000 in
set_option maxRecDepth 100000 in
theorem replay_any (hi : RI w p o B T cur s v rs t s' ad N cap) :
    Calls Tryz.prog 31 #[.pointer (some ⟨p, o, none⟩), .slice ad N cap] w fun e w' => RepP w p o T cur v s' (recsB rs).length (decide (t = [])) e w' := by
  have hN := hi.nn
  have hlen := hi.len
  have hNl : (N : Int) ≤ 1000000 := by omega
  have HI := hide hi
  have H0 := hide hi.start
  have HNt := hide hN
  clear hi hlen hN
  go_enter Tryz.func31, Tryz.ntmps31
  go_wp2_with fail
  go_loopw [5, 6, 7, 8] (fun s5 s6 s7 s8 wr => s6 = s6 ∧ s7 = s7 ∧ s8 = s8 ∧ ∃ j, j ≤ rs.length ∧ s5 = .int .i64 ((atJ rs j : Nat) : Int) ∧ Hid (RJ w wr p o T cur s v rs j)) (fun s5 _ _ _ _ => N - (RowKit.intOf s5).toNat)
  case atStart => exact ⟨rfl, rfl, rfl, 0, Nat.zero_le _, rfl, unhide H0⟩
  case round =>
    obtain ⟨-, -, -, j, hj, rfl, hr⟩ := hrel
    clear H0
    by_cases hlt : j < rs.length
    · have ha : rs[j]? = some rs[j] := List.getElem?_eq_getElem hlt
      generalize rs[j] = r at ha
      have h1 : atJ rs j < N := by rw [unhide HNt]; exact atJ_lt t hlt
      obtain ⟨g, off, had, -, hcap, -⟩ := (unhide HI).by'.from (by omega)
      have h2 : atJ rs (j + 1) = atJ rs j + r.bytes.length := recsB_len rs j r ha
      have h3 : atJ rs (j + 1) ≤ N := by rw [unhide HNt]; exact atJ_le rs t (j + 1)
      have hrl := r.len
      have HU := hide (rj_unframe (unhide HI) had ha (unhide hr))
      have HK := hide (fun W (hW : RJ w W p o T cur s v rs j) => rj_take (unhide HI) ha hW)
      subst had
      generalize atJ rs j = at0 at *
      generalize hb : r.bytes.length = bl at *
      have g1 : (at0 : Int) < (N : Int) := by omega
      have g0 : (0 : Int) ≤ (at0 : Int) := by omega
      have g2 : ¬ cap = at0 := by omega
      have g3 : ¬ at0 = cap := by omega
      have hw : IntKind.i64.wrap ((at0 : Int) + (bl : Int)) = (at0 : Int) + (bl : Int) := by rw [IntKind.wrap_i64] <;> omega
      have H2 := hide (And.intro h2 (And.intro h3 (And.intro hrl hlt)))
      clear hr hb ha h2 h3 hrl hlt
      unfold Rc.cells at HU HK
      go_wp2_with (first
        | (go_at_call 57; refine (unhide HU).mono ?_; rintro e w1 ⟨rfl, h1'⟩; clear HU; have HR := hide (h1'.below (box_below _ (.cells #[.int .u8 (r.kind : Int), .int .u64 (r.term : Int), .int .u64 (r.place : Int), .int .u64 (r.ent.term : Int), .int .i64 r.ent.kind, .int .u64 (r.ent.client : Int), .int .u64 (r.ent.seq : Int), .string r.ent.sql] 84))); clear h1')
        | (go_at_call 58; refine (unhide HK _ (unhide HR)).mono ?_; rintro e w2 ⟨rfl, h2'⟩; clear HK; have HR2 := hide h2'; clear h2'))
      obtain ⟨h2, h3, hrl, hlt⟩ := unhide H2
      refine ⟨⟨trivial, trivial, trivial, j + 1, by omega, by rw [h2]; simp, unhide HR2⟩, ?_⟩
      simp [RowKit.intOf]
      omega
    · obtain rfl : j = rs.length := by omega
      have hal := atJ_all rs
      have HF := hide ((unhide hr).one (by rw [List.take_length]; exact (unhide HI).run))
      by_cases ht : t = []
      · have hN0 : atJ rs rs.length = N := by rw [unhide HNt, hal, ht, List.append_nil]
        have g1 : ¬ ((atJ rs rs.length : Int) < (N : Int)) := by omega
        have Ht := hide ht
        clear hr HI HNt hal hlt hN0 ht
        generalize atJ rs rs.length = at0 at *
        go_wp2_with fail
        go_ret
        exact ⟨unhide HF, .inl ⟨by simp [unhide Ht], rfl⟩⟩
      · have hN0 : atJ rs rs.length < N := by rw [unhide HNt, hal]; have := List.length_pos_iff.2 ht; simp; omega
        obtain ⟨g, off, had, -, hcap, -⟩ := (unhide HI).by'.from (by omega)
        have HU := hide (rj_torn (unhide HI) had ht (unhide hr))
        have HX := hide (unhide hr)
        have HO := hide (fun W (hW : RJ w W p o T cur s v rs rs.length) => hW.one (by rw [List.take_length]; exact (unhide HI).run))
        subst had
        have Hal := hide hal
        have Ht := hide ht
        clear hr HF hal ht hlt
        generalize hat : atJ rs rs.length = at0 at *
        have g1 : (at0 : Int) < (N : Int) := by omega
        have g0 : (0 : Int) ≤ (at0 : Int) := by omega
        have g2 : ¬ cap = at0 := by omega
        have g3 : ¬ at0 = cap := by omega
        clear hat hN0
        unfold zRec at HU
        go_wp2_with (first
          | (go_at_call 57; refine (unhide HU).mono ?_; rintro e w1 ⟨b, pl, rfl, he, h1'⟩; clear HU; have HR := hide (And.intro he h1'); clear he h1'))
        go_ret
        obtain ⟨he, hj1⟩ := unhide HR
        have b1 := box_below w1 (.cells #[.int .u8 0, .int .u64 0, .int .u64 0, .int .u64 0, .int .i64 0, .int .u64 0, .int .u64 0, .string ⟨#[]⟩] 84)
        have b2 := box_below (w1.alloc (.cells #[.int .u8 0, .int .u64 0, .int .u64 0, .int .u64 0, .int .i64 0, .int .u64 0, .int .u64 0, .string ⟨#[]⟩] 84)) (.cells #[.int .i64 (at0 : Int), ev b] 116)
        have hz := (unhide HO _ hj1).size
        have hbl := lt_of_cell he.1
        refine ⟨unhide HO _ ((hj1.below b1).below b2), .inr ⟨by simp [unhide Ht], w1.heap.size + 1, b, pl, rfl, by omega, ?_, ?_, ?_⟩⟩
        · rw [← unhide Hal]; simp
        · simp
        · exact (he.below b1 hbl).below b2 (by simp; exact Nat.lt_succ_of_lt hbl)
end
end Go.Proofs.YtebiekkkmimomaaGreatDoor
/- The wal: whether an error tells a torn end. -/
namespace Go.Proofs.YtebiekkkmimomaaGreatDoor
open Go.RowKit Go.Extern.Stop Go.Stop Go.Extern Go.Lib Go.Maps

set_option maxHeartbeats 8000000 in
set_option maxRecDepth 100000 in
/-- errors.Is at a placed error within a placed error: by its class. -/
theorem is_placed2 (p q : Nat) (c : Int) (w : World) (h1 : w.cell? ⟨p, 1, none⟩ = some (ev q)) (h2 : w.cell? ⟨q, 1, none⟩ = some (.iface 75 (.int .i64 c))) :
    Calls Tryz.prog 29 #[ev p, .iface 75 (.int .i64 c)] w fun e w' => e = .returned (.bool true) ∧ w' = w := by
  have hTO := @run_callFunc_extern Tryz.prog 51 _ Extern.ReflectliteType.typeOf Tryz.func51 (by kernel_rfl) (by kernel_rfl) (by kernel_rfl) (by kernel_rfl)
  have tT := Tryz.isTypeOfC
  have cT := Tryz.isComparableC
  have mR := Tryz.isMethodComparable
  have nE := Tryz.noIsC
  have uE := Tryz.noUnwrapC
  have vE := Tryz.noUnwrapsC
  have nW := Tryz.noIsP
  have uW := Tryz.hasUnwrapP
  have mU := Tryz.methodUnwrap
  have heq := run_eql_iface_int (P := Tryz.prog) (k := .i64) w c c Tryz.underlying31 Tryz.isCompC Tryz.underlying75
  have hty := run_eql_iface_types (P := Tryz.prog) 112 75 (.pointer (some ⟨p, 0, none⟩)) (.int .i64 c) Tryz.underlying31 (by decide) w
  have hty2 := run_eql_iface_types (P := Tryz.prog) 112 75 (.pointer (some ⟨q, 0, none⟩)) (.int .i64 c) Tryz.underlying31 (by decide) w
  have hcc : (c == c) = true := by simp
  go_enter Tryz.func29, Tryz.ntmps29
  go_wp2
  refine wp_loop_rounds 3 ?_
  rw [rounds_succ]
  go_wp2
  rw [rounds_succ]
  go_wp2
  rw [rounds_succ]
  go_wp2
  go_ret
  exact ⟨rfl, rfl⟩

set_option maxHeartbeats 3200000 in
theorem torn_nil (w : World) : Calls Tryz.prog 55 #[.nilIface] w fun e w' => e = .returned (.bool false) ∧ w' = w := by
  go_enter Tryz.func55, Tryz.ntmps55
  go_wp2_with (first
    | (go_at_call 29; refine (is_nil _ _).mono ?_; rintro e w1 ⟨rfl, rfl⟩))
  go_ret
  exact ⟨rfl, rfl⟩
set_option maxHeartbeats 3200000 in
theorem torn_yes (b b2 : Nat) (pl : Int) (w : World) (h1 : w.cell? ⟨b, 1, none⟩ = some (ev b2)) (h2 : ErrAt w b2 pl 22) : Calls Tryz.prog 55 #[ev b] w fun e w' => e = .returned (.bool true) ∧ w' = w := by
  have HI := hide (is_placed2 b b2 22 w h1 h2.2)
  clear h1 h2
  go_enter Tryz.func55, Tryz.ntmps55
  go_wp2_with (first
    | (go_at_call 29; refine (unhide HI).mono ?_; rintro e w1 ⟨rfl, rfl⟩))
  go_ret
  exact ⟨rfl, rfl⟩
end Go.Proofs.YtebiekkkmimomaaGreatDoor
