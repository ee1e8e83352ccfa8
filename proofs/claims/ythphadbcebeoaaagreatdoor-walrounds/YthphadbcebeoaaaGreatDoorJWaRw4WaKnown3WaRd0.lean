/- A wal that may be written anew, as WalRounds sees it. -/
import Derived.Test.YthphadbcebeoaaaGreatDoorJWaRw2WaRw3
import Derived.Test.YthphadbcebeoaaaGreatDoorJWListsWMsgMsgHelpWaKB
import Derived.Test.YthphadbcebeoaaaGreatDoorJWaKnownWaKnown2
namespace Go.Proofs.YthphadbcebeoaaaGreatDoor
open Go.RowKit Go.Lib Go.Maps

/-- A state's texts are short, its entries few. -/
def FewS (s : Sta) (m : Nat) : Prop := s.es.length ≤ m ∧ ∀ g ∈ s.es, g.sql.size ≤ 255
theorem FewS.rw {s : Sta} (h : FewS s 25) (hs : s.ok) : (recsB (stR s)).length ≤ 9045 := by
  have h1 := stR_small (m := 255) hs h.2
  have h2 := h.1
  omega
section
variable {w w' : World} {B p q sz n ns : Nat} {S : Dk.St} {R : Int} {x : Fx} {s s2 : Sta} {v : Value} {D : Nat → Prop} {rs qs : List Rc} {pr : Bool} {O : Nat → Prop}
theorem wrp_far (hS : OkS S R n) (hf : ¬ Fails S) (hm : Roomy R none x (recsB qs).length) (hz : sz + (recsB qs).length ≤ 32768) : WrP B p q S (FX none x) s v sz D (recsB qs) s2 (nx S) (FX none (some (dB x ++ recsB qs, dS x))) (sz + (recsB qs).length) :=
  fun _ a3 k3 vb h hB hE hv _ => write_go s2 (.slice a3 s2.es.length k3) vb (recsB qs) h hB hE hS hm hv hf hz
theorem wrp_anew (hS : OkS S R (n + 3)) (hh : Hale S) (hs2 : s2.ok) (hf : FewS s2 25) (hm : Roomy R none x 9045) (hz : 32768 < sz + (recsB qs).length) (hz2 : sz ≤ 1000000) : WrP B p q S (FX none x) s v sz D (recsB qs) s2 (nx (nx (nx S))) (FX none (some (recsB (stR s2), (recsB (stR s2)).length))) (recsB (stR s2)).length :=
  fun _ a3 k3 vb h hB hE hv he => write_rw a3 k3 vb (recsB qs) h hB hE hS hh hv he hs2 (by have := hf.1; omega) (by have := hf.rw hs2; omega) ⟨hm.1, by have := hm.2; have := hf.rw hs2; omega⟩ hz hz2
/-- Which records the file has behind a call: those ahead of it and the call's, or the shortest ones. -/
def KAny (w : World) (B p q : Nat) (s2 : Sta) (n : Nat) (O : Nat → Prop) (e : Ending) (w' : World) : Prop :=
  ∃ rs' ns', (recsB rs').length ≤ 32768 ∧ KDone w B p q 65536 none rs' ns' true s2 n O e w'
/-- A call whose do takes the records qs. -/
theorem wk_any (h : WK w B p q 65536 none rs ns pr s (n + 3) O) (hz : (recsB rs).length ≤ 32768) (hq : ∀ r ∈ qs, r.ok) (hrun : runS s qs = .ok s2) (hf : FewS s2 25) (hn : s.es.length + qs.length ≤ 800000)
    {P : Ending → World → Prop} (hP : ∀ e w', KAny w B p q s2 n O e w' → P e w')
    {C : (Ending → World → Prop) → Prop} (hC : ∀ {v : Value} {D : Nat → Prop} {S S2 : Dk.St} {F2 : List Dk.Ent} {sz2 : Nat}, WX w B p q S (FX none (xF pr rs ns)) s v (recsB rs).length D → B ≤ w.heap.size → EV w B → s.ok → WrP B p q S (FX none (xF pr rs ns)) s v (recsB rs).length D (recsB qs) s2 S2 F2 sz2 → C (fun e w' => WDone w B p q S2 F2 s2 sz2 v D (WO p v D) e w'))
    (hM : ∀ {P1 P2 : Ending → World → Prop}, C P1 → (∀ e w', P1 e w' → P2 e w') → C P2) : C P := by
  obtain ⟨v, D, S, h1, h2, h3, h4, h5, h6, h7, h8, h9, h10, h11⟩ := h
  have hd := xF_data (ns := ns) h2
  have hsu := xF_sure (ns := ns) h2
  have hs2 := (runS_ok h6 hq (by omega) hrun).1
  rcases Nat.lt_or_ge 32768 ((recsB rs).length + (recsB qs).length) with hb | hb
  · refine hM (hC h1 h9 h10 h6 (wrp_anew (n := n) h7 h8 hs2 hf ⟨by omega, by rw [hd]; simp only [dB, List.length_nil]; omega⟩ hb (by omega))) fun e w' hd' => hP e w' ⟨stR s2, (stR s2).length, by have := hf.rw hs2; omega, ?_⟩
    refine kdone h1 h9 h10 h11 (stR_run hs2) (stR_ok hs2) hs2 (Nat.le_refl _) (((h7.nx h8.go).nx h8.nx.go).nx h8.nx.nx.go) h8.nx.nx.nx (fun k hk => hk) ?_
    have e1 : xF true (stR s2) (stR s2).length = some (recsB (stR s2), (recsB (stR s2)).length) := by unfold xF; rw [if_pos rfl, List.take_length]
    rw [e1]
    exact hd'
  · refine hM (hC h1 h9 h10 h6 (wrp_far (n := n + 3) h7 h8.go ⟨by omega, by rw [hd]; simp only [dB, List.length_nil]; omega⟩ hb)) fun e w' hd' => hP e w' ⟨rs ++ qs, ns, by rw [recsB_app, List.length_append]; exact hb, ?_⟩
    rw [hd, hsu] at hd'
    refine kdone h1 h9 h10 h11 (by rw [runS_app h3]; exact hrun) (fun r hr' => ?_) hs2 (by simp; omega) ((h7.nx h8.go).less (by omega)) h8.nx (fun k hk => hk) ?_
    · rcases List.mem_append.1 hr' with h' | h'
      · exact h4 r h'
      · exact hq r h'
    · have e1 : xF true (rs ++ qs) ns = some (recsB rs ++ recsB qs, (recsB (rs.take ns)).length) := by unfold xF; rw [if_pos rfl, take_app h5, recsB_app]
      rw [e1, recsB_app, List.length_append]
      exact hd'
end
section
variable {w0 w w' : World} {B p q n ns : Nat} {s s2 : Sta} {pr sr : Bool} {L : List (Value × List GE)} {vl : Value} {es : List GE} {fn : FuncId} {args : Array Value} {r : Rc}
/-- What WalRounds knows of its wal: its state, whether its file is there, whether all is sure. -/
def KQ (w0 w : World) (p q : Nat) (pr sr : Bool) (s : Sta) (n : Nat) (L : List (Value × List GE)) : Prop :=
  ∃ rs ns, KB w0 w w0.heap.size p q 65536 none rs ns pr s n L ∧ (recsB rs).length ≤ 32768 ∧ (sr = true → ns = rs.length)
theorem KQ.below (h : KQ w0 w p q pr sr s n L) (hb : Below w.heap.size w w') : KQ w0 w' p q pr sr s n L := by
  obtain ⟨rs, ns, h1, h2⟩ := h
  exact ⟨rs, ns, h1.below hb, h2⟩
theorem KQ.less {m : Nat} (h : KQ w0 w p q pr sr s n L) (hm : m ≤ n) : KQ w0 w p q pr sr s m L := by
  obtain ⟨rs, ns, h1, h2⟩ := h
  exact ⟨rs, ns, h1.less hm, h2⟩
theorem KQ.rows {L' : List (Value × List GE)} (h : KQ w0 w p q pr sr s n L) (hb : Below w.heap.size w w') (hL : ∀ x ∈ L', x ∈ L ∨ (EL w' x.1 x.2 ∧ ∀ g, inB x.1 g → w.heap.size ≤ g ∨ ∃ y ∈ L, inB y.1 g)) : KQ w0 w' p q pr sr s n L' := by
  obtain ⟨rs, ns, h1, h2⟩ := h
  exact ⟨rs, ns, h1.rows hb hL, h2⟩
theorem KQ.fr (h : KQ w0 w p q pr sr s n L) : Below w0.heap.size w0 w := by
  obtain ⟨rs, ns, h1, h2⟩ := h
  exact h1.ev.2.2
theorem KQ.row {x : Value × List GE} (h : KQ w0 w p q pr sr s n L) (hx : x ∈ L) : EL w x.1 x.2 := by
  obtain ⟨rs, ns, ⟨O, h1, h2, h3⟩, _⟩ := h
  exact (h3 x hx).1
theorem kq_of {e : Ending} {O : Nat → Prop} {rs : List Rc} (h1 : WK w w0.heap.size p q 65536 none rs ns pr s (n + 3) O) (h2 : Below w0.heap.size w0 w) (h3 : ∀ x ∈ L, EL w x.1 x.2 ∧ ∀ g, inB x.1 g → ¬ O g) (h : KAny w w0.heap.size p q s2 n O e w') : e = .returned .nilIface ∧ KQ w0 w' p q true false s2 n L := by
  obtain ⟨rs', ns', hz, hd⟩ := h
  obtain ⟨rfl, hk⟩ := kb_step h1 h2 h3 hd
  exact ⟨rfl, rs', ns', hk, hz, fun hh => by cases hh⟩
theorem kq_one (hF : OneOf fn args p r w) (h : KQ w0 w p q pr sr s (n + 3) L) (hr : r.ok) (hrl : r.ent.sql.size = 0) (hrun : takeS s r = .ok s2) (hf : FewS s2 25) (hn : s.es.length ≤ 1000) :
    Calls Tryz.prog fn args w fun e w' => e = .returned .nilIface ∧ KQ w0 w' p q true false s2 n L := by
  obtain ⟨rs, ns, ⟨O, h1, h2, h3⟩, hz, _⟩ := h
  have e1 : recsB [r] = r.bytes := by simp [recsB]
  have hrb := rc_small hr
  refine wk_any (qs := [r]) (C := fun P => Calls Tryz.prog fn args w P) h1 hz (fun r' h' => by rw [List.mem_singleton.1 h']; exact hr) (by simp only [runS]; rw [hrun]) hf (by simp; omega) (fun e w' hk => kq_of h1 h2 h3 hk) (fun {v D S S2 F2 sz2} g1 g2 g3 g4 g5 => ?_) (fun hc hm => hc.mono hm)
  refine hF _ (fun e w' ⟨v', D', h1, _⟩ => ⟨_, h1⟩) (fun w1 hb => ?_)
  have hd := do_gen (di_one (g1.below hb) (Nat.le_trans g2 hb.size) (g3.below (hb.mono g2)) g4 (by omega) r) (by rw [e1]; omega) (fun r' h' => by rw [List.mem_singleton.1 h']; exact hr) (by simp only [runS]; rw [hrun]) g5
  exact hd.mono fun e w' h' => (h'.pre (box_below w1 _)).pre hb
theorem ents_len (hes : ∀ g ∈ es, (g.ok ∧ g.may = true) ∧ g.sql.size ≤ 255) : (recsB (es.map rcE)).length ≤ 335 * es.length := by
  have := recs_upto (m := 255) (rs := es.map rcE) (fun r hr => by obtain ⟨g, hg, rfl⟩ := List.mem_map.1 hr; exact ⟨rcE_ok (hes g hg).1.1 (hes g hg).1.2, (hes g hg).2⟩)
  simpa using this
theorem kq_app (h : KQ w0 w p q pr sr s (n + 3) L) (hl : RE w vl es) (hes : ∀ g ∈ es, (g.ok ∧ g.may = true) ∧ g.sql.size ≤ 255) (hel : es.length ≤ 20) (hf : FewS s 5) :
    Calls Tryz.prog 11 #[.pointer (some ⟨p, 0, none⟩), vl] w fun e w' => e = .returned .nilIface ∧ KQ w0 w' p q true false ⟨s.term, s.vote, s.base, s.bt, s.es ++ es⟩ n L := by
  obtain ⟨rs, ns, ⟨O, h1, h2, h3⟩, hz, _⟩ := h
  have hrs : ∀ r ∈ es.map rcE, r.ok := fun r hr => by obtain ⟨g, hg, rfl⟩ := List.mem_map.1 hr; exact rcE_ok (hes g hg).1.1 (hes g hg).1.2
  have hln := ents_len hes
  have hf5 := hf.1
  refine wk_any (qs := es.map rcE) (s2 := ⟨s.term, s.vote, s.base, s.bt, s.es ++ es⟩) (C := fun P => Calls Tryz.prog 11 #[.pointer (some ⟨p, 0, none⟩), vl] w P) h1 hz hrs (rcE_run es) ⟨by simp only [List.length_append]; omega, fun g hg => ?_⟩ (by simp; omega) (fun e w' hk => kq_of h1 h2 h3 hk) (fun {v D S S2 F2 sz2} g1 g2 g3 g4 g5 => ?_) (fun hc hm => hc.mono hm)
  · rcases List.mem_append.1 hg with h' | h'
    · exact hf.2 g h'
    · exact (hes g h').2
  refine app_of (fun e w' hd => ?_) (by omega) hl (fun g hg => by have := (hes g hg).2; omega) ?_
  · obtain ⟨v', D', h1, _⟩ := hd
    exact ⟨_, h1⟩
  intro w2 hb hM
  refine (do_gen (rs := es.map rcE) ⟨g1.below hb, Nat.le_trans g2 hb.size, g3.below (hb.mono g2), g4, hM.rl _, fun b hi hw => ?_, by simp; omega, .inl (fun r hr => ?_)⟩ (by omega) hrs (rcE_run es) g5).mono fun e w' hd => hd.pre hb
  · obtain ⟨_, _, _, e⟩ := hi
    cases e
    have := g1.lt _ hw
    omega
  · obtain ⟨g, _, rfl⟩ := List.mem_map.1 hr
    exact .inl rfl
theorem kq_sync (h : KQ w0 w p q true sr s (n + 1) L) : Calls Tryz.prog 12 #[.pointer (some ⟨p, 0, none⟩)] w fun e w' => e = .returned .nilIface ∧ KQ w0 w' p q true true s n L := by
  obtain ⟨rs, ns, h1, hz, _⟩ := h
  exact (kb_sync h1).mono fun e w' ⟨q1, q2⟩ => ⟨q1, rs, rs.length, q2, hz, fun _ => rfl⟩
theorem kq_entries (h : KQ w0 w p q pr sr s n L) : Calls Tryz.prog 14 #[.pointer (some ⟨p, 0, none⟩)] w fun e w' => ∃ v', e = .returned v' ∧ EL w' v' s.es ∧ Below w.heap.size w w' := by
  obtain ⟨rs, ns, h1, _⟩ := h
  exact (kb_entries h1).mono fun e w' ⟨v', q1, q2, _, q4⟩ => ⟨v', q1, q2, q4⟩
/-- A fall when all is sure, and Open. -/
theorem kq_fall (h : KQ w0 w p q true true s (n + 2) L) : Calls Tryz.prog 13 #[.pointer (some ⟨q, 0, none⟩), .agg #[.slice none 0 0]] w fun e w1 => e = .returned (.tuple #[]) ∧ Hid (Calls Tryz.prog 9 #[.pointer (some ⟨q, 0, none⟩)] w1 fun e w' => ∃ p2, e = .returned (.tuple #[.pointer (some ⟨p2, 0, none⟩), .nilIface]) ∧ Hid (KQ w0 w' p2 q true true s n L)) := by
  obtain ⟨rs, ns, h1, hz, hs⟩ := h
  obtain rfl := hs rfl
  have hi := h1.info.1
  refine (kb_crash (ks := []) h1 (fun y hy => by cases hy) ⟨fun x hx => (by cases hx), .inl ⟨⟨_, _, rfl⟩, rfl⟩⟩ (by simp)).mono ?_
  rintro e w1 ⟨rfl, hc⟩
  refine ⟨rfl, (kc_open hc (by omega) (by have := recs_many (rs := rs); omega)).mono ?_⟩
  rintro e w' ⟨p2, k, sk, rfl, hk1, hk2, hsk, hkb⟩
  obtain rfl : k = rs.length := by omega
  rw [List.take_length] at hsk hkb
  rw [hi] at hsk
  cases hsk
  exact ⟨p2, rfl, rs, rs.length, hkb, hz, fun _ => rfl⟩
theorem kq_hard (h : KQ w0 w p q pr sr s n L) : Calls Tryz.prog 19 #[.pointer (some ⟨p, 0, none⟩)] w fun e w' => e = .returned (.agg #[.int .u64 (s.term : Int), .int .i64 ((s.vote : Int) - 1)]) ∧ Below w.heap.size w w' := by
  obtain ⟨rs, ns, h1, _⟩ := h
  exact kb_hard h1
set_option maxHeartbeats 1600000 in
theorem kq_base (h : KQ w0 w p q pr sr s n L) : Calls Tryz.prog 18 #[.pointer (some ⟨p, 0, none⟩)] w fun e w' => e = .returned (.tuple #[.int .u64 (s.base : Int), .int .u64 (s.bt : Int)]) ∧ ∃ m, w' = w.drewN m := by
  obtain ⟨rs, ns, ⟨O, ⟨v, D, S, h1, _⟩, _⟩, _⟩ := h
  obtain ⟨_, _, _, c3, c4, _⟩ := h1.cells
  clear h1
  go_enter Tryz.func18, Tryz.ntmps18
  go_wp2_with fail
  go_region
  all_goals
    go_wp2_with fail
    go_ret2
    exact ⟨rfl, 1, rfl⟩
end
end Go.Proofs.YthphadbcebeoaaaGreatDoor
/- The wal's statements: known: its walk. -/
namespace Go.Proofs.YthphadbcebeoaaaGreatDoor
open Go.RowKit Go.Lib Go.Maps

set_option maxHeartbeats 25600000 in
set_option maxRecDepth 100000 in
theorem wknown_any (w : World) (hE : ET w) (hT : ST w) : Calls Tryz.prog 7 #[] w fun e w' => e = .returned (.bool true) ∧ Below w.heap.size w w' := by
  have HN := hide (kb_new (w := w) (room := 65536) (by decide) hE hT)
  have HA1 : Hid (∀ (p : Nat) (W : World), KW w W p w.heap.size [] 0 false [] 9000 → Calls Tryz.prog 11 #[.pointer (some ⟨p, 0, none⟩), .slice (some ⟨W.heap.size, 0, none⟩) 2 2] (W.alloc (.cells #[.int .u64 1, .int .i64 0, .int .u64 0, .int .u64 0, .string ⟨#[]⟩, .int .u64 2, .int .i64 0, .int .u64 0, .int .u64 0, .string ⟨#[]⟩] 37)) fun e w' => e = .returned .nilIface ∧ Hid (KW w w' p w.heap.size (kR.take 2) 0 true [nE 1, nE 2] 8999)) := fun p W h => kw_app1 (h.below (box_below W (.cells (two (nE 1) (nE 2)) 37))) (el_two W (nE 1) (nE 2)).1.re
  have HS1 : Hid (∀ (p : Nat) (W : World), Hid (KW w W p w.heap.size (kR.take 2) 0 true [nE 1, nE 2] 8999) → Calls Tryz.prog 12 #[.pointer (some ⟨p, 0, none⟩)] W fun e w' => e = .returned .nilIface ∧ Hid (KW w w' p w.heap.size (kR.take 2) 2 true [nE 1, nE 2] 8998)) := fun p W h => kw_sync h
  have HC1 : Hid (∀ (p : Nat) (W : World), Hid (KW w W p w.heap.size (kR.take 2) 2 true [nE 1, nE 2] 8998) → Calls Tryz.prog 10 #[.pointer (some ⟨p, 0, none⟩), .int .u64 2] W fun e w' => e = .returned .nilIface ∧ Hid (KW w w' p w.heap.size (kR.take 3) 2 true [nE 1] 8997)) := fun p W h => kw_cut h
  have HA2 : Hid (∀ (p : Nat) (W : World), KW w W p w.heap.size (kR.take 3) 2 true [nE 1] 8997 → Calls Tryz.prog 11 #[.pointer (some ⟨p, 0, none⟩), .slice (some ⟨W.heap.size, 0, none⟩) 1 1] (W.alloc (.cells #[.int .u64 3, .int .i64 0, .int .u64 0, .int .u64 0, .string ⟨#[]⟩] 37)) fun e w' => e = .returned .nilIface ∧ Hid (KW w w' p w.heap.size kR 2 true [nE 1, nE 3] 8996)) := fun p W h => kw_app2 (h.below (box_below W _)) (re_one W (nE 3))
  have HS2 : Hid (∀ (p : Nat) (W : World), Hid (KW w W p w.heap.size kR 2 true [nE 1, nE 3] 8996) → Calls Tryz.prog 12 #[.pointer (some ⟨p, 0, none⟩)] W fun e w' => e = .returned .nilIface ∧ Hid (KW w w' p w.heap.size kR 4 true [nE 1, nE 3] 8995)) := fun p W h => kw_sync h
  have HX : Hid (∀ (p : Nat) (W : World), Hid (KW w W p w.heap.size kR 4 true [nE 1, nE 3] 8995) → Calls Tryz.prog 13 #[.pointer (some ⟨w.heap.size, 0, none⟩), .agg #[.slice none 0 0]] W fun e w' => e = .returned (.tuple #[]) ∧ Hid (Calls Tryz.prog 9 #[.pointer (some ⟨w.heap.size, 0, none⟩)] w' fun e w' => ∃ p, e = .returned (.tuple #[.pointer (some ⟨p, 0, none⟩), .nilIface]) ∧ Hid (KW w w' p w.heap.size kR 4 true [nE 1, nE 3] 8993))) := fun p W h => (kw_crash h).mono fun e w' ⟨h1, h2⟩ => ⟨h1, kw_open h2⟩
  have HEn : Hid (∀ (p : Nat) (W : World), Hid (KW w W p w.heap.size kR 4 true [nE 1, nE 3] 8993) → Calls Tryz.prog 14 #[.pointer (some ⟨p, 0, none⟩)] W fun e w' => ∃ v, e = .returned v ∧ Hid (KW w w' p w.heap.size kR 4 true [nE 1, nE 3] 8993 ∧ EL w' v [nE 1, nE 3])) := fun p W h => (kb_entries (unhide h)).mono fun e w' ⟨v, h1, h2, _, h4⟩ => ⟨v, h1, (unhide h).below h4, h2⟩
  have HSm : Hid (∀ (v : Value) (W : World), EL W v [nE 1, nE 3] → Calls Tryz.prog 15 #[v, .slice (some ⟨W.heap.size, 0, none⟩) 2 2] (W.alloc (.cells #[.int .u64 1, .int .i64 0, .int .u64 0, .int .u64 0, .string ⟨#[]⟩, .int .u64 3, .int .i64 0, .int .u64 0, .int .u64 0, .string ⟨#[]⟩] 37)) fun e w' => e = .returned (.bool true) ∧ Hid (Below W.heap.size W w')) := fun v W h => by
    have hb := box_below W (.cells (two (nE 1) (nE 3)) 37)
    have hok : ∀ g ∈ [nE 1, nE 3], g.ok := fun g hg => by simp at hg; rcases hg with rfl | rfl <;> exact (nE_ok (by decide)).1
    refine (ents_same _ _ _ _ _ _ ((h.below hb).sle hok) ((el_two W (nE 1) (nE 3)).1.sle hok)).mono ?_
    rintro e w' ⟨rfl, m, rfl⟩
    exact ⟨rfl, below_trans0 hb (drew_below _ m)⟩
  have HH : Hid (∀ (p : Nat) (W : World), Hid (KW w W p w.heap.size kR 4 true [nE 1, nE 3] 8993) → Calls Tryz.prog 19 #[.pointer (some ⟨p, 0, none⟩)] W fun e w' => e = .returned (.agg #[.int .u64 0, .int .i64 (-1)]) ∧ Hid (Below w.heap.size w w')) := fun p W h => (kb_hard (unhide h)).mono fun e w' ⟨h1, h2⟩ => ⟨h1, (unhide h).ev.2.2.trans (h2.mono (unhide h).ev.2.1)⟩
  clear hE hT
  go_enter Tryz.func7, Tryz.ntmps7
  go_wp2_with (first
    | (go_at_call 8; refine (unhide HN).mono ?_; rintro e w1 ⟨rfl, _, HO⟩; clear HN)
    | (go_at_call 9; refine (unhide HO).mono ?_; rintro e w2 ⟨p, rfl, K2⟩; clear HO)
    | (go_at_call 28; refine (num_any 1 _).mono ?_; rintro e w3 ⟨rfl, b3⟩; have K3 := hide ((unhide K2).below b3); clear K2 b3)
    | (go_at_call 28; refine (num_any 2 _).mono ?_; rintro e w4 ⟨rfl, b4⟩; have K4 := hide ((unhide K3).below b4); clear K3 b4)
    | (go_at_call 11; refine (unhide HA1 p _ (unhide K4)).mono ?_; rintro e w5 ⟨rfl, K5⟩; clear HA1 K4)
    | (go_at_call 12; refine (unhide HS1 p _ K5).mono ?_; rintro e w6 ⟨rfl, K6⟩; clear HS1 K5)
    | (go_at_call 10; refine (unhide HC1 p _ K6).mono ?_; rintro e w7 ⟨rfl, K7⟩; clear HC1 K6)
    | (go_at_call 28; refine (num_any 3 _).mono ?_; rintro e w8 ⟨rfl, b8⟩; have K8 := hide ((unhide K7).below b8); clear K7 b8)
    | (go_at_call 11; refine (unhide HA2 p _ (unhide K8)).mono ?_; rintro e w9 ⟨rfl, K9⟩; clear HA2 K8)
    | (go_at_call 12; refine (unhide HS2 p _ K9).mono ?_; rintro e w10 ⟨rfl, K10⟩; clear HS2 K9)
    | (go_at_call 13; refine (unhide HX p _ K10).mono ?_; rintro e w11 ⟨rfl, HO2⟩; clear HX K10)
    | (go_at_call 9; refine (unhide HO2).mono ?_; rintro e w12 ⟨p2, rfl, K12⟩; clear HO2)
    | (go_at_call 14; refine (unhide HEn p2 _ K12).mono ?_; rintro e w13 ⟨v13, rfl, K13⟩; clear HEn K12)
    | (go_at_call 28; refine (num_any 1 _).mono ?_; rintro e w14 ⟨rfl, b14⟩; have K14 := hide (And.intro ((unhide K13).1.below b14) ((unhide K13).2.below b14)); clear K13 b14)
    | (go_at_call 28; refine (num_any 3 _).mono ?_; rintro e w15 ⟨rfl, b15⟩; have K15 := hide (And.intro ((unhide K14).1.below b15) ((unhide K14).2.below b15)); clear K14 b15)
    | (go_at_call 15; refine (unhide HSm v13 _ (unhide K15).2).mono ?_; rintro e w16 ⟨rfl, b16⟩; have K16 := hide ((unhide K15).1.below (unhide b16)); clear HSm K15 b16)
    | (go_at_call 19; refine (unhide HH p2 _ K16).mono ?_; rintro e w17 ⟨rfl, B17⟩; clear HH K16))
  go_ret
  exact ⟨rfl, unhide B17⟩
end Go.Proofs.YthphadbcebeoaaaGreatDoor
/- WalRounds: its entries, its states, the calls of one round. -/
namespace Go.Proofs.YthphadbcebeoaaaGreatDoor
open Go.RowKit Go.Lib Go.Maps

/-- The entry i of round r. -/
def gr (t : ByteArray) (r i : Nat) : GE := ⟨1, 1, i, r, t⟩
def er (t : ByteArray) (r : Nat) : List GE := (List.range 20).map (gr t r)
theorem er_len (t : ByteArray) (r : Nat) : (er t r).length = 20 := by simp [er]
theorem er_get {t : ByteArray} {r i : Nat} (h : i < 20) : (er t r)[i]? = some (gr t r i) := by simp [er, h]
theorem er_ok {t : ByteArray} {r : Nat} (ht : t.size ≤ 255) (hr : r < 1000) : ∀ g ∈ er t r, (g.ok ∧ g.may = true) ∧ g.sql.size ≤ 255 := by
  intro g hg
  unfold er at hg
  obtain ⟨i, hi, rfl⟩ := List.mem_map.1 hg
  have hi2 : i < 20 := List.mem_range.1 hi
  refine ⟨⟨⟨(by show 1 < 18446744073709551616; decide), by show i < _; omega, by show r < _; omega, by show t.size ≤ _; unfold maxLen; omega⟩, ?_⟩, ht⟩
  have h1 : t.size ≤ 2000 := by omega
  simp [gr, GE.may, h1]
/-- The state at a round's head. -/
def sr (t : ByteArray) : Nat → Sta
  | 0 => sta0
  | r + 1 => ⟨r, 2, 20 * r + 15, 1, (er t r).drop 15⟩
theorem sr_few {t : ByteArray} (ht : t.size ≤ 255) : ∀ {r : Nat}, r < 1000 → FewS (sr t r) 5
  | 0, _ => ⟨by simp [sr, sta0], fun g hg => by simp [sr, sta0] at hg⟩
  | r + 1, h => ⟨by simp [sr, er_len], fun g hg => (er_ok ht (by omega) g (List.mem_of_mem_drop hg)).2⟩
theorem sr_hard (s : Sta) (r : Nat) (es : List GE) : takeS ⟨s.term, s.vote, s.base, s.bt, es⟩ (rcH r 2) = .ok ⟨r, 2, s.base, s.bt, es⟩ := by
  have : takeS ⟨s.term, s.vote, s.base, s.bt, es⟩ (rcH r 2) = if 1001 < 2 then .error 20 else .ok ⟨r, 2, s.base, s.bt, es⟩ := rfl
  rw [this, if_neg (by decide)]
theorem sr_drop (t : ByteArray) (r : Nat) (hr : r < 1000) : takeS ⟨r, 2, (sr t r).base, (sr t r).bt, (sr t r).es ++ er t r⟩ (rcD (20 * r + 15) 1) = .ok (sr t (r + 1)) := by
  have : takeS ⟨r, 2, (sr t r).base, (sr t r).bt, (sr t r).es ++ er t r⟩ (rcD (20 * r + 15) 1) = if (20 * r + 15 < (sr t r).base ∨ 4611686018427387904 < 20 * r + 15) then .error 40 else .ok ⟨r, 2, 20 * r + 15, 1, ((sr t r).es ++ er t r).drop (20 * r + 15 - (sr t r).base)⟩ := rfl
  rw [this]
  cases r with
  | zero => rw [if_neg (by show ¬ (_ < 0 ∨ _); omega)]; simp [sr, sta0]
  | succ k =>
    rw [if_neg (by show ¬ (_ < 20 * k + 15 ∨ _); omega)]
    have e1 : 20 * (k + 1) + 15 - (sr t (k + 1)).base = ((er t k).drop 15).length + 15 := by show 20 * (k + 1) + 15 - (20 * k + 15) = _; rw [List.length_drop, er_len]; omega
    rw [e1]
    show Except.ok (⟨k + 1, 2, 20 * (k + 1) + 15, 1, ((er t k).drop 15 ++ er t (k + 1)).drop (((er t k).drop 15).length + 15)⟩ : Sta) = _
    have h15 := er_len t k
    rw [List.drop_append]
    simp [sr]
    omega
section
variable {w0 w : World} {p q : Nat} {t : ByteArray} {r : Nat} {vl : Value} {pr sr' : Bool}
/-- One round's calls, one behind the other. -/
theorem round_calls (h : KQ w0 w p q pr sr' (sr t r) (9000 - 20 * r) [(vl, er t r)]) (ht : t.size ≤ 255) (hr : r < 100) (d : Int) (hd : d = ((20 * r + 15 : Nat) : Int)) :
    Calls Tryz.prog 11 #[.pointer (some ⟨p, 0, none⟩), vl] w fun e w1 => e = .returned .nilIface ∧ Hid (Calls Tryz.prog 16 #[.pointer (some ⟨p, 0, none⟩), .agg #[.int .u64 (r : Int), .int .i64 1]] w1 fun e w2 => e = .returned .nilIface ∧ Hid (Calls Tryz.prog 12 #[.pointer (some ⟨p, 0, none⟩)] w2 fun e w3 => e = .returned .nilIface ∧ Hid (Calls Tryz.prog 17 #[.pointer (some ⟨p, 0, none⟩), .int .u64 d, .int .u64 1] w3 fun e w4 => e = .returned .nilIface ∧ Hid (Calls Tryz.prog 12 #[.pointer (some ⟨p, 0, none⟩)] w4 fun e w5 => e = .returned .nilIface ∧ Hid (KQ w0 w5 p q true true (sr t (r + 1)) (8989 - 20 * r) [(vl, er t r)]))))) := by
  subst hd
  have hel := er_len t r
  have hf := sr_few ht (r := r) (by omega)
  have hf5 := hf.1
  have hsm := er_ok ht (r := r) (by omega)
  have hfall : ∀ g ∈ (sr t r).es ++ er t r, g.sql.size ≤ 255 := fun g hg => by
    rcases List.mem_append.1 hg with h' | h'
    · exact hf.2 g h'
    · exact (hsm g h').2
  rw [show 9000 - 20 * r = (8997 - 20 * r) + 3 by omega] at h
  refine (kq_app h (h.row (x := (vl, er t r)) (List.mem_singleton.2 rfl)).re hsm (by show (er t r).length ≤ 20; omega) hf).mono ?_
  rintro e w1 ⟨rfl, h1⟩
  rw [show 8997 - 20 * r = (8994 - 20 * r) + 3 by omega] at h1
  have hone : OneOf 16 #[.pointer (some ⟨p, 0, none⟩), .agg #[.int .u64 (r : Int), .int .i64 1]] p (rcH r 2) w1 := set_of (v := 1)
  refine ⟨rfl, (kq_one hone h1 (rcH_ok (by omega) (by omega)) rfl (sr_hard (sr t r) r _) ⟨by simp only [List.length_append]; omega, hfall⟩ (by simp only [List.length_append]; omega)).mono ?_⟩
  rintro e w2 ⟨rfl, h2⟩
  rw [show 8994 - 20 * r = (8993 - 20 * r) + 1 by omega] at h2
  refine ⟨rfl, (kq_sync h2).mono ?_⟩
  rintro e w3 ⟨rfl, h3⟩
  rw [show 8993 - 20 * r = (8990 - 20 * r) + 3 by omega] at h3
  refine ⟨rfl, (kq_one (drop_of (t := 1) (i := 20 * r + 15)) h3 (rcD_ok (by omega) (by decide)) rfl (sr_drop t r (by omega)) ?_ (by simp only [List.length_append]; omega)).mono ?_⟩
  · have := sr_few ht (r := r + 1) (by omega)
    exact ⟨by have := this.1; omega, this.2⟩
  rintro e w4 ⟨rfl, h4⟩
  rw [show 8990 - 20 * r = (8989 - 20 * r) + 1 by omega] at h4
  refine ⟨rfl, (kq_sync h4).mono ?_⟩
  rintro e w5 ⟨rfl, h5⟩
  exact ⟨rfl, h5⟩
/-- What stands at the loop's head. -/
def RH (w0 w : World) (p q : Nat) (t : ByteArray) (r : Nat) : Prop := ∃ pr, KQ w0 w p q pr true (sr t r) (9000 - 20 * r) []
/-- What stands behind a round's calls. -/
def RT (w0 w : World) (p q : Nat) (t : ByteArray) (r : Nat) (vl : Value) : Prop := KQ w0 w p q true true (sr t (r + 1)) (8980 - 20 * r) [(vl, er t r)]
theorem RT.below {w' : World} (h : RT w0 w p q t r vl) (hb : Below w.heap.size w w') : RT w0 w' p q t r vl := KQ.below h hb
theorem RT.next (h : RT w0 w p q t r vl) : RH w0 w p q t (r + 1) := ⟨true, (KQ.rows h (Below.refl _ _) (fun x hx => by cases hx)).less (by omega)⟩
theorem RT.el (h : RT w0 w p q t r vl) : EL w vl (er t r) := h.row (x := (vl, er t r)) (List.mem_singleton.2 rfl)
end
theorem wpList_append_en {w : World} {ops : Array Oper} {rest : List Oper} {o : Oper} {a : Act} {Q : Exit → Act → World → Prop} (hgd : o.guard = none) (s x : Operand)
    (ho : o.op = .call { callee := .builtin .append, args := #[s, x], argTypes := #[34, 34] })
    (base : Nat) (v : Value) (es : List GE) (g : GE) (hs : a.eval s = v) (hown : w.ownsRow base 37 5 v es.length (esC es)) (b : Nat) (hx : a.eval x = .slice (some ⟨b, 0, none⟩) 1 1) (hb : w.heap[b]? = some (.cells (geC g).toArray 37 (0, 0))) (hn : es.length ≤ 1000000) (hbase : base ≤ w.heap.size)
    (h : ∀ v' w', w'.ownsRow base 37 5 v' (es ++ [g]).length (esC (es ++ [g])) → Below base w w' → wpList Tryz.prog ops Q rest (a.put o.dst v') w') : wpList Tryz.prog ops Q (o :: rest) a w := by
  obtain ⟨i0, hi, hz0, hz1, hz2⟩ := info_parts Tryz.infoEn
  refine wpList_append_own_at w hgd s x 34 ho base 37 i0 _ 5 48 Tryz.underlying34 hi hz0 hz1 hz2 rfl (by decide) v es.length (esC es) hs hown ⟨b, 0, none⟩ 1 1 (geC g) hx rfl (fun j u hj => ?_) (geC_one g) (by unfold maxLen; omega) (by omega) hbase ?_
  · rw [Go.WideShapes.add_plain, Nat.zero_add, (Dk.cellB hb _).1]
    simpa using hj
  · intro v' w' ho' hg _ _
    refine h v' w' (by rw [esC_app, List.length_append, List.length_singleton]; simpa [esC] using ho') ?_
    refine (Below.refl _ _).grown hg hbase (fun k hk => ?_)
    rcases hown.2 with ⟨rfl, _⟩ | ⟨g, c, cur, rfl, hB, _⟩
    · simp [Value.ownBlock] at hk
    · simp [Value.ownBlock] at hk; omega
end Go.Proofs.YthphadbcebeoaaaGreatDoor
