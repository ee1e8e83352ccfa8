/- A wal's calls: Sync, Cut, SetHard, Drop, Entries, Base, Hard. -/
import Derived.Test.YthphadbcebeoaaaGreatDoorWaDo
namespace Go.Proofs.YthphadbcebeoaaaGreatDoor
open Go.RowKit Go.Lib Go.Maps

section
variable {w : World} {B p q sz n : Nat} {S : Dk.St} {R : Int} {a x : Fx} {s s2 : Sta} {v : Value} {D : Nat → Prop} {F : List Dk.Ent}
set_option maxHeartbeats 3200000 in
set_option maxRecDepth 100000 in
theorem wsync_go (y : List UInt8 × Nat) (h : WX w B p q S (FX a (some y)) s v sz D) (hB : B ≤ w.heap.size) (hE : EV w B) (hS : OkS S R n) (hf : ¬ Fails S) :
    Calls Tryz.prog 12 #[.pointer (some ⟨p, 0, none⟩)] w fun e w' => WDone w B p q (nx S) (FX a (some (y.1, y.1.length))) s sz v D (PD p D) e w' := by
  have HM := hide (home_any h)
  have HA : Hid (Calls Tryz.prog 26 #[.pointer (some ⟨q, 0, none⟩), .string waN] w fun e w1 => e = .returned .nilIface ∧ Hid (WDone w B p q (nx S) (FX a (some (y.1, y.1.length))) s sz v D (PD p D) (.returned .nilIface) w1)) := by
    refine (sync_go y h.dx hE.et hS hf).mono ?_
    rintro e w1 ⟨D', rfl, hd, hfr, ho⟩
    exact ⟨rfl, v, D', rfl, h.disk hB hd hfr ho, fro_wide hfr (fun k hk => .inr hk), fun g hg => .inl hg, ho⟩
  clear h hE hS hf hB
  unfold waN at HA
  go_enter Tryz.func12, Tryz.ntmps12
  go_wp2_with (first
    | (go_at_call 34; refine (unhide HM).mono ?_; rintro e w1 ⟨rfl, rfl⟩; clear HM)
    | (go_at_call 26; refine (unhide HA).mono ?_; rintro e w1 ⟨rfl, HW⟩; clear HA)
    | (go_at_call 29; refine (is_nil _ _).mono ?_; rintro e w2 ⟨rfl, rfl⟩))
  go_ret
  exact unhide HW
set_option maxHeartbeats 3200000 in
set_option maxRecDepth 100000 in
/-- No file: nothing is pending. -/
theorem wsync_none (h : WX w B p q S (FX a none) s v sz D) (hB : B ≤ w.heap.size) (hE : EV w B) (hS : OkS S R n) (hf : S.off = false) :
    Calls Tryz.prog 12 #[.pointer (some ⟨p, 0, none⟩)] w fun e w' => WDone w B p q S (FX a none) s sz v D (PD p D) e w' := by
  have HM := hide (home_any h)
  have HA : Hid (Calls Tryz.prog 26 #[.pointer (some ⟨q, 0, none⟩), .string waN] w fun e w1 => ∃ b, e = .returned (Dk.evW b) ∧ Hid (Dk.ErrW w1 b 30) ∧ Hid (WDone w B p q S (FX a none) s sz v D (PD p D) (.returned .nilIface) w1)) := by
    refine (sync_none h.dx hE.et hS).mono ?_
    rw [if_neg (by simp [hf])]
    rintro e w1 ⟨b, rfl, h1, h2, hd, hfr⟩
    exact ⟨b, rfl, h1, v, D, rfl, h.disk hB hd hfr (fun k hk => .inl hk), fro_wide hfr (fun k hk => .inr hk), fun g hg => .inl hg, fun k hk => .inl hk⟩
  clear h hE hS hf hB
  unfold waN at HA
  go_enter Tryz.func12, Tryz.ntmps12
  go_wp2_with (first
    | (go_at_call 34; refine (unhide HM).mono ?_; rintro e w1 ⟨rfl, rfl⟩; clear HM)
    | (go_at_call 26; refine (unhide HA).mono ?_; rintro e w1 ⟨b, rfl, he, HW⟩; have HI := hide (Dk.is_placed b 30 30 w1 (unhide he)); clear HA he)
    | (go_at_call 29; refine (unhide HI).mono ?_; rintro e w2 ⟨rfl, rfl⟩))
  go_ret
  exact unhide HW
/-- A row of one record. -/
theorem rl_one (w : World) (r : Rc) : RL (w.alloc (.cells r.cells 84)) (.slice (some ⟨w.heap.size, 0, none⟩) 1 1) [r] := by
  have hn : (w.alloc (.cells r.cells 84)).heap[w.heap.size]? = some (.cells r.cells 84 (0, 0)) := heap_alloc_new _ _
  refine ⟨_, 1, rfl, fun i r' hi => ?_⟩
  cases i with
  | zero =>
    simp at hi
    subst hi
    exact ⟨_, _, rfl, by simp, fun j u hu => by rw [(Dk.cellB hn _).1]; simpa using hu⟩
  | succ i => simp at hi
theorem di_one (h : WX w B p q S F s v sz D) (hB : B ≤ w.heap.size) (hE : EV w B) (hs : s.ok) (hn : s.es.length ≤ 800000) (r : Rc) :
    DI (w.alloc (.cells r.cells 84)) B p q S F s v sz D [r] (.slice (some ⟨w.heap.size, 0, none⟩) 1 1) := by
  have hb := box_below w (.cells r.cells 84)
  refine ⟨h.below hb, by simp; omega, hE.below (hb.mono hB), hs, rl_one w r, fun b hi hw => ?_, by simp; omega, .inr (by simp)⟩
  · obtain ⟨_, _, _, e⟩ := hi
    cases e
    have := h.lt _ hw
    omega
set_option maxHeartbeats 3200000 in
set_option maxRecDepth 100000 in
theorem wcut_go {f : Nat} (h : WX w B p q S (FX a x) s v sz D) (hB : B ≤ w.heap.size) (hE : EV w B) (hs : s.ok) (hn : s.es.length ≤ 800000) (hfl : f < 18446744073709551616) (hrun : takeS s (rcC f) = .ok s2) (hS : OkS S R n) (hm : Roomy R a x (rcC f).bytes.length) (hz : sz + (rcC f).bytes.length ≤ 32768) (hf : ¬ Fails S) :
    Calls Tryz.prog 10 #[.pointer (some ⟨p, 0, none⟩), .int .u64 (f : Int)] w fun e w' => WDone w B p q (nx S) (FX a (some (dB x ++ (rcC f).bytes, dS x))) s2 (sz + (rcC f).bytes.length) v D (WO p v D) e w' := by
  have hr := rcC_ok hfl
  have e1 : recsB [rcC f] = (rcC f).bytes := by simp [recsB]
  have hb := box_below w (.cells (rcC f).cells 84)
  have HD := hide (do_go (di_one h hB hE hs hn _) (by rw [e1]; have := rc_len hr; omega) (fun r' h' => by rw [List.mem_singleton.1 h']; exact hr) (by simp only [runS]; rw [hrun]) hS (by rw [e1]; exact hm) (by rw [e1]; exact hz) hf)
  rw [e1] at HD
  have HB := hide hb
  clear hb h hE hs hS hm hz hf hB hrun hr e1
  unfold rcC Rc.cells at *
  dsimp only [zE] at *
  go_enter Tryz.func10, Tryz.ntmps10
  go_wp2_with (first
    | (go_at_call 32; refine (unhide HD).mono ?_; intro e w1 h1; clear HD; obtain ⟨v', D', rfl, _⟩ := id h1; have H1 := hide (h1.pre (unhide HB)); clear h1))
  go_ret
  exact unhide H1
theorem own_none (w : World) : (w.alloc (.cells #[] 37)).ownsRow w.heap.size 37 5 (.slice (some ⟨w.heap.size, 0, none⟩) 0 0) 0 [] :=
  ⟨rfl, .inr ⟨w.heap.size, 0, #[], rfl, Nat.le_refl _, heap_alloc_new _ _, Nat.le_refl _, Nat.zero_le _, rfl, rfl⟩⟩
set_option maxHeartbeats 3200000 in
set_option maxRecDepth 100000 in
theorem clone_ents {es : List GE} (h : EL w v es) (hn : es.length ≤ 1000000) : Calls Tryz.prog 37 #[v] w fun e w' => ∃ v', e = .returned v' ∧ EL w' v' es ∧ (∀ g, inB v' g → w.heap.size ≤ g) ∧ Below w.heap.size w w' := by
  rcases id h with ⟨rfl, rfl⟩ | ⟨g, off, k, cur, rfl, h2, h3, h4, h5, h6⟩
  · have hnil := run_eql_slice_nil_nil (P := Tryz.prog) w 0 0 Tryz.underlying34
    go_enter Tryz.func37, Tryz.ntmps37
    go_wp2
    go_ret
    exact ⟨_, rfl, EL.nil _, fun g ⟨_, _, _, e⟩ => (by cases e), Below.refl _ _⟩
  · obtain ⟨i0, hi, hz0, hz1, hz2⟩ := info_parts Tryz.infoEn
    have hb := box_below w (.cells #[] 37)
    have HO := hide (own_none w)
    have HC : Hid (∀ j u, (esC es)[j]? = some u → (w.alloc (.cells #[] 37)).cell? ((⟨g, off, none⟩ : Addr).add j) = some u) := fun j u hj => by
      rw [Go.WideShapes.add_plain, hb.cell (p := ⟨g, off + j, none⟩) (Array.getElem?_eq_some_iff.1 h2).1]
      exact (row_at h2 h5 h6).1 j u hj
    have HB := hide hb
    have hnil := run_eql_slice_some_nil (P := Tryz.prog) w ⟨g, off, none⟩ es.length k Tryz.underlying34
    have H1 : Hid (∀ u ∈ esC es, u.oneCell' = true) := fun u hu => by
      unfold esC at hu
      obtain ⟨x, _, hx⟩ := List.mem_flatMap.1 hu
      exact geC_one x u hx
    have HL := hide (esC_len es)
    clear hb h h2 h3 h4 h5 h6
    go_enter Tryz.func37, Tryz.ntmps37
    go_wp2_with (first
      | (at_builtin; refine wpList_append_own_at _ rfl (.tmp 5) (.tmp 6) 34 rfl w.heap.size 37 i0 _ 5 48 Tryz.underlying34 hi hz0 hz1 hz2 rfl (by decide) _ 0 [] rfl (unhide HO) ⟨g, off, none⟩ es.length k (esC es) rfl (unhide HL) (unhide HC) (unhide H1) (by unfold maxLen; omega) (by omega) (by simp) ?_; intro v3 w3 ho3 hg3 _ hl3; have HO3 := hide (And.intro ho3 (And.intro hg3 hl3)); clear ho3 hg3 hl3))
    go_ret
    obtain ⟨ho, hg, hl⟩ := unhide HO3
    obtain ⟨q1, q2⟩ := EL.own (es := es) (by simpa using ho) (by omega)
    refine ⟨_, rfl, q1, q2, ?_⟩
    exact (unhide HB).grown hg (by simp) (by intro k h; cases h; exact Nat.le_refl _)
set_option maxHeartbeats 1600000 in
theorem entries_any (h : WX w B p q S F s v sz D) (hn : s.es.length ≤ 1000000) : Calls Tryz.prog 14 #[.pointer (some ⟨p, 0, none⟩)] w fun e w' => ∃ v', e = .returned v' ∧ EL w' v' s.es ∧ (∀ g, inB v' g → w.heap.size ≤ g) ∧ Below w.heap.size w w' := by
  have HC := hide (clone_ents h.el hn)
  obtain ⟨_, _, _, _, _, c5, _⟩ := h.cells
  clear h
  go_enter Tryz.func14, Tryz.ntmps14
  go_wp2_with (first
    | (go_at_call 37; refine (unhide HC).mono ?_; rintro e w1 ⟨v1, rfl, H1⟩; clear HC))
  go_ret
  exact ⟨v1, rfl, H1⟩
end
end Go.Proofs.YthphadbcebeoaaaGreatDoor
/- A wal: do, where the disk is cut off, and where a record may not be. -/
namespace Go.Proofs.YthphadbcebeoaaaGreatDoor
open Go.RowKit Go.Lib Go.Maps

/-- An error of a class: placed, or within. -/
def ErrX (w : World) (v : Value) (c : Int) : Prop := (∃ b pl, v = ev b ∧ ErrAt w b pl c) ∨ ∃ b, v = Dk.evW b ∧ Dk.ErrW w b c
theorem ErrX.below {w w' : World} {v : Value} {c : Int} (h : ErrX w v c) (hb : Below w.heap.size w w') : ErrX w' v c := by
  rcases h with ⟨b, pl, rfl, h⟩ | ⟨b, rfl, h⟩
  · exact .inl ⟨b, pl, rfl, h.below hb (lt_of_cell h.1)⟩
  · exact .inr ⟨b, rfl, (hb.cell (p := ⟨b, 1, none⟩) (lt_of_cell h)).trans h⟩
theorem ErrX.form {w : World} {v : Value} {c : Int} (h : ErrX w v c) : ∃ T b, v = .iface T (.pointer (some ⟨b, 0, none⟩)) := by
  rcases h with ⟨b, pl, rfl, h⟩ | ⟨b, rfl, h⟩
  · exact ⟨_, b, rfl⟩
  · exact ⟨_, b, rfl⟩
theorem class_x {w : World} {v : Value} {c : Int} (hE : ET w) (h : ErrX w v c) : Calls Tryz.prog 22 #[v] w fun e w' => e = .returned (.int .i64 c) ∧ Below w.heap.size w w' := by
  rcases h with ⟨b, pl, rfl, h⟩ | ⟨b, rfl, h⟩
  · exact class_at b pl c w hE h
  · exact Dk.class_at b c w hE h
/-- A call that told an error: the wal is as it was. -/
def WBad (w : World) (B p q : Nat) (S : Dk.St) (F : List Dk.Ent) (s : Sta) (sz : Nat) (v : Value) (D O : Nat → Prop) (c : Int) (e : Ending) (w' : World) : Prop :=
  ∃ ve D', e = .returned ve ∧ ErrX w' ve c ∧ WX w' B p q S F s v sz D' ∧ Dk.FrO O w w' ∧ ∀ k, D' k → D k ∨ w.heap.size ≤ k
section
variable {w w1 w' : World} {B p q sz n j : Nat} {S : Dk.St} {R : Int} {a x : Fx} {F : List Dk.Ent} {s s2 sj : Sta} {v vr ve : Value} {D : Nat → Prop} {rs : List Rc} {c : Int} {e : Ending} {r : Rc}
theorem WBad.pre {O : Nat → Prop} (h : WBad w1 B p q S F s sz v D O c e w') (hb : Below w.heap.size w w1) : WBad w B p q S F s sz v D O c e w' := by
  obtain ⟨ve, D', h1, h2, h3, h4, h5⟩ := h
  exact ⟨ve, D', h1, h2, h3, fro_pre h4 hb, fun k hk => (h5 k hk).imp id (fun hh => Nat.le_trans hb.size hh)⟩
theorem DJ.bad (h : DJ w w1 B p q S F s v sz D rs vr j) (he : ErrX w1 ve c) : WBad w B p q S F s sz v D (WO p v D) c (.returned ve) w1 := by
  obtain ⟨sj, cj, vj, h1, h2, h3, h4, h5, h6, h7, h8, h9, h10, h11⟩ := h
  exact ⟨ve, D, rfl, he, h7, ⟨by omega, fun k hk hn => h8 k hk (fun hh => hn (.inr (.inl hh))), h10⟩, fun k hk => .inl hk⟩
/-- The end of a call that is cut off. -/
theorem dj_end_cut {wr : World} {vb : Value} (hi : DI w B p q S (FX a x) s v sz D rs vr) (hlen : (recsB rs).length ≤ 1000000) (hrun : runS s rs = .ok s2) (hS : OkS S R n) (hm : Roomy R a x (recsB rs).length) (hz : sz + (recsB rs).length ≤ 32768) (hf : Fails S) (h : DJ w wr B p q S (FX a x) s v sz D rs vr rs.length) (ho : wr.ownsRow (w.heap.size + 1) 5 1 vb (recsB rs).length (byteCells (recsB rs))) :
    ∃ a3 k3, N5 wr w.heap.size s2 a3 k3 ∧ Calls Tryz.prog 60 #[.pointer (some ⟨p, 0, none⟩), .agg (sC s2 (.slice a3 s2.es.length k3)), vb] wr fun e w5 => ∃ b, e = .returned (Dk.evW b) ∧ Hid (WBad w B p q (dn S) (FX a x) s sz v D (WO p v D) 32 (.returned (Dk.evW b)) w5) := by
  have hev := h.ev hi
  obtain ⟨sj, cj, vj, h1, h2, h3, h4, h5, h6, h7, h8, h9, h10, h11⟩ := h
  rw [List.take_length, hrun] at h1
  cases h1
  obtain ⟨a3, k3, rfl, _, _⟩ := h4.el.slice
  have hlt := hi.wx.lt
  refine ⟨a3, k3, h4.sb.n5, (write_cut s2 (.slice a3 s2.es.length k3) vb (recsB rs) h7 (by have := hi.bz; omega) hev hS hm (rbo_own ho hlen (fun k hk => Nat.lt_succ_of_lt (hlt k (.inr (.inr hk))))) hf hz).mono ?_⟩
  rintro e w5 ⟨b, D', rfl, he, hb, q1, q2, hD'⟩
  refine ⟨b, rfl, _, D', rfl, .inr ⟨b, rfl, he⟩, q1, ⟨by have := q2.size; omega, fun k hk hn => (q2.blk k (by omega) (fun hh => hn (hh.elim .inl (fun h' => .inr (.inr h'))))).trans (h8 k hk (fun hh => hn (.inr (.inl hh)))), h10.trans q2.env⟩, fun k hk => (hD' k hk).imp id (fun hh => by omega)⟩
/-- The next of the good records ahead of a bad one. -/
theorem dj_next_part {wr : World} {i : Nat} {r' : Rc} (hi : DI w B p q S F s v sz D rs vr) (hij : i < j) (hj : rs[i]? = some r') (hr : r'.ok) (hrun : runS s (rs.take j) = .ok sj) (h : DJ w wr B p q S F s v sz D rs vr i) :
    Calls Tryz.prog 58 #[.pointer (some ⟨w.heap.size, 0, none⟩), .agg r'.cells] wr fun e w' => e = .returned .nilIface ∧ DJ w w' B p q S F s v sz D rs vr (i + 1) ∧ KeepU wr w' := by
  obtain ⟨si, h1, h2⟩ := dj_take hi hj hr h
  obtain ⟨s1, s3, q1, q2, q3⟩ := runS_step (j := i) hrun (by rw [List.getElem?_take_of_lt hij]; exact hj)
  rw [List.take_take, Nat.min_eq_left (by omega)] at q1
  obtain rfl : si = s1 := by rw [h1] at q1; cases q1; rfl
  rw [q2] at h2
  exact h2
theorem dj_last {wr : World} {cn : Nat} (hi : DI w B p q S F s v sz D rs vr) (hj : rs[j]? = some r) (hr : r.ok) (hrun : runS s (rs.take j) = .ok sj) (hbad : takeS sj r = .error cn) (h : DJ w wr B p q S F s v sz D rs vr j) :
    Calls Tryz.prog 58 #[.pointer (some ⟨w.heap.size, 0, none⟩), .agg r.cells] wr fun e w' => RefP (cn : Int) wr e w' := by
  obtain ⟨si, h1, h2⟩ := dj_take hi hj hr h
  obtain rfl : si = sj := by rw [h1] at hrun; cases hrun; rfl
  rw [hbad] at h2
  exact h2
end
end Go.Proofs.YthphadbcebeoaaaGreatDoor
