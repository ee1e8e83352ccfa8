/- A wal as the statements see it: the records of its file, how many are sure. -/
import Derived.Test.YthphadbcebeoaaaGreatDoorJWaOpenWaOpen2
namespace Go.Proofs.YthphadbcebeoaaaGreatDoor
open Go.RowKit Go.Lib Go.Maps

theorem rc_small {r : Rc} (h : r.ok) : r.bytes.length ≤ 80 + r.ent.sql.size := by
  obtain ⟨_, _, h1, h2, h3, h4, _, _⟩ := h
  have e1 := uvarint_length64 h1
  have e2 := uvarint_length64 h2
  have e3 := r.len
  have e4 : r.pay.length = 1 + r.body.length := by simp [Rc.pay]; omega
  have e5 : r.body.length ≤ 70 + r.ent.sql.size := by
    unfold Rc.body
    split
    · omega
    · split
      · rename_i hk
        obtain ⟨g1, g2, g3, g4⟩ := h3
        have k1 := uvarint_length64 g1
        have k2 := uvarint_length64 g2
        have k3 := uvarint_length64 g3
        have k4 := uvarint_length64 (x := r.ent.sql.size) (by unfold maxLen at g4; omega)
        obtain ⟨hkk, _⟩ := ent_may (h4 hk).1
        have k5 : (uvarint r.ent.kind.toNat).length ≤ 10 := uvarint_length64 (by rcases hkk with e | e <;> rw [e] <;> simp)
        have k6 : r.ent.sql.data.toList.length = r.ent.sql.size := bytes_length _
        unfold GE.bytes
        split
        · simp only [List.length_append]; omega
        · simp only [List.length_append, List.length_nil]; omega
      · simp only [List.length_append]; omega
  omega
/-- What the file has. -/
def xF (pr : Bool) (rs : List Rc) (ns : Nat) : Fx := if pr = true then some (recsB rs, (recsB (rs.take ns)).length) else none
/-- A wal at p on the disk at q: its file's records rs, of which ns are sure; so many more calls; its blocks O. -/
def WK (w : World) (B p q : Nat) (R : Int) (a : Fx) (rs : List Rc) (ns : Nat) (pr : Bool) (s : Sta) (n : Nat) (O : Nat → Prop) : Prop :=
  ∃ v D S, WX w B p q S (FX a (xF pr rs ns)) s v (recsB rs).length D ∧ (pr = false → rs = []) ∧ runS sta0 rs = .ok s ∧ (∀ r ∈ rs, r.ok) ∧ ns ≤ rs.length ∧ s.ok ∧ OkS S R n ∧ Hale S ∧ B ≤ w.heap.size ∧ EV w B ∧ ∀ k, O k ↔ WO p v D k
/-- A call of it that is done. -/
def KDone (w : World) (B p q : Nat) (R : Int) (a : Fx) (rs : List Rc) (ns : Nat) (pr : Bool) (s : Sta) (n : Nat) (O : Nat → Prop) (e : Ending) (w' : World) : Prop :=
  ∃ O', e = .returned .nilIface ∧ WK w' B p q R a rs ns pr s n O' ∧ Dk.FrO O w w' ∧ ∀ k, O' k → O k ∨ w.heap.size ≤ k
section
variable {w w' : World} {B p q n ns : Nat} {R : Int} {a : Fx} {rs : List Rc} {pr : Bool} {s s2 : Sta} {O : Nat → Prop}
theorem xF_data (h : pr = false → rs = []) : dB (xF pr rs ns) = recsB rs := by
  unfold xF
  cases pr
  · rw [h rfl]; rfl
  · rfl
theorem xF_sure (h : pr = false → rs = []) : dS (xF pr rs ns) = (recsB (rs.take ns)).length := by
  unfold xF
  cases pr
  · rw [h rfl]; simp [recsB, dS]
  · rfl
theorem WK.below (h : WK w B p q R a rs ns pr s n O) (hb : Below w.heap.size w w') : WK w' B p q R a rs ns pr s n O := by
  obtain ⟨v, D, S, h1, h2, h3, h4, h5, h6, h7, h8, h9, h10, h11⟩ := h
  exact ⟨v, D, S, h1.below hb, h2, h3, h4, h5, h6, h7, h8, Nat.le_trans h9 hb.size, h10.below (hb.mono h9), h11⟩
theorem WK.lt (h : WK w B p q R a rs ns pr s n O) : ∀ k, O k → k < w.heap.size := by
  obtain ⟨v, D, S, h1, h2, h3, h4, h5, h6, h7, h8, h9, h10, h11⟩ := h
  exact fun k hk => h1.lt k ((h11 k).1 hk)
theorem WK.bo (h : WK w B p q R a rs ns pr s n O) : ∀ k, O k → B ≤ k := by
  obtain ⟨v, D, S, h1, h2, h3, h4, h5, h6, h7, h8, h9, h10, h11⟩ := h
  exact fun k hk => h1.wo k ((h11 k).1 hk)
theorem WK.less {m : Nat} (h : WK w B p q R a rs ns pr s n O) (hm : m ≤ n) : WK w B p q R a rs ns pr s m O := by
  obtain ⟨v, D, S, h1, h2, h3, h4, h5, h6, h7, h8, h9, h10, h11⟩ := h
  exact ⟨v, D, S, h1, h2, h3, h4, h5, h6, h7.less hm, h8, h9, h10, h11⟩
/-- From a call's own words. -/
theorem kdone {v : Value} {D : Nat → Prop} {S S' : Dk.St} {qs : List Rc} {m : Nat} {e : Ending} (h1 : WX w B p q S (FX a (xF pr rs ns)) s v (recsB rs).length D) (hB : B ≤ w.heap.size) (hE : EV w B) (hO : ∀ k, O k ↔ WO p v D k) (hrun : runS sta0 qs = .ok s2) (hq : ∀ r ∈ qs, r.ok) (hs2 : s2.ok) (hm : m ≤ qs.length) (hS : OkS S' R n) (hh : Hale S') {P : Nat → Prop} (hP : ∀ k, P k → WO p v D k)
    (hd : WDone w B p q S' (FX a (xF true qs m)) s2 (recsB qs).length v D P e w') : KDone w B p q R a qs m true s2 n O e w' := by
  obtain ⟨v', D', rfl, q1, q2, q3, q4⟩ := hd
  have hf : Dk.FrO O w w' := fro_wide q2 (fun k hk => (hO k).2 (hP k hk))
  refine ⟨WO p v' D', rfl, ⟨v', D', S', q1, fun hh => (by cases hh), hrun, hq, hm, hs2, hS, hh, Nat.le_trans hB hf.size, hE.below (fro_below hf (fun k hk => h1.wo k ((hO k).1 hk)) hB), fun k => Iff.rfl⟩, hf, ?_⟩
  rintro k (h | h | h)
  · exact .inl ((hO k).2 (.inl h))
  · exact (q3 k h).imp (fun hh => (hO k).2 (.inr (.inl hh))) id
  · exact (q4 k h).imp (fun hh => (hO k).2 (.inr (.inr hh))) id
theorem take_app {rs : List Rc} {ns : Nat} (h : ns ≤ rs.length) (qs : List Rc) : (rs ++ qs).take ns = rs.take ns := List.take_append_of_le_length h
theorem wk_cut {f : Nat} (h : WK w B p q R a rs ns pr s (n + 1) O) (hfl : f < 18446744073709551616) (hrun : takeS s (rcC f) = .ok s2) (hm : Roomy R a (some (recsB rs, 0)) 100) (hz : (recsB rs).length + 100 ≤ 32768) (hn : s.es.length ≤ 800000) :
    Calls Tryz.prog 10 #[.pointer (some ⟨p, 0, none⟩), .int .u64 (f : Int)] w fun e w' => KDone w B p q R a (rs ++ [rcC f]) ns true s2 n O e w' := by
  obtain ⟨v, D, S, h1, h2, h3, h4, h5, h6, h7, h8, h9, h10, h11⟩ := h
  have hr := rcC_ok hfl
  have hl := rc_small hr
  have hl2 : (rcC f).bytes.length ≤ 80 := hl
  have hd := xF_data (ns := ns) h2
  have hsu := xF_sure (ns := ns) h2
  refine (wcut_go h1 h9 h10 h6 hn hfl hrun h7 ⟨hm.1, ?_⟩ (by omega) h8.go).mono fun e w' hd' => ?_
  · rw [hd]; have := hm.2; simp only [dB] at this ⊢; omega
  · rw [hd, hsu] at hd'
    refine kdone h1 h9 h10 h11 (by rw [runS_app h3]; simp only [runS]; rw [hrun]) (fun r hr' => ?_) (takeS_ok h6 hr (by omega) hrun) (by simp; omega) (h7.nx h8.go) h8.nx (fun k hk => hk) ?_
    · rcases List.mem_append.1 hr' with h' | h'
      · exact h4 r h'
      · rw [List.mem_singleton.1 h']; exact hr
    · have e1 : xF true (rs ++ [rcC f]) ns = some (recsB rs ++ (rcC f).bytes, (recsB (rs.take ns)).length) := by unfold xF; rw [if_pos rfl, take_app h5, recsB_app]; simp [recsB]
      rw [e1, recsB_app]
      simpa [recsB] using hd'
theorem wk_app {vl : Value} {es : List GE} (h : WK w B p q R a rs ns pr s (n + 1) O) (hl : RE w vl es) (hes : ∀ g ∈ es, g.ok ∧ g.may = true) (hm : Roomy R a (some (recsB rs, 0)) (recsB (es.map rcE)).length) (hz : (recsB rs).length + (recsB (es.map rcE)).length ≤ 32768) (hn : s.es.length + es.length ≤ 800000) :
    Calls Tryz.prog 11 #[.pointer (some ⟨p, 0, none⟩), vl] w fun e w' => KDone w B p q R a (rs ++ es.map rcE) ns true ⟨s.term, s.vote, s.base, s.bt, s.es ++ es⟩ n O e w' := by
  obtain ⟨v, D, S, h1, h2, h3, h4, h5, h6, h7, h8, h9, h10, h11⟩ := h
  have hd := xF_data (ns := ns) h2
  have hsu := xF_sure (ns := ns) h2
  have hrs : ∀ r ∈ es.map rcE, r.ok := fun r hr => by obtain ⟨g, hg, rfl⟩ := List.mem_map.1 hr; exact rcE_ok (hes g hg).1 (hes g hg).2
  refine (wapp_go h1 h9 h10 h6 (by omega) hl hes (by omega) h7 ⟨hm.1, ?_⟩ (by omega) h8.go).mono fun e w' hd' => ?_
  · rw [hd]; exact hm.2
  · rw [hd, hsu] at hd'
    refine kdone h1 h9 h10 h11 (by rw [runS_app h3]; exact rcE_run es) (fun r hr' => ?_) (runS_ok h6 hrs (by simp; omega) (rcE_run es)).1 (by simp; omega) (h7.nx h8.go) h8.nx (fun k hk => hk) ?_
    · rcases List.mem_append.1 hr' with h' | h'
      · exact h4 r h'
      · exact hrs r h'
    · have e1 : xF true (rs ++ es.map rcE) ns = some (recsB rs ++ recsB (es.map rcE), (recsB (rs.take ns)).length) := by unfold xF; rw [if_pos rfl, take_app h5, recsB_app]
      rw [e1, recsB_app, List.length_append]
      exact hd'
theorem wk_sync (h : WK w B p q R a rs ns true s (n + 1) O) :
    Calls Tryz.prog 12 #[.pointer (some ⟨p, 0, none⟩)] w fun e w' => KDone w B p q R a rs rs.length true s n O e w' := by
  obtain ⟨v, D, S, h1, h2, h3, h4, h5, h6, h7, h8, h9, h10, h11⟩ := h
  have h1' : WX w B p q S (FX a (some (recsB rs, (recsB (rs.take ns)).length))) s v (recsB rs).length D := h1
  refine (wsync_go _ h1' h9 h10 h7 h8.go).mono fun e w' hd' => ?_
  refine kdone h1 h9 h10 h11 h3 h4 h6 (Nat.le_refl _) (h7.nx h8.go) h8.nx (P := PD p D) (fun k hk => hk.elim .inl (fun hh => .inr (.inr hh))) ?_
  have e1 : xF true rs rs.length = some (recsB rs, (recsB rs).length) := by unfold xF; rw [if_pos rfl, List.take_length]
  rw [e1]
  exact hd'
theorem wk_entries (h : WK w B p q R a rs ns pr s n O) : Calls Tryz.prog 14 #[.pointer (some ⟨p, 0, none⟩)] w fun e w' => ∃ v', e = .returned v' ∧ EL w' v' s.es ∧ (∀ g, inB v' g → w.heap.size ≤ g) ∧ Below w.heap.size w w' := by
  obtain ⟨v, D, S, h1, h2, h3, h4, h5, h6, h7, h8, h9, h10, h11⟩ := h
  exact entries_any h1 h6.2.2.2.2.1
/-- Open tells a wal. -/
def KOpen (w : World) (B q : Nat) (R : Int) (a : Fx) (rs : List Rc) (pr : Bool) (s : Sta) (n : Nat) (D : Nat → Prop) (e : Ending) (w' : World) : Prop :=
  ∃ p O', e = .returned (.tuple #[.pointer (some ⟨p, 0, none⟩), .nilIface]) ∧ WK w' B p q R a rs rs.length pr s n O' ∧ Dk.FrO D w w' ∧ ∀ k, O' k → D k ∨ w.heap.size ≤ k
theorem kopen {D : Nat → Prop} {e : Ending} (hB : B ≤ w.heap.size) (hE : EV w B) (hbd : ∀ k, D k → B ≤ k) (hpr : pr = false → rs = []) (hrun : runS sta0 rs = .ok s) (hrs : ∀ r ∈ rs, r.ok) (hs : s.ok) (h : OpenP w B q R n a (xF pr rs rs.length) s (recsB rs).length D e w') : KOpen w B q R a rs pr s n D e w' := by
  obtain ⟨p, v, D', S', rfl, q1, q2, q3, q4, q5, q6, q7⟩ := h
  refine ⟨p, WO p v D', rfl, ⟨v, D', S', q1, hpr, hrun, hrs, Nat.le_refl _, hs, q6, q7, Nat.le_trans hB q2.size, hE.below (fro_below q2 hbd hB), fun k => Iff.rfl⟩, q2, ?_⟩
  rintro k (h | h | h)
  · exact .inr (by omega)
  · exact .inr (q5 k h)
  · exact q3 k h
/-- On a new disk. -/
theorem wk_new {S : Dk.St} {D : Nat → Prop} (hd : Dk.DX w q S [] D) (hB : B ≤ w.heap.size) (hbd : ∀ k, D k → B ≤ k) (hE : EV w B) (hS : OkS S R (n + 2)) (hh : Hale S) :
    Calls Tryz.prog 9 #[.pointer (some ⟨q, 0, none⟩)] w fun e w' => KOpen w B q R none [] false sta0 n D e w' :=
  (open_none (a := none) hd hB hbd hE hS hh).mono fun e w' h => kopen hB hE hbd (fun _ => rfl) rfl (fun r hr => by cases hr) sta0_ok h
end
end Go.Proofs.YthphadbcebeoaaaGreatDoor
/- A wal: a fall, and Open behind it. -/
namespace Go.Proofs.YthphadbcebeoaaaGreatDoor
open Go.RowKit Go.Lib Go.Maps

/-- The disk behind a fall. -/
def CX (w : World) (B q : Nat) (R : Int) (a : Fx) (rs : List Rc) (ns : Nat) (pr : Bool) (s : Sta) (n : Nat) (D : Nat → Prop) : Prop :=
  ∃ S x', Dk.DX w q S (FX a x') D ∧ ((pr = false ∧ x' = none) ∨ (pr = true ∧ ∃ c, (recsB (rs.take ns)).length ≤ c ∧ c ≤ (recsB rs).length ∧ x' = some ((recsB rs).take c, c))) ∧ (pr = false → rs = []) ∧ runS sta0 rs = .ok s ∧ (∀ r ∈ rs, r.ok) ∧ ns ≤ rs.length ∧ OkS S R n ∧ Hale S ∧ B ≤ w.heap.size ∧ EV w B ∧ ∀ k, D k → B ≤ k
theorem keep_less {w : World} {O O' : Nat → Prop} {v : Value} {ks : List Int} (h : Dk.KeepAt w O v ks) (ho : ∀ k, O' k → O k) : Dk.KeepAt w O' v ks := by
  obtain ⟨h1, h2 | ⟨b, off, cap, hb, hn, h3⟩⟩ := h
  · exact ⟨h1, .inl h2⟩
  · exact ⟨h1, .inr ⟨b, off, cap, hb, fun hh => hn (ho b hh), h3⟩⟩
section
variable {w : World} {B p q n ns : Nat} {R : Int} {a : Fx} {rs : List Rc} {pr : Bool} {s : Sta} {O : Nat → Prop}
theorem taken_le {rs : List Rc} {i j : Nat} (h : i ≤ j) : (recsB (rs.take i)).length ≤ (recsB (rs.take j)).length := by
  have e : rs.take i = (rs.take j).take i := by rw [List.take_take]; congr 1; omega
  have e2 : recsB (rs.take j) = recsB ((rs.take j).take i) ++ recsB ((rs.take j).drop i) := by rw [← recsB_app, List.take_append_drop]
  rw [e, e2]; simp
theorem all_le {rs : List Rc} {i : Nat} : (recsB (rs.take i)).length ≤ (recsB rs).length := by
  have e2 : recsB rs = recsB (rs.take i) ++ recsB (rs.drop i) := by rw [← recsB_app, List.take_append_drop]
  rw [e2]; simp
theorem wk_crash {kv : Value} {ks : List Int} (h : WK w B p q R a rs ns pr s n O) (ha : ∀ y, a = some y → y.2 = y.1.length) (hk : Dk.KeepAt w O kv ks) (hkl : ks.length ≤ 1000000) :
    Calls Tryz.prog 13 #[.pointer (some ⟨q, 0, none⟩), .agg #[kv]] w fun e w' => e = .returned (.tuple #[]) ∧ ∃ D, CX w' B q R a rs ns pr s n D ∧ Dk.FrO O w w' ∧ ∀ k, D k → O k := by
  obtain ⟨v, D, S, h1, h2, h3, h4, h5, h6, h7, h8, h9, h10, h11⟩ := h
  have hD : ∀ k, D k → O k := fun k hk => (h11 k).2 (.inr (.inr hk))
  refine (Dk.dx_crash kv ks h1.dx (keep_less hk hD) hkl (names_fx _ _)).mono ?_
  rintro e w' ⟨rfl, hd, hf⟩
  obtain ⟨x', e1, e2⟩ := fall_fx ks a (xF pr rs ns) ha (fun y hy => by
    unfold xF at hy
    split at hy
    · cases hy; exact all_le
    · cases hy)
  rw [e1] at hd
  refine ⟨rfl, D, ⟨_, x', hd, ?_, h2, h3, h4, h5, ⟨h7.1, h7.2.1, h7.2.2.1, fun hh => by cases hh⟩, ⟨rfl, rfl⟩, Nat.le_trans h9 hf.size, h10.below (fro_below hf h1.bd h9), h1.bd⟩, fro_wide hf hD, hD⟩
  rcases e2 with ⟨hx, rfl⟩ | ⟨y, c, hx, q1, q2, rfl⟩
  · refine .inl ⟨?_, rfl⟩
    unfold xF at hx
    cases pr with
    | false => rfl
    | true => cases hx
  · unfold xF at hx
    cases pr with
    | false => cases hx
    | true =>
      cases hx
      exact .inr ⟨rfl, c, q1, q2, rfl⟩
theorem wk_reopen {D : Nat → Prop} (h : CX w B q R a rs ns pr s (n + 2) D) (hlen : (recsB rs).length ≤ 1000000) (hfew : rs.length ≤ 900000) :
    Calls Tryz.prog 9 #[.pointer (some ⟨q, 0, none⟩)] w fun e w' => ∃ k sk, ns ≤ k ∧ k ≤ rs.length ∧ runS sta0 (rs.take k) = .ok sk ∧ KOpen w B q R a (rs.take k) pr sk n D e w' := by
  obtain ⟨S, x', hd, hx, hpr, hrun, hrs, hns, hS, hh, hB, hE, hbd⟩ := h
  rcases hx with ⟨rfl, rfl⟩ | ⟨rfl, c, hc1, hc2, rfl⟩
  · obtain rfl := hpr rfl
    have : ns = 0 := by simpa using hns
    subst this
    refine (open_none hd hB hbd hE hS hh).mono fun e w' ho => ⟨0, sta0, Nat.le_refl _, Nat.le_refl _, rfl, ?_⟩
    exact kopen hB hE hbd (fun _ => rfl) rfl (fun r hr => by cases hr) sta0_ok ho
  · obtain ⟨k, t, hk, ht, hcase⟩ := recs_cut rs c hc2
    obtain ⟨sk, hsk, _⟩ := runS_part (rs := rs.take k) (qs := rs.drop k) (by rw [List.take_append_drop]; exact hrun)
    have hrk : ∀ r ∈ rs.take k, r.ok := fun r hr => hrs r (List.mem_of_mem_take hr)
    have hskok := (runS_ok sta0_ok hrk (by have : (rs.take k).length ≤ rs.length := by simp; omega
                                           simp only [sta0, List.length_nil]; omega) hsk).1
    have hlk : ((recsB rs).take c).length = c := by rw [List.length_take]; omega
    have hlk2 : (recsB (rs.take k)).length + t.length = c := by rw [← hlk, ht, List.length_append]
    have hfewk : (rs.take k).length ≤ 900000 := by simp; omega
    have hnk : ns ≤ k := by
      rcases Nat.lt_or_ge k ns with h' | h'
      · have hkl : k < rs.length := by omega
        have e1 := recsB_len rs k rs[k] (List.getElem?_eq_getElem hkl)
        have e2 : (recsB (rs.take (k + 1))).length ≤ (recsB (rs.take ns)).length := taken_le (by omega)
        have e3 := rs[k].len
        rcases hcase with rfl | ⟨r, d, hr, hd0, hd1, rfl⟩
        · simp at hlk2; omega
        · rw [List.getElem?_eq_getElem hkl] at hr
          cases hr
          have : (rs[k].bytes.take d).length = d := by rw [List.length_take]; omega
          omega
      · exact h'
    have hxk : xF true (rs.take k) (rs.take k).length = some (recsB (rs.take k), (recsB (rs.take k)).length) := by unfold xF; rw [if_pos rfl, List.take_length]
    rw [ht] at hd
    rcases hcase with rfl | ⟨r, d, hr, hd0, hd1, rfl⟩
    · rw [List.append_nil] at hd
      refine (open_whole hd hB hbd hE hS hh hrk hsk hfewk (by have := all_le (rs := rs) (i := k); omega)).mono fun e w' ho => ⟨k, sk, hnk, hk, hsk, ?_⟩
      refine kopen hB hE hbd (fun hh => by cases hh) hsk hrk hskok ?_
      rw [hxk]; exact ho
    · have hro := hrs r (List.mem_of_getElem? hr)
      have hpl := r.pay_len hro
      have hrl := r.len
      refine (open_torn hd hB hbd hE hS hh hrk hsk hfewk (by rw [← ht, hlk]; omega) (fun hh => ?_) (unfr_cut r.pay d (by omega) (by omega))).mono fun e w' ho => ⟨k, sk, hnk, hk, hsk, ?_⟩
      · have := congrArg List.length hh
        rw [List.length_take] at this
        simp only [List.length_nil] at this
        omega
      · refine kopen hB hE hbd (fun hh => by cases hh) hsk hrk hskok ?_
        rw [hxk]; exact ho
end
end Go.Proofs.YthphadbcebeoaaaGreatDoor
