/- A wal as WalPlays sees it: its disk may be halting; each call done, cut off or refused. -/
import Derived.Test.YthphadbcebeoaaaGreatDoorJWaSetWaApE
import Derived.Test.YthphadbcebeoaaaGreatDoorJWaOthWaOpen3
namespace Go.Proofs.YthphadbcebeoaaaGreatDoor
open Go.RowKit Go.Lib Go.Maps

/-- A wal at p on the disk at q, the disk's numbers S: its file's records rs, of which ns are sure; so many more calls; its blocks O. -/
def WZ (w : World) (B p q : Nat) (R : Int) (rs : List Rc) (ns : Nat) (pr : Bool) (s : Sta) (n : Nat) (S : Dk.St) (O : Nat → Prop) : Prop :=
  ∃ v D, WX w B p q S (FX none (xF pr rs ns)) s v (recsB rs).length D ∧ (pr = false → rs = []) ∧ runS sta0 rs = .ok s ∧ (∀ r ∈ rs, r.ok) ∧ ns ≤ rs.length ∧ s.ok ∧ OkS S R n ∧ B ≤ w.heap.size ∧ EV w B ∧ ∀ k, O k ↔ WO p v D k
/-- A call of it that is done. -/
def SDone (w : World) (B p q : Nat) (R : Int) (rs : List Rc) (ns : Nat) (pr : Bool) (s : Sta) (n : Nat) (S : Dk.St) (O : Nat → Prop) (e : Ending) (w' : World) : Prop :=
  ∃ O', e = .returned .nilIface ∧ WZ w' B p q R rs ns pr s n S O' ∧ Dk.FrO O w w' ∧ ∀ k, O' k → O k ∨ w.heap.size ≤ k
/-- One that told an error. -/
def SBad (w : World) (B p q : Nat) (R : Int) (rs : List Rc) (ns : Nat) (pr : Bool) (s : Sta) (n : Nat) (S : Dk.St) (O : Nat → Prop) (c : Int) (e : Ending) (w' : World) : Prop :=
  ∃ T b O', e = .returned (.iface T (.pointer (some ⟨b, 0, none⟩))) ∧ ErrX w' (.iface T (.pointer (some ⟨b, 0, none⟩))) c ∧ WZ w' B p q R rs ns pr s n S O' ∧ Dk.FrO O w w' ∧ ∀ k, O' k → O k ∨ w.heap.size ≤ k
section
variable {w w' : World} {B p q n ns : Nat} {R : Int} {rs : List Rc} {pr : Bool} {s s2 : Sta} {O : Nat → Prop} {S S' : Dk.St} {fn : FuncId} {args : Array Value} {r : Rc} {vl : Value} {es : List GE} {c : Int} {e : Ending}
theorem WZ.below (h : WZ w B p q R rs ns pr s n S O) (hb : Below w.heap.size w w') : WZ w' B p q R rs ns pr s n S O := by
  obtain ⟨v, D, h1, h2, h3, h4, h5, h6, h7, h9, h10, h11⟩ := h
  exact ⟨v, D, h1.below hb, h2, h3, h4, h5, h6, h7, Nat.le_trans h9 hb.size, h10.below (hb.mono h9), h11⟩
/-- It stays where none of its blocks turns. -/
theorem WZ.keep (h : WZ w B p q R rs ns pr s n S O) (hz : w.heap.size ≤ w'.heap.size) (hk : ∀ k, O k → w'.heap[k]? = w.heap[k]?) (hB : Below B w w') : WZ w' B p q R rs ns pr s n S O := by
  obtain ⟨v, D, h1, h2, h3, h4, h5, h6, h7, h9, h10, h11⟩ := h
  exact ⟨v, D, h1.keep hz (fun k hk' => hk k ((h11 k).2 hk')), h2, h3, h4, h5, h6, h7, Nat.le_trans h9 hz, h10.below hB, h11⟩
theorem WZ.lt (h : WZ w B p q R rs ns pr s n S O) : ∀ k, O k → k < w.heap.size := by
  obtain ⟨v, D, h1, h2, h3, h4, h5, h6, h7, h9, h10, h11⟩ := h
  exact fun k hk => h1.lt k ((h11 k).1 hk)
theorem WZ.bo (h : WZ w B p q R rs ns pr s n S O) : ∀ k, O k → B ≤ k := by
  obtain ⟨v, D, h1, h2, h3, h4, h5, h6, h7, h9, h10, h11⟩ := h
  exact fun k hk => h1.wo k ((h11 k).1 hk)
theorem WZ.less {m : Nat} (h : WZ w B p q R rs ns pr s n S O) (hm : m ≤ n) : WZ w B p q R rs ns pr s m S O := by
  obtain ⟨v, D, h1, h2, h3, h4, h5, h6, h7, h9, h10, h11⟩ := h
  exact ⟨v, D, h1, h2, h3, h4, h5, h6, h7.less hm, h9, h10, h11⟩
theorem WZ.info (h : WZ w B p q R rs ns pr s n S O) : runS sta0 rs = .ok s ∧ (∀ r ∈ rs, r.ok) ∧ ns ≤ rs.length ∧ s.ok ∧ EV w B ∧ B ≤ w.heap.size ∧ (pr = false → rs = []) := by
  obtain ⟨v, D, h1, h2, h3, h4, h5, h6, h7, h9, h10, h11⟩ := h
  exact ⟨h3, h4, h5, h6, h10, h9, h2⟩
theorem WK.wz (h : WK w B p q R none rs ns pr s n O) : ∃ S, WZ w B p q R rs ns pr s n S O ∧ Hale S := by
  obtain ⟨v, D, S, h1, h2, h3, h4, h5, h6, h7, h8, h9, h10, h11⟩ := h
  exact ⟨S, ⟨v, D, h1, h2, h3, h4, h5, h6, h7, h9, h10, h11⟩, h8⟩
/-- From a call's own words. -/
theorem sdone {v : Value} {D : Nat → Prop} {qs : List Rc} {m : Nat} (h1 : WX w B p q S (FX none (xF pr rs ns)) s v (recsB rs).length D) (hB : B ≤ w.heap.size) (hE : EV w B) (hO : ∀ k, O k ↔ WO p v D k) (hrun : runS sta0 qs = .ok s2) (hq : ∀ r ∈ qs, r.ok) (hs2 : s2.ok) (hm : m ≤ qs.length) (hS : OkS S' R n) {P : Nat → Prop} (hP : ∀ k, P k → WO p v D k)
    (hd : WDone w B p q S' (FX none (xF true qs m)) s2 (recsB qs).length v D P e w') : SDone w B p q R qs m true s2 n S' O e w' := by
  obtain ⟨v', D', rfl, q1, q2, q3, q4⟩ := hd
  have hf : Dk.FrO O w w' := fro_wide q2 (fun k hk => (hO k).2 (hP k hk))
  refine ⟨WO p v' D', rfl, ⟨v', D', q1, fun hh => (by cases hh), hrun, hq, hm, hs2, hS, Nat.le_trans hB hf.size, hE.below (fro_below hf (fun k hk => h1.wo k ((hO k).1 hk)) hB), fun k => Iff.rfl⟩, hf, ?_⟩
  rintro k (h | h | h)
  · exact .inl ((hO k).2 (.inl h))
  · exact (q3 k h).imp (fun hh => (hO k).2 (.inr (.inl hh))) id
  · exact (q4 k h).imp (fun hh => (hO k).2 (.inr (.inr hh))) id
theorem sbad {v : Value} {D : Nat → Prop} (h1 : WX w B p q S (FX none (xF pr rs ns)) s v (recsB rs).length D) (hB : B ≤ w.heap.size) (hE : EV w B) (hO : ∀ k, O k ↔ WO p v D k) (hpr : pr = false → rs = []) (hrun : runS sta0 rs = .ok s) (hq : ∀ r ∈ rs, r.ok) (hs : s.ok) (hm : ns ≤ rs.length) (hS : OkS S' R n)
    (hd : WBad w B p q S' (FX none (xF pr rs ns)) s (recsB rs).length v D (WO p v D) c e w') : SBad w B p q R rs ns pr s n S' O c e w' := by
  obtain ⟨ve, D', rfl, he, q1, q2, q4⟩ := hd
  obtain ⟨T, b, rfl⟩ := he.form
  have hf : Dk.FrO O w w' := fro_wide q2 (fun k hk => (hO k).2 hk)
  refine ⟨T, b, WO p v D', rfl, he, ⟨v, D', q1, hpr, hrun, hq, hm, hs, hS, Nat.le_trans hB hf.size, hE.below (fro_below hf (fun k hk => h1.wo k ((hO k).1 hk)) hB), fun k => Iff.rfl⟩, hf, ?_⟩
  rintro k (h | h | h)
  · exact .inl ((hO k).2 (.inl h))
  · exact .inl ((hO k).2 (.inr (.inl h)))
  · exact (q4 k h).imp (fun hh => (hO k).2 (.inr (.inr hh))) id
theorem roomy_n {y : List UInt8} {x : Fx} {m : Nat} (hx : dB x = y) (hR : R = 65536) (h : y.length + m ≤ 32768) : Roomy R none x m := ⟨by omega, by rw [hx, hR]; simp only [dB, List.length_nil]; omega⟩
/-- A call of one record. -/
theorem ws_one (hF : OneOf fn args p r w) (h : WZ w B p q R rs ns pr s (n + 1) S O) (hR : R = 65536) (hr : r.ok) (hz : (recsB rs).length + r.bytes.length ≤ 32768) (hn : s.es.length ≤ 800000) :
    Calls Tryz.prog fn args w fun e w' => match takeS s r with
      | .ok s2 => (¬ Fails S ∧ SDone w B p q R (rs ++ [r]) ns true s2 n (nx S) O e w') ∨ (Fails S ∧ SBad w B p q R rs ns pr s n (dn S) O 32 e w')
      | .error c => SBad w B p q R rs ns pr s n S O (c : Int) e w' := by
  obtain ⟨v, D, h1, h2, h3, h4, h5, h6, h7, h9, h10, h11⟩ := h
  have hd := xF_data (ns := ns) h2
  have hsu := xF_sure (ns := ns) h2
  cases hrun : takeS s r with
  | error c => exact (one_bad hF h1 h9 h10 h6 hn hr hrun).mono fun e w' hb => sbad h1 h9 h10 h11 h2 h3 h4 h6 h5 (h7.less (by omega)) hb
  | ok s2 =>
    have hm : Roomy R none (xF pr rs ns) r.bytes.length := roomy_n hd hR hz
    by_cases hf : Fails S
    · exact (one_cut hF h1 h9 h10 h6 hn hr hrun h7 hm hz hf).mono fun e w' hb => .inr ⟨hf, sbad h1 h9 h10 h11 h2 h3 h4 h6 h5 (h7.dn (by omega)) hb⟩
    · refine (one_go hF h1 h9 h10 h6 hn hr hrun h7 hm hz hf).mono fun e w' hd' => .inl ⟨hf, ?_⟩
      rw [hd, hsu] at hd'
      refine sdone h1 h9 h10 h11 (by rw [runS_app h3]; simp only [runS]; rw [hrun]) (fun r hr' => ?_) (takeS_ok h6 hr (by omega) hrun) (by simp; omega) (h7.nx hf) (fun k hk => hk) ?_
      · rcases List.mem_append.1 hr' with h' | h'
        · exact h4 r h'
        · rw [List.mem_singleton.1 h']; exact hr
      · have e1 : xF true (rs ++ [r]) ns = some (recsB rs ++ r.bytes, (recsB (rs.take ns)).length) := by unfold xF; rw [if_pos rfl, take_app h5, recsB_app]; simp [recsB]
        rw [e1, recsB_app]
        simpa [recsB] using hd'
/-- Append, cut off. -/
theorem wapp_cut {a x : Fx} {v : Value} {sz : Nat} {D : Nat → Prop} (h : WX w B p q S (FX a x) s v sz D) (hB : B ≤ w.heap.size) (hE : EV w B) (hs : s.ok) (hn : s.es.length + es.length ≤ 900000) (hl : RE w vl es) (hes : ∀ g ∈ es, g.ok ∧ g.may = true) (hlen : (recsB (es.map rcE)).length ≤ 1000000) (hS : OkS S R n) (hm : Roomy R a x (recsB (es.map rcE)).length) (hz : sz + (recsB (es.map rcE)).length ≤ 32768) (hf : Fails S) :
    Calls Tryz.prog 11 #[.pointer (some ⟨p, 0, none⟩), vl] w fun e w' => WBad w B p q (dn S) (FX a x) s sz v D (WO p v D) 32 e w' := by
  refine app_of (fun e w' hd => ?_) (by omega) hl (fun g hg => ?_) ?_
  · obtain ⟨v', D', h1, _⟩ := hd
    exact ⟨_, h1⟩
  · have hm2 := (hes g hg).2
    simp [GE.may] at hm2
    omega
  intro w2 hb hM
  refine (do_cut (rs := es.map rcE) ⟨h.below hb, Nat.le_trans hB hb.size, hE.below (hb.mono hB), hs, hM.rl _, fun b hi hw => ?_, by simpa using hn, .inl (fun r hr => ?_)⟩ hlen (fun r hr => ?_) (rcE_run es) hS hm hz hf).mono fun e w' hd => hd.pre hb
  · obtain ⟨_, _, _, e⟩ := hi
    cases e
    have := h.lt _ hw
    omega
  · obtain ⟨g, _, rfl⟩ := List.mem_map.1 hr
    exact .inl rfl
  · obtain ⟨g, hg, rfl⟩ := List.mem_map.1 hr
    exact rcE_ok (hes g hg).1 (hes g hg).2
theorem recsE_sum : ∀ {es : List GE}, (∀ g ∈ es, g.ok ∧ g.may = true) → (∀ g ∈ es, g.sql.size ≤ 2100) → (recsB (es.map rcE)).length ≤ 2180 * es.length
  | [], _, _ => by simp [recsB]
  | g :: es, h, h' => by
    have q1 := h g (List.mem_cons_self ..)
    have q2 := h' g (List.mem_cons_self ..)
    have q4 := rc_small (rcE_ok q1.1 q1.2)
    have q5 := recsE_sum (es := es) (fun g' hg' => h g' (List.mem_cons_of_mem _ hg')) (fun g' hg' => h' g' (List.mem_cons_of_mem _ hg'))
    have q6 : (rcE g).ent.sql.size = g.sql.size := rfl
    rw [List.map_cons, recsB_cons, List.length_append, List.length_cons]
    omega
/-- Append. -/
theorem ws_app (h : WZ w B p q R rs ns pr s (n + 1) S O) (hR : R = 65536) (hl : RE w vl es) (hok : ∀ g ∈ es, g.ok) (hsz : es.length ≤ 12 ∧ ∀ g ∈ es, g.sql.size ≤ 2100) (hz : (∀ g ∈ es, g.may = true) → (recsB rs).length + (recsB (es.map rcE)).length ≤ 32768) (hn : s.es.length ≤ 800000) :
    Calls Tryz.prog 11 #[.pointer (some ⟨p, 0, none⟩), vl] w fun e w' => ((∀ g ∈ es, g.may = true) ∧ ((¬ Fails S ∧ SDone w B p q R (rs ++ es.map rcE) ns true ⟨s.term, s.vote, s.base, s.bt, s.es ++ es⟩ n (nx S) O e w') ∨ (Fails S ∧ SBad w B p q R rs ns pr s n (dn S) O 32 e w'))) ∨ ((¬ ∀ g ∈ es, g.may = true) ∧ SBad w B p q R rs ns pr s n S O 20 e w') := by
  obtain ⟨v, D, h1, h2, h3, h4, h5, h6, h7, h9, h10, h11⟩ := h
  have hd := xF_data (ns := ns) h2
  have hsu := xF_sure (ns := ns) h2
  by_cases hmay : ∀ g ∈ es, g.may = true
  · have hes : ∀ g ∈ es, g.ok ∧ g.may = true := fun g hg => ⟨hok g hg, hmay g hg⟩
    have hrs : ∀ r ∈ es.map rcE, r.ok := fun r hr => by obtain ⟨g, hg, rfl⟩ := List.mem_map.1 hr; exact rcE_ok (hes g hg).1 (hes g hg).2
    have hz := hz hmay
    have hm : Roomy R none (xF pr rs ns) (recsB (es.map rcE)).length := roomy_n hd hR hz
    by_cases hf : Fails S
    · exact (wapp_cut h1 h9 h10 h6 (by omega) hl hes (by omega) h7 hm hz hf).mono fun e w' hb => .inl ⟨hmay, .inr ⟨hf, sbad h1 h9 h10 h11 h2 h3 h4 h6 h5 (h7.dn (by omega)) hb⟩⟩
    · refine (wapp_go h1 h9 h10 h6 (by omega) hl hes (by omega) h7 hm hz hf).mono fun e w' hd' => .inl ⟨hmay, .inl ⟨hf, ?_⟩⟩
      rw [hd, hsu] at hd'
      refine sdone h1 h9 h10 h11 (by rw [runS_app h3]; exact rcE_run es) (fun r hr' => ?_) (runS_ok h6 hrs (by simp; omega) (rcE_run es)).1 (by simp; omega) (h7.nx hf) (fun k hk => hk) ?_
      · rcases List.mem_append.1 hr' with h' | h'
        · exact h4 r h'
        · exact hrs r h'
      · have e1 : xF true (rs ++ es.map rcE) ns = some (recsB rs ++ recsB (es.map rcE), (recsB (rs.take ns)).length) := by unfold xF; rw [if_pos rfl, take_app h5, recsB_app]
        rw [e1, recsB_app, List.length_append]
        exact hd'
  · obtain ⟨jb, gb, k1, k2, k3⟩ := first_bad hmay
    have hlen : (recsB ((es.take jb).map rcE)).length ≤ 1000000 := by
      have hl2 : (es.take jb).length ≤ 12 := by rw [List.length_take]; omega
      have := recsE_sum (es := es.take jb) (fun g hg => ⟨hok g (List.mem_of_mem_take hg), k3 g hg⟩) (fun g hg => hsz.2 g (List.mem_of_mem_take hg))
      omega
    exact (wapp_bad h1 h9 h10 h6 (by omega) hl hok hsz.2 hlen k3 k1 k2).mono fun e w' hb => .inr ⟨hmay, sbad h1 h9 h10 h11 h2 h3 h4 h6 h5 (h7.less (by omega)) hb⟩
theorem WCut.bad {v : Value} {sz : Nat} {D P : Nat → Prop} {F : List Dk.Ent} (h : WCut w B p q S F s sz v D P c e w') (hP : ∀ k, P k → WO p v D k) : WBad w B p q S F s sz v D (WO p v D) c e w' := by
  obtain ⟨b, D', rfl, h1, h2, h3, h4, h5⟩ := h
  exact ⟨_, D', rfl, .inr ⟨b, rfl, h1⟩, h3, fro_wide h4 hP, h5⟩
/-- Sync. -/
theorem ws_sync (h : WZ w B p q R rs ns pr s (n + 1) S O) (hon : S.off = false) :
    Calls Tryz.prog 12 #[.pointer (some ⟨p, 0, none⟩)] w fun e w' => (∃ S', S'.off = false ∧ SDone w B p q R rs rs.length pr s n S' O e w') ∨ SBad w B p q R rs ns pr s n (dn S) O 32 e w' := by
  obtain ⟨v, D, h1, h2, h3, h4, h5, h6, h7, h9, h10, h11⟩ := h
  cases pr with
  | false =>
    obtain rfl := h2 rfl
    have h1' : WX w B p q S (FX none none) s v (recsB []).length D := h1
    refine (wsync_none h1' h9 h10 h7 hon).mono fun e w' hd => .inl ⟨S, hon, ?_⟩
    obtain ⟨v', D', rfl, q1, q2, q3, q4⟩ := hd
    have hf : Dk.FrO O w w' := fro_wide q2 (fun k hk => (h11 k).2 (hk.elim .inl (fun hh => .inr (.inr hh))))
    refine ⟨WO p v' D', rfl, ⟨v', D', q1, fun _ => rfl, h3, h4, Nat.le_refl _, h6, h7.less (by omega), Nat.le_trans h9 hf.size, h10.below (fro_below hf (fun k hk => h1.wo k ((h11 k).1 hk)) h9), fun k => Iff.rfl⟩, hf, ?_⟩
    rintro k (h | h | h)
    · exact .inl ((h11 k).2 (.inl h))
    · exact (q3 k h).imp (fun hh => (h11 k).2 (.inr (.inl hh))) id
    · exact (q4 k h).imp (fun hh => (h11 k).2 (.inr (.inr hh))) id
  | true =>
    have h1' : WX w B p q S (FX none (some (recsB rs, (recsB (rs.take ns)).length))) s v (recsB rs).length D := h1
    by_cases hf : Fails S
    · exact (wsync_cut _ h1' h9 h10 h7 hf).mono fun e w' hb => .inr (sbad h1 h9 h10 h11 h2 h3 h4 h6 h5 (h7.dn (by omega)) (hb.bad (fun k hk => hk.elim .inl (fun hh => .inr (.inr hh)))))
    · refine (wsync_go _ h1' h9 h10 h7 hf).mono fun e w' hd' => .inl ⟨nx S, nx_off hf, ?_⟩
      refine sdone h1 h9 h10 h11 h3 h4 h6 (Nat.le_refl _) (h7.nx hf) (P := PD p D) (fun k hk => hk.elim .inl (fun hh => .inr (.inr hh))) ?_
      have e1 : xF true rs rs.length = some (recsB rs, (recsB rs).length) := by unfold xF; rw [if_pos rfl, List.take_length]
      rw [e1]
      exact hd'
/-- Halt. -/
theorem ws_halt {k : Int} (h : WZ w B p q R rs ns pr s n S O) (hk : -9223372036854775808 ≤ k ∧ k < 9223372036854775808) :
    Calls Tryz.prog 23 #[.pointer (some ⟨q, 0, none⟩), .int .i64 k] w fun e w' => e = .returned (.tuple #[]) ∧ WZ w' B p q R rs ns pr s n { S with halting := decide (0 ≤ k), left := k } O ∧ Dk.FrO O w w' := by
  obtain ⟨v, D, h1, h2, h3, h4, h5, h6, h7, h9, h10, h11⟩ := h
  refine (Dk.dx_halt k h1.dx).mono ?_
  rintro e w' ⟨rfl, hd, hf⟩
  have hf' : Dk.FrO O w w' := fro_wide hf (fun k hk => (h11 k).2 (.inr (.inr hk)))
  exact ⟨rfl, ⟨v, D, h1.disk h9 hd hf (fun k hk => .inl hk), h2, h3, h4, h5, h6, ⟨h7.1, h7.2.1, h7.2.2.1, fun hh => ⟨by simpa using hh, hk.2⟩⟩, Nat.le_trans h9 hf.size, h10.below (fro_below hf h1.bd h9), h11⟩, hf'⟩
/-- A fall, and Open behind it. -/
theorem ws_fall {kv : Value} {ks : List Int} (h : WZ w B p q R rs ns pr s (n + 2) S O) (hk : Dk.KeepAt w O kv ks) (hkl : ks.length ≤ 1000000) (hlen : (recsB rs).length ≤ 1000000) (hfew : rs.length ≤ 900000) :
    Calls Tryz.prog 13 #[.pointer (some ⟨q, 0, none⟩), .agg #[kv]] w fun e w1 => e = .returned (.tuple #[]) ∧ Dk.FrO O w w1 ∧ Hid (Calls Tryz.prog 9 #[.pointer (some ⟨q, 0, none⟩)] w1 fun e w' => ∃ p' k sk S' O', e = .returned (.tuple #[.pointer (some ⟨p', 0, none⟩), .nilIface]) ∧ ns ≤ k ∧ k ≤ rs.length ∧ runS sta0 (rs.take k) = .ok sk ∧ S'.off = false ∧ WZ w' B p' q R (rs.take k) (rs.take k).length pr sk n S' O' ∧ Dk.FrO O w w' ∧ ∀ j, O' j → O j ∨ w.heap.size ≤ j) := by
  obtain ⟨v, D, h1, h2, h3, h4, h5, h6, h7, h9, h10, h11⟩ := h
  have hD : ∀ k, D k → O k := fun k hk => (h11 k).2 (.inr (.inr hk))
  refine (Dk.dx_crash kv ks h1.dx (keep_less hk hD) hkl (names_fx _ _)).mono ?_
  rintro e w1 ⟨rfl, hd, hf⟩
  obtain ⟨x', e1, e2⟩ := fall_fx ks none (xF pr rs ns) (fun y hy => by cases hy) (fun y hy => by
    unfold xF at hy
    split at hy
    · cases hy; exact all_le
    · cases hy)
  rw [e1] at hd
  have hfO := fro_wide hf hD
  refine ⟨rfl, hfO, ?_⟩
  have hcx : CX w1 B q R none rs ns pr s (n + 2) D := by
    refine ⟨_, x', hd, ?_, h2, h3, h4, h5, ⟨h7.1, h7.2.1, h7.2.2.1, fun hh => by cases hh⟩, ⟨rfl, rfl⟩, Nat.le_trans h9 hf.size, h10.below (fro_below hf h1.bd h9), h1.bd⟩
    rcases e2 with ⟨hx, rfl⟩ | ⟨y, c, hx, q1, q2, rfl⟩
    · refine .inl ⟨?_, rfl⟩
      unfold xF at hx
      cases pr with
      | false => rfl
      | true => cases hx
    · unfold xF at hx
      cases pr with
      | false => cases hx
      | true =>
        cases hx
        exact .inr ⟨rfl, c, q1, q2, rfl⟩
  refine (wk_reopen hcx hlen hfew).mono ?_
  rintro e w' ⟨k, sk, hk1, hk2, hsk, p', O', rfl, q1, q2, q3⟩
  obtain ⟨S', hS', hh⟩ := q1.wz
  refine ⟨p', k, sk, S', O', rfl, hk1, hk2, hsk, hh.1, hS', hfO.trans (fro_wide q2 hD) (fun k _ hk => hk), fun j hj => ?_⟩
  rcases q3 j hj with h' | h'
  · exact .inl (hD j h')
  · exact .inr (Nat.le_trans hf.size h')
theorem ws_hard (h : WZ w B p q R rs ns pr s n S O) : Calls Tryz.prog 19 #[.pointer (some ⟨p, 0, none⟩)] w fun e w' => e = .returned (.agg #[.int .u64 (s.term : Int), .int .i64 ((s.vote : Int) - 1)]) ∧ Below w.heap.size w w' := by
  obtain ⟨v, D, h1, h2, h3, h4, h5, h6, _⟩ := h
  exact hard_any h1 h6
theorem ws_entries (h : WZ w B p q R rs ns pr s n S O) : Calls Tryz.prog 14 #[.pointer (some ⟨p, 0, none⟩)] w fun e w' => ∃ v', e = .returned v' ∧ EL w' v' s.es ∧ (∀ g, inB v' g → w.heap.size ≤ g) ∧ Below w.heap.size w w' := by
  obtain ⟨v, D, h1, h2, h3, h4, h5, h6, _⟩ := h
  exact entries_any h1 h6.2.2.2.2.1
set_option maxHeartbeats 1600000 in
theorem ws_base (h : WZ w B p q R rs ns pr s n S O) : Calls Tryz.prog 18 #[.pointer (some ⟨p, 0, none⟩)] w fun e w' => e = .returned (.tuple #[.int .u64 (s.base : Int), .int .u64 (s.bt : Int)]) ∧ ∃ m, w' = w.drewN m := by
  obtain ⟨v, D, h1, _⟩ := h
  obtain ⟨_, _, _, c3, c4, _⟩ := h1.cells
  clear h1
  go_enter Tryz.func18, Tryz.ntmps18
  go_wp2_with fail
  go_region
  all_goals
    go_wp2_with fail
    go_ret2
    exact ⟨rfl, 1, rfl⟩
end
end Go.Proofs.YthphadbcebeoaaaGreatDoor
