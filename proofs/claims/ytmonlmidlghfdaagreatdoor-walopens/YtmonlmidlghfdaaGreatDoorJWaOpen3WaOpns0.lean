/- A wal: Open, where the disk may be cut off. -/
import Derived.Test.YtmonlmidlghfdaaGreatDoorJWaKnownWaOthWaKnown2
import Derived.Test.YtmonlmidlghfdaaGreatDoorJWaSetWaApE
import Derived.Test.YtmonlmidlghfdaaGreatDoorJWaFewWaStepWaInWaIn2
import Derived.Test.YtmonlmidlghfdaaGreatDoorJWaKnown3WaCuts0
namespace Go.Proofs.YtmonlmidlghfdaaGreatDoor
open Go.RowKit Go.Lib Go.Maps

/-- Open told a wal: the disk behind it. -/
def OnP (w : World) (q : Nat) (S : Dk.St) (F : List Dk.Ent) (D : Nat → Prop) (e : Ending) (w' : World) : Prop :=
  ∃ p D', e = .returned (.tuple #[.pointer (some ⟨p, 0, none⟩), .nilIface]) ∧ Dk.DX w' q (nx S) F D' ∧ Dk.FrO D w w' ∧ ∀ k, D' k → D k ∨ w.heap.size ≤ k
/-- Open was cut off. -/
def OffP (w : World) (q : Nat) (S : Dk.St) (F : List Dk.Ent) (D : Nat → Prop) (e : Ending) (w' : World) : Prop :=
  ∃ b D', e = .returned (.tuple #[.pointer none, Dk.evW b]) ∧ Dk.DX w' q (dn S) F D' ∧ Dk.FrO D w w' ∧ ∀ k, D' k → D k ∨ w.heap.size ≤ k
section
variable {w : World} {B p q sz n : Nat} {S : Dk.St} {R : Int} {a x : Fx} {s s' : Sta} {v : Value} {D : Nat → Prop} {rs : List Rc} {su : Nat}
set_option maxHeartbeats 3200000 in
set_option maxRecDepth 100000 in
theorem wsync_cut (y : List UInt8 × Nat) (h : WX w B p q S (FX a (some y)) s v sz D) (hB : B ≤ w.heap.size) (hE : EV w B) (hS : OkS S R n) (hf : Fails S) :
    Calls Tryz.prog 12 #[.pointer (some ⟨p, 0, none⟩)] w fun e w' => WCut w B p q (dn S) (FX a (some y)) s sz v D (PD p D) 32 e w' := by
  have HM := hide (home_any h)
  have HA : Hid (Calls Tryz.prog 26 #[.pointer (some ⟨q, 0, none⟩), .string waN] w fun e w1 => ∃ b, e = .returned (Dk.evW b) ∧ Hid (Dk.ErrW w1 b 32) ∧ Hid (WCut w B p q (dn S) (FX a (some y)) s sz v D (PD p D) 32 (.returned (Dk.evW b)) w1)) := by
    refine (sync_cut y h.dx hE.et hS hf).mono ?_
    rintro e w1 ⟨b, D', rfl, h1, h2, hd, hfr, ho⟩
    exact ⟨b, rfl, h1, b, D', rfl, h1, h2, h.disk hB hd hfr ho, fro_wide hfr (fun k hk => .inr hk), ho⟩
  clear h hE hS hf hB
  unfold waN at HA
  go_enter Tryz.func12, Tryz.ntmps12
  go_wp2_with (first
    | (go_at_call 34; refine (unhide HM).mono ?_; rintro e w1 ⟨rfl, rfl⟩; clear HM)
    | (go_at_call 26; refine (unhide HA).mono ?_; rintro e w1 ⟨b, rfl, he, HW⟩; have HI := hide (Dk.is_placed b 32 30 w1 (unhide he)); clear HA he)
    | (go_at_call 29; refine (unhide HI).mono ?_; rintro e w2 ⟨rfl, rfl⟩))
  go_ret
  exact unhide HW
set_option maxHeartbeats 12800000 in
set_option maxRecDepth 100000 in
theorem open_on (hd : Dk.DX w q S (FX a (some (recsB rs ++ [], su))) D) (hB : B ≤ w.heap.size) (hbd : ∀ k, D k → B ≤ k) (hE : EV w B) (hS : OkS S R n) (hoff : S.off = false) (hf : ¬ Fails S) (hrs : ∀ r ∈ rs, r.ok) (hrun : runS sta0 rs = .ok s') (hfew : rs.length ≤ 900000) (hlen : (recsB rs ++ []).length ≤ 1000000) :
    Calls Tryz.prog 9 #[.pointer (some ⟨q, 0, none⟩)] w fun e w' => OnP w q S (FX a (some (recsB rs, (recsB rs).length))) D e w' := by
  have hov : ∀ (w1 : World) (vb : Value), w1.ownsRow w.heap.size 5 1 vb (Dk.oldData (FX a (some (recsB rs ++ [], su))) waN.data.toList).length (byteCells (Dk.oldData (FX a (some (recsB rs ++ [], su))) waN.data.toList)) → RBp w1 w1.heap.size vb (recsB rs ++ []) := fun w1 vb ho => by
    rw [data_wa] at ho
    exact rb_own ho (by show (recsB rs ++ []).length ≤ 1000000000000; omega)
  have HR : Hid (Calls Tryz.prog 27 #[.pointer (some ⟨q, 0, none⟩), .string waN] w fun e w1 => ∃ ad cap, e = .returned (.tuple #[.slice ad (recsB rs ++ []).length cap, .nilIface]) ∧ Hid (Calls Tryz.prog 31 #[.pointer (some ⟨w1.heap.size, 1, none⟩), .slice ad (recsB rs ++ []).length cap] (w1.alloc (.cells (wC q sta0 (.slice none 0 0) (recsB rs ++ []).length) 79)) fun e w2 => e = .returned .nilIface ∧ Hid (Calls Tryz.prog 30 #[.pointer (some ⟨w1.heap.size, 0, none⟩), .nilIface] w2 fun e w3 => e = .returned .nilIface ∧ Hid (Calls Tryz.prog 12 #[.pointer (some ⟨w1.heap.size, 0, none⟩)] w3 fun e w' => e = .returned .nilIface ∧ Hid (OnP w q S (FX a (some (recsB rs, (recsB rs).length))) D (.returned (.tuple #[.pointer (some ⟨w1.heap.size, 0, none⟩), .nilIface])) w'))))) := by
    refine (Dk.dx_read waN hd hE.et (by decide)).mono ?_
    rw [read_wa a _ hoff]
    rintro e w1 ⟨hb, ⟨h0, _⟩ | ⟨_, _, vb, rfl, hvo⟩⟩
    · exact absurd rfl h0
    have hB1 := Nat.le_trans hB hb.size
    have hE1 := hE.below (hb.mono hB)
    have hd1 := hd.below hb
    obtain ⟨ad, cap, hvb, hri⟩ := ri_new (rs := rs) (t := []) (s' := s') hd1 hB1 hE1 hrs hrun hfew hlen (.inl rfl) (hov w1 vb hvo)
    subst hvb
    refine ⟨ad, cap, rfl, (replay_any hri).mono ?_⟩
    rintro e w2 ⟨hst, ⟨_, rfl⟩ | ⟨hw, _⟩⟩
    rotate_left
    · simp at hw
    obtain ⟨v2, hw2, hv2, hb2⟩ := rep_wx hd1 hB1 hbd hst
    refine ⟨rfl, (mend_nil hw2).mono ?_⟩
    rintro e w3 ⟨rfl, hb3⟩
    have hfr : Dk.FrO D w w3 := Dk.FrO.of_below (below_trans0 (below_trans0 hb hb2) hb3)
    have hw3 := hw2.below hb3
    rw [List.append_nil] at hw3
    refine ⟨rfl, (wsync_go _ hw3 (Nat.le_trans hB hfr.size) (hE.below (fro_below hfr hbd hB)) hS hf).mono ?_⟩
    rintro e w' ⟨v', D', rfl, q1, q2, q3, q4⟩
    exact ⟨rfl, _, D', rfl, q1.dx, hfr.trans q2 (fun k hk hpd => hpd.elim (fun h => by have := hb.size; omega) id), fun k hk => (q4 k hk).imp id (fun h' => Nat.le_trans hfr.size h')⟩
  have hNl : ((recsB rs ++ []).length : Int) ≤ 1000000 := by omega
  clear hd hB hbd hE hS hoff hf hrs hrun hfew hov hlen
  generalize (recsB rs ++ []).length = NN at *
  unfold waN at HR
  unfold wC sta0 at *
  dsimp only at *
  go_enter Tryz.func9, Tryz.ntmps9
  go_wp2_with (first
    | (go_at_call 27; refine (unhide HR).mono ?_; rintro e w1 ⟨ad, cap, rfl, HP⟩; clear HR)
    | (go_at_call 31; refine (unhide HP).mono ?_; rintro e w2 ⟨rfl, HM⟩; clear HP)
    | (go_at_call 30; refine (unhide HM).mono ?_; rintro e w3 ⟨rfl, HY⟩; clear HM)
    | (go_at_call 12; refine (unhide HY).mono ?_; rintro e w5 ⟨rfl, H5⟩; clear HY))
  go_ret2
  exact unhide H5
set_option maxHeartbeats 12800000 in
set_option maxRecDepth 100000 in
theorem open_cut (hd : Dk.DX w q S (FX a (some (recsB rs ++ [], su))) D) (hB : B ≤ w.heap.size) (hbd : ∀ k, D k → B ≤ k) (hE : EV w B) (hS : OkS S R n) (hoff : S.off = false) (hf : Fails S) (hrs : ∀ r ∈ rs, r.ok) (hrun : runS sta0 rs = .ok s') (hfew : rs.length ≤ 900000) (hlen : (recsB rs ++ []).length ≤ 1000000) :
    Calls Tryz.prog 9 #[.pointer (some ⟨q, 0, none⟩)] w fun e w' => OffP w q S (FX a (some (recsB rs, su))) D e w' := by
  have hov : ∀ (w1 : World) (vb : Value), w1.ownsRow w.heap.size 5 1 vb (Dk.oldData (FX a (some (recsB rs ++ [], su))) waN.data.toList).length (byteCells (Dk.oldData (FX a (some (recsB rs ++ [], su))) waN.data.toList)) → RBp w1 w1.heap.size vb (recsB rs ++ []) := fun w1 vb ho => by
    rw [data_wa] at ho
    exact rb_own ho (by show (recsB rs ++ []).length ≤ 1000000000000; omega)
  have HR : Hid (Calls Tryz.prog 27 #[.pointer (some ⟨q, 0, none⟩), .string waN] w fun e w1 => ∃ ad cap, e = .returned (.tuple #[.slice ad (recsB rs ++ []).length cap, .nilIface]) ∧ Hid (Calls Tryz.prog 31 #[.pointer (some ⟨w1.heap.size, 1, none⟩), .slice ad (recsB rs ++ []).length cap] (w1.alloc (.cells (wC q sta0 (.slice none 0 0) (recsB rs ++ []).length) 79)) fun e w2 => e = .returned .nilIface ∧ Hid (Calls Tryz.prog 30 #[.pointer (some ⟨w1.heap.size, 0, none⟩), .nilIface] w2 fun e w3 => e = .returned .nilIface ∧ Hid (Calls Tryz.prog 12 #[.pointer (some ⟨w1.heap.size, 0, none⟩)] w3 fun e w' => ∃ b, e = .returned (Dk.evW b) ∧ Hid (OffP w q S (FX a (some (recsB rs, su))) D (.returned (.tuple #[.pointer none, Dk.evW b])) w'))))) := by
    refine (Dk.dx_read waN hd hE.et (by decide)).mono ?_
    rw [read_wa a _ hoff]
    rintro e w1 ⟨hb, ⟨h0, _⟩ | ⟨_, _, vb, rfl, hvo⟩⟩
    · exact absurd rfl h0
    have hB1 := Nat.le_trans hB hb.size
    have hE1 := hE.below (hb.mono hB)
    have hd1 := hd.below hb
    obtain ⟨ad, cap, hvb, hri⟩ := ri_new (rs := rs) (t := []) (s' := s') hd1 hB1 hE1 hrs hrun hfew hlen (.inl rfl) (hov w1 vb hvo)
    subst hvb
    refine ⟨ad, cap, rfl, (replay_any hri).mono ?_⟩
    rintro e w2 ⟨hst, ⟨_, rfl⟩ | ⟨hw, _⟩⟩
    rotate_left
    · simp at hw
    obtain ⟨v2, hw2, hv2, hb2⟩ := rep_wx hd1 hB1 hbd hst
    refine ⟨rfl, (mend_nil hw2).mono ?_⟩
    rintro e w3 ⟨rfl, hb3⟩
    have hfr : Dk.FrO D w w3 := Dk.FrO.of_below (below_trans0 (below_trans0 hb hb2) hb3)
    have hw3 := hw2.below hb3
    rw [List.append_nil] at hw3
    refine ⟨rfl, (wsync_cut _ hw3 (Nat.le_trans hB hfr.size) (hE.below (fro_below hfr hbd hB)) hS hf).mono ?_⟩
    rintro e w' ⟨b, D', rfl, _, _, q1, q2, q4⟩
    exact ⟨b, rfl, b, D', rfl, q1.dx, hfr.trans q2 (fun k hk hpd => hpd.elim (fun h => by have := hb.size; omega) id), fun k hk => (q4 k hk).imp id (fun h' => Nat.le_trans hfr.size h')⟩
  have hNl : ((recsB rs ++ []).length : Int) ≤ 1000000 := by omega
  clear hd hB hbd hE hS hoff hf hrs hrun hfew hov hlen
  generalize (recsB rs ++ []).length = NN at *
  unfold waN at HR
  unfold wC sta0 at *
  dsimp only at *
  go_enter Tryz.func9, Tryz.ntmps9
  go_wp2_with (first
    | (go_at_call 27; refine (unhide HR).mono ?_; rintro e w1 ⟨ad, cap, rfl, HP⟩; clear HR)
    | (go_at_call 31; refine (unhide HP).mono ?_; rintro e w2 ⟨rfl, HM⟩; clear HP)
    | (go_at_call 30; refine (unhide HM).mono ?_; rintro e w3 ⟨rfl, HY⟩; clear HM)
    | (go_at_call 12; refine (unhide HY).mono ?_; rintro e w5 ⟨b5, rfl, H5⟩; clear HY))
  go_ret2
  exact unhide H5
end
section
variable {w0 w : World} {B q n : Nat} {R : Int} {a : Fx} {rs : List Rc} {s : Sta}
/-- Whether it is cut off or not: the disk's files stay. -/
theorem ds_open_any (h : DS w0 w B q R (FX a (some (recsB rs, (recsB rs).length))) (n + 1) On) (hrs : ∀ r ∈ rs, r.ok) (hrun : runS sta0 rs = .ok s) (hfew : rs.length ≤ 900000) (hlen : (recsB rs).length ≤ 1000000) :
    Calls Tryz.prog 9 #[.pointer (some ⟨q, 0, none⟩)] w fun e w' => ∃ u v, e = .returned (.tuple #[u, v]) ∧ DS w0 w' B q R (FX a (some (recsB rs, (recsB rs).length))) n Any := by
  obtain ⟨S, D, h1, h2, h3, h4, h5, h6, h7⟩ := h
  have h1' : Dk.DX w q S (FX a (some (recsB rs ++ [], (recsB rs).length))) D := by rw [List.append_nil]; exact h1
  have hl' : (recsB rs ++ []).length ≤ 1000000 := by rw [List.append_nil]; exact hlen
  by_cases hf : Fails S
  · refine (open_cut h1' h5 h7 h6 h2 h3 hf hrs hrun hfew hl').mono ?_
    rintro e w' ⟨b, D', rfl, hd, hfr, ho⟩
    exact ⟨_, _, rfl, ds_step h4 h5 h6 h7 hd hfr ho (h2.dn (by omega)) trivial⟩
  · refine (open_on h1' h5 h7 h6 h2 h3 hf hrs hrun hfew hl').mono ?_
    rintro e w' ⟨b, D', rfl, hd, hfr, ho⟩
    exact ⟨_, _, rfl, ds_step h4 h5 h6 h7 hd hfr ho (h2.nx hf) trivial⟩
end
end Go.Proofs.YtmonlmidlghfdaaGreatDoor
/- WalOpens: its calls. -/
namespace Go.Proofs.YtmonlmidlghfdaaGreatDoor
open Go.RowKit Go.Lib Go.Maps

def kpB : List UInt8 := [107, 101, 112, 116]
/-- The other file. -/
def aK : Fx := some (kpB, 4)
theorem aK_sure : ∀ y, aK = some y → y.2 = y.1.length := fun y hy => by cases hy; rfl
/-- The records of the log. -/
def oR (es : List GE) (t : Nat) (x : Int) : List Rc := es.map rcE ++ [rcH t (plN x)]
def oS (es : List GE) (t : Nat) (x : Int) : Sta := ⟨t, plN x, 0, 0, es⟩
/-- What is looked at. -/
structure OA (es : List GE) (t : Nat) (x : Int) : Prop where
  few : es.length ≤ 12
  ok : ∀ g ∈ es, g.ok ∧ g.may = true
  sz : ∀ g ∈ es, g.sql.size ≤ 2100
  t : t < 18446744073709551616
  x : -1 ≤ x ∧ x ≤ 1000
theorem recsE_len : ∀ {es : List GE}, (∀ g ∈ es, g.ok ∧ g.may = true) → (∀ g ∈ es, g.sql.size ≤ 2100) → (recsB (es.map rcE)).length ≤ 2180 * es.length
  | [], _, _ => by simp [recsB]
  | g :: es, h, h' => by
    have q1 := h g (List.mem_cons_self ..)
    have q2 := h' g (List.mem_cons_self ..)
    have q4 := rc_small (rcE_ok q1.1 q1.2)
    have q5 := recsE_len (es := es) (fun g' hg' => h g' (List.mem_cons_of_mem _ hg')) (fun g' hg' => h' g' (List.mem_cons_of_mem _ hg'))
    have q6 : (rcE g).ent.sql.size = g.sql.size := rfl
    rw [List.map_cons, recsB_cons, List.length_append, List.length_cons]
    omega
section
variable {w0 w w' : World} {p n ns : Nat} {es : List GE} {t : Nat} {x : Int} {vl : Value}
theorem OA.rc (h : OA es t x) : ∀ r ∈ oR es t x, r.ok := fun r hr => by
  rcases List.mem_append.1 hr with h' | h'
  · obtain ⟨g, hg, rfl⟩ := List.mem_map.1 h'
    exact rcE_ok (h.ok g hg).1 (h.ok g hg).2
  · rw [List.mem_singleton.1 h']
    exact rcH_ok h.t (plN_lt x)
theorem OA.set (h : OA es t x) : takeS ⟨0, 0, 0, 0, es⟩ (rcH t (plN x)) = .ok (oS es t x) := by
  have e : takeS ⟨0, 0, 0, 0, es⟩ (rcH t (plN x)) = if 1001 < plN x then .error 20 else .ok ⟨t, plN x, 0, 0, es⟩ := rfl
  have := plN_small h.x.1 h.x.2
  have := h.x.2
  rw [e, if_neg (by omega)]
  rfl
theorem OA.run (h : OA es t x) : runS sta0 (oR es t x) = .ok (oS es t x) := by
  unfold oR
  rw [runS_app (rcE_run es)]
  show runS ⟨0, 0, 0, 0, [] ++ es⟩ [rcH t (plN x)] = _
  simp only [runS, List.nil_append]
  rw [h.set]
theorem OA.len1 (h : OA es t x) : (recsB (es.map rcE)).length ≤ 26160 := by have := recsE_len h.ok h.sz; have := h.few; omega
theorem OA.lenH (h : OA es t x) : (rcH t (plN x)).bytes.length ≤ 80 := by
  have := rc_small (rcH_ok h.t (plN_lt x))
  have e : (rcH t (plN x)).ent.sql.size = 0 := rfl
  omega
theorem OA.len (h : OA es t x) : (recsB (oR es t x)).length ≤ 26240 := by
  have := h.len1
  have := h.lenH
  unfold oR
  rw [recsB_app, List.length_append]
  simp [recsB] at *
  omega
theorem OA.few2 (h : OA es t x) : (oR es t x).length ≤ 900000 := by have := h.few; unfold oR; simp; omega
theorem OA.sok (h : OA es t x) : (oS es t x).ok := by
  have := plN_small h.x.1 h.x.2
  have := h.x.2
  exact ⟨h.t, by show plN x ≤ 1001; omega, by show (0 : Nat) ≤ 4611686018427387904; omega, by show (0 : Nat) < 18446744073709551616; omega, by show es.length ≤ 1000000; have := h.few; omega, h.ok⟩
theorem roomy_ok {y : List UInt8} {m : Nat} (h : y.length + m ≤ 30000) : Roomy 80000 aK (some (y, 0)) m := ⟨by omega, by simp only [dB, aK, kpB, List.length_cons, List.length_nil]; omega⟩
abbrev OK0 (w0 w : World) (p : Nat) (rs : List Rc) (ns : Nat) (pr : Bool) (s : Sta) (n : Nat) : Prop := KB w0 w w0.heap.size p w0.heap.size 80000 aK rs ns pr s n []
abbrev OD (w0 w : World) (es : List GE) (t : Nat) (x : Int) (n : Nat) (P : Dk.St → Prop) : Prop := DS w0 w w0.heap.size w0.heap.size 80000 (FX aK (some (recsB (oR es t x), (recsB (oR es t x)).length))) n P
theorem o_app (ha : OA es t x) (h : OK0 w0 w p [] 0 false sta0 (n + 1)) (hl : RE w vl es) :
    Calls Tryz.prog 11 #[.pointer (some ⟨p, 0, none⟩), vl] w fun e w' => e = .returned .nilIface ∧ OK0 w0 w' p (es.map rcE) 0 true ⟨0, 0, 0, 0, es⟩ n := by
  have := ha.len1
  have e0 : (recsB []).length = 0 := rfl
  exact kb_app h hl ha.ok (roomy_ok (by omega)) (by omega) (by show (0 : Nat) + es.length ≤ 800000; have := ha.few; omega)
theorem o_set (ha : OA es t x) (h : OK0 w0 w p (es.map rcE) 0 true ⟨0, 0, 0, 0, es⟩ (n + 1)) :
    Calls Tryz.prog 16 #[.pointer (some ⟨p, 0, none⟩), .agg #[.int .u64 (t : Int), .int .i64 x]] w fun e w' => e = .returned .nilIface ∧ OK0 w0 w' p (oR es t x) 0 true (oS es t x) n := by
  have := ha.len1
  have := ha.lenH
  exact kb_one set_of h (rcH_ok ha.t (plN_lt x)) ha.set (roomy_ok (by omega)) (by omega) (by show es.length ≤ 800000; have := ha.few; omega)
theorem o_sync (h : OK0 w0 w p (oR es t x) 0 true (oS es t x) (n + 1)) :
    Calls Tryz.prog 12 #[.pointer (some ⟨p, 0, none⟩)] w fun e w' => e = .returned .nilIface ∧ OD w0 w' es t x n Hale :=
  (kb_sync h).mono fun _ _ ⟨q1, q2⟩ => ⟨q1, kb_ds q2⟩
/-- A round of the loop: a halt, an Open, a fall. -/
theorem o_round {k : Int} {kv : Value} {ks : List Int} (ha : OA es t x) (h : OD w0 w es t x (n + 1) Hale) (hk : 0 ≤ k ∧ k < 10) (hkp : ∀ wr, Below w0.heap.size w0 wr → Dk.KeepAt wr (fun k => w0.heap.size ≤ k) kv ks) (hks : ks.length ≤ 100) :
    Calls Tryz.prog 23 #[.pointer (some ⟨w0.heap.size, 0, none⟩), .int .i64 k] w fun e w1 => e = .returned (.tuple #[]) ∧ Hid (Calls Tryz.prog 9 #[.pointer (some ⟨w0.heap.size, 0, none⟩)] w1 fun e w2 => ∃ u v, e = .returned (.tuple #[u, v]) ∧ Hid (Below w0.heap.size w0 w2) ∧ Hid (Calls Tryz.prog 13 #[.pointer (some ⟨w0.heap.size, 0, none⟩), .agg #[kv]] w2 fun e w3 => e = .returned (.tuple #[]) ∧ Hid (OD w0 w3 es t x n Hale))) := by
  refine (ds_halt (h.imp (fun S hs => hs.1)) ⟨hk.1, by omega⟩).mono ?_
  rintro e w1 ⟨rfl, h1⟩
  refine ⟨rfl, (ds_open_any h1 ha.rc ha.run ha.few2 (by have := ha.len; omega)).mono ?_⟩
  rintro e w2 ⟨u, v, rfl, h2⟩
  exact ⟨u, v, rfl, h2.ev.2.2, ds_crash h2 aK_sure rfl (hkp w2 h2.ev.2.2) (by omega)⟩
theorem o_last {kv : Value} {ks : List Int} (ha : OA es t x) (h : OD w0 w es t x (n + 2) Hale) (hkp : ∀ wr, Below w0.heap.size w0 wr → Dk.KeepAt wr (fun k => w0.heap.size ≤ k) kv ks) (hks : ks.length ≤ 100) :
    Calls Tryz.prog 13 #[.pointer (some ⟨w0.heap.size, 0, none⟩), .agg #[kv]] w fun e w1 => e = .returned (.tuple #[]) ∧ Hid (Calls Tryz.prog 9 #[.pointer (some ⟨w0.heap.size, 0, none⟩)] w1 fun e w2 => ∃ p, e = .returned (.tuple #[.pointer (some ⟨p, 0, none⟩), .nilIface]) ∧ Hid (OK0 w0 w2 p (oR es t x) (oR es t x).length true (oS es t x) n)) := by
  refine (ds_crash (h.imp (fun _ _ => trivial)) aK_sure rfl (hkp w h.ev.2.2) (by omega)).mono ?_
  rintro e w1 ⟨rfl, h1⟩
  exact ⟨rfl, (ds_open h1 ha.rc ha.run ha.sok ha.few2 (by have := ha.len; omega)).mono fun e w2 ⟨p, q1, q2⟩ => ⟨p, q1, q2⟩⟩
/-- Behind the last Open: the wal, what was read of the other file. -/
def OEND (w0 w : World) (p : Nat) (es : List GE) (t : Nat) (x : Int) (v : Value) : Prop :=
  OK0 w0 w p (oR es t x) (oR es t x).length true (oS es t x) 9080 ∧ RBp w w.heap.size v kpB
theorem OEND.below {v : Value} (h : OEND w0 w p es t x v) (hb : Below w.heap.size w w') : OEND w0 w' p es t x v := ⟨h.1.below hb, rb_later h.2 hb hb.size⟩
theorem oend_hard {v : Value} (ha : OA es t x) (h : OEND w0 w p es t x v) : Calls Tryz.prog 19 #[.pointer (some ⟨p, 0, none⟩)] w fun e w' => e = .returned (.agg #[.int .u64 (t : Int), .int .i64 x]) ∧ OEND w0 w' p es t x v := by
  refine (kb_hard h.1).mono ?_
  rintro e w' ⟨rfl, hb⟩
  have e1 : (((oS es t x).vote : Nat) : Int) - 1 = x := by have := plN_small ha.x.1 ha.x.2; show ((plN x : Nat) : Int) - 1 = x; omega
  rw [e1]
  exact ⟨rfl, h.below hb⟩
theorem oend_conv {v : Value} (h : OEND w0 w p es t x v) : (convert 22 9 v).run Tryz.prog w = .ok (.string ⟨#[107, 101, 112, 116]⟩) w := conv_any v _ kpB _ h.2
theorem oend_entries {v : Value} (h : OEND w0 w p es t x v) : Calls Tryz.prog 14 #[.pointer (some ⟨p, 0, none⟩)] w fun e w' => ∃ v', e = .returned v' ∧ OEND w0 w' p es t x v ∧ EL w' v' es :=
  (kb_entries h.1).mono fun _ _ ⟨v', q1, q2, _, q4⟩ => ⟨v', q1, h.below q4, q2⟩
theorem oend_same {v v' : Value} (ha : OA es t x) (h : OEND w0 w p es t x v) (he : EL w v' es) (hl : SlE w w.heap.size vl es) : Calls Tryz.prog 15 #[v', vl] w fun e w2 => e = .returned (.bool true) ∧ OEND w0 w2 p es t x v := by
  refine (ents_same _ _ _ _ _ _ (he.sle (fun g hg => (ha.ok g hg).1)) hl).mono ?_
  rintro e w2 ⟨q4, k, rfl⟩
  exact ⟨q4, h.below (drew_below w k)⟩
end
end Go.Proofs.YtmonlmidlghfdaaGreatDoor
