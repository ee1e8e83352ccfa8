/- The wal's disk within a statement: another file on it, halts, falls, an Open that is cut off. -/
import Derived.Test.YthphadbcebeoaaaGreatDoorJWaKnownWaKnown2WaKnown3WaCuts0
namespace Go.Proofs.YthphadbcebeoaaaGreatDoor
open Go.RowKit Go.Lib Go.Maps

/-- A disk within a statement, its files F, its numbers as P says; so many more calls. -/
def DS (w0 w : World) (B q : Nat) (R : Int) (F : List Dk.Ent) (n : Nat) (P : Dk.St → Prop) : Prop :=
  ∃ S D, Dk.DX w q S F D ∧ OkS S R n ∧ P S ∧ Below B w0 w ∧ B ≤ w.heap.size ∧ EV w B ∧ ∀ k, D k → B ≤ k
def On (S : Dk.St) : Prop := S.off = false
def Any (_ : Dk.St) : Prop := True
section
variable {w0 w w' : World} {B p q n : Nat} {R : Int} {F : List Dk.Ent} {P : Dk.St → Prop} {a x : Fx} {rs : List Rc} {s : Sta}
theorem DS.below (h : DS w0 w B q R F n P) (hb : Below w.heap.size w w') : DS w0 w' B q R F n P := by
  obtain ⟨S, D, h1, h2, h3, h4, h5, h6, h7⟩ := h
  exact ⟨S, D, h1.below hb, h2, h3, h4.trans (hb.mono h5), Nat.le_trans h5 hb.size, h6.below (hb.mono h5), h7⟩
theorem DS.less {m : Nat} (h : DS w0 w B q R F n P) (hm : m ≤ n) : DS w0 w B q R F m P := by
  obtain ⟨S, D, h1, h2, h3, h4⟩ := h
  exact ⟨S, D, h1, h2.less hm, h3, h4⟩
theorem DS.imp {Q : Dk.St → Prop} (h : DS w0 w B q R F n P) (hq : ∀ S, P S → Q S) : DS w0 w B q R F n Q := by
  obtain ⟨S, D, h1, h2, h3, h4⟩ := h
  exact ⟨S, D, h1, h2, hq S h3, h4⟩
theorem DS.ev (h : DS w0 w B q R F n P) : EV w B ∧ B ≤ w.heap.size ∧ Below B w0 w := by
  obtain ⟨S, D, h1, h2, h3, h4, h5, h6, h7⟩ := h
  exact ⟨h6, h5, h4⟩
/-- Behind a call of the disk's own. -/
theorem ds_step {S' : Dk.St} {D D' : Nat → Prop} {F' : List Dk.Ent} {m : Nat} {Q : Dk.St → Prop} (h4 : Below B w0 w) (h5 : B ≤ w.heap.size) (h6 : EV w B) (h7 : ∀ k, D k → B ≤ k) (hd : Dk.DX w' q S' F' D') (hf : Dk.FrO D w w') (ho : ∀ k, D' k → D k ∨ w.heap.size ≤ k) (hS : OkS S' R m) (hq : Q S') : DS w0 w' B q R F' m Q := by
  have hb := fro_below hf h7 h5
  exact ⟨S', D', hd, hS, hq, h4.trans hb, Nat.le_trans h5 hf.size, h6.below hb, fun k hk => (ho k hk).elim (h7 k) (fun hh => Nat.le_trans h5 hh)⟩
theorem ds_new {room : Int} (hr : 0 ≤ room) (hE : ET w) (hT : ST w) : Calls Tryz.prog 8 #[.int .i64 room] w fun e w1 => e = .returned (.pointer (some ⟨w.heap.size, 0, none⟩)) ∧ DS w w1 w.heap.size w.heap.size room [] 9100 Hale := by
  refine (Dk.dx_new w room hr).mono ?_
  rintro e w1 ⟨rfl, hd, hb⟩
  have hE1 : EV w w.heap.size := ⟨hE, hT, hE.lt, hT.lt⟩
  exact ⟨rfl, _, _, hd, ⟨rfl, by show (0 : Int) ≤ 0; omega, by show (0 : Int) + ((9100 : Nat) : Int) ≤ 100000; omega, fun hh => by cases hh⟩, ⟨rfl, rfl⟩, hb, hb.size, hE1.below hb, fun k hk => Nat.le_of_eq hk.symm⟩
theorem app_ot {S : Dk.St} {m : Nat} (hS : OkS S R n) (hm : (m : Int) ≤ R) (hR : R ≤ 1000000) : Dk.appC S [] otN.data.toList m = 0 := by
  have h1 : Dk.anotherC [] otN.data.toList = 0 := rfl
  have h2 : Dk.look [] otN.data.toList = none := rfl
  unfold Dk.appC
  rw [h2]
  simp only [h1, if_true]
  rw [if_pos]
  unfold Dk.fitsB
  have h3 : Dk.usedL [] = 0 := rfl
  rw [h3, hS.1]
  simp only [Bool.and_eq_true, decide_eq_true_eq]
  constructor <;> omega
theorem ds_append {W : World} {v : Value} {lb : List UInt8} (h : DS w0 W B q R [] (n + 1) Hale) (hb : Below W.heap.size W w) (ho : ∀ D : Nat → Prop, (∀ k, D k → k < W.heap.size) → Dk.RBo w D v lb) (hm : (lb.length : Int) ≤ R) (hR : R ≤ 1000000) :
    Calls Tryz.prog 25 #[.pointer (some ⟨q, 0, none⟩), .string otN, v] w fun e w' => e = .returned .nilIface ∧ DS w0 w' B q R (FX (some (lb, 0)) none) n Hale := by
  obtain ⟨S, D, h1, h2, h3, h4, h5, h6, h7⟩ := h
  have hd := h1.below hb
  have hB := Nat.le_trans h5 hb.size
  have hE := h6.below (hb.mono h5)
  refine (Dk.dx_append otN v lb hd hE.et (by decide) (by rw [h2.1]; omega) h2.cnt h2.2.2.2 (ho D (fun k hk => h1.lt k hk))).mono ?_
  rw [app_ot h2 hm hR, begin_go h3.go]
  rintro e w' ⟨v', O', rfl, he, hd', hfr, ho'⟩
  obtain rfl := out_none he
  rw [if_pos rfl] at hd'
  have e1 : Dk.putE (Dk.fl otN.data.toList (Dk.oldData [] otN.data.toList ++ lb) (Dk.oldSure [] otN.data.toList)) [] = FX (some (lb, 0)) none := rfl
  rw [e1] at hd'
  exact ⟨rfl, ds_step (h4.trans (hb.mono h5)) hB hE h7 hd' hfr ho' (h2.nx h3.go) h3.nx⟩
theorem data_ot (a x : Fx) : Dk.oldData (FX a x) otN.data.toList = dB a := by unfold Dk.oldData; rw [look_ot]; cases a <;> rfl
theorem ds_sync {y : List UInt8 × Nat} (h : DS w0 w B q R (FX (some y) none) (n + 1) Hale) :
    Calls Tryz.prog 26 #[.pointer (some ⟨q, 0, none⟩), .string otN] w fun e w' => e = .returned .nilIface ∧ DS w0 w' B q R (FX (some (y.1, y.1.length)) none) n Hale := by
  obtain ⟨S, D, h1, h2, h3, h4, h5, h6, h7⟩ := h
  have ht : Dk.thereC (FX (some y) none) otN.data.toList = 0 := by unfold Dk.thereC; rw [look_ot]; rfl
  refine (Dk.dx_sync otN h1 h6.et (by decide) h2.cnt h2.2.2.2).mono ?_
  rw [ht, begin_go h3.go]
  rintro e w' ⟨v', rfl, he, hd, hfr⟩
  obtain rfl := out_none he
  rw [if_pos rfl, data_ot] at hd
  have e1 := repl_ot none (y.1, y.1.length) y
  unfold otE at e1
  simp only [dB] at hd
  rw [e1] at hd
  exact ⟨rfl, ds_step h4 h5 h6 h7 hd hfr (fun k hk => .inl hk) (h2.nx h3.go) h3.nx⟩
/-- Open, where there is no log. -/
theorem ds_open0 (h : DS w0 w B q R (FX a none) (n + 2) Hale) : Calls Tryz.prog 9 #[.pointer (some ⟨q, 0, none⟩)] w fun e w' => ∃ p, e = .returned (.tuple #[.pointer (some ⟨p, 0, none⟩), .nilIface]) ∧ KB w0 w' B p q R a [] 0 false sta0 n [] := by
  obtain ⟨S, D, h1, h2, h3, h4, h5, h6, h7⟩ := h
  refine (open_none h1 h5 h7 h6 h2 h3).mono fun e w' ho => ?_
  obtain ⟨p, O', rfl, q1, q2, q3⟩ := kopen (rs := []) (pr := false) h5 h6 h7 (fun _ => rfl) rfl (fun r hr => by cases hr) sta0_ok ho
  exact ⟨p, rfl, O', q1, h4.trans (fro_below q2 h7 h5), fun x hx => by cases hx⟩
theorem ds_halt {k : Int} (h : DS w0 w B q R F n On) (hk : 0 ≤ k ∧ k < 9223372036854775808) : Calls Tryz.prog 23 #[.pointer (some ⟨q, 0, none⟩), .int .i64 k] w fun e w' => e = .returned (.tuple #[]) ∧ DS w0 w' B q R F n On := by
  obtain ⟨S, D, h1, h2, h3, h4, h5, h6, h7⟩ := h
  refine (Dk.dx_halt k h1).mono ?_
  rintro e w' ⟨rfl, hd, hfr⟩
  exact ⟨rfl, ds_step h4 h5 h6 h7 hd hfr (fun k hk => .inl hk) ⟨h2.1, h2.2.1, h2.2.2.1, fun _ => hk⟩ h3⟩
theorem ds_crash {kv : Value} {ks : List Int} {y : List UInt8 × Nat} (h : DS w0 w B q R (FX a (some y)) n Any) (ha : ∀ y, a = some y → y.2 = y.1.length) (hy : y.2 = y.1.length) (hk : Dk.KeepAt w (fun k => B ≤ k) kv ks) (hkl : ks.length ≤ 1000000) :
    Calls Tryz.prog 13 #[.pointer (some ⟨q, 0, none⟩), .agg #[kv]] w fun e w' => e = .returned (.tuple #[]) ∧ DS w0 w' B q R (FX a (some y)) n Hale := by
  obtain ⟨S, D, h1, h2, h3, h4, h5, h6, h7⟩ := h
  refine (Dk.dx_crash kv ks h1 (keep_less hk h7) hkl (names_fx _ _)).mono ?_
  rintro e w' ⟨rfl, hd, hfr⟩
  obtain ⟨x', e1, e2⟩ := fall_fx ks a (some y) ha (fun y' hy' => by cases hy'; omega)
  rw [e1] at hd
  rcases e2 with ⟨hx, _⟩ | ⟨y', c, hx, q1, q2, rfl⟩
  · cases hx
  · cases hx
    obtain rfl : c = y.1.length := by omega
    rw [List.take_length, ← hy] at hd
    exact ⟨rfl, ds_step h4 h5 h6 h7 hd hfr (fun k hk => .inl hk) ⟨h2.1, h2.2.1, h2.2.2.1, fun hh => by cases hh⟩ ⟨rfl, rfl⟩⟩
/-- Open, where all of the log is whole and sure. -/
theorem ds_open (h : DS w0 w B q R (FX a (some (recsB rs, (recsB rs).length))) (n + 2) Hale) (hrs : ∀ r ∈ rs, r.ok) (hrun : runS sta0 rs = .ok s) (hs : s.ok) (hfew : rs.length ≤ 900000) (hlen : (recsB rs).length ≤ 1000000) :
    Calls Tryz.prog 9 #[.pointer (some ⟨q, 0, none⟩)] w fun e w' => ∃ p, e = .returned (.tuple #[.pointer (some ⟨p, 0, none⟩), .nilIface]) ∧ KB w0 w' B p q R a rs rs.length true s n [] := by
  obtain ⟨S, D, h1, h2, h3, h4, h5, h6, h7⟩ := h
  refine (open_whole h1 h5 h7 h6 h2 h3 hrs hrun hfew hlen).mono fun e w' ho => ?_
  have e1 : xF true rs rs.length = some (recsB rs, (recsB rs).length) := by unfold xF; rw [if_pos rfl, List.take_length]
  rw [← e1] at ho
  obtain ⟨p, O', rfl, q1, q2, q3⟩ := kopen (rs := rs) (pr := true) h5 h6 h7 (fun hh => by cases hh) hrun hrs hs ho
  exact ⟨p, rfl, O', q1, h4.trans (fro_below q2 h7 h5), fun x hx => by cases hx⟩
variable {L : List (Value × List GE)}
/-- The disk of a wal all of which is sure. -/
theorem kb_ds (h : KB w0 w B p q R a rs rs.length true s n L) : DS w0 w B q R (FX a (some (recsB rs, (recsB rs).length))) n Hale := by
  obtain ⟨O, ⟨v, D, S, h1, h2, h3, h4, h5, h6, h7, h8, h9, h10, h11⟩, hb, _⟩ := h
  have e1 : xF true rs rs.length = some (recsB rs, (recsB rs).length) := by unfold xF; rw [if_pos rfl, List.take_length]
  rw [e1] at h1
  exact ⟨S, D, h1.dx, h7, h8, hb, h9, h10, h1.bd⟩
/-- The other file is read. -/
theorem kb_read {y : List UInt8 × Nat} {ns : Nat} {pr : Bool} (h : KB w0 w B p q R (some y) rs ns pr s n L) : Calls Tryz.prog 27 #[.pointer (some ⟨q, 0, none⟩), .string otN] w fun e w' => ∃ v, e = .returned (.tuple #[v, .nilIface]) ∧ w'.ownsRow w.heap.size 5 1 v y.1.length (byteCells y.1) ∧ Below w.heap.size w w' := by
  obtain ⟨O, ⟨v, D, S, h1, h2, h3, h4, h5, h6, h7, h8, h9, h10, h11⟩, hb, _⟩ := h
  have hr : Dk.readC S (FX (some y) (xF pr rs ns)) otN.data.toList = 0 := by unfold Dk.readC; rw [if_neg (by simp [h8.1]), look_ot]; rfl
  refine (Dk.dx_read otN h1.dx h10.et (by decide)).mono ?_
  rw [hr, data_ot]
  rintro e w' ⟨hbl, ⟨h0, _⟩ | ⟨_, _, v', rfl, hv⟩⟩
  · exact absurd rfl h0
  · exact ⟨v', rfl, hv, hbl⟩
end
end Go.Proofs.YthphadbcebeoaaaGreatDoor
/- A wal: Open, where the disk may be cut off. -/
namespace Go.Proofs.YthphadbcebeoaaaGreatDoor
open Go.RowKit Go.Lib Go.Maps

/-- Open told a wal: the disk behind it. -/
def OnP (w : World) (q : Nat) (S : Dk.St) (F : List Dk.Ent) (D : Nat → Prop) (e : Ending) (w' : World) : Prop :=
  ∃ p D', e = .returned (.tuple #[.pointer (some ⟨p, 0, none⟩), .nilIface]) ∧ Dk.DX w' q (nx S) F D' ∧ Dk.FrO D w w' ∧ ∀ k, D' k → D k ∨ w.heap.size ≤ k
/-- Open was cut off. -/
def OffP (w : World) (q : Nat) (S : Dk.St) (F : List Dk.Ent) (D : Nat → Prop) (e : Ending) (w' : World) : Prop :=
  ∃ b D', e = .returned (.tuple #[.pointer none, Dk.evW b]) ∧ Dk.DX w' q (dn S) F D' ∧ Dk.FrO D w w' ∧ ∀ k, D' k → D k ∨ w.heap.size ≤ k
section
variable {w : World} {B p q sz n : Nat} {S : Dk.St} {R : Int} {a x : Fx} {s s' : Sta} {v : Value} {D : Nat → Prop} {rs : List Rc} {su : Nat}
set_option maxHeartbeats 3200000 in
set_option maxRecDepth 100000 in
theorem wsync_cut (y : List UInt8 × Nat) (h : WX w B p q S (FX a (some y)) s v sz D) (hB : B ≤ w.heap.size) (hE : EV w B) (hS : OkS S R n) (hf : Fails S) :
    Calls Tryz.prog 12 #[.pointer (some ⟨p, 0, none⟩)] w fun e w' => WCut w B p q (dn S) (FX a (some y)) s sz v D (PD p D) 32 e w' := by
  have HM := hide (home_any h)
  have HA : Hid (Calls Tryz.prog 26 #[.pointer (some ⟨q, 0, none⟩), .string waN] w fun e w1 => ∃ b, e = .returned (Dk.evW b) ∧ Hid (Dk.ErrW w1 b 32) ∧ Hid (WCut w B p q (dn S) (FX a (some y)) s sz v D (PD p D) 32 (.returned (Dk.evW b)) w1)) := by
    refine (sync_cut y h.dx hE.et hS hf).mono ?_
    rintro e w1 ⟨b, D', rfl, h1, h2, hd, hfr, ho⟩
    exact ⟨b, rfl, h1, b, D', rfl, h1, h2, h.disk hB hd hfr ho, fro_wide hfr (fun k hk => .inr hk), ho⟩
  clear h hE hS hf hB
  unfold waN at HA
  go_enter Tryz.func12, Tryz.ntmps12
  go_wp2_with (first
    | (go_at_call 34; refine (unhide HM).mono ?_; rintro e w1 ⟨rfl, rfl⟩; clear HM)
    | (go_at_call 26; refine (unhide HA).mono ?_; rintro e w1 ⟨b, rfl, he, HW⟩; have HI := hide (Dk.is_placed b 32 30 w1 (unhide he)); clear HA he)
    | (go_at_call 29; refine (unhide HI).mono ?_; rintro e w2 ⟨rfl, rfl⟩))
  go_ret
  exact unhide HW
set_option maxHeartbeats 12800000 in
set_option maxRecDepth 100000 in
theorem open_on (hd : Dk.DX w q S (FX a (some (recsB rs ++ [], su))) D) (hB : B ≤ w.heap.size) (hbd : ∀ k, D k → B ≤ k) (hE : EV w B) (hS : OkS S R n) (hoff : S.off = false) (hf : ¬ Fails S) (hrs : ∀ r ∈ rs, r.ok) (hrun : runS sta0 rs = .ok s') (hfew : rs.length ≤ 900000) (hlen : (recsB rs ++ []).length ≤ 1000000) :
    Calls Tryz.prog 9 #[.pointer (some ⟨q, 0, none⟩)] w fun e w' => OnP w q S (FX a (some (recsB rs, (recsB rs).length))) D e w' := by
  have hov : ∀ (w1 : World) (vb : Value), w1.ownsRow w.heap.size 5 1 vb (Dk.oldData (FX a (some (recsB rs ++ [], su))) waN.data.toList).length (byteCells (Dk.oldData (FX a (some (recsB rs ++ [], su))) waN.data.toList)) → RBp w1 w1.heap.size vb (recsB rs ++ []) := fun w1 vb ho => by
    rw [data_wa] at ho
    exact rb_own ho (by show (recsB rs ++ []).length ≤ 1000000000000; omega)
  have HR : Hid (Calls Tryz.prog 27 #[.pointer (some ⟨q, 0, none⟩), .string waN] w fun e w1 => ∃ ad cap, e = .returned (.tuple #[.slice ad (recsB rs ++ []).length cap, .nilIface]) ∧ Hid (Calls Tryz.prog 31 #[.pointer (some ⟨w1.heap.size, 1, none⟩), .slice ad (recsB rs ++ []).length cap] (w1.alloc (.cells (wC q sta0 (.slice none 0 0) (recsB rs ++ []).length) 79)) fun e w2 => e = .returned .nilIface ∧ Hid (Calls Tryz.prog 30 #[.pointer (some ⟨w1.heap.size, 0, none⟩), .nilIface] w2 fun e w3 => e = .returned .nilIface ∧ Hid (Calls Tryz.prog 12 #[.pointer (some ⟨w1.heap.size, 0, none⟩)] w3 fun e w' => e = .returned .nilIface ∧ Hid (OnP w q S (FX a (some (recsB rs, (recsB rs).length))) D (.returned (.tuple #[.pointer (some ⟨w1.heap.size, 0, none⟩), .nilIface])) w'))))) := by
    refine (Dk.dx_read waN hd hE.et (by decide)).mono ?_
    rw [read_wa a _ hoff]
    rintro e w1 ⟨hb, ⟨h0, _⟩ | ⟨_, _, vb, rfl, hvo⟩⟩
    · exact absurd rfl h0
    have hB1 := Nat.le_trans hB hb.size
    have hE1 := hE.below (hb.mono hB)
    have hd1 := hd.below hb
    obtain ⟨ad, cap, hvb, hri⟩ := ri_new (rs := rs) (t := []) (s' := s') hd1 hB1 hE1 hrs hrun hfew hlen (.inl rfl) (hov w1 vb hvo)
    subst hvb
    refine ⟨ad, cap, rfl, (replay_any hri).mono ?_⟩
    rintro e w2 ⟨hst, ⟨_, rfl⟩ | ⟨hw, _⟩⟩
    rotate_left
    · simp at hw
    obtain ⟨v2, hw2, hv2, hb2⟩ := rep_wx hd1 hB1 hbd hst
    refine ⟨rfl, (mend_nil hw2).mono ?_⟩
    rintro e w3 ⟨rfl, hb3⟩
    have hfr : Dk.FrO D w w3 := Dk.FrO.of_below (below_trans0 (below_trans0 hb hb2) hb3)
    have hw3 := hw2.below hb3
    rw [List.append_nil] at hw3
    refine ⟨rfl, (wsync_go _ hw3 (Nat.le_trans hB hfr.size) (hE.below (fro_below hfr hbd hB)) hS hf).mono ?_⟩
    rintro e w' ⟨v', D', rfl, q1, q2, q3, q4⟩
    exact ⟨rfl, _, D', rfl, q1.dx, hfr.trans q2 (fun k hk hpd => hpd.elim (fun h => by have := hb.size; omega) id), fun k hk => (q4 k hk).imp id (fun h' => Nat.le_trans hfr.size h')⟩
  have hNl : ((recsB rs ++ []).length : Int) ≤ 1000000 := by omega
  clear hd hB hbd hE hS hoff hf hrs hrun hfew hov hlen
  generalize (recsB rs ++ []).length = NN at *
  unfold waN at HR
  unfold wC sta0 at *
  dsimp only at *
  go_enter Tryz.func9, Tryz.ntmps9
  go_wp2_with (first
    | (go_at_call 27; refine (unhide HR).mono ?_; rintro e w1 ⟨ad, cap, rfl, HP⟩; clear HR)
    | (go_at_call 31; refine (unhide HP).mono ?_; rintro e w2 ⟨rfl, HM⟩; clear HP)
    | (go_at_call 30; refine (unhide HM).mono ?_; rintro e w3 ⟨rfl, HY⟩; clear HM)
    | (go_at_call 12; refine (unhide HY).mono ?_; rintro e w5 ⟨rfl, H5⟩; clear HY))
  go_ret2
  exact unhide H5
set_option maxHeartbeats 12800000 in
set_option maxRecDepth 100000 in
theorem open_cut (hd : Dk.DX w q S (FX a (some (recsB rs ++ [], su))) D) (hB : B ≤ w.heap.size) (hbd : ∀ k, D k → B ≤ k) (hE : EV w B) (hS : OkS S R n) (hoff : S.off = false) (hf : Fails S) (hrs : ∀ r ∈ rs, r.ok) (hrun : runS sta0 rs = .ok s') (hfew : rs.length ≤ 900000) (hlen : (recsB rs ++ []).length ≤ 1000000) :
    Calls Tryz.prog 9 #[.pointer (some ⟨q, 0, none⟩)] w fun e w' => OffP w q S (FX a (some (recsB rs, su))) D e w' := by
  have hov : ∀ (w1 : World) (vb : Value), w1.ownsRow w.heap.size 5 1 vb (Dk.oldData (FX a (some (recsB rs ++ [], su))) waN.data.toList).length (byteCells (Dk.oldData (FX a (some (recsB rs ++ [], su))) waN.data.toList)) → RBp w1 w1.heap.size vb (recsB rs ++ []) := fun w1 vb ho => by
    rw [data_wa] at ho
    exact rb_own ho (by show (recsB rs ++ []).length ≤ 1000000000000; omega)
  have HR : Hid (Calls Tryz.prog 27 #[.pointer (some ⟨q, 0, none⟩), .string waN] w fun e w1 => ∃ ad cap, e = .returned (.tuple #[.slice ad (recsB rs ++ []).length cap, .nilIface]) ∧ Hid (Calls Tryz.prog 31 #[.pointer (some ⟨w1.heap.size, 1, none⟩), .slice ad (recsB rs ++ []).length cap] (w1.alloc (.cells (wC q sta0 (.slice none 0 0) (recsB rs ++ []).length) 79)) fun e w2 => e = .returned .nilIface ∧ Hid (Calls Tryz.prog 30 #[.pointer (some ⟨w1.heap.size, 0, none⟩), .nilIface] w2 fun e w3 => e = .returned .nilIface ∧ Hid (Calls Tryz.prog 12 #[.pointer (some ⟨w1.heap.size, 0, none⟩)] w3 fun e w' => ∃ b, e = .returned (Dk.evW b) ∧ Hid (OffP w q S (FX a (some (recsB rs, su))) D (.returned (.tuple #[.pointer none, Dk.evW b])) w'))))) := by
    refine (Dk.dx_read waN hd hE.et (by decide)).mono ?_
    rw [read_wa a _ hoff]
    rintro e w1 ⟨hb, ⟨h0, _⟩ | ⟨_, _, vb, rfl, hvo⟩⟩
    · exact absurd rfl h0
    have hB1 := Nat.le_trans hB hb.size
    have hE1 := hE.below (hb.mono hB)
    have hd1 := hd.below hb
    obtain ⟨ad, cap, hvb, hri⟩ := ri_new (rs := rs) (t := []) (s' := s') hd1 hB1 hE1 hrs hrun hfew hlen (.inl rfl) (hov w1 vb hvo)
    subst hvb
    refine ⟨ad, cap, rfl, (replay_any hri).mono ?_⟩
    rintro e w2 ⟨hst, ⟨_, rfl⟩ | ⟨hw, _⟩⟩
    rotate_left
    · simp at hw
    obtain ⟨v2, hw2, hv2, hb2⟩ := rep_wx hd1 hB1 hbd hst
    refine ⟨rfl, (mend_nil hw2).mono ?_⟩
    rintro e w3 ⟨rfl, hb3⟩
    have hfr : Dk.FrO D w w3 := Dk.FrO.of_below (below_trans0 (below_trans0 hb hb2) hb3)
    have hw3 := hw2.below hb3
    rw [List.append_nil] at hw3
    refine ⟨rfl, (wsync_cut _ hw3 (Nat.le_trans hB hfr.size) (hE.below (fro_below hfr hbd hB)) hS hf).mono ?_⟩
    rintro e w' ⟨b, D', rfl, _, _, q1, q2, q4⟩
    exact ⟨b, rfl, b, D', rfl, q1.dx, hfr.trans q2 (fun k hk hpd => hpd.elim (fun h => by have := hb.size; omega) id), fun k hk => (q4 k hk).imp id (fun h' => Nat.le_trans hfr.size h')⟩
  have hNl : ((recsB rs ++ []).length : Int) ≤ 1000000 := by omega
  clear hd hB hbd hE hS hoff hf hrs hrun hfew hov hlen
  generalize (recsB rs ++ []).length = NN at *
  unfold waN at HR
  unfold wC sta0 at *
  dsimp only at *
  go_enter Tryz.func9, Tryz.ntmps9
  go_wp2_with (first
    | (go_at_call 27; refine (unhide HR).mono ?_; rintro e w1 ⟨ad, cap, rfl, HP⟩; clear HR)
    | (go_at_call 31; refine (unhide HP).mono ?_; rintro e w2 ⟨rfl, HM⟩; clear HP)
    | (go_at_call 30; refine (unhide HM).mono ?_; rintro e w3 ⟨rfl, HY⟩; clear HM)
    | (go_at_call 12; refine (unhide HY).mono ?_; rintro e w5 ⟨b5, rfl, H5⟩; clear HY))
  go_ret2
  exact unhide H5
end
section
variable {w0 w : World} {B q n : Nat} {R : Int} {a : Fx} {rs : List Rc} {s : Sta}
/-- Whether it is cut off or not: the disk's files stay. -/
theorem ds_open_any (h : DS w0 w B q R (FX a (some (recsB rs, (recsB rs).length))) (n + 1) On) (hrs : ∀ r ∈ rs, r.ok) (hrun : runS sta0 rs = .ok s) (hfew : rs.length ≤ 900000) (hlen : (recsB rs).length ≤ 1000000) :
    Calls Tryz.prog 9 #[.pointer (some ⟨q, 0, none⟩)] w fun e w' => ∃ u v, e = .returned (.tuple #[u, v]) ∧ DS w0 w' B q R (FX a (some (recsB rs, (recsB rs).length))) n Any := by
  obtain ⟨S, D, h1, h2, h3, h4, h5, h6, h7⟩ := h
  have h1' : Dk.DX w q S (FX a (some (recsB rs ++ [], (recsB rs).length))) D := by rw [List.append_nil]; exact h1
  have hl' : (recsB rs ++ []).length ≤ 1000000 := by rw [List.append_nil]; exact hlen
  by_cases hf : Fails S
  · refine (open_cut h1' h5 h7 h6 h2 h3 hf hrs hrun hfew hl').mono ?_
    rintro e w' ⟨b, D', rfl, hd, hfr, ho⟩
    exact ⟨_, _, rfl, ds_step h4 h5 h6 h7 hd hfr ho (h2.dn (by omega)) trivial⟩
  · refine (open_on h1' h5 h7 h6 h2 h3 hf hrs hrun hfew hl').mono ?_
    rintro e w' ⟨b, D', rfl, hd, hfr, ho⟩
    exact ⟨_, _, rfl, ds_step h4 h5 h6 h7 hd hfr ho (h2.nx hf) trivial⟩
end
end Go.Proofs.YthphadbcebeoaaaGreatDoor
