/- SnapPlays: Save's contract on the statement's disk. -/
import Derived.Test.YtpminalccnhkjaaGreatDoorSXSave
namespace Go.Proofs.YtpminalccnhkjaaGreatDoor
open Go.RowKit Go.Lib

theorem svp_of {w W w3 w4 : World} {p n : Nat} {S' : Dk.St} {o : Option Sn} {g : Option (List UInt8 × Nat)} {O O1 : Nat → Prop} (hb : Below w.heap.size w W) (f1 : Dk.FrO O W w3) (o1 : ∀ k, O1 k → O k ∨ W.heap.size ≤ k) (hg : gOk g) (hS : Okk S' n) (h : GoP w3 p S' (FS o g) O1 w4) : SvP w p n o O w4 := by
  obtain ⟨O', d, f, o'⟩ := h
  have f2 := tr2 f1 o1 f
  have o2 := to2 f1.size o1 o'
  exact ⟨S', g, O', hg, hS, d, (Dk.FrO.of_below hb).trans f2 (fun k _ hk => hk), fun k hk => (o2 k hk).elim .inl (fun hx => .inr (Nat.le_trans hb.size hx))⟩
theorem bad_of {w W w3 w4 : World} {p n b : Nat} {o : Option Sn} {O O1 : Nat → Prop} (hb : Below w.heap.size w W) (f1 : Dk.FrO O W w3) (o1 : ∀ k, O1 k → O k ∨ W.heap.size ≤ k) (h : BadP w3 p n o O1 b w4) : BadP w p n o O b w4 := by
  obtain ⟨S', g', O', h1, h2, h3, h4, d, f, o'⟩ := h
  have f2 := tr2 f1 o1 f
  have o2 := to2 f1.size o1 o'
  exact ⟨S', g', O', h1, Nat.le_trans (Nat.le_trans hb.size f1.size) h2, h3, h4, d, (Dk.FrO.of_below hb).trans f2 (fun k _ hk => hk), fun k hk => (o2 k hk).elim .inl (fun hx => .inr (Nat.le_trans hb.size hx))⟩
theorem sn_parts {i t : Nat} {l : List UInt8} (h : SnOk (i, t, l)) : i < 18446744073709551616 ∧ t < 18446744073709551616 ∧ l.length ≤ 1500 := by
  unfold SnOk at h
  exact h
/-- RBo through a change. -/
theorem rbo_re {w w' : World} {O O' : Nat → Prop} {v : Value} {l : List UInt8} (h : Dk.RBo w O v l) (hf : Dk.FrO O w w') (ho : ∀ k, O' k → O k ∨ w.heap.size ≤ k) : Dk.RBo w' O' v l := by
  obtain ⟨h1, h2 | ⟨b, off, cap, hb, hn, h3, h4, rfl, hc⟩⟩ := h
  · exact ⟨h1, .inl h2⟩
  · exact ⟨h1, .inr ⟨b, off, cap, Nat.lt_of_lt_of_le hb hf.size, fun hh => (ho b hh).elim hn (fun hx => absurd hb (Nat.not_lt.2 hx)), h3, h4, rfl, fun i hi => (Dk.cell_same (hf.blk b hb hn) _).trans (hc i hi)⟩⟩
variable {w : World} {p n : Nat} {S : Dk.St} {O : Nat → Prop} {o : Option Sn} {g : Option (List UInt8 × Nat)}
/-- Sweep: the newer file goes, or it is cut off. -/
def SwCut (S : Dk.St) (g : Option (List UInt8 × Nat)) : Prop := g ≠ none ∧ Fails S
/-- The disk's numbers behind it. -/
def swS (S : Dk.St) (g : Option (List UInt8 × Nat)) : Dk.St := match g with | none => S | some _ => nx S
theorem sweep_any_go (h : Dk.DX w p S (FS o g) O) (hE : Dk.ET w) (hS : Okk S (n + 1)) (hg : gOk g) (q : ¬ SwCut S g) :
    Calls Tryz.prog 31 #[.pointer (some ⟨p, 0, none⟩), .bool o.isSome] w fun e w' => e = .returned .nilIface ∧ GoP w p (swS S g) (FS o none) O w' := by
  cases g with
  | none =>
    refine (sweep_keep o.isSome h (keep_fs o) (fs_names o none)).mono ?_
    rintro e w' ⟨rfl, hb⟩
    exact ⟨rfl, O, h.below hb, Dk.FrO.of_below hb, fun k hk => .inl hk⟩
  | some x =>
    have q' : ¬ Fails S := fun hh => q ⟨by simp, hh⟩
    cases o with
    | none => exact sweep_none_go x h hE hS hg q'
    | some s => exact sweep_some_go x h hE hS hg q'
theorem sweep_any_cut (h : Dk.DX w p S (FS o g) O) (hE : Dk.ET w) (hS : Okk S (n + 1)) (hg : gOk g) (q : SwCut S g) :
    Calls Tryz.prog 31 #[.pointer (some ⟨p, 0, none⟩), .bool o.isSome] w fun e w' => ∃ b, e = .returned (Dk.evW b) ∧ BadP w p n o O b w' := by
  cases g with
  | none => exact absurd rfl q.1
  | some x =>
    cases o with
    | none => exact sweep_none_cut x h hE hS hg q.2
    | some s => exact sweep_some_cut x h hE hS hg q.2
theorem swS_okk (hS : Okk S (n + 1)) (q : ¬ SwCut S g) : Okk (swS S g) n := by
  cases g with
  | none => exact hS.less (by omega)
  | some x => exact hS.nx fun hh => q ⟨by simp, hh⟩
/-- Where replace is cut off. -/
def RpCut (S : Dk.St) : Prop := Fails S ∨ Fails (nx S) ∨ Fails (nx (nx S))
/-- Where Save is cut off. -/
def SaveBad (S : Dk.St) (o : Option Sn) (g : Option (List UInt8 × Nat)) (i : Nat) : Prop :=
  (∃ x, o = some x ∧ i < x.1 ∧ Fails S) ∨ ((∀ x, o = some x → ¬ i < x.1) ∧ (SwCut S g ∨ RpCut (swS S g)))
theorem load_th (h : Dk.DX w p S (FS o g) O) (hE : ET w) (hT : ST w) (hf : S.off = false) (ho : oOk o) (i : Nat) :
    (∀ x, o = some x → i < x.1 → Hid (∀ W, Below w.heap.size w W → Calls Tryz.prog 12 #[.pointer (some ⟨p, 0, none⟩)] W fun e w' => ∃ (i0 t0 : Nat) (da : Option Addr) (n0 dk : Nat), e = .returned (.tuple #[.agg #[.int .u64 (i0 : Int), .int .u64 (t0 : Int), .slice da n0 dk], .bool true, .nilIface]) ∧ i < i0 ∧ Below W.heap.size W w')) ∧
    (∀ x, o = some x → ¬ i < x.1 → Hid (∀ W, Below w.heap.size w W → Calls Tryz.prog 12 #[.pointer (some ⟨p, 0, none⟩)] W fun e w' => ∃ (i0 t0 : Nat) (da : Option Addr) (n0 dk : Nat), e = .returned (.tuple #[.agg #[.int .u64 (i0 : Int), .int .u64 (t0 : Int), .slice da n0 dk], .bool true, .nilIface]) ∧ ¬ i < i0 ∧ Below W.heap.size W w')) ∧
    (o = none → Hid (∀ W, Below w.heap.size w W → Calls Tryz.prog 12 #[.pointer (some ⟨p, 0, none⟩)] W fun e w' => ∃ (i0 t0 : Nat) (da : Option Addr) (n0 dk : Nat), e = .returned (.tuple #[.agg #[.int .u64 (i0 : Int), .int .u64 (t0 : Int), .slice da n0 dk], .bool false, .nilIface]) ∧ True ∧ Below W.heap.size W w')) := by
  refine ⟨?_, ?_, ?_⟩
  · rintro x rfl hx W hb
    refine (load_fs (h.below hb) (hE.below hb hE.lt) (hT.below hb hT.lt) hf ho).mono ?_
    rintro e w' ⟨da, m, dk, ⟨rfl, _⟩, hb'⟩
    exact ⟨_, _, da, m, dk, rfl, hx, hb'⟩
  · rintro x rfl hx W hb
    refine (load_fs (h.below hb) (hE.below hb hE.lt) (hT.below hb hT.lt) hf ho).mono ?_
    rintro e w' ⟨da, m, dk, ⟨rfl, _⟩, hb'⟩
    exact ⟨_, _, da, m, dk, rfl, hx, hb'⟩
  · rintro rfl W hb
    refine (load_fs (h.below hb) (hE.below hb hE.lt) (hT.below hb hT.lt) hf ho).mono ?_
    rintro e w' ⟨da, m, dk, ⟨rfl, _⟩, hb'⟩
    exact ⟨0, 0, da, m, dk, rfl, trivial, hb'⟩
section
variable {i t : Nat} {l : List UInt8} {v : Value}
/-- What sweep and replace do, one behind the other. -/
theorem sr_go (h : Dk.DX w p S (FS o g) O) (hE : ET w) (hEO : ¬ O 0) (hS : Okk S (n + 4)) (ho : oOk o) (hg : gOk g) (hs : SnOk (i, t, l)) (q : ¬ SwCut S g) (r : ¬ RpCut (swS S g)) :
    Hid (∀ W v1, Below w.heap.size w W → W.ownsRow (w.heap.size + 1) 5 1 v1 (frameBytes (snB i t l)).length (byteCells (frameBytes (snB i t l))) → Calls Tryz.prog 31 #[.pointer (some ⟨p, 0, none⟩), .bool o.isSome] W fun e w3 => e = .returned .nilIface ∧
      Hid (Calls Tryz.prog 32 #[.pointer (some ⟨p, 0, none⟩), v1] w3 fun e w4 => ∃ rv, e = .returned rv ∧ Hid (rv = .nilIface ∧ SvP w p n (some (i, t, l)) O w4))) := by
  intro W v1 hb hown
  have hE1 : Dk.ET W := hE.below hb hE.lt
  refine (sweep_any_go (n := n + 3) (h.below hb) hE1 hS hg q).mono ?_
  rintro e w3 ⟨rfl, O1, d1, f1, o1⟩
  have hl := fbS_len hs
  have hr : Dk.RBo W O v1 (fbS (i, t, l)) := rbo_own hown (fun k hk => Nat.lt_succ_of_lt (h.lt k hk)) (Nat.le_trans hl (by decide))
  refine ⟨rfl, (rep_go (n := n) v1 (i, t, l) hs d1 (hE1.fr f1 hEO) (ne2 hE1 hEO o1) (swS_okk (n := n + 3) hS q) ho (rbo_re hr f1 o1) (fun hh => r (.inl hh)) (fun hh => r (.inr (.inl hh))) (fun hh => r (.inr (.inr hh)))).mono ?_⟩
  rintro e w4 ⟨rfl, hgo⟩
  have hk3 := ((swS_okk (n := n + 3) hS q).nx (n := n + 2) (fun hh => r (.inl hh))).nx (n := n + 1) (fun hh => r (.inr (.inl hh)))
  exact ⟨_, rfl, rfl, svp_of hb f1 o1 gok_none (hk3.nx (n := n) (fun hh => r (.inr (.inr hh)))) hgo⟩
theorem sr_cut (h : Dk.DX w p S (FS o g) O) (hE : ET w) (hEO : ¬ O 0) (hS : Okk S (n + 4)) (ho : oOk o) (hg : gOk g) (hs : SnOk (i, t, l)) (q : ¬ SwCut S g) (r : RpCut (swS S g)) :
    Hid (∀ W v1, Below w.heap.size w W → W.ownsRow (w.heap.size + 1) 5 1 v1 (frameBytes (snB i t l)).length (byteCells (frameBytes (snB i t l))) → Calls Tryz.prog 31 #[.pointer (some ⟨p, 0, none⟩), .bool o.isSome] W fun e w3 => e = .returned .nilIface ∧
      Hid (Calls Tryz.prog 32 #[.pointer (some ⟨p, 0, none⟩), v1] w3 fun e w4 => ∃ rv, e = .returned rv ∧ Hid (∃ b, rv = Dk.evW b ∧ BadP w p n o O b w4))) := by
  intro W v1 hb hown
  have hE1 : Dk.ET W := hE.below hb hE.lt
  refine (sweep_any_go (n := n + 3) (h.below hb) hE1 hS hg q).mono ?_
  rintro e w3 ⟨rfl, O1, d1, f1, o1⟩
  have hl := fbS_len hs
  have hr : Dk.RBo W O v1 (fbS (i, t, l)) := rbo_own hown (fun k hk => Nat.lt_succ_of_lt (h.lt k hk)) (Nat.le_trans hl (by decide))
  refine ⟨rfl, (rep_cut (n := n) v1 (i, t, l) hs d1 (hE1.fr f1 hEO) (ne2 hE1 hEO o1) (swS_okk (n := n + 3) hS q) ho (rbo_re hr f1 o1) r).mono ?_⟩
  rintro e w4 ⟨b, rfl, hbad⟩
  exact ⟨_, rfl, b, rfl, bad_of hb f1 o1 hbad⟩
theorem sw_cut (h : Dk.DX w p S (FS o g) O) (hE : ET w) (hS : Okk S (n + 4)) (hg : gOk g) (q : SwCut S g) :
    Hid (∀ W, Below w.heap.size w W → Calls Tryz.prog 31 #[.pointer (some ⟨p, 0, none⟩), .bool o.isSome] W fun e w3 => ∃ b, e = .returned (Dk.evW b) ∧ Hid (∃ b', Dk.evW b = Dk.evW b' ∧ BadP w p n o O b' w3)) := by
  intro W hb
  refine (sweep_any_cut (n := n) (h.below hb) (hE.below hb hE.lt) (hS.less (by omega)) hg q).mono ?_
  rintro e w3 ⟨b, rfl, hbad⟩
  exact ⟨b, rfl, b, rfl, bad_below hb hbad⟩
/-- Save that is done. -/
theorem save_done (h : Dk.DX w p S (FS o g) O) (hE : ET w) (hT : ST w) (hEO : ¬ O 0) (hS : Okk S (n + 4)) (hf : S.off = false) (ho : oOk o) (hg : gOk g) (hs : SnOk (i, t, l)) (hv : RBp w w.heap.size v l) (q : ¬ SaveBad S o g i) :
    Calls Tryz.prog 10 #[.pointer (some ⟨p, 0, none⟩), .agg #[.int .u64 (i : Int), .int .u64 (t : Int), v]] w fun e w' => e = .returned .nilIface ∧ SvP w p n (savedO o (i, t, l)) O w' := by
  obtain ⟨hs1, hs2, hs3⟩ := sn_parts hs
  have hl : l.length ≤ 262080 := by omega
  have L := load_th h hE hT hf ho i
  have fin : ∀ {o' : Option Sn} {e : Ending} {w' : World}, (∃ rv, e = .returned rv ∧ (rv = .nilIface ∧ SvP w p n o' O w')) → e = .returned .nilIface ∧ SvP w p n o' O w' := fun hh => by
    obtain ⟨rv, rfl, rfl, h⟩ := hh
    exact ⟨rfl, h⟩
  cases o with
  | none =>
    have q1 : ¬ SwCut S g := fun hh => q (.inr ⟨(fun x hx => by cases hx), .inl hh⟩)
    have q2 : ¬ RpCut (swS S g) := fun hh => q (.inr ⟨(fun x hx => by cases hx), .inr hh⟩)
    have R := sr_go (n := n) h hE hEO hS ho hg hs q1 q2
    exact (save_on_false v l hT hv hl hs1 hs2 (fun rv w' => rv = .nilIface ∧ SvP w p n (some (i, t, l)) O w') (L.2.2 rfl) R).mono fun e w' hh => fin hh
  | some x =>
    by_cases hx : i < x.1
    · have e1 : savedO (some x) (i, t, l) = some x := if_pos hx
      rw [e1]
      have q1 : ¬ Fails S := fun hh => q (.inl ⟨x, rfl, hx, hh⟩)
      refine (save_old v l hT hv hl hs1 hs2 (fun rv w' => rv = .nilIface ∧ SvP w p n (some x) O w') (L.1 x rfl hx) ?_).mono fun e w' hh => fin hh
      intro W hb
      refine (old_go x (h.below hb) (hE.below hb hE.lt) hS q1).mono ?_
      rintro e w3 ⟨O3, rfl, d, f, o3⟩
      exact ⟨_, rfl, rfl, svp_of (O1 := O) hb (Dk.FrO.of_below (Below.refl _ _)) (fun k hk => .inl hk) hg ((hS.less (m := n + 1) (by omega)).nx q1) ⟨O3, d, f, o3⟩⟩
    · have e1 : savedO (some x) (i, t, l) = some (i, t, l) := if_neg hx
      rw [e1]
      have hc : ∀ y, some x = some y → ¬ i < y.1 := fun y hy => by injection hy with hy; subst hy; exact hx
      have q1 : ¬ SwCut S g := fun hh => q (.inr ⟨hc, .inl hh⟩)
      have q2 : ¬ RpCut (swS S g) := fun hh => q (.inr ⟨hc, .inr hh⟩)
      have R := sr_go (n := n) h hE hEO hS ho hg hs q1 q2
      exact (save_on_true v l hT hv hl hs1 hs2 (fun rv w' => rv = .nilIface ∧ SvP w p n (some (i, t, l)) O w') (L.2.1 x rfl hx) R).mono fun e w' hh => fin hh
/-- Save that is cut off. -/
theorem save_bad (h : Dk.DX w p S (FS o g) O) (hE : ET w) (hT : ST w) (hEO : ¬ O 0) (hS : Okk S (n + 4)) (hf : S.off = false) (ho : oOk o) (hg : gOk g) (hs : SnOk (i, t, l)) (hv : RBp w w.heap.size v l) (q : SaveBad S o g i) :
    Calls Tryz.prog 10 #[.pointer (some ⟨p, 0, none⟩), .agg #[.int .u64 (i : Int), .int .u64 (t : Int), v]] w fun e w' => ∃ b, e = .returned (Dk.evW b) ∧ BadP w p n o O b w' := by
  obtain ⟨hs1, hs2, hs3⟩ := sn_parts hs
  have hl : l.length ≤ 262080 := by omega
  have L := load_th h hE hT hf ho i
  have fin : ∀ {o' : Option Sn} {e : Ending} {w' : World}, (∃ rv, e = .returned rv ∧ (∃ b, rv = Dk.evW b ∧ BadP w p n o' O b w')) → ∃ b, e = .returned (Dk.evW b) ∧ BadP w p n o' O b w' := fun hh => by
    obtain ⟨rv, rfl, b, rfl, h⟩ := hh
    exact ⟨b, rfl, h⟩
  cases o with
  | none =>
    have q' : SwCut S g ∨ RpCut (swS S g) := by
      rcases q with ⟨x, hx, _⟩ | ⟨_, q⟩
      · cases hx
      · exact q
    by_cases q1 : SwCut S g
    · have R := sw_cut (n := n) h hE hS hg q1
      exact (save_cut_false v l hT hv hl hs1 hs2 (fun rv w' => ∃ b, rv = Dk.evW b ∧ BadP w p n none O b w') (L.2.2 rfl) R).mono fun e w' hh => fin hh
    · have R := sr_cut (n := n) h hE hEO hS ho hg hs q1 (q'.resolve_left q1)
      exact (save_on_false v l hT hv hl hs1 hs2 (fun rv w' => ∃ b, rv = Dk.evW b ∧ BadP w p n none O b w') (L.2.2 rfl) R).mono fun e w' hh => fin hh
  | some x =>
    by_cases hx : i < x.1
    · have q1 : Fails S := by
        rcases q with ⟨y, hy, _, hh⟩ | ⟨hc, _⟩
        · exact hh
        · exact absurd hx (hc x rfl)
      refine (save_old v l hT hv hl hs1 hs2 (fun rv w' => ∃ b, rv = Dk.evW b ∧ BadP w p n (some x) O b w') (L.1 x rfl hx) ?_).mono fun e w' hh => fin hh
      intro W hb
      refine (old_cut x (h.below hb) (hE.below hb hE.lt) hS q1).mono ?_
      rintro e w3 ⟨b, O3, rfl, e1, e2, d, f, o3⟩
      exact ⟨_, rfl, b, rfl, bad_below hb ⟨_, g, O3, e1, e2, hg, hS.dn (by omega), d, f, o3⟩⟩
    · have q' : SwCut S g ∨ RpCut (swS S g) := by
        rcases q with ⟨y, hy, hh, _⟩ | ⟨_, q⟩
        · injection hy with hy; subst hy; exact absurd hh hx
        · exact q
      by_cases q1 : SwCut S g
      · have R := sw_cut (n := n) h hE hS hg q1
        exact (save_cut_true v l hT hv hl hs1 hs2 (fun rv w' => ∃ b, rv = Dk.evW b ∧ BadP w p n (some x) O b w') (L.2.1 x rfl hx) R).mono fun e w' hh => fin hh
      · have R := sr_cut (n := n) h hE hEO hS ho hg hs q1 (q'.resolve_left q1)
        exact (save_on_true v l hT hv hl hs1 hs2 (fun rv w' => ∃ b, rv = Dk.evW b ∧ BadP w p n (some x) O b w') (L.2.1 x rfl hx) R).mono fun e w' hh => fin hh
end
end Go.Proofs.YtpminalccnhkjaaGreatDoor
