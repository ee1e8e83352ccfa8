/- SnapPlays: replace, done or cut off. -/
import Derived.Test.YtpminalccnhkjaaGreatDoorJSXDefSXOps
namespace Go.Proofs.YtpminalccnhkjaaGreatDoor
open Go.RowKit Go.Lib

theorem tr2 {O O1 : Nat → Prop} {w w1 w2 : World} (f1 : Dk.FrO O w w1) (o1 : ∀ k, O1 k → O k ∨ w.heap.size ≤ k) (f2 : Dk.FrO O1 w1 w2) : Dk.FrO O w w2 :=
  f1.trans f2 (fun k hk ho => (o1 k ho).elim id (fun hx => absurd hk (Nat.not_lt.2 hx)))
theorem to2 {O O1 O2 : Nat → Prop} {w w1 : World} (hz : w.heap.size ≤ w1.heap.size) (o1 : ∀ k, O1 k → O k ∨ w.heap.size ≤ k) (o2 : ∀ k, O2 k → O1 k ∨ w1.heap.size ≤ k) : ∀ k, O2 k → O k ∨ w.heap.size ≤ k :=
  fun k hk => (o2 k hk).elim (o1 k) (fun hx => .inr (Nat.le_trans hz hx))
theorem ne2 {O O1 : Nat → Prop} {w : World} (hE : Dk.ET w) (h : ¬ O 0) (o1 : ∀ k, O1 k → O k ∨ w.heap.size ≤ k) : ¬ O1 0 :=
  fun hh => (o1 _ hh).elim h (fun hx => absurd hE.lt (Nat.not_lt.2 hx))
/-- What a change that went through leaves. -/
def GoP (w : World) (p : Nat) (S' : Dk.St) (F : List Dk.Ent) (O : Nat → Prop) (w' : World) : Prop := ∃ O', Dk.DX w' p S' F O' ∧ Dk.FrO O w w' ∧ (∀ k, O' k → O k ∨ w.heap.size ≤ k)
/-- What a change that was cut off leaves: the snapshot as it was. -/
def BadP (w : World) (p n : Nat) (o : Option Sn) (O : Nat → Prop) (b : Nat) (w' : World) : Prop := ∃ S' g' O', Dk.ErrW w' b 32 ∧ w.heap.size ≤ b ∧ gOk g' ∧ Okk S' n ∧ Dk.DX w' p S' (FS o g') O' ∧ Dk.FrO O w w' ∧ (∀ k, O' k → O k ∨ w.heap.size ≤ k)
variable {w : World} {p n : Nat} {S : Dk.St} {O : Nat → Prop} {o : Option Sn}
theorem gok_none : gOk none := fun x hx => by cases hx
theorem gok_some {l : List UInt8} {k : Nat} (h : l.length ≤ 2000) (hk : k ≤ l.length) : gOk (some (l, k)) := fun x hx => by injection hx with hx; subst hx; exact ⟨h, hk⟩

set_option maxHeartbeats 1600000 in
theorem rep_go (v : Value) (s : Sn) (hs : SnOk s) (h : Dk.DX w p S (FS o none) O) (hE : Dk.ET w) (hEO : ¬ O 0) (hS : Okk S (n + 3)) (ho : oOk o) (hv : Dk.RBo w O v (fbS s)) (q0 : ¬ Fails S) (q1 : ¬ Fails (nx S)) (q2 : ¬ Fails (nx (nx S))) :
    Calls Tryz.prog 32 #[.pointer (some ⟨p, 0, none⟩), v] w fun e w' => e = .returned .nilIface ∧ GoP w p (nx (nx (nx S))) (FS (some s) none) O w' := by
  have H : Hid (Calls Tryz.prog 8 #[.pointer (some ⟨p, 0, none⟩), .string nwN, v] w fun e w1 => e = .returned .nilIface ∧ Hid (Calls Tryz.prog 9 #[.pointer (some ⟨p, 0, none⟩), .string nwN] w1 fun e w2 => e = .returned .nilIface ∧
      Hid (Calls Tryz.prog 49 #[.pointer (some ⟨p, 0, none⟩), .string nwN, .string snN] w2 fun e w3 => e = .returned .nilIface ∧ Hid (GoP w p (nx (nx (nx S))) (FS (some s) none) O w3)))) := by
    refine (app_go v (fbS s) h hE hS ho (fbS_len hs) hv q0).mono ?_
    rintro e w1 ⟨O1, rfl, d1, f1, o1⟩
    have hE1 := hE.fr f1 hEO
    have n1 := ne2 hE hEO o1
    refine ⟨rfl, (sync_go _ d1 hE1 (hS.nx (n := n + 2) q0) q1).mono ?_⟩
    rintro e w2 ⟨O2, rfl, d2, f2, o2⟩
    have hE2 := hE1.fr f2 n1
    refine ⟨rfl, (ren_go s d2 hE2 ((hS.nx (n := n + 2) q0).nx (n := n + 1) q1) q2).mono ?_⟩
    rintro e w3 ⟨O3, rfl, d3, f3, o3⟩
    exact ⟨rfl, O3, d3, tr2 (tr2 f1 o1 f2) (to2 f1.size o1 o2) f3, to2 (tr2 f1 o1 f2).size (to2 f1.size o1 o2) o3⟩
  unfold nwN snN at H
  clear h hE hEO hS ho hv q0 q1 q2 hs
  go_enter Tryz.func32, Tryz.ntmps32
  go_wp2_with (first
    | (go_at_call 8; refine (unhide H).mono ?_; rintro e w1 ⟨rfl, H1⟩; clear H)
    | (go_at_call 9; refine (unhide H1).mono ?_; rintro e w2 ⟨rfl, H2⟩; clear H1)
    | (go_at_call 49; refine (unhide H2).mono ?_; rintro e w3 ⟨rfl, H3⟩; clear H2))
  go_ret
  exact ⟨rfl, unhide H3⟩

set_option maxHeartbeats 1600000 in
theorem rep_cut (v : Value) (s : Sn) (hs : SnOk s) (h : Dk.DX w p S (FS o none) O) (hE : Dk.ET w) (hEO : ¬ O 0) (hS : Okk S (n + 3)) (ho : oOk o) (hv : Dk.RBo w O v (fbS s)) (q : Fails S ∨ Fails (nx S) ∨ Fails (nx (nx S))) :
    Calls Tryz.prog 32 #[.pointer (some ⟨p, 0, none⟩), v] w fun e w' => ∃ b, e = .returned (Dk.evW b) ∧ BadP w p n o O b w' := by
  have hl := fbS_len hs
  by_cases q0 : Fails S
  · have H : Hid (Calls Tryz.prog 8 #[.pointer (some ⟨p, 0, none⟩), .string nwN, v] w fun e w1 => ∃ b, e = .returned (Dk.evW b) ∧ Hid (BadP w p n o O b w1)) := by
      refine (app_cut v (fbS s) h hE hS ho hl hv q0).mono ?_
      rintro e w1 ⟨b, O1, rfl, e1, e2, d1, f1, o1⟩
      exact ⟨b, rfl, _, none, O1, e1, e2, gok_none, hS.dn (by omega), d1, f1, o1⟩
    unfold nwN at H
    clear h hE hEO hS ho hv q q0 hs hl
    go_enter Tryz.func32, Tryz.ntmps32
    go_wp2_with (first
      | (go_at_call 8; refine (unhide H).mono ?_; rintro e w1 ⟨b, rfl, H1⟩; clear H))
    go_ret
    exact ⟨b, rfl, unhide H1⟩
  · by_cases q1 : Fails (nx S)
    · have H : Hid (Calls Tryz.prog 8 #[.pointer (some ⟨p, 0, none⟩), .string nwN, v] w fun e w1 => e = .returned .nilIface ∧ Hid (Calls Tryz.prog 9 #[.pointer (some ⟨p, 0, none⟩), .string nwN] w1 fun e w2 => ∃ b, e = .returned (Dk.evW b) ∧ Hid (BadP w p n o O b w2))) := by
        refine (app_go v (fbS s) h hE hS ho hl hv q0).mono ?_
        rintro e w1 ⟨O1, rfl, d1, f1, o1⟩
        have hE1 := hE.fr f1 hEO
        refine ⟨rfl, (sync_cut _ d1 hE1 (hS.nx (n := n + 2) q0) q1).mono ?_⟩
        rintro e w2 ⟨b, O2, rfl, e1, e2, d2, f2, o2⟩
        exact ⟨b, rfl, _, _, O2, e1, Nat.le_trans f1.size e2, gok_some (by omega) (Nat.zero_le _), (hS.nx (n := n + 2) q0).dn (by omega), d2, tr2 f1 o1 f2, to2 f1.size o1 o2⟩
      unfold nwN at H
      clear h hE hEO hS ho hv q q0 q1 hs hl
      go_enter Tryz.func32, Tryz.ntmps32
      go_wp2_with (first
        | (go_at_call 8; refine (unhide H).mono ?_; rintro e w1 ⟨rfl, H1⟩; clear H)
        | (go_at_call 9; refine (unhide H1).mono ?_; rintro e w2 ⟨b, rfl, H2⟩; clear H1))
      go_ret
      exact ⟨b, rfl, unhide H2⟩
    · have q2 : Fails (nx (nx S)) := (q.resolve_left q0).resolve_left q1
      have H : Hid (Calls Tryz.prog 8 #[.pointer (some ⟨p, 0, none⟩), .string nwN, v] w fun e w1 => e = .returned .nilIface ∧ Hid (Calls Tryz.prog 9 #[.pointer (some ⟨p, 0, none⟩), .string nwN] w1 fun e w2 => e = .returned .nilIface ∧
          Hid (Calls Tryz.prog 49 #[.pointer (some ⟨p, 0, none⟩), .string nwN, .string snN] w2 fun e w3 => ∃ b, e = .returned (Dk.evW b) ∧ Hid (BadP w p n o O b w3)))) := by
        refine (app_go v (fbS s) h hE hS ho hl hv q0).mono ?_
        rintro e w1 ⟨O1, rfl, d1, f1, o1⟩
        have hE1 := hE.fr f1 hEO
        have n1 := ne2 hE hEO o1
        refine ⟨rfl, (sync_go _ d1 hE1 (hS.nx (n := n + 2) q0) q1).mono ?_⟩
        rintro e w2 ⟨O2, rfl, d2, f2, o2⟩
        have hE2 := hE1.fr f2 n1
        refine ⟨rfl, (ren_cut _ d2 hE2 ((hS.nx (n := n + 2) q0).nx (n := n + 1) q1) q2).mono ?_⟩
        rintro e w3 ⟨b, O3, rfl, e1, e2, d3, f3, o3⟩
        exact ⟨b, rfl, _, _, O3, e1, Nat.le_trans (tr2 f1 o1 f2).size e2, gok_some (by show (fbS s).length ≤ 2000; omega) (Nat.le_refl _), ((hS.nx (n := n + 2) q0).nx (n := n + 1) q1).dn (by omega), d3, tr2 (tr2 f1 o1 f2) (to2 f1.size o1 o2) f3, to2 (tr2 f1 o1 f2).size (to2 f1.size o1 o2) o3⟩
      unfold nwN snN at H
      clear h hE hEO hS ho hv q q0 q1 q2 hs hl
      go_enter Tryz.func32, Tryz.ntmps32
      go_wp2_with (first
        | (go_at_call 8; refine (unhide H).mono ?_; rintro e w1 ⟨rfl, H1⟩; clear H)
        | (go_at_call 9; refine (unhide H1).mono ?_; rintro e w2 ⟨rfl, H2⟩; clear H1)
        | (go_at_call 49; refine (unhide H2).mono ?_; rintro e w3 ⟨b, rfl, H3⟩; clear H2))
      go_ret
      exact ⟨b, rfl, unhide H3⟩
end Go.Proofs.YtpminalccnhkjaaGreatDoor
