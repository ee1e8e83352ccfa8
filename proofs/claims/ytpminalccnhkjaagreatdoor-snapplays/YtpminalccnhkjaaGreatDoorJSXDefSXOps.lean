/- SnapPlays: what lies on its disk; a call that may be cut off. -/
import Derived.Test.YtpminalccnhkjaaGreatDoorJSSaveDKnownSKnown
namespace Go.Proofs.YtpminalccnhkjaaGreatDoor
open Go.RowKit Go.Lib

/-- A snapshot: its index, its term, its bytes. -/
abbrev Sn := Nat × Nat × List UInt8
def fbS (s : Sn) : List UInt8 := frameBytes (snB s.1 s.2.1 s.2.2)
def snE (s : Sn) : Dk.Ent := Dk.fl snN.data.toList (fbS s) (fbS s).length
def nwE (g : List UInt8 × Nat) : Dk.Ent := Dk.fl nwN.data.toList g.1 g.2
/-- The disk's files: a whole snapshot, what a fall left of a newer one. -/
def FS (o : Option Sn) (g : Option (List UInt8 × Nat)) : List Dk.Ent := (o.map snE).toList ++ (g.map nwE).toList
/-- A snapshot as the statement has it. -/
def SnOk (s : Sn) : Prop := s.1 < 18446744073709551616 ∧ s.2.1 < 18446744073709551616 ∧ s.2.2.length ≤ 1500
def oOk (o : Option Sn) : Prop := ∀ s, o = some s → SnOk s
def gOk (g : Option (List UInt8 × Nat)) : Prop := ∀ x, g = some x → x.1.length ≤ 2000 ∧ x.2 ≤ x.1.length
theorem fbS_len {s : Sn} (h : SnOk s) : (fbS s).length ≤ 1530 := by
  have h1 := uvarint_length64 h.1
  have h2 := uvarint_length64 h.2.1
  have h3 := h.2.2
  simp [fbS, frameBytes, word4_length, snB]; omega
theorem look_sn (o : Option Sn) (g : Option (List UInt8 × Nat)) : Dk.look (FS o g) snN.data.toList = o.map snE := by
  cases o <;> cases g <;> rfl
theorem look_nw (o : Option Sn) (g : Option (List UInt8 × Nat)) : Dk.look (FS o g) nwN.data.toList = g.map nwE := by
  cases o <;> cases g <;> rfl
theorem put_nw (o : Option Sn) (g : Option (List UInt8 × Nat)) (x : List UInt8 × Nat) : Dk.putE (nwE x) (FS o g) = FS o (some x) := by
  cases o <;> cases g <;> rfl
theorem repl_nw (o : Option Sn) (y x : List UInt8 × Nat) : Dk.repl (nwE x) (FS o (some y)) = FS o (some x) := by
  cases o <;> rfl
theorem del_nw (o : Option Sn) (g : Option (List UInt8 × Nat)) : Dk.delE nwN.data.toList (FS o g) = FS o none := by
  cases o <;> cases g <;> rfl
theorem put_sn (o : Option Sn) (s : Sn) : Dk.putE (snE s) (FS o none) = FS (some s) none := by
  cases o <;> rfl
theorem repl_sn (s : Sn) (g : Option (List UInt8 × Nat)) : Dk.repl (snE s) (FS (some s) g) = FS (some s) g := by
  cases g <;> rfl
theorem fall_fs (ks : List Int) (o : Option Sn) (g : Option (List UInt8 × Nat)) (hg : gOk g) : ∃ g', Dk.fallF ks 0 (FS o g) = FS o g' ∧ gOk g' := by
  have key : ∀ (k : Int) (x : List UInt8 × Nat), x.1.length ≤ 2000 ∧ x.2 ≤ x.1.length → ∃ y : List UInt8 × Nat, Dk.fl (nwE x).name ((nwE x).data.take (Dk.leftN k (nwE x))) (Dk.leftN k (nwE x)) = nwE y ∧ (y.1.length ≤ 2000 ∧ y.2 ≤ y.1.length) := fun k x hx => by
    refine ⟨(x.1.take (Dk.leftN k (nwE x)), Dk.leftN k (nwE x)), rfl, ?_⟩
    unfold Dk.leftN nwE Dk.fl
    simp; omega
  have key2 : ∀ (k : Int) (s : Sn), Dk.fl (snE s).name ((snE s).data.take (Dk.leftN k (snE s))) (Dk.leftN k (snE s)) = snE s := fun k s => by
    have e : Dk.leftN k (snE s) = (fbS s).length := by unfold Dk.leftN snE Dk.fl; simp
    rw [e]
    show Dk.fl snN.data.toList ((fbS s).take (fbS s).length) (fbS s).length = _
    rw [List.take_length]; rfl
  cases o with
  | none =>
    cases g with
    | none => exact ⟨none, rfl, fun x hx => by cases hx⟩
    | some x =>
      obtain ⟨y, e, hy⟩ := key (ks.getD 0 0) x (hg x rfl)
      exact ⟨some y, by show [_] = [_]; rw [e], fun z hz => by injection hz with hz; subst hz; exact hy⟩
  | some s =>
    cases g with
    | none => exact ⟨none, by show [_] = [_]; rw [key2], fun x hx => by cases hx⟩
    | some x =>
      obtain ⟨y, e, hy⟩ := key (ks.getD 1 0) x (hg x rfl)
      exact ⟨some y, by show [_, _] = [_, _]; rw [key2, e], fun z hz => by injection hz with hz; subst hz; exact hy⟩
theorem fs_used {o : Option Sn} {g : Option (List UInt8 × Nat)} (ho : oOk o) (hg : gOk g) : Dk.usedL (FS o g) ≤ 3600 := by
  cases o with
  | none =>
    cases g with
    | none => simp [FS, Dk.usedL]
    | some x => have := hg x rfl; simp [FS, Dk.usedL, nwE, Dk.fl]; omega
  | some s =>
    have h1 := fbS_len (ho s rfl)
    cases g with
    | none => simp [FS, Dk.usedL, snE, Dk.fl]; omega
    | some x => have := hg x rfl; simp [FS, Dk.usedL, snE, nwE, Dk.fl]; omega
theorem fs_names (o : Option Sn) (g : Option (List UInt8 × Nat)) : ∀ e ∈ FS o g, e.name.length ≤ 1000 := by
  intro e he
  have h1 : ∀ s, (snE s).name.length ≤ 1000 := fun s => by show snN.data.toList.length ≤ 1000; decide
  have h2 : ∀ x, (nwE x).name.length ≤ 1000 := fun x => by show nwN.data.toList.length ≤ 1000; decide
  cases o <;> cases g <;> simp [FS] at he
  · subst he; exact h2 _
  · subst he; exact h1 _
  · rcases he with rfl | rfl
    · exact h1 _
    · exact h2 _
/-- The disk's numbers as the statement has them: so many more calls may be done. -/
def Okk (S : Dk.St) (n : Nat) : Prop := S.room = 200000 ∧ 0 ≤ S.count ∧ S.count + (n : Int) ≤ 1000 ∧ (S.halting = true → 0 ≤ S.left ∧ S.left < 9223372036854775808)
/-- The next call is cut off. -/
def Fails (S : Dk.St) : Prop := S.off = true ∨ (S.halting = true ∧ S.left = 0)
def nx (S : Dk.St) : Dk.St := { S with left := if S.halting = true then S.left - 1 else S.left, count := S.count + 1 }
def dn (S : Dk.St) : Dk.St := { S with off := true }
theorem begin_go {S : Dk.St} (h : ¬ Fails S) : Dk.beginS S 0 = (nx S, 0) := by
  unfold Dk.beginS
  rw [if_neg (fun hh => h (.inl hh)), if_neg (fun hh => hh rfl), if_neg (fun hh => h (.inr hh))]
  rfl
theorem begin_cut {S : Dk.St} (h : Fails S) : Dk.beginS S 0 = (dn S, 32) := by
  unfold Dk.beginS
  by_cases ho : S.off = true
  · rw [if_pos ho]
    obtain ⟨a, b, c, d, e⟩ := S
    simp only at ho
    subst ho
    rfl
  · rw [if_neg ho, if_neg (fun hh => hh rfl), if_pos (h.resolve_left ho)]
    rfl
theorem Okk.nx {S : Dk.St} {n : Nat} (h : Okk S (n + 1)) (hf : ¬ Fails S) : Okk (nx S) n := by
  obtain ⟨h1, h2, h3, h4⟩ := h
  refine ⟨h1, by show (0 : Int) ≤ S.count + 1; omega, by show S.count + 1 + (n : Int) ≤ 1000; omega, fun hh => ?_⟩
  have hh : S.halting = true := hh
  have h5 := h4 hh
  have h6 : S.left ≠ 0 := fun e => hf (.inr ⟨hh, e⟩)
  show (0 : Int) ≤ (if S.halting = true then S.left - 1 else S.left) ∧ (if S.halting = true then S.left - 1 else S.left) < 9223372036854775808
  rw [if_pos hh]; omega
theorem Okk.dn {S : Dk.St} {n m : Nat} (h : Okk S n) (hm : m ≤ n) : Okk (dn S) m := ⟨h.1, h.2.1, by show S.count + (m : Int) ≤ 1000; have := h.2.2.1; omega, h.2.2.2⟩
theorem Okk.less {S : Dk.St} {n m : Nat} (h : Okk S n) (hm : m ≤ n) : Okk S m := ⟨h.1, h.2.1, by have := h.2.2.1; omega, h.2.2.2⟩
theorem nx_off {S : Dk.St} (h : ¬ Fails S) : (nx S).off = false := by
  show S.off = false
  cases hh : S.off with
  | false => rfl
  | true => exact absurd (.inl hh) h
theorem app_fs {S : Dk.St} {n m : Nat} {o : Option Sn} (hS : Okk S n) (ho : oOk o) (hm : m ≤ 1530) : Dk.appC S (FS o none) nwN.data.toList m = 0 := by
  unfold Dk.appC
  rw [look_nw]
  have h2 : Dk.anotherC (FS o none) nwN.data.toList = 0 := by cases o <;> rfl
  simp only [Option.map_none, h2, if_true]
  have h3 := fs_used ho (g := none) (fun x hx => by cases hx)
  rw [if_pos]
  unfold Dk.fitsB
  rw [hS.1]
  simp; omega
end Go.Proofs.YtpminalccnhkjaaGreatDoor
/- SnapPlays: the disk's changing calls on its files: done, or cut off. -/
namespace Go.Proofs.YtpminalccnhkjaaGreatDoor
open Go.RowKit Go.Lib

/-- A call that was cut off: an error of class 32 in a new block; the files are as they were. -/
def CutP (w : World) (p : Nat) (S : Dk.St) (F : List Dk.Ent) (O : Nat → Prop) (e : Ending) (w' : World) : Prop :=
  ∃ b O', e = .returned (Dk.evW b) ∧ Dk.ErrW w' b 32 ∧ w.heap.size ≤ b ∧ Dk.DX w' p (dn S) F O' ∧ Dk.FrO O w w' ∧ (∀ k, O' k → O k ∨ w.heap.size ≤ k)
/-- A call that is done. -/
def DoneP (w : World) (p : Nat) (S : Dk.St) (F : List Dk.Ent) (O : Nat → Prop) (e : Ending) (w' : World) : Prop :=
  ∃ O', e = .returned .nilIface ∧ Dk.DX w' p (nx S) F O' ∧ Dk.FrO O w w' ∧ (∀ k, O' k → O k ∨ w.heap.size ≤ k)
theorem out_cut {w w' : World} {v : Value} (h : Dk.ErrOut (Dk.Old w) w' v 32) : ∃ b, v = Dk.evW b ∧ Dk.ErrW w' b 32 ∧ w.heap.size ≤ b := by
  rcases h with ⟨_, h⟩ | ⟨_, b, h1, h2, h3⟩
  · cases h
  · exact ⟨b, h1, h2, Nat.not_lt.1 h3⟩
theorem out_go {w w' : World} {v : Value} (h : Dk.ErrOut (Dk.Old w) w' v 0) : v = .nilIface := by
  rcases h with ⟨h, _⟩ | ⟨h, _⟩
  · exact h
  · exact absurd rfl h
variable {w : World} {p n : Nat} {S : Dk.St} {O : Nat → Prop} {o : Option Sn} {g : Option (List UInt8 × Nat)}
theorem Okk.cnt (h : Okk S n) : 0 ≤ S.count ∧ S.count < 1000000000 := ⟨h.2.1, by have := h.2.2.1; omega⟩
theorem Okk.roomy (h : Okk S n) : 0 ≤ S.room ∧ S.room ≤ 4611686018427387904 := by rw [h.1]; decide
theorem app_go (v : Value) (lb : List UInt8) (h : Dk.DX w p S (FS o none) O) (hE : Dk.ET w) (hS : Okk S n) (ho : oOk o) (hl : lb.length ≤ 1530) (hv : Dk.RBo w O v lb) (hf : ¬ Fails S) :
    Calls Tryz.prog 8 #[.pointer (some ⟨p, 0, none⟩), .string nwN, v] w (DoneP w p S (FS o (some (lb, 0))) O) := by
  refine (Dk.dx_append nwN v lb h hE (by decide) hS.roomy hS.cnt hS.2.2.2 hv).mono ?_
  rintro e w' ⟨v', O', rfl, he, hx, hfr, ho'⟩
  rw [app_fs hS ho hl, begin_go hf] at he hx
  have e0 : Dk.oldData (FS o none) nwN.data.toList = [] := by unfold Dk.oldData; rw [look_nw]; rfl
  have e1 : Dk.oldSure (FS o none) nwN.data.toList = 0 := by unfold Dk.oldSure; rw [look_nw]; rfl
  rw [if_pos rfl, e0, e1, List.nil_append] at hx
  have := put_nw o none (lb, 0)
  unfold nwE at this
  rw [this] at hx
  exact ⟨O', by rw [out_go he], hx, hfr, ho'⟩
theorem app_cut (v : Value) (lb : List UInt8) (h : Dk.DX w p S (FS o none) O) (hE : Dk.ET w) (hS : Okk S n) (ho : oOk o) (hl : lb.length ≤ 1530) (hv : Dk.RBo w O v lb) (hf : Fails S) :
    Calls Tryz.prog 8 #[.pointer (some ⟨p, 0, none⟩), .string nwN, v] w (CutP w p S (FS o none) O) := by
  refine (Dk.dx_append nwN v lb h hE (by decide) hS.roomy hS.cnt hS.2.2.2 hv).mono ?_
  rintro e w' ⟨v', O', rfl, he, hx, hfr, ho'⟩
  rw [app_fs hS ho hl, begin_cut hf] at he hx
  rw [if_neg (by show ¬ (32 : Int) = 0; decide)] at hx
  obtain ⟨b, rfl, h1, h2⟩ := out_cut he
  exact ⟨b, O', rfl, h1, h2, hx, hfr, ho'⟩
theorem there_nw (o : Option Sn) (x : List UInt8 × Nat) : Dk.thereC (FS o (some x)) nwN.data.toList = 0 := by unfold Dk.thereC; rw [look_nw]; rfl
theorem there_sn (s : Sn) (g : Option (List UInt8 × Nat)) : Dk.thereC (FS (some s) g) snN.data.toList = 0 := by unfold Dk.thereC; rw [look_sn]; rfl
theorem data_nw (o : Option Sn) (x : List UInt8 × Nat) : Dk.oldData (FS o (some x)) nwN.data.toList = x.1 := by unfold Dk.oldData; rw [look_nw]; rfl
theorem sure_nw (o : Option Sn) (x : List UInt8 × Nat) : Dk.oldSure (FS o (some x)) nwN.data.toList = x.2 := by unfold Dk.oldSure; rw [look_nw]; rfl
theorem data_sn (s : Sn) (g : Option (List UInt8 × Nat)) : Dk.oldData (FS (some s) g) snN.data.toList = fbS s := by unfold Dk.oldData; rw [look_sn]; rfl
theorem sync_go (x : List UInt8 × Nat) (h : Dk.DX w p S (FS o (some x)) O) (hE : Dk.ET w) (hS : Okk S n) (hf : ¬ Fails S) :
    Calls Tryz.prog 9 #[.pointer (some ⟨p, 0, none⟩), .string nwN] w (DoneP w p S (FS o (some (x.1, x.1.length))) O) := by
  refine (Dk.dx_sync nwN h hE (by decide) hS.cnt hS.2.2.2).mono ?_
  rintro e w' ⟨v', rfl, he, hx, hfr⟩
  rw [there_nw, begin_go hf] at he hx
  rw [if_pos rfl, data_nw] at hx
  have := repl_nw o x (x.1, x.1.length)
  unfold nwE at this
  rw [this] at hx
  exact ⟨O, by rw [out_go he], hx, hfr, fun k hk => .inl hk⟩
theorem sync_cut (x : List UInt8 × Nat) (h : Dk.DX w p S (FS o (some x)) O) (hE : Dk.ET w) (hS : Okk S n) (hf : Fails S) :
    Calls Tryz.prog 9 #[.pointer (some ⟨p, 0, none⟩), .string nwN] w (CutP w p S (FS o (some x)) O) := by
  refine (Dk.dx_sync nwN h hE (by decide) hS.cnt hS.2.2.2).mono ?_
  rintro e w' ⟨v', rfl, he, hx, hfr⟩
  rw [there_nw, begin_cut hf] at he hx
  rw [if_neg (by show ¬ (32 : Int) = 0; decide)] at hx
  obtain ⟨b, rfl, h1, h2⟩ := out_cut he
  exact ⟨b, O, rfl, h1, h2, hx, hfr, fun k hk => .inl hk⟩
theorem old_go (s : Sn) (h : Dk.DX w p S (FS (some s) g) O) (hE : Dk.ET w) (hS : Okk S n) (hf : ¬ Fails S) :
    Calls Tryz.prog 9 #[.pointer (some ⟨p, 0, none⟩), .string snN] w (DoneP w p S (FS (some s) g) O) := by
  refine (Dk.dx_sync snN h hE (by decide) hS.cnt hS.2.2.2).mono ?_
  rintro e w' ⟨v', rfl, he, hx, hfr⟩
  rw [there_sn, begin_go hf] at he hx
  rw [if_pos rfl, data_sn] at hx
  have := repl_sn s g
  unfold snE at this
  rw [this] at hx
  exact ⟨O, by rw [out_go he], hx, hfr, fun k hk => .inl hk⟩
theorem old_cut (s : Sn) (h : Dk.DX w p S (FS (some s) g) O) (hE : Dk.ET w) (hS : Okk S n) (hf : Fails S) :
    Calls Tryz.prog 9 #[.pointer (some ⟨p, 0, none⟩), .string snN] w (CutP w p S (FS (some s) g) O) := by
  refine (Dk.dx_sync snN h hE (by decide) hS.cnt hS.2.2.2).mono ?_
  rintro e w' ⟨v', rfl, he, hx, hfr⟩
  rw [there_sn, begin_cut hf] at he hx
  rw [if_neg (by show ¬ (32 : Int) = 0; decide)] at hx
  obtain ⟨b, rfl, h1, h2⟩ := out_cut he
  exact ⟨b, O, rfl, h1, h2, hx, hfr, fun k hk => .inl hk⟩
theorem rm_go (x : List UInt8 × Nat) (h : Dk.DX w p S (FS o (some x)) O) (hE : Dk.ET w) (hS : Okk S n) (hf : ¬ Fails S) :
    Calls Tryz.prog 48 #[.pointer (some ⟨p, 0, none⟩), .string nwN] w (DoneP w p S (FS o none) O) := by
  refine (Dk.dx_remove nwN h hE (by decide) hS.cnt hS.2.2.2).mono ?_
  rintro e w' ⟨v', rfl, he, hx, hfr⟩
  rw [there_nw, begin_go hf] at he hx
  rw [if_pos rfl, del_nw] at hx
  exact ⟨O, by rw [out_go he], hx, hfr, fun k hk => .inl hk⟩
theorem rm_cut (x : List UInt8 × Nat) (h : Dk.DX w p S (FS o (some x)) O) (hE : Dk.ET w) (hS : Okk S n) (hf : Fails S) :
    Calls Tryz.prog 48 #[.pointer (some ⟨p, 0, none⟩), .string nwN] w (CutP w p S (FS o (some x)) O) := by
  refine (Dk.dx_remove nwN h hE (by decide) hS.cnt hS.2.2.2).mono ?_
  rintro e w' ⟨v', rfl, he, hx, hfr⟩
  rw [there_nw, begin_cut hf] at he hx
  rw [if_neg (by show ¬ (32 : Int) = 0; decide)] at hx
  obtain ⟨b, rfl, h1, h2⟩ := out_cut he
  exact ⟨b, O, rfl, h1, h2, hx, hfr, fun k hk => .inl hk⟩
theorem ren_fs (o : Option Sn) (x : List UInt8 × Nat) : Dk.renC (FS o (some x)) nwN.data.toList snN.data.toList = 0 := by unfold Dk.renC; rw [if_pos (by decide), there_nw]
theorem ren_go (s : Sn) (h : Dk.DX w p S (FS o (some (fbS s, (fbS s).length))) O) (hE : Dk.ET w) (hS : Okk S n) (hf : ¬ Fails S) :
    Calls Tryz.prog 49 #[.pointer (some ⟨p, 0, none⟩), .string nwN, .string snN] w (DoneP w p S (FS (some s) none) O) := by
  refine (Dk.dx_rename nwN snN h hE (by decide) (by decide) hS.cnt hS.2.2.2).mono ?_
  rintro e w' ⟨v', O', rfl, he, hx, hfr, ho'⟩
  rw [ren_fs, begin_go hf] at he hx
  rw [if_pos rfl, data_nw, sure_nw, del_nw] at hx
  have := put_sn o s
  unfold snE at this
  rw [this] at hx
  exact ⟨O', by rw [out_go he], hx, hfr, ho'⟩
theorem ren_cut (x : List UInt8 × Nat) (h : Dk.DX w p S (FS o (some x)) O) (hE : Dk.ET w) (hS : Okk S n) (hf : Fails S) :
    Calls Tryz.prog 49 #[.pointer (some ⟨p, 0, none⟩), .string nwN, .string snN] w (CutP w p S (FS o (some x)) O) := by
  refine (Dk.dx_rename nwN snN h hE (by decide) (by decide) hS.cnt hS.2.2.2).mono ?_
  rintro e w' ⟨v', O', rfl, he, hx, hfr, ho'⟩
  rw [ren_fs, begin_cut hf] at he hx
  rw [if_neg (by show ¬ (32 : Int) = 0; decide)] at hx
  obtain ⟨b, rfl, h1, h2⟩ := out_cut he
  exact ⟨b, O', rfl, h1, h2, hx, hfr, ho'⟩
end Go.Proofs.YtpminalccnhkjaaGreatDoor
