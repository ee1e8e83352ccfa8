/- The wal's disk: a file of its own, another one beside it; calls that are done, calls that are cut off. -/
import Derived.Test.YthphadbcebeoaaaGreatDoorJWaUn2WaRepWaRep2WaErr
import Derived.Test.YthphadbcebeoaaaGreatDoorJDAbs2SUn
import Derived.BigRegion
namespace Go.Proofs.YthphadbcebeoaaaGreatDoor
open Go.RowKit Go.Lib Go.Maps

def waN : ByteArray := ⟨#[119, 97, 108]⟩
def otN : ByteArray := ⟨#[111, 116, 104, 101, 114]⟩
abbrev Fx := Option (List UInt8 × Nat)
def waE (x : List UInt8 × Nat) : Dk.Ent := Dk.fl waN.data.toList x.1 x.2
def otE (x : List UInt8 × Nat) : Dk.Ent := Dk.fl otN.data.toList x.1 x.2
/-- The files: "other", "wal". -/
def FX (a x : Fx) : List Dk.Ent := (a.map otE).toList ++ (x.map waE).toList
theorem look_wa (a x : Fx) : Dk.look (FX a x) waN.data.toList = x.map waE := by cases a <;> cases x <;> rfl
theorem look_ot (a x : Fx) : Dk.look (FX a x) otN.data.toList = a.map otE := by cases a <;> cases x <;> rfl
theorem put_wa (a x : Fx) (y : List UInt8 × Nat) : Dk.putE (waE y) (FX a x) = FX a (some y) := by cases a <;> cases x <;> rfl
theorem put_ot (a x : Fx) (y : List UInt8 × Nat) : Dk.putE (otE y) (FX a x) = FX (some y) x := by cases a <;> cases x <;> rfl
theorem repl_wa (a : Fx) (y z : List UInt8 × Nat) : Dk.repl (waE y) (FX a (some z)) = FX a (some y) := by cases a <;> rfl
theorem repl_ot (x : Fx) (y z : List UInt8 × Nat) : Dk.repl (otE y) (FX (some z) x) = FX (some y) x := by cases x <;> rfl
def dB (x : Fx) : List UInt8 := match x with | some y => y.1 | none => []
def dS (x : Fx) : Nat := match x with | some y => y.2 | none => 0
theorem data_wa (a x : Fx) : Dk.oldData (FX a x) waN.data.toList = dB x := by unfold Dk.oldData; rw [look_wa]; cases x <;> rfl
theorem sure_wa (a x : Fx) : Dk.oldSure (FX a x) waN.data.toList = dS x := by unfold Dk.oldSure; rw [look_wa]; cases x <;> rfl
theorem there_wa (a : Fx) (y : List UInt8 × Nat) : Dk.thereC (FX a (some y)) waN.data.toList = 0 := by unfold Dk.thereC; rw [look_wa]; rfl
theorem there_no (a : Fx) : Dk.thereC (FX a none) waN.data.toList = 30 := by unfold Dk.thereC; rw [look_wa]; rfl
theorem used_fx (a x : Fx) : Dk.usedL (FX a x) = (dB a).length + (dB x).length := by cases a <;> cases x <;> simp [FX, Dk.usedL, otE, waE, Dk.fl, dB]
theorem names_fx (a x : Fx) : ∀ e ∈ FX a x, e.name.length ≤ 1000 := by
  have h1 : ∀ y, (otE y).name.length ≤ 1000 := fun _ => by simp [otE, Dk.fl, otN]
  have h2 : ∀ y, (waE y).name.length ≤ 1000 := fun _ => by simp [waE, Dk.fl, waN]
  intro e he
  cases a <;> cases x <;> simp [FX] at he
  · subst he; exact h2 _
  · subst he; exact h1 _
  · rcases he with rfl | rfl
    · exact h1 _
    · exact h2 _
/-- A fall: of "other", all of it sure, nothing is lost; of "wal" what is sure stays, and a first part of the rest. -/
theorem fall_fx (ks : List Int) (a x : Fx) (ha : ∀ y, a = some y → y.2 = y.1.length) (hx : ∀ y, x = some y → y.2 ≤ y.1.length) :
    ∃ x', Dk.fallF ks 0 (FX a x) = FX a x' ∧ ((x = none ∧ x' = none) ∨ ∃ y c, x = some y ∧ y.2 ≤ c ∧ c ≤ y.1.length ∧ x' = some (y.1.take c, c)) := by
  have key : ∀ (k : Int) (y : List UInt8 × Nat), y.2 ≤ y.1.length → ∃ c, Dk.fl (waE y).name ((waE y).data.take (Dk.leftN k (waE y))) (Dk.leftN k (waE y)) = waE (y.1.take c, c) ∧ y.2 ≤ c ∧ c ≤ y.1.length := fun k y hy => by
    refine ⟨Dk.leftN k (waE y), rfl, ?_⟩
    unfold Dk.leftN waE Dk.fl
    simp; omega
  have key2 : ∀ (k : Int) (y : List UInt8 × Nat), y.2 = y.1.length → Dk.fl (otE y).name ((otE y).data.take (Dk.leftN k (otE y))) (Dk.leftN k (otE y)) = otE y := fun k y hy => by
    have e : Dk.leftN k (otE y) = y.1.length := by unfold Dk.leftN otE Dk.fl; simp [hy]
    rw [e]
    show Dk.fl otN.data.toList (y.1.take y.1.length) y.1.length = _
    rw [List.take_length, ← hy]; rfl
  cases a with
  | none =>
    cases x with
    | none => exact ⟨none, rfl, .inl ⟨rfl, rfl⟩⟩
    | some y =>
      obtain ⟨c, e, h1, h2⟩ := key (ks.getD 0 0) y (hx y rfl)
      exact ⟨_, by show [_] = [_]; rw [e], .inr ⟨y, c, rfl, h1, h2, rfl⟩⟩
  | some z =>
    cases x with
    | none => exact ⟨none, by show [_] = [_]; rw [key2 _ _ (ha z rfl)], .inl ⟨rfl, rfl⟩⟩
    | some y =>
      obtain ⟨c, e, h1, h2⟩ := key (ks.getD 1 0) y (hx y rfl)
      exact ⟨_, by show [_, _] = [_, _]; rw [key2 _ _ (ha z rfl), e], .inr ⟨y, c, rfl, h1, h2, rfl⟩⟩
/-- The disk's numbers: room, and so many more calls. -/
def OkS (S : Dk.St) (R : Int) (n : Nat) : Prop := S.room = R ∧ 0 ≤ S.count ∧ S.count + (n : Int) ≤ 100000 ∧ (S.halting = true → 0 ≤ S.left ∧ S.left < 9223372036854775808)
/-- The next call is cut off. -/
def Fails (S : Dk.St) : Prop := S.off = true ∨ (S.halting = true ∧ S.left = 0)
def nx (S : Dk.St) : Dk.St := { S with left := if S.halting = true then S.left - 1 else S.left, count := S.count + 1 }
def dn (S : Dk.St) : Dk.St := { S with off := true }
theorem begin_go {S : Dk.St} (h : ¬ Fails S) : Dk.beginS S 0 = (nx S, 0) := by
  unfold Dk.beginS
  rw [if_neg (fun hh => h (.inl hh)), if_neg (fun hh => hh rfl), if_neg (fun hh => h (.inr hh))]
  rfl
theorem begin_cut {S : Dk.St} (h : Fails S) : Dk.beginS S 0 = (dn S, 32) := by
  unfold Dk.beginS
  by_cases ho : S.off = true
  · rw [if_pos ho]
    obtain ⟨a, b, c, d, e⟩ := S
    simp only at ho
    subst ho
    rfl
  · rw [if_neg ho, if_neg (fun hh => hh rfl), if_pos (h.resolve_left ho)]
    rfl
theorem begin_bad {S : Dk.St} {c : Int} (ho : S.off = false) (hc : c ≠ 0) : Dk.beginS S c = (S, c) := by
  unfold Dk.beginS
  rw [if_neg (by simp [ho]), if_pos hc]
theorem begin_off {S : Dk.St} {c : Int} (ho : S.off = true) : Dk.beginS S c = (S, 32) := by unfold Dk.beginS; rw [if_pos ho]
theorem dn_off {S : Dk.St} (ho : S.off = true) : dn S = S := by obtain ⟨a, b, c, d, e⟩ := S; simp only at ho; subst ho; rfl
theorem OkS.nx {S : Dk.St} {R : Int} {n : Nat} (h : OkS S R (n + 1)) (hf : ¬ Fails S) : OkS (nx S) R n := by
  obtain ⟨h1, h2, h3, h4⟩ := h
  refine ⟨h1, by show (0 : Int) ≤ S.count + 1; omega, by show S.count + 1 + (n : Int) ≤ 100000; omega, fun hh => ?_⟩
  have hh : S.halting = true := hh
  have h5 := h4 hh
  have h6 : S.left ≠ 0 := fun e => hf (.inr ⟨hh, e⟩)
  show (0 : Int) ≤ (if S.halting = true then S.left - 1 else S.left) ∧ (if S.halting = true then S.left - 1 else S.left) < 9223372036854775808
  rw [if_pos hh]; omega
theorem OkS.dn {S : Dk.St} {R : Int} {n m : Nat} (h : OkS S R n) (hm : m ≤ n) : OkS (dn S) R m := ⟨h.1, h.2.1, by show S.count + (m : Int) ≤ 100000; have := h.2.2.1; omega, h.2.2.2⟩
theorem OkS.less {S : Dk.St} {R : Int} {n m : Nat} (h : OkS S R n) (hm : m ≤ n) : OkS S R m := ⟨h.1, h.2.1, by have := h.2.2.1; omega, h.2.2.2⟩
theorem nx_off {S : Dk.St} (h : ¬ Fails S) : (nx S).off = false := by
  show S.off = false
  cases hh : S.off with
  | false => rfl
  | true => exact absurd (.inl hh) h
theorem OkS.cnt {S : Dk.St} {R : Int} {n : Nat} (h : OkS S R n) : 0 ≤ S.count ∧ S.count < 1000000000 := ⟨h.2.1, by have := h.2.2.1; omega⟩
/-- Room enough. -/
def Roomy (R : Int) (a x : Fx) (m : Nat) : Prop := R ≤ 1000000 ∧ ((dB a).length : Int) + ((dB x).length : Int) + (m : Int) ≤ R
theorem app_fx {S : Dk.St} {R : Int} {n m : Nat} {a x : Fx} (hS : OkS S R n) (hm : Roomy R a x m) : Dk.appC S (FX a x) waN.data.toList m = 0 := by
  obtain ⟨r1, r2⟩ := hm
  have h2 : Dk.anotherC (FX a none) waN.data.toList = 0 := by cases a <;> rfl
  have h3 := used_fx a x
  unfold Dk.appC
  rw [look_wa]
  cases x with
  | none =>
    simp only [Option.map_none, h2, if_true]
    rw [if_pos]
    unfold Dk.fitsB
    rw [h3, hS.1]
    have e0 : (dB none).length = 0 := rfl
    simp; omega
  | some y =>
    simp only [Option.map_some]
    rw [if_pos]
    unfold Dk.fitsB
    rw [h3, hS.1]
    have e0 : (dB (some y)).length = y.1.length := rfl
    have e1 : (waE y).data.length = y.1.length := rfl
    rw [e1]
    simp only [Bool.and_eq_true, decide_eq_true_eq]
    constructor <;> omega
theorem out_none {w w' : World} {v : Value} (h : Dk.ErrOut (Dk.Old w) w' v 0) : v = .nilIface := by
  rcases h with ⟨h, _⟩ | ⟨h, _⟩
  · exact h
  · exact absurd rfl h
theorem out_some {w w' : World} {v : Value} {c : Int} (h : Dk.ErrOut (Dk.Old w) w' v c) (hc : c ≠ 0) : ∃ b, v = Dk.evW b ∧ Dk.ErrW w' b c ∧ w.heap.size ≤ b := by
  rcases h with ⟨_, h⟩ | ⟨_, b, h1, h2, h3⟩
  · exact absurd h hc
  · exact ⟨b, h1, h2, Nat.le_of_not_lt h3⟩
section
variable {w : World} {q : Nat} {S : Dk.St} {R : Int} {n : Nat} {a x : Fx} {D : Nat → Prop}
/-- A call of the disk that was cut off. -/
def CutP (w : World) (q : Nat) (S : Dk.St) (F : List Dk.Ent) (D : Nat → Prop) (e : Ending) (w' : World) : Prop :=
  ∃ b D', e = .returned (Dk.evW b) ∧ Dk.ErrW w' b 32 ∧ w.heap.size ≤ b ∧ Dk.DX w' q (dn S) F D' ∧ Dk.FrO D w w' ∧ ∀ k, D' k → D k ∨ w.heap.size ≤ k
/-- One that was done. -/
def DoneP (w : World) (q : Nat) (S : Dk.St) (F : List Dk.Ent) (D : Nat → Prop) (e : Ending) (w' : World) : Prop :=
  ∃ D', e = .returned .nilIface ∧ Dk.DX w' q (nx S) F D' ∧ Dk.FrO D w w' ∧ ∀ k, D' k → D k ∨ w.heap.size ≤ k
theorem app_go (v : Value) (lb : List UInt8) (h : Dk.DX w q S (FX a x) D) (hE : Dk.ET w) (hS : OkS S R n) (hm : Roomy R a x lb.length) (hv : Dk.RBo w D v lb) (hf : ¬ Fails S) :
    Calls Tryz.prog 25 #[.pointer (some ⟨q, 0, none⟩), .string waN, v] w fun e w' => DoneP w q S (FX a (some (dB x ++ lb, dS x))) D e w' := by
  refine (Dk.dx_append waN v lb h hE (by decide) (by rw [hS.1]; have := hm.1; have := hm.2; omega) hS.cnt hS.2.2.2 hv).mono ?_
  rw [app_fx hS hm, begin_go hf]
  rintro e w' ⟨v', O', rfl, he, hd, hfr, ho⟩
  obtain rfl := out_none he
  rw [if_pos rfl, data_wa, sure_wa] at hd
  have e1 := put_wa a x (dB x ++ lb, dS x)
  unfold waE at e1
  rw [e1] at hd
  exact ⟨O', rfl, hd, hfr, ho⟩
theorem app_cut (v : Value) (lb : List UInt8) (h : Dk.DX w q S (FX a x) D) (hE : Dk.ET w) (hS : OkS S R n) (hm : Roomy R a x lb.length) (hv : Dk.RBo w D v lb) (hf : Fails S) :
    Calls Tryz.prog 25 #[.pointer (some ⟨q, 0, none⟩), .string waN, v] w fun e w' => CutP w q S (FX a x) D e w' := by
  refine (Dk.dx_append waN v lb h hE (by decide) (by rw [hS.1]; have := hm.1; have := hm.2; omega) hS.cnt hS.2.2.2 hv).mono ?_
  rw [app_fx hS hm, begin_cut hf]
  rintro e w' ⟨v', O', rfl, he, hd, hfr, ho⟩
  obtain ⟨b, rfl, h1, h2⟩ := out_some he (by simp)
  rw [if_neg (by simp)] at hd
  exact ⟨b, O', rfl, h1, h2, hd, hfr, ho⟩
theorem sync_go (y : List UInt8 × Nat) (h : Dk.DX w q S (FX a (some y)) D) (hE : Dk.ET w) (hS : OkS S R n) (hf : ¬ Fails S) :
    Calls Tryz.prog 26 #[.pointer (some ⟨q, 0, none⟩), .string waN] w fun e w' => DoneP w q S (FX a (some (y.1, y.1.length))) D e w' := by
  refine (Dk.dx_sync waN h hE (by decide) hS.cnt hS.2.2.2).mono ?_
  rw [there_wa, begin_go hf]
  rintro e w' ⟨v', rfl, he, hd, hfr⟩
  obtain rfl := out_none he
  rw [if_pos rfl, data_wa] at hd
  have e1 := repl_wa a (y.1, y.1.length) y
  unfold waE at e1
  simp only [dB] at hd
  rw [e1] at hd
  exact ⟨D, rfl, hd, hfr, fun k hk => .inl hk⟩
theorem sync_cut (y : List UInt8 × Nat) (h : Dk.DX w q S (FX a (some y)) D) (hE : Dk.ET w) (hS : OkS S R n) (hf : Fails S) :
    Calls Tryz.prog 26 #[.pointer (some ⟨q, 0, none⟩), .string waN] w fun e w' => CutP w q S (FX a (some y)) D e w' := by
  refine (Dk.dx_sync waN h hE (by decide) hS.cnt hS.2.2.2).mono ?_
  rw [there_wa, begin_cut hf]
  rintro e w' ⟨v', rfl, he, hd, hfr⟩
  obtain ⟨b, rfl, h1, h2⟩ := out_some he (by simp)
  rw [if_neg (by simp)] at hd
  exact ⟨b, D, rfl, h1, h2, hd, hfr, fun k hk => .inl hk⟩
/-- No file: class 30 (or, without power, 32). -/
theorem sync_none (h : Dk.DX w q S (FX a none) D) (hE : Dk.ET w) (hS : OkS S R n) :
    Calls Tryz.prog 26 #[.pointer (some ⟨q, 0, none⟩), .string waN] w fun e w' => ∃ b, e = .returned (Dk.evW b) ∧ Dk.ErrW w' b (if S.off = true then 32 else 30) ∧ w.heap.size ≤ b ∧ Dk.DX w' q S (FX a none) D ∧ Dk.FrO D w w' := by
  refine (Dk.dx_sync waN h hE (by decide) hS.cnt hS.2.2.2).mono ?_
  rw [there_no]
  by_cases ho : S.off = true
  · rw [begin_off ho, if_pos ho]
    rintro e w' ⟨v', rfl, he, hd, hfr⟩
    obtain ⟨b, rfl, h1, h2⟩ := out_some he (by simp)
    rw [if_neg (by simp)] at hd
    exact ⟨b, rfl, h1, h2, hd, hfr⟩
  · rw [begin_bad (by simpa using ho) (by decide), if_neg ho]
    rintro e w' ⟨v', rfl, he, hd, hfr⟩
    obtain ⟨b, rfl, h1, h2⟩ := out_some he (by simp)
    rw [if_neg (by simp)] at hd
    exact ⟨b, rfl, h1, h2, hd, hfr⟩
theorem trunc_wa (a : Fx) (y : List UInt8 × Nat) (m : Nat) (hm : m ≤ y.1.length) : Dk.truncC (FX a (some y)) waN.data.toList (m : Int) = 0 := by
  unfold Dk.truncC
  rw [look_wa]
  simp only [Option.map_some]
  rw [if_pos]
  simp [waE, Dk.fl]; omega
theorem trunc_go (y : List UInt8 × Nat) (m : Nat) (h : Dk.DX w q S (FX a (some y)) D) (hE : Dk.ET w) (hS : OkS S R n) (hm : m ≤ y.1.length) (hm2 : m ≤ 1000000000) (hf : ¬ Fails S) :
    Calls Tryz.prog 56 #[.pointer (some ⟨q, 0, none⟩), .string waN, .int .i64 (m : Int)] w fun e w' => DoneP w q S (FX a (some (y.1.take m, min y.2 m))) D e w' := by
  refine (Dk.dx_trunc waN (m : Int) h hE (by decide) (by omega) hS.cnt hS.2.2.2).mono ?_
  rw [trunc_wa a y m hm, begin_go hf]
  rintro e w' ⟨v', rfl, he, hd, hfr⟩
  obtain rfl := out_none he
  rw [if_pos rfl, data_wa, sure_wa] at hd
  have e1 := repl_wa a (y.1.take m, min y.2 m) y
  unfold waE at e1
  simp only [dB, dS, Int.toNat_natCast] at hd
  rw [e1] at hd
  exact ⟨D, rfl, hd, hfr, fun k hk => .inl hk⟩
theorem trunc_cut (y : List UInt8 × Nat) (m : Nat) (h : Dk.DX w q S (FX a (some y)) D) (hE : Dk.ET w) (hS : OkS S R n) (hm : m ≤ y.1.length) (hm2 : m ≤ 1000000000) (hf : Fails S) :
    Calls Tryz.prog 56 #[.pointer (some ⟨q, 0, none⟩), .string waN, .int .i64 (m : Int)] w fun e w' => CutP w q S (FX a (some y)) D e w' := by
  refine (Dk.dx_trunc waN (m : Int) h hE (by decide) (by omega) hS.cnt hS.2.2.2).mono ?_
  rw [trunc_wa a y m hm, begin_cut hf]
  rintro e w' ⟨v', rfl, he, hd, hfr⟩
  obtain ⟨b, rfl, h1, h2⟩ := out_some he (by simp)
  rw [if_neg (by simp)] at hd
  exact ⟨b, D, rfl, h1, h2, hd, hfr, fun k hk => .inl hk⟩
end
end Go.Proofs.YthphadbcebeoaaaGreatDoor
/- A wal in memory; home, lengthen, write. -/
namespace Go.Proofs.YthphadbcebeoaaaGreatDoor
open Go.RowKit Go.Lib Go.Maps

def wC (q : Nat) (s : Sta) (v : Value) (sz : Nat) : Array Value := #[.pointer (some ⟨q, 0, none⟩), .int .u64 (s.term : Int), .int .u64 (s.vote : Int), .int .u64 (s.base : Int), .int .u64 (s.bt : Int), v, .int .i64 (sz : Int), .int .i64 32768]
/-- A wal at block p, its disk at q; all its blocks from B on. -/
structure WX (w : World) (B p q : Nat) (S : Dk.St) (F : List Dk.Ent) (s : Sta) (v : Value) (sz : Nat) (D : Nat → Prop) : Prop where
  blk : w.heap[p]? = some (.cells (wC q s v sz) 79 (0, 0))
  el : EL w v s.es
  dx : Dk.DX w q S F D
  ap : ¬ inB v p
  dp : ¬ D p
  dv : ∀ g, inB v g → ¬ D g
  bp : B ≤ p
  bv : ∀ g, inB v g → B ≤ g
  bd : ∀ k, D k → B ≤ k
/-- Its own and its disk's. -/
def PD (p : Nat) (D : Nat → Prop) (k : Nat) : Prop := k = p ∨ D k
/-- All its blocks. -/
def WO (p : Nat) (v : Value) (D : Nat → Prop) (k : Nat) : Prop := k = p ∨ inB v k ∨ D k
section
variable {w w' : World} {B p q sz : Nat} {S S' : Dk.St} {F F' : List Dk.Ent} {s : Sta} {v : Value} {D D' : Nat → Prop}
theorem WX.lt (h : WX w B p q S F s v sz D) : ∀ k, WO p v D k → k < w.heap.size := by
  rintro k (rfl | hk | hk)
  · exact (Array.getElem?_eq_some_iff.1 h.blk).1
  · exact h.el.lt hk
  · exact h.dx.lt k hk
theorem WX.cells (h : WX w B p q S F s v sz D) : w.cell? ⟨p, 0, none⟩ = some (.pointer (some ⟨q, 0, none⟩)) ∧ w.cell? ⟨p, 1, none⟩ = some (.int .u64 (s.term : Int)) ∧ w.cell? ⟨p, 2, none⟩ = some (.int .u64 (s.vote : Int)) ∧ w.cell? ⟨p, 3, none⟩ = some (.int .u64 (s.base : Int)) ∧ w.cell? ⟨p, 4, none⟩ = some (.int .u64 (s.bt : Int)) ∧ w.cell? ⟨p, 5, none⟩ = some v ∧ w.cell? ⟨p, 6, none⟩ = some (.int .i64 (sz : Int)) ∧ w.cell? ⟨p, 7, none⟩ = some (.int .i64 32768) :=
  ⟨(Dk.cellB h.blk 0).1, (Dk.cellB h.blk 1).1, (Dk.cellB h.blk 2).1, (Dk.cellB h.blk 3).1, (Dk.cellB h.blk 4).1, (Dk.cellB h.blk 5).1, (Dk.cellB h.blk 6).1, (Dk.cellB h.blk 7).1⟩
theorem WX.frz (h : WX w B p q S F s v sz D) (i : Nat) : w.frozen? ⟨p, i, none⟩ = false := (Dk.cellB h.blk i).2
/-- It stays while none of its blocks turns. -/
theorem WX.keep (h : WX w B p q S F s v sz D) (hz : w.heap.size ≤ w'.heap.size) (hk : ∀ k, WO p v D k → w'.heap[k]? = w.heap[k]?) : WX w' B p q S F s v sz D :=
  ⟨(hk p (.inl rfl)).trans h.blk, h.el.keep (fun g hg => hk g (.inr (.inl hg))), h.dx.fr hz (fun k hk' => hk k (.inr (.inr hk'))), h.ap, h.dp, h.dv, h.bp, h.bv, h.bd⟩
theorem WX.below (h : WX w B p q S F s v sz D) (hb : Below w.heap.size w w') : WX w' B p q S F s v sz D := h.keep hb.size (fun k hk => hb.block k (h.lt k hk))
/-- A call of its disk. -/
theorem WX.disk (h : WX w B p q S F s v sz D) (hB : B ≤ w.heap.size) (hd : Dk.DX w' q S' F' D') (hf : Dk.FrO D w w') (ho : ∀ k, D' k → D k ∨ w.heap.size ≤ k) : WX w' B p q S' F' s v sz D' := by
  have hl := h.lt
  refine ⟨(hf.blk p (hl p (.inl rfl)) h.dp).trans h.blk, h.el.keep (fun g hg => hf.blk g (hl g (.inr (.inl hg))) (h.dv g hg)), hd, h.ap, fun hp => ?_, fun g hg hh => ?_, h.bp, h.bv, fun k hk => ?_⟩
  · rcases ho p hp with h1 | h1
    · exact h.dp h1
    · have := hl p (.inl rfl); omega
  · rcases ho g hh with h1 | h1
    · exact h.dv g hg h1
    · have := hl g (.inr (.inl hg)); omega
  · rcases ho k hk with h1 | h1
    · exact h.bd k h1
    · omega
theorem fro_wide {O O' : Nat → Prop} (h : Dk.FrO O w w') (ho : ∀ k, O k → O' k) : Dk.FrO O' w w' := ⟨h.size, fun k hk hn => h.blk k hk (fun hh => hn (ho k hh)), h.env⟩
theorem fro_below {O : Nat → Prop} (h : Dk.FrO O w w') (hO : ∀ k, O k → B ≤ k) (hB : B ≤ w.heap.size) : Below B w w' := ⟨h.env.1, h.env.2.1, h.env.2.2, h.size, fun k hk => h.blk k (by omega) (fun hh => by have := hO k hh; omega)⟩
theorem WX.wo (h : WX w B p q S F s v sz D) : ∀ k, WO p v D k → B ≤ k := by
  rintro k (rfl | hk | hk)
  · exact h.bp
  · exact h.bv k hk
  · exact h.bd k hk
/-- Its size set. -/
theorem WX.setSize (h : WX w B p q S F s v sz D) (m : Nat) : WX (w.setCell ⟨p, 6, none⟩ (.int .i64 (m : Int))) B p q S F s v m D := by
  have hne : ∀ k, k ≠ p → (w.setCell ⟨p, 6, none⟩ (.int .i64 (m : Int))).heap[k]? = w.heap[k]? := fun k hk => Dk.heap_setCell_ne _ _ hk
  exact ⟨(Dk.heap_setCell_at h.blk _ _).trans rfl, h.el.keep (fun g hg => hne g (fun e => h.ap (e ▸ hg))), h.dx.fr (by simp) (fun k hk => hne k (fun e => h.dp (e ▸ hk))), h.ap, h.dp, h.dv, h.bp, h.bv, h.bd⟩
set_option maxHeartbeats 1600000 in
theorem home_any (h : WX w B p q S F s v sz D) : Calls Tryz.prog 34 #[.pointer (some ⟨p, 0, none⟩)] w fun e w' => e = .returned (.pointer (some ⟨q, 0, none⟩)) ∧ w' = w := by
  obtain ⟨c0, _⟩ := h.cells
  clear h
  go_enter Tryz.func34, Tryz.ntmps34
  go_wp2
  go_ret
  exact ⟨rfl, rfl⟩
end
section
variable {w : World} {B p q sz n : Nat} {S : Dk.St} {R : Int} {a x : Fx} {s : Sta} {v : Value} {D : Nat → Prop}
/-- A wal's call done: the disk's files, the state, the size. -/
def WDone (w : World) (B p q : Nat) (S : Dk.St) (F : List Dk.Ent) (s : Sta) (sz : Nat) (v : Value) (D O : Nat → Prop) (e : Ending) (w' : World) : Prop :=
  ∃ v' D', e = .returned .nilIface ∧ WX w' B p q S F s v' sz D' ∧ Dk.FrO O w w' ∧ (∀ g, inB v' g → inB v g ∨ w.heap.size ≤ g) ∧ ∀ k, D' k → D k ∨ w.heap.size ≤ k
/-- One that was cut off, or refused: an error of a class. -/
def WCut (w : World) (B p q : Nat) (S : Dk.St) (F : List Dk.Ent) (s : Sta) (sz : Nat) (v : Value) (D O : Nat → Prop) (c : Int) (e : Ending) (w' : World) : Prop :=
  ∃ b D', e = .returned (Dk.evW b) ∧ Dk.ErrW w' b c ∧ w.heap.size ≤ b ∧ WX w' B p q S F s v sz D' ∧ Dk.FrO O w w' ∧ ∀ k, D' k → D k ∨ w.heap.size ≤ k
set_option maxHeartbeats 3200000 in
set_option maxRecDepth 100000 in
theorem leng_go (vb : Value) (lb : List UInt8) (h : WX w B p q S (FX a x) s v sz D) (hB : B ≤ w.heap.size) (hE : EV w B) (hS : OkS S R n) (hm : Roomy R a x lb.length) (hv : Dk.RBo w D vb lb) (hf : ¬ Fails S) (hz : sz ≤ 1000000) :
    Calls Tryz.prog 82 #[.pointer (some ⟨p, 0, none⟩), vb] w fun e w' => WDone w B p q (nx S) (FX a (some (dB x ++ lb, dS x))) s (sz + lb.length) v D (PD p D) e w' := by
  obtain ⟨ba, bk, rfl⟩ := hv.slice
  have hlb : (lb.length : Int) ≤ 1000000 := by have := hm.1; have := hm.2; omega
  have HM := hide (home_any h)
  have HA : Hid (Calls Tryz.prog 25 #[.pointer (some ⟨q, 0, none⟩), .string waN, .slice ba lb.length bk] w fun e w1 => e = .returned .nilIface ∧ w1.cell? ⟨p, 6, none⟩ = some (.int .i64 (sz : Int)) ∧ w1.frozen? ⟨p, 6, none⟩ = false ∧ Hid (WDone w B p q (nx S) (FX a (some (dB x ++ lb, dS x))) s (sz + lb.length) v D (PD p D) (.returned .nilIface) (w1.setCell ⟨p, 6, none⟩ (.int .i64 ((sz + lb.length : Nat) : Int))))) := by
    refine (app_go _ lb h.dx hE.et hS hm hv hf).mono ?_
    rintro e w1 ⟨D', rfl, hd, hfr, ho⟩
    have h1 := h.disk hB hd hfr ho
    refine ⟨rfl, h1.cells.2.2.2.2.2.2.1, h1.frz 6, v, D', rfl, h1.setSize _, (fro_wide hfr (fun k hk => .inr hk)).set (.inl rfl) _ _, fun g hg => .inl hg, ho⟩
  have hw : IntKind.i64.wrap ((sz : Int) + (lb.length : Int)) = (sz : Int) + (lb.length : Int) := by rw [IntKind.wrap_i64] <;> omega
  clear h hE hS hm hv hf hB
  unfold waN at HA
  go_enter Tryz.func82, Tryz.ntmps82
  go_wp2_with (first
    | (go_at_call 34; refine (unhide HM).mono ?_; rintro e w1 ⟨rfl, rfl⟩; clear HM)
    | (go_at_call 25; refine (unhide HA).mono ?_; rintro e w1 ⟨rfl, c6, f6, HW⟩; clear HA))
  go_ret
  have := unhide HW
  simpa using this
set_option maxHeartbeats 3200000 in
set_option maxRecDepth 100000 in
theorem leng_cut (vb : Value) (lb : List UInt8) (h : WX w B p q S (FX a x) s v sz D) (hB : B ≤ w.heap.size) (hE : EV w B) (hS : OkS S R n) (hm : Roomy R a x lb.length) (hv : Dk.RBo w D vb lb) (hf : Fails S) :
    Calls Tryz.prog 82 #[.pointer (some ⟨p, 0, none⟩), vb] w fun e w' => WCut w B p q (dn S) (FX a x) s sz v D (PD p D) 32 e w' := by
  obtain ⟨ba, bk, rfl⟩ := hv.slice
  have HM := hide (home_any h)
  have HA : Hid (Calls Tryz.prog 25 #[.pointer (some ⟨q, 0, none⟩), .string waN, .slice ba lb.length bk] w fun e w1 => ∃ b, e = .returned (Dk.evW b) ∧ Hid (WCut w B p q (dn S) (FX a x) s sz v D (PD p D) 32 (.returned (Dk.evW b)) w1)) := by
    refine (app_cut _ lb h.dx hE.et hS hm hv hf).mono ?_
    rintro e w1 ⟨b, D', rfl, h1, h2, hd, hfr, ho⟩
    exact ⟨b, rfl, b, D', rfl, h1, h2, h.disk hB hd hfr ho, fro_wide hfr (fun k hk => .inr hk), ho⟩
  clear h hE hS hm hv hf hB
  unfold waN at HA
  go_enter Tryz.func82, Tryz.ntmps82
  go_wp2_with (first
    | (go_at_call 34; refine (unhide HM).mono ?_; rintro e w1 ⟨rfl, rfl⟩; clear HM)
    | (go_at_call 25; refine (unhide HA).mono ?_; rintro e w1 ⟨b, rfl, HW⟩; clear HA))
  go_ret
  exact unhide HW
end
end Go.Proofs.YthphadbcebeoaaaGreatDoor
