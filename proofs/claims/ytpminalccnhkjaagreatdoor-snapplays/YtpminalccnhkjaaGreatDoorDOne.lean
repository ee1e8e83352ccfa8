/- A disk that has one file at most. -/
import Derived.Test.YtpminalccnhkjaaGreatDoorDCrash
import Derived.Test.YtpminalccnhkjaaGreatDoorDRead
namespace Go.Proofs.YtpminalccnhkjaaGreatDoor.Dk
open Go.RowKit Go.Lib Go.Maps Go.WideMaps

/-- The file of this name: none, or its bytes and how many are sure. -/
def Shape (n : List UInt8) (L : List Ent) : Option (List UInt8 × Nat) → Prop
  | none => L = []
  | some (d, su) => ∃ fp v, L = [⟨n, fp, v, d, su⟩]
/-- A disk with that file alone, in blocks from B on. -/
def D1 (w : World) (B p : Nat) (S : St) (n : List UInt8) (st : Option (List UInt8 × Nat)) : Prop :=
  ∃ mb L O, DK w p S mb L O ∧ (∀ k, O k → B ≤ k ∧ k < w.heap.size) ∧ Shape n L st
def dataOf : Option (List UInt8 × Nat) → List UInt8
  | some x => x.1
  | none => []
def sureOf : Option (List UInt8 × Nat) → Nat
  | some x => x.2
  | none => 0
/-- Nothing below B turns. -/
structure FrB (B : Nat) (w w' : World) : Prop where
  size : w.heap.size ≤ w'.heap.size
  blk : ∀ k, k < B → k < w.heap.size → w'.heap[k]? = w.heap[k]?
  env : Env w w'
theorem FrB.refl (B : Nat) (w : World) : FrB B w w := ⟨Nat.le_refl _, fun _ _ _ => rfl, rfl, rfl, rfl⟩
theorem FrB.trans {B : Nat} {a b c : World} (h : FrB B a b) (h' : FrB B b c) : FrB B a c := ⟨Nat.le_trans h.size h'.size, fun k hk hl => (h'.blk k hk (Nat.lt_of_lt_of_le hl h.size)).trans (h.blk k hk hl), h.env.trans h'.env⟩
theorem FrB.of_below {B : Nat} {w w' : World} (h : Below w.heap.size w w') : FrB B w w' := ⟨h.size, fun k _ hl => h.block k hl, h.os, h.tape, h.output⟩
theorem FrB.of_fr {B : Nat} {O : Nat → Prop} {w w' : World} (h : FrO O w w') (hO : ∀ k, O k → B ≤ k) : FrB B w w' := ⟨h.size, fun k hk hl => h.blk k hl (fun hh => absurd (hO k hh) (by omega)), h.env⟩
theorem ET.frB {B : Nat} {w w' : World} (h : ET w) (hf : FrB B w w') (hB : 0 < B) : ET w' := (cell_same (hf.blk _ hB h.lt) 0).trans h
theorem FrB.below {B : Nat} {w w' : World} (h : FrB B w w') (hB : B ≤ w.heap.size) : Below B w w' := ⟨h.env.1, h.env.2.1, h.env.2.2, h.size, fun k hk => h.blk k hk (by omega)⟩
/-- An error that is told. -/
def ErrV (w : World) (v : Value) (c : Int) : Prop := (v = .nilIface ∧ c = 0) ∨ (c ≠ 0 ∧ ∃ b, v = evW b ∧ ErrW w b c)
theorem ErrOut.v {O : Nat → Prop} {w : World} {v : Value} {c : Int} (h : ErrOut O w v c) : ErrV w v c := by
  rcases h with h | ⟨h1, b, h2, h3, _⟩
  · exact .inl h
  · exact .inr ⟨h1, b, h2, h3⟩
/-- Bytes in blocks from n on. -/
def RBn (w : World) (n : Nat) (v : Value) (l : List UInt8) : Prop :=
  l.length ≤ 1000000000 ∧ ((v = .slice none 0 0 ∧ l = []) ∨
    ∃ b off cap, n ≤ b ∧ b < w.heap.size ∧ l.length ≤ cap ∧ cap ≤ maxLen ∧ v = .slice (some ⟨b, off, none⟩) l.length cap ∧ ∀ i, i < l.length → w.cell? ⟨b, off + i, none⟩ = some (.int .u8 ((l.getD i 0).toNat : Int)))
theorem RBn.o {w : World} {n : Nat} {O : Nat → Prop} {v : Value} {l : List UInt8} (h : RBn w n v l) (hO : ∀ k, O k → k < n) : RBo w O v l := by
  obtain ⟨h1, h2 | ⟨b, off, cap, hb, hl, h3, h4, rfl, hc⟩⟩ := h
  · exact ⟨h1, .inl h2⟩
  · exact ⟨h1, .inr ⟨b, off, cap, hl, fun hh => absurd (hO b hh) (by omega), h3, h4, rfl, hc⟩⟩

theorem look1 {n : List UInt8} {L : List Ent} {st : Option (List UInt8 × Nat)} (h : Shape n L st) : (st = none → L = [] ∧ look L n = none) ∧ (∀ d su, st = some (d, su) → ∃ fp v, L = [⟨n, fp, v, d, su⟩] ∧ look L n = some ⟨n, fp, v, d, su⟩) := by
  constructor
  · rintro rfl
    have : L = [] := h
    subst this
    exact ⟨rfl, rfl⟩
  · rintro d su rfl
    obtain ⟨fp, v, rfl⟩ := h
    exact ⟨fp, v, rfl, by simp [look]⟩
theorem used1 {n : List UInt8} {L : List Ent} {st : Option (List UInt8 × Nat)} (h : Shape n L st) : usedL L = (dataOf st).length := by
  cases st with
  | none => have : L = [] := h; subst this; rfl
  | some x => obtain ⟨fp, v, rfl⟩ := h; simp [usedL, dataOf]
theorem D1.later {w w' : World} {B p : Nat} {S : St} {n : List UInt8} {st : Option (List UInt8 × Nat)} (h : D1 w B p S n st) (hb : Below w.heap.size w w') : D1 w' B p S n st := by
  obtain ⟨mb, L, O, hd, hO, hs⟩ := h
  exact ⟨mb, L, O, hd.below (fun k hk => (hO k hk).2) hb, fun k hk => ⟨(hO k hk).1, Nat.lt_of_lt_of_le (hO k hk).2 hb.size⟩, hs⟩

/-- Why an Append to that file is refused. -/
def app1 (S : St) (st : Option (List UInt8 × Nat)) (m : Nat) : Int := if (m : Int) ≤ S.room - ((dataOf st).length : Int) ∧ (m : Int) ≤ 1048576 - ((dataOf st).length : Int) then 0 else 31
theorem app1_eq {S : St} {n : List UInt8} {L : List Ent} {st : Option (List UInt8 × Nat)} {m : Nat} (h : Shape n L st) (hn : okN n = true) : appC S L n m = app1 S st m := by
  have hu := used1 h
  have hfb : ∀ k, k = (dataOf st).length → (if fitsB S L k m = true then (0 : Int) else 31) = app1 S st m := by
    rintro k rfl
    unfold fitsB app1
    rw [hu]
    simp only [Bool.and_eq_true, decide_eq_true_eq]
  cases st with
  | none =>
    obtain ⟨rfl, hl⟩ := (look1 h).1 rfl
    have ha : anotherC [] n = 0 := by unfold anotherC; rw [if_pos hn]; rfl
    unfold appC
    rw [hl]
    simp only [ha, if_true]
    exact hfb 0 rfl
  | some x =>
    obtain ⟨fp, v, rfl, hl⟩ := (look1 h).2 x.1 x.2 rfl
    unfold appC
    rw [hl]
    exact hfb x.1.length rfl

theorem d1_append {w0 W : World} {B p : Nat} {S : St} {st : Option (List UInt8 × Nat)} (s : ByteArray) (v : Value) (lb : List UInt8) (h : D1 w0 B p S s.data.toList st) (hb : Below w0.heap.size w0 W) (hB : B ≤ w0.heap.size) (hE : ET W) (hs : s.size ≤ 1000) (hn : okN s.data.toList = true)
    (hr : 0 ≤ S.room ∧ S.room ≤ 4611686018427387904) (hc : 0 ≤ S.count ∧ S.count < 1000000000) (hl : S.halting = true → 0 ≤ S.left ∧ S.left < 9223372036854775808) (hv : RBn W w0.heap.size v lb) :
    Calls Tryz.prog 8 #[.pointer (some ⟨p, 0, none⟩), .string s, v] W fun e w' => ∃ v', e = .returned v' ∧ ErrV w' v' (beginS S (app1 S st lb.length)).2 ∧ FrB B W w' ∧
      D1 w' B p (beginS S (app1 S st lb.length)).1 s.data.toList (if (beginS S (app1 S st lb.length)).2 = 0 then some (dataOf st ++ lb, sureOf st) else st) := by
  obtain ⟨mb, L, O, hd, hO, hsh⟩ := h
  have hW := hb.size
  refine (append_any s v lb (hd.below (fun k hk => (hO k hk).2) hb) (fun k hk => Nat.lt_of_lt_of_le (hO k hk).2 hW) hE hs hr hc hl (hv.o (fun k hk => (hO k hk).2))).mono ?_
  rintro e w' ⟨v', mb', L', rfl, he, hd', hf, h1, h2⟩
  rw [app1_eq hsh hn] at he hd' h1 h2
  refine ⟨v', rfl, he.v, FrB.of_fr hf (fun k hk => (hO k hk).1), mb', L', _, hd', fun k hk => ?_, ?_⟩
  · have := hf.size
    rcases hk with hk | hk
    · have := hO k hk; omega
    · omega
  · by_cases h0 : (beginS S (app1 S st lb.length)).2 = 0
    · rw [if_pos h0]
      obtain ⟨e', rfl, hen, hed, hes⟩ := h2 h0
      cases st with
      | none =>
        obtain ⟨rfl, hlk⟩ := (look1 hsh).1 rfl
        refine ⟨e'.fp, e'.v, ?_⟩
        unfold oldData at hed
        unfold oldSure at hes
        rw [hlk] at hed hes
        show [e'] = _
        cases e'
        simp only at hen hed hes
        simp [hen, hed, hes, dataOf, sureOf]
      | some x =>
        obtain ⟨fp, v0, rfl, hlk⟩ := (look1 hsh).2 x.1 x.2 rfl
        refine ⟨e'.fp, e'.v, ?_⟩
        unfold oldData at hed
        unfold oldSure at hes
        rw [hlk] at hed hes
        have : putE e' [⟨s.data.toList, fp, v0, x.1, x.2⟩] = [e'] := by
          unfold putE delE
          simp [hen, insE]
        rw [this]
        cases e'
        simp only at hen hed hes
        simp [hen, hed, hes, dataOf, sureOf]
    · rw [if_neg h0, h1 h0]; exact hsh

theorem d1_sync {w : World} {B p : Nat} {S : St} {st : Option (List UInt8 × Nat)} (s : ByteArray) (h : D1 w B p S s.data.toList st) (hE : ET w) (hs : s.size ≤ 1000) (hc : 0 ≤ S.count ∧ S.count < 1000000000) (hl : S.halting = true → 0 ≤ S.left ∧ S.left < 9223372036854775808) :
    Calls Tryz.prog 9 #[.pointer (some ⟨p, 0, none⟩), .string s] w fun e w' => ∃ v', e = .returned v' ∧ ErrV w' v' (beginS S (if st = none then 30 else 0)).2 ∧ FrB B w w' ∧
      D1 w' B p (beginS S (if st = none then 30 else 0)).1 s.data.toList (if (beginS S (if st = none then 30 else 0)).2 = 0 then some (dataOf st, (dataOf st).length) else st) := by
  obtain ⟨mb, L, O, hd, hO, hsh⟩ := h
  refine (sync_any s hd (fun k hk => (hO k hk).2) hE (by unfold maxLen; omega) hc hl).mono ?_
  rintro e w' ⟨v', L', rfl, he, hd', hf, h1, h2⟩
  have hth : thereC L s.data.toList = if st = none then 30 else 0 := by
    unfold thereC
    cases st with
    | none => rw [((look1 hsh).1 rfl).2]; rfl
    | some x => obtain ⟨fp, v, _, hlk⟩ := (look1 hsh).2 x.1 x.2 rfl; rw [hlk]; rfl
  rw [hth] at he hd' h1 h2
  refine ⟨v', rfl, he.v, FrB.of_fr hf (fun k hk => (hO k hk).1), mb, L', O, hd', fun k hk => ⟨(hO k hk).1, Nat.lt_of_lt_of_le (hO k hk).2 hf.size⟩, ?_⟩
  by_cases h0 : (beginS S (if st = none then 30 else 0)).2 = 0
  · rw [if_pos h0]
    obtain ⟨e', hlk', rfl⟩ := h2 h0
    cases st with
    | none => rw [((look1 hsh).1 rfl).2] at hlk'; cases hlk'
    | some x =>
      obtain ⟨fp, v, rfl, hlk⟩ := (look1 hsh).2 x.1 x.2 rfl
      rw [hlk] at hlk'
      cases hlk'
      exact ⟨fp, v, by simp [repl, syncE, dataOf]⟩
  · rw [if_neg h0, h1 h0]; exact hsh

theorem d1_crash {w0 W : World} {B p : Nat} {S : St} {n : List UInt8} {st : Option (List UInt8 × Nat)} (kv : Value) (ks : List Int) (h : D1 w0 B p S n st) (hb : Below w0.heap.size w0 W) (hn : n.length ≤ 1000) (hk : KeepAt W (fun k => k < w0.heap.size) kv ks) (hkl : ks.length ≤ 1000000) :
    Calls Tryz.prog 11 #[.pointer (some ⟨p, 0, none⟩), .agg #[kv]] W fun e w' => e = .returned (.tuple #[]) ∧ FrB B W w' ∧
      D1 w' B p { S with off := false, halting := false, left := 0 } n (st.map fun x => (x.1.take (x.2 + min (ks.getD 0 0).toNat (x.1.length - x.2)), x.2 + min (ks.getD 0 0).toNat (x.1.length - x.2))) := by
  obtain ⟨mb, L, O, hd, hO, hsh⟩ := h
  have hW := hb.size
  have hkO : KeepAt W O kv ks := by
    obtain ⟨h1, h2 | ⟨b, off, cap, hb, hn, h3, h4, rfl, hc⟩⟩ := hk
    · exact ⟨h1, .inl h2⟩
    · exact ⟨h1, .inr ⟨b, off, cap, hb, fun hh => hn (hO b hh).2, h3, h4, rfl, hc⟩⟩
  have hnm : ∀ e ∈ L, e.name.length ≤ 1000 := by
    cases st with
    | none => have : L = [] := hsh; subst this; intro e he; cases he
    | some x => obtain ⟨fp, v, rfl⟩ := hsh; intro e he; simp at he; subst he; exact hn
  refine (crash_any kv ks (hd.below (fun k hk => (hO k hk).2) hb) (fun k hk => Nat.lt_of_lt_of_le (hO k hk).2 hW) hkO hkl hnm).mono ?_
  rintro e w' ⟨rfl, hd', hf⟩
  refine ⟨rfl, FrB.of_fr hf (fun k hk => (hO k hk).1), mb, _, O, hd', fun k hk => ⟨(hO k hk).1, Nat.lt_of_lt_of_le (hO k hk).2 (Nat.le_trans hW hf.size)⟩, ?_⟩
  cases st with
  | none => have : L = [] := hsh; subst this; exact rfl
  | some x =>
    obtain ⟨fp, v, rfl⟩ := hsh
    exact ⟨fp, _, rfl⟩

theorem d1_read {w : World} {B p : Nat} {S : St} {n : List UInt8} {st : Option (List UInt8 × Nat)} (s : ByteArray) (h : D1 w B p S n st) (hE : ET w) (hs : s.size ≤ 1000) (hoff : S.off = false) :
    Calls Tryz.prog 14 #[.pointer (some ⟨p, 0, none⟩), .string s] w fun e w' => Below w.heap.size w w' ∧
      (((st = none ∨ s.data.toList ≠ n) ∧ ∃ b, e = .returned (.tuple #[.slice none 0 0, evW b]) ∧ ErrW w' b 30) ∨
       (s.data.toList = n ∧ ∃ d su v, st = some (d, su) ∧ e = .returned (.tuple #[v, .nilIface]) ∧ w'.ownsRow w.heap.size 5 1 v d.length (byteCells d))) := by
  obtain ⟨mb, L, O, hd, hO, hsh⟩ := h
  refine (read_any s hd hE (by unfold maxLen; omega)).mono ?_
  rintro e w' ⟨hb, h1⟩
  refine ⟨hb, ?_⟩
  have hcn : ∀ {x}, look L s.data.toList = x → readC S L s.data.toList = match x with | some _ => 0 | none => 30 := fun {x} hx => by
    unfold readC; rw [if_neg (by rw [hoff]; decide), hx]; cases x <;> rfl
  have hnone : (st = none ∨ s.data.toList ≠ n) → look L s.data.toList = none := by
    rintro (rfl | hne)
    · have : L = [] := hsh; subst this; rfl
    · cases st with
      | none => have : L = [] := hsh; subst this; rfl
      | some x => obtain ⟨fp, v, rfl⟩ := hsh; simp [look]; exact fun hh => hne hh.symm
  by_cases hq : st = none ∨ s.data.toList ≠ n
  · have hl := hnone hq
    have hc := hcn hl
    rcases h1 with ⟨_, b, he, hw⟩ | ⟨h0, _⟩
    · left; refine ⟨hq, b, he, ?_⟩
      rw [hc] at hw; exact hw
    · rw [hc] at h0; exact absurd h0 (by decide)
  · have hne : st ≠ none := fun hh => hq (.inl hh)
    have hsn : s.data.toList = n := Classical.byContradiction fun hh => hq (.inr hh)
    cases st with
    | none => exact absurd rfl hne
    | some x =>
      subst hsn
      obtain ⟨fp, v, rfl, hlk⟩ := (look1 hsh).2 x.1 x.2 rfl
      have hc := hcn hlk
      rcases h1 with ⟨h0, _⟩ | ⟨_, e0, v0, hl, he, hr⟩
      · exact absurd hc h0
      · right
        rw [hlk] at hl
        cases hl
        exact ⟨rfl, x.1, x.2, v0, rfl, he, hr⟩
end Go.Proofs.YtpminalccnhkjaaGreatDoor.Dk
