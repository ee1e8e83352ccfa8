/- another, fits. -/
import Derived.Test.YthphadbcebeoaaaGreatDoorJDNameDApp0
namespace Go.Proofs.YthphadbcebeoaaaGreatDoor.Dk
open Go.RowKit Go.Lib Go.Maps Go.WideMaps

/-- What another answers: no error, or a class. -/
def anotherC (L : List Ent) (n : List UInt8) : Int := if okN n = true then (if L.length < 64 then 0 else 31) else 20

set_option maxHeartbeats 1600000 in
set_option maxRecDepth 100000 in
theorem another_bad {w : World} {p : Nat} {S : St} {mb : Option Nat} {L : List Ent} {O : Nat → Prop} (s : ByteArray) (h : DK w p S mb L O) (hs : s.size ≤ maxLen) (hc : anotherC L s.data.toList ≠ 0) :
    Calls Tryz.prog 45 #[.pointer (some ⟨p, 0, none⟩), .string s] w fun e w' => e = .returned (.tuple #[.pointer none, evC (anotherC L s.data.toList)]) ∧ w' = w := by
  have HN := hide (nameMayBe_any s w hs)
  obtain ⟨_, c1, _⟩ := h.cells
  have hlen : Hid ((Builtin.len_ #[71] 3 #[.map mb]).run Tryz.prog w = .ok (.int .i64 (L.length : Int)) w) := by
    cases mb with
    | none => rw [h.none rfl]; exact Maps.len_nil Tryz.underlying71 _
    | some b => have := (h.some b rfl).len Tryz.underlying71 3; rw [size_DL] at this; exact this
  clear h
  unfold anotherC at hc ⊢
  by_cases hn : okN s.data.toList = true
  · rw [if_pos hn] at hc ⊢
    by_cases hl : L.length < 64
    · rw [if_pos hl] at hc; exact absurd rfl hc
    · rw [if_neg hl]
      rw [hn] at HN
      have hl' : (64 : Int) ≤ (L.length : Int) := by omega
      have hlen := unhide hlen
      go_enter Tryz.func45, Tryz.ntmps45
      go_wp2_with (first | (go_at_call 70; refine (unhide HN).mono ?_; rintro e w1 ⟨rfl, rfl⟩))
      go_ret2
      exact ⟨rfl, rfl⟩
  · have hn' : okN s.data.toList = false := by simpa using hn
    rw [if_neg hn]
    rw [hn'] at HN
    clear hlen
    go_enter Tryz.func45, Tryz.ntmps45
    go_wp2_with (first | (go_at_call 70; refine (unhide HN).mono ?_; rintro e w1 ⟨rfl, rfl⟩))
    go_ret2
    exact ⟨rfl, rfl⟩

set_option maxHeartbeats 1600000 in
set_option maxRecDepth 100000 in
theorem another_ok {w : World} {p : Nat} {S : St} {mb : Option Nat} {L : List Ent} {O : Nat → Prop} (s : ByteArray) (h : DK w p S mb L O) (hs : s.size ≤ maxLen) (hc : anotherC L s.data.toList = 0) :
    Calls Tryz.prog 45 #[.pointer (some ⟨p, 0, none⟩), .string s] w fun e w' => e = .returned (.tuple #[.pointer (some ⟨w.heap.size, 0, none⟩), .nilIface]) ∧ w' = w.alloc (.cells #[.slice none 0 0, .int .i64 0] 104) := by
  have HN := hide (nameMayBe_any s w hs)
  obtain ⟨_, c1, _⟩ := h.cells
  have hlen : (Builtin.len_ #[71] 3 #[.map mb]).run Tryz.prog w = .ok (.int .i64 (L.length : Int)) w := by
    cases mb with
    | none => rw [h.none rfl]; exact Maps.len_nil Tryz.underlying71 _
    | some b => have := (h.some b rfl).len Tryz.underlying71 3; rw [size_DL] at this; exact this
  clear h
  unfold anotherC at hc
  by_cases hn : okN s.data.toList = true
  · rw [if_pos hn] at hc
    by_cases hl : L.length < 64
    · rw [hn] at HN
      have hl' : ¬ (64 : Int) ≤ (L.length : Int) := by omega
      go_enter Tryz.func45, Tryz.ntmps45
      go_wp2_with (first | (go_at_call 70; refine (unhide HN).mono ?_; rintro e w1 ⟨rfl, rfl⟩))
      go_ret2
      exact ⟨rfl, rfl⟩
    · rw [if_neg hl] at hc; exact absurd hc (by decide)
  · rw [if_neg hn] at hc; exact absurd hc (by decide)

/-- Do n bytes more fit behind m? -/
def fitsB (S : St) (L : List Ent) (m n : Nat) : Bool := decide ((n : Int) ≤ S.room - (usedL L : Int)) && decide ((n : Int) ≤ 1048576 - (m : Int))
theorem usedL_le {w : World} {p : Nat} {S : St} {mb : Option Nat} {L : List Ent} {O : Nat → Prop} (h : DK w p S mb L O) : usedL L ≤ 64 * 1048576 := by
  rw [← gone_none (left := fun _ => false) (fun _ => rfl)]
  exact Nat.le_trans (gone_le 1048576 (fun e he => (h.files e he).len)) (Nat.mul_le_mul_right _ h.few)

set_option maxHeartbeats 1600000 in
set_option maxRecDepth 100000 in
theorem fits_any {w : World} {p : Nat} {S : St} {mb : Option Nat} {L : List Ent} {O : Nat → Prop} (fp m n : Nat) (a : Option Addr) (k : Nat) (h : DK w p S mb L O) (hr : 0 ≤ S.room ∧ S.room ≤ 4611686018427387904) (hm : m ≤ 1048576)
    (hf : w.cell? ⟨fp, 0, none⟩ = some (.slice a m k)) :
    Calls Tryz.prog 46 #[.pointer (some ⟨p, 0, none⟩), .pointer (some ⟨fp, 0, none⟩), .int .i64 (n : Int)] w fun e w' => e = .returned (.bool (fitsB S L m n)) ∧ Below w.heap.size w w' := by
  obtain ⟨c0, _⟩ := h.cells
  have HU := hide (used_any (h.same (w' := w.drew) fun _ _ => rfl))
  have hu := usedL_le h
  have hp := h.lt
  have hfl := lt_of_cell hf
  obtain ⟨hr0, hr1⟩ := hr
  generalize hU : usedL L = u at *
  have hF : fitsB S L m n = (decide ((n : Int) ≤ S.room - (u : Int)) && decide ((n : Int) ≤ 1048576 - (m : Int))) := by unfold fitsB; rw [hU]
  rw [hF]
  have hw1 : IntKind.i64.wrap (S.room - (u : Int)) = S.room - (u : Int) := by rw [IntKind.wrap_i64] <;> omega
  have hw2 : IntKind.i64.wrap (1048576 - (m : Int)) = 1048576 - (m : Int) := by rw [IntKind.wrap_i64] <;> omega
  clear h hU hF
  by_cases h1 : (n : Int) ≤ S.room - (u : Int)
  · go_enter Tryz.func46, Tryz.ntmps46
    go_wp2
    go_region_with (first | (go_at_call 71; refine (unhide HU).mono ?_; rintro e w1 ⟨rfl, hb1⟩; have c01 := (hb1.cell (p := ⟨p, 0, none⟩) hp).trans c0; have hf1 := (hb1.cell (p := ⟨fp, 0, none⟩) hfl).trans hf))
    all_goals
      go_wp2
      go_ret
      refine ⟨?_, below_of_drew hb1⟩
      rw [decide_eq_true h1, Bool.true_and]
      rfl
  · have hx : ((n : Int) ≤ S.room - (u : Int)) = False := eq_false h1
    clear h1
    go_enter Tryz.func46, Tryz.ntmps46
    go_wp2
    first | (go_region_with (first | (go_at_call 71; refine (unhide HU).mono ?_; rintro e w1 ⟨rfl, hb1⟩; have c01 := (hb1.cell (p := ⟨p, 0, none⟩) hp).trans c0; have hf1 := (hb1.cell (p := ⟨fp, 0, none⟩) hfl).trans hf))) | fail
    all_goals
      go_wp2
      go_ret
      refine ⟨?_, below_of_drew hb1⟩
      rw [decide_eq_false (fun hh => by rw [hx] at hh; exact hh), Bool.false_and]
      rfl
end Go.Proofs.YthphadbcebeoaaaGreatDoor.Dk
/- States within Append. -/
namespace Go.Proofs.YthphadbcebeoaaaGreatDoor.Dk
open Go.RowKit Go.Lib Go.Maps Go.WideMaps

def oldData (L : List Ent) (n : List UInt8) : List UInt8 := match look L n with | some e => e.data | none => []
def oldSure (L : List Ent) (n : List UInt8) : Nat := match look L n with | some e => e.sure | none => 0
/-- Why an Append is refused, if it is. -/
def appC (S : St) (L : List Ent) (n : List UInt8) (len : Nat) : Int := match look L n with
  | some e => if fitsB S L e.data.length len = true then 0 else 31
  | none => if anotherC L n = 0 then (if fitsB S L 0 len = true then 0 else 31) else anotherC L n

/-- What Append leaves. -/
def AppPost (w : World) (p : Nat) (S : St) (L : List Ent) (O : Nat → Prop) (n : List UInt8) (lb : List UInt8) (e : Ending) (w' : World) : Prop :=
  ∃ v mb' L', e = .returned v ∧ ErrOut (Old w) w' v (beginS S (appC S L n lb.length)).2 ∧ DK w' p (beginS S (appC S L n lb.length)).1 mb' L' (From O w.heap.size w') ∧ FrO O w w' ∧
    ((beginS S (appC S L n lb.length)).2 ≠ 0 → L' = L) ∧
    ((beginS S (appC S L n lb.length)).2 = 0 → ∃ e', L' = putE e' L ∧ e'.name = n ∧ e'.data = oldData L n ++ lb ∧ e'.sure = oldSure L n)

theorem beginS_ne {S : St} {c : Int} (h : c ≠ 0) : (beginS S c).2 ≠ 0 ∧ (beginS S c).1 = S := by
  unfold beginS
  by_cases ho : S.off = true
  · rw [if_pos ho]; exact ⟨fun hh => absurd (show (32 : Int) = 0 from hh) (by decide), rfl⟩
  · rw [if_neg ho, if_pos h]; exact ⟨h, rfl⟩

theorem fits_le {S : St} {L : List Ent} {m n : Nat} (h : fitsB S L m n = true) : m + n ≤ 1048576 := by
  unfold fitsB at h
  simp only [Bool.and_eq_true, decide_eq_true_eq] at h
  omega

theorem grown_fr {w w' : World} {O : Nat → Prop} {row : Option Nat} (h : w.grownBy w' row) (hr : ∀ k, row = some k → O k) : FrO O w w' :=
  ⟨h.size, fun k hk hn => h.block k hk (fun e => hn (hr k e.symm)), h.os, h.tape, h.output⟩

/-- A file that is there is longer. -/
theorem app_old {w w' : World} {p : Nat} {S : St} {mb : Option Nat} {L : List Ent} {O : Nat → Prop} (h : DK w p S mb L O) (hO : ∀ k, O k → k < w.heap.size) (e : Ent) (he : e ∈ L) (v' : Value) (lb : List UInt8)
    (hrow : w'.ownsRow 0 5 1 v' (e.data.length + lb.length) (byteCells e.data ++ byteCells lb)) (hg : w.grownBy w' e.v.ownBlock) (hloc : v'.ownBlock = e.v.ownBlock ∨ v'.ownBlock = some w.heap.size) (hlen : e.data.length + lb.length ≤ 1048576) :
    DK (w'.setCell ⟨e.fp, 0, none⟩ v') p S mb (repl ⟨e.name, e.fp, v', e.data ++ lb, e.sure⟩ L) (From O w.heap.size (w'.setCell ⟨e.fp, 0, none⟩ v')) ∧
    FileAt (w'.setCell ⟨e.fp, 0, none⟩ v') ⟨e.name, e.fp, v', e.data ++ lb, e.sure⟩ ∧ FrO O w (w'.setCell ⟨e.fp, 0, none⟩ v') := by
  have hef := h.files e he
  have hne : e.v.ownBlock ≠ some e.fp := by
    intro hx
    rcases hef.row.2 with ⟨e1, _⟩ | ⟨g, cap, cur, e1, _, hc, _⟩
    · rw [e1] at hx; simp [Value.ownBlock] at hx
    · rw [e1] at hx; simp [Value.ownBlock] at hx; subst hx; rw [hef.blk] at hc; injection hc with hc; injection hc with _ h2; exact absurd h2 (by decide)
  have hb : w'.heap[e.fp]? = some (.cells #[e.v, .int .i64 (e.sure : Int)] 104 (0, 0)) := (hg.block e.fp hef.lt (fun hx => hne hx.symm)).trans hef.blk
  have hne' : v'.ownBlock ≠ some e.fp := by
    rcases hloc with hl | hl
    · rw [hl]; exact hne
    · rw [hl]; intro hx; injection hx with hx; have := hef.lt; omega
  have hf : FileAt (w'.setCell ⟨e.fp, 0, none⟩ v') ⟨e.name, e.fp, v', e.data ++ lb, e.sure⟩ := by
    refine ⟨heap_setCell_at hb 0 v', ownsRow_of_same (w := w') ?_ (fun k hk => heap_setCell_ne 0 v' (fun hx => hne' (by rw [hk, hx]))), ?_, ?_⟩
    · show w'.ownsRow 0 5 1 v' (e.data ++ lb).length (byteCells (e.data ++ lb))
      rw [List.length_append, Lib.byteCells_append]; exact hrow
    · show e.sure ≤ (e.data ++ lb).length
      rw [List.length_append]; have := hef.sure; omega
    · show (e.data ++ lb).length ≤ 1048576
      rw [List.length_append]; exact hlen
  have hfr : FrO O w (w'.setCell ⟨e.fp, 0, none⟩ v') := (grown_fr hg (h.oR e he)).set (h.oF e he) 0 v'
  refine ⟨dk_repl h e _ he rfl rfl hf (fun k hk => .inl hk) (fun k hk => ?_) hO ?_ (fun k hk h1 h2 => ?_), hf, hfr⟩
  · rcases hloc with hl | hl
    · exact .inl (h.oR e he k (hl ▸ hk))
    · have hk : v'.ownBlock = some k := hk
      rw [hl] at hk; cases hk
      refine .inr ⟨Nat.le_refl _, ?_⟩
      rcases hrow.2 with ⟨e1, _⟩ | ⟨g, cap, cur, e1, _, hc, _⟩
      · rw [e1] at hl; simp [Value.ownBlock] at hl
      · rw [e1] at hl; simp [Value.ownBlock] at hl; subst hl
        simpa using (Array.getElem?_eq_some_iff.1 hc).1
  · rcases hloc with hl | hl
    · exact .inl hl
    · exact .inr ⟨_, hl, Nat.le_refl _⟩
  · rw [heap_setCell_ne 0 v' h1]
    exact hg.block k hk (fun hx => h2 hx.symm)

theorem From.lt {O : Nat → Prop} {n : Nat} {w : World} (hO : ∀ k, O k → k < n) (hn : n ≤ w.heap.size) : ∀ k, From O n w k → k < w.heap.size := fun k hk => by
  rcases hk with hk | hk
  · have := hO k hk; omega
  · exact hk.2
end Go.Proofs.YthphadbcebeoaaaGreatDoor.Dk
/- Append: the walks. -/
namespace Go.Proofs.YthphadbcebeoaaaGreatDoor.Dk
open Go.RowKit Go.Lib Go.Maps Go.WideMaps

set_option maxHeartbeats 3200000 in
set_option maxRecDepth 100000 in
/-- A name that may not be, or too many files. -/
theorem append_bad {w : World} {p : Nat} {S : St} {mb : Option Nat} {L : List Ent} {O : Nat → Prop} (s : ByteArray) (v : Value) (lb : List UInt8) (h : DK w p S mb L O) (hO : ∀ k, O k → k < w.heap.size) (hE : ET w) (hs : s.size ≤ maxLen)
    (hc : 0 ≤ S.count ∧ S.count < 1000000000) (hl : S.halting = true → 0 ≤ S.left ∧ S.left < 9223372036854775808) (hlk : look L s.data.toList = none) (han : anotherC L s.data.toList ≠ 0) :
    Calls Tryz.prog 25 #[.pointer (some ⟨p, 0, none⟩), .string s, v] w (AppPost w p S L O s.data.toList lb) := by
  have HF := hide (find_any s h hs)
  have hfr : FindRes L s.data.toList = .tuple #[.pointer none, evC 30] := by unfold FindRes; rw [hlk]
  rw [hfr] at HF
  have HA := hide (another_bad s h hs han)
  have hC : appC S L s.data.toList lb.length = anotherC L s.data.toList := by unfold appC; rw [hlk]; exact if_neg han
  have HB := hide (begin_any s (evC (anotherC L s.data.toList)) (anotherC L s.data.toList) h hO (Old w) (fun _ hh => hh) hE (.inr ⟨han, .inl rfl⟩) (fun b hb => by cases hb) hc hl)
  have hbs := beginS_ne (S := S) han
  unfold AppPost
  rw [hC]
  have HX : Hid (∀ w' v', ErrOut (Old w) w' v' (beginS S (anotherC L s.data.toList)).2 → ∃ b, v' = evW b) := fun w' v' h1 => by
    rcases h1 with ⟨_, h2⟩ | ⟨_, b, hb, _⟩
    · exact absurd h2 hbs.1
    · exact ⟨b, hb⟩
  generalize anotherC L s.data.toList = c at *
  clear h hC hfr
  go_enter Tryz.func25, Tryz.ntmps25
  go_wp2_with (first
    | (go_at_call 44; refine (unhide HF).mono ?_; rintro e w1 ⟨rfl, rfl⟩)
    | (go_at_call 29; refine (is_class 30 30 _).mono ?_; rintro e w1 ⟨rfl, rfl⟩)
    | (go_at_call 45; refine (unhide HA).mono ?_; rintro e w1 ⟨rfl, rfl⟩)
    | (go_at_call 47; refine (unhide HB).mono ?_; rintro e w1 ⟨v1, rfl, he1, hd1, hf1⟩; obtain ⟨b1, rfl⟩ := unhide HX _ _ he1))
  go_ret
  exact ⟨_, mb, L, rfl, he1, hd1.mono (fun k hk => .inl hk), hf1, fun _ => rfl, fun hh => absurd hh hbs.1⟩
end Go.Proofs.YthphadbcebeoaaaGreatDoor.Dk
/- Append to a file that is there. -/
namespace Go.Proofs.YthphadbcebeoaaaGreatDoor.Dk
open Go.RowKit Go.Lib Go.Maps Go.WideMaps

set_option maxHeartbeats 6400000 in
set_option maxRecDepth 100000 in
theorem append_old_no {w : World} {p : Nat} {S : St} {mb : Option Nat} {L : List Ent} {O : Nat → Prop} (s : ByteArray) (a : Option Addr) (k : Nat) (lb : List UInt8) (e : Ent) (h : DK w p S mb L O) (hO : ∀ k, O k → k < w.heap.size) (hE : ET w) (hs : s.size ≤ maxLen)
    (hr : 0 ≤ S.room ∧ S.room ≤ 4611686018427387904) (hc : 0 ≤ S.count ∧ S.count < 1000000000) (hl : S.halting = true → 0 ≤ S.left ∧ S.left < 9223372036854775808) (hlk : look L s.data.toList = some e)
    (hno : (beginS S (appC S L s.data.toList lb.length)).2 ≠ 0) :
    Calls Tryz.prog 25 #[.pointer (some ⟨p, 0, none⟩), .string s, .slice a lb.length k] w (AppPost w p S L O s.data.toList lb) := by
  have HF := hide (find_any s h hs)
  have hfr : FindRes L s.data.toList = .tuple #[.pointer (some ⟨e.fp, 0, none⟩), .nilIface] := by unfold FindRes; rw [hlk]
  rw [hfr] at HF
  obtain ⟨hem, hen⟩ := look_mem hlk
  have hef := h.files e hem
  obtain ⟨a0, k0, hv0⟩ := own_v hef
  have hcell : w.cell? ⟨e.fp, 0, none⟩ = some (.slice a0 e.data.length k0) := by rw [(cellB hef.blk 0).1, ← hv0]; rfl
  have HT := hide (fits_any e.fp e.data.length lb.length a0 k0 h hr hef.len hcell)
  have hC : appC S L s.data.toList lb.length = if fitsB S L e.data.length lb.length = true then 0 else 31 := by unfold appC; rw [hlk]
  have HB := hide (fun (w1 : World) (hb : Below w.heap.size w w1) (v : Value) (c : Int) (hv : ErrIn w1 v c) (hw : ∀ b, v = evW b → ¬ Old w b) =>
    begin_any (w := w1) s v c (h.below hO hb) (fun k hk => Nat.lt_of_lt_of_le (hO k hk) hb.size) (Old w) (fun _ hk => Nat.lt_of_lt_of_le hk hb.size) (hE.below hb hE.lt) hv hw hc hl)
  unfold AppPost
  rw [hC] at hno ⊢
  clear h hC hfr hef hcell hE
  by_cases hfit : fitsB S L e.data.length lb.length = true
  · rw [if_pos hfit] at hno ⊢
    rw [hfit] at HT
    have HX : Hid (∀ w' v', ErrOut (Old w) w' v' (beginS S 0).2 → ∃ b, v' = evW b) := fun w' v' h1 => by
      rcases h1 with ⟨_, h2⟩ | ⟨_, b, hb, _⟩
      · exact absurd h2 hno
      · exact ⟨b, hb⟩
    go_enter Tryz.func25, Tryz.ntmps25
    go_wp2_with (first
      | (go_at_call 44; refine (unhide HF).mono ?_; rintro e0 w0 ⟨rfl, rfl⟩)
      | (go_at_call 29; refine (is_nil 30 _).mono ?_; rintro e0 w0 ⟨rfl, rfl⟩)
      | (go_at_call 46; refine (unhide HT).mono ?_; rintro e0 w1 ⟨rfl, hb1⟩)
      | (go_at_call 47; refine (unhide HB _ hb1 _ 0 (.inl ⟨rfl, rfl⟩) (fun b hb => by cases hb)).mono ?_; rintro e0 w2 ⟨v1, rfl, he1, hd1, hf1⟩; obtain ⟨b1, rfl⟩ := unhide HX _ _ he1))
    go_ret
    exact ⟨_, mb, L, rfl, he1, hd1.mono (fun k hk => .inl hk), FrO.trans (FrO.of_below (O := O) hb1) hf1 (fun _ _ hh => hh), fun _ => rfl, fun hh => absurd hh hno⟩
  · have hfit' : fitsB S L e.data.length lb.length = false := by simpa using hfit
    rw [if_neg hfit] at hno ⊢
    rw [hfit'] at HT
    have HX : Hid (∀ w' v', ErrOut (Old w) w' v' (beginS S 31).2 → ∃ b, v' = evW b) := fun w' v' h1 => by
      rcases h1 with ⟨_, h2⟩ | ⟨_, b, hb, _⟩
      · exact absurd h2 hno
      · exact ⟨b, hb⟩
    go_enter Tryz.func25, Tryz.ntmps25
    go_wp2_with (first
      | (go_at_call 44; refine (unhide HF).mono ?_; rintro e0 w0 ⟨rfl, rfl⟩)
      | (go_at_call 29; refine (is_nil 30 _).mono ?_; rintro e0 w0 ⟨rfl, rfl⟩)
      | (go_at_call 46; refine (unhide HT).mono ?_; rintro e0 w1 ⟨rfl, hb1⟩)
      | (go_at_call 47; refine (unhide HB _ hb1 _ 31 (.inr ⟨by decide, .inl rfl⟩) (fun b hb => by cases hb)).mono ?_; rintro e0 w2 ⟨v1, rfl, he1, hd1, hf1⟩; obtain ⟨b1, rfl⟩ := unhide HX _ _ he1))
    go_ret
    exact ⟨_, mb, L, rfl, he1, hd1.mono (fun k hk => .inl hk), FrO.trans (FrO.of_below (O := O) hb1) hf1 (fun _ _ hh => hh), fun _ => rfl, fun hh => absurd hh hno⟩

theorem own_sl {w : World} {B : Nat} {e : TypeId} {sz : Nat} {v : Value} {n : Nat} {xs : List Value} (h : w.ownsRow B e sz v n xs) : ∃ a k, v = .slice a n k := by
  rcases h.2 with ⟨rfl, rfl⟩ | ⟨g, cap, cur, rfl, _⟩
  · exact ⟨none, 0, rfl⟩
  · exact ⟨_, _, rfl⟩
theorem appC_zero_old {S : St} {L : List Ent} {n : List UInt8} {m : Nat} {e : Ent} (hlk : look L n = some e) (h : (beginS S (appC S L n m)).2 = 0) : fitsB S L e.data.length m = true ∧ appC S L n m = 0 := by
  have h0 : appC S L n m = 0 := by
    rcases Int.decEq (appC S L n m) 0 with hn | hn
    · exact absurd h (beginS_ne hn).1
    · exact hn
  refine ⟨?_, h0⟩
  unfold appC at h0
  rw [hlk] at h0
  by_cases hf : fitsB S L e.data.length m = true
  · exact hf
  · simp only [if_neg hf] at h0; exact absurd h0 (by decide)
theorem beginS_room (S : St) (c : Int) : (beginS S c).1.room = S.room := by
  unfold beginS
  split
  · rfl
  · split
    · rfl
    · split <;> rfl

set_option maxHeartbeats 6400000 in
set_option maxRecDepth 100000 in
theorem append_old_ok {w : World} {p : Nat} {S : St} {mb : Option Nat} {L : List Ent} {O : Nat → Prop} (s : ByteArray) (v : Value) (lb : List UInt8) (e : Ent) (h : DK w p S mb L O) (hO : ∀ k, O k → k < w.heap.size) (hE : ET w) (hs : s.size ≤ 1000)
    (hr : 0 ≤ S.room ∧ S.room ≤ 4611686018427387904) (hc : 0 ≤ S.count ∧ S.count < 1000000000) (hl : S.halting = true → 0 ≤ S.left ∧ S.left < 9223372036854775808) (hlk : look L s.data.toList = some e)
    (hv : RBo w O v lb) (hno : (beginS S (appC S L s.data.toList lb.length)).2 = 0) :
    Calls Tryz.prog 25 #[.pointer (some ⟨p, 0, none⟩), .string s, v] w (AppPost w p S L O s.data.toList lb) := by
  have hsm : s.size ≤ maxLen := by unfold maxLen; omega
  obtain ⟨a, k, rfl⟩ := hv.slice
  have HF := hide (find_any s h hsm)
  have hfr : FindRes L s.data.toList = .tuple #[.pointer (some ⟨e.fp, 0, none⟩), .nilIface] := by unfold FindRes; rw [hlk]
  rw [hfr] at HF
  obtain ⟨hem, hen⟩ := look_mem hlk
  have hef := h.files e hem
  obtain ⟨a0, k0, hv0⟩ := own_v hef
  have hcell : w.cell? ⟨e.fp, 0, none⟩ = some (.slice a0 e.data.length k0) := by rw [(cellB hef.blk 0).1, ← hv0]; rfl
  have HT := hide (fits_any e.fp e.data.length lb.length a0 k0 h hr hef.len hcell)
  obtain ⟨hfit, h0⟩ := appC_zero_old hlk hno
  have hfl := fits_le hfit
  have HB := hide (fun (w1 : World) (hb : Below w.heap.size w w1) =>
    begin_any (w := w1) s .nilIface 0 (h.below hO hb) (fun k hk => Nat.lt_of_lt_of_le (hO k hk) hb.size) (Old w) (fun _ hk => Nat.lt_of_lt_of_le hk hb.size) (hE.below hb hE.lt) (.inl ⟨rfl, rfl⟩) (fun b hb => by cases hb) hc hl)
  have hlen := hef.len
  have hris := h.rising
  unfold AppPost oldData oldSure
  rw [h0] at hno ⊢
  rw [hlk]
  rw [hfit] at HT
  have HX : Hid (∀ w' v', ErrOut (Old w) w' v' (beginS S 0).2 → v' = .nilIface) := fun w' v' h1 => by
    rcases h1 with ⟨hh, _⟩ | ⟨h2, _⟩
    · exact hh
    · exact absurd hno h2
  -- behind begin: what append may read and write
  have HS : Hid (∀ w1 w2, Below w.heap.size w w1 → FrO O w1 w2 → DK w2 p (beginS S 0).1 mb L O → w2.cell? ⟨e.fp, 0, none⟩ = some (.slice a0 e.data.length k0) ∧ w2.ownsRow 0 5 1 (.slice a0 e.data.length k0) e.data.length (byteCells e.data) ∧ RBo w2 O (.slice a lb.length k) lb ∧ FrO O w w2 ∧ (∀ k, O k → k < w2.heap.size)) := by
    intro w1 w2 hb hf hd
    have hef2 := hd.files e hem
    have hf2 : FrO O w w2 := FrO.trans (FrO.of_below (O := O) hb) hf (fun _ _ hh => hh)
    refine ⟨by rw [(cellB hef2.blk 0).1, ← hv0]; rfl, hv0 ▸ hef2.row, hv.fr hf2, hf2, fun k hk => Nat.lt_of_lt_of_le (hO k hk) hf2.size⟩
  -- behind append
  have HP : Hid (∀ w2 w3 v3, FrO O w w2 → (∀ k, O k → k < w2.heap.size) → DK w2 p (beginS S 0).1 mb L O → w3.ownsRow 0 5 1 v3 (e.data.length + lb.length) (byteCells e.data ++ byteCells lb) → w2.grownBy w3 (Value.slice a0 e.data.length k0).ownBlock → (v3.ownBlock = (Value.slice a0 e.data.length k0).ownBlock ∨ v3.ownBlock = some w2.heap.size) →
      w3.cell? ⟨e.fp, 0, none⟩ = some (.slice a0 e.data.length k0) ∧ w3.frozen? ⟨e.fp, 0, none⟩ = false ∧ Calls Tryz.prog 48 #[.pointer (some ⟨p, 0, none⟩), .string s, .pointer (some ⟨e.fp, 0, none⟩)] (w3.setCell ⟨e.fp, 0, none⟩ v3) fun ev w' => ev = .returned (.tuple #[]) ∧ ∃ mb', DK w' p (beginS S 0).1 mb' (putE ⟨e.name, e.fp, v3, e.data ++ lb, e.sure⟩ L) (From O w.heap.size w') ∧ FrO O w w') := by
    intro w2 w3 v3 hf2 hO2 hd2 hrow hg hloc
    rw [← hv0] at hg hloc
    obtain ⟨hd4, hfile4, hf4⟩ := app_old hd2 hO2 e hem v3 lb hrow hg hloc hfl
    have hef2 := hd2.files e hem
    have hne : e.v.ownBlock ≠ some e.fp := by
      intro hx
      rcases hef2.row.2 with ⟨e1, _⟩ | ⟨g, cap, cur, e1, _, hc, _⟩
      · rw [e1] at hx; simp [Value.ownBlock] at hx
      · rw [e1] at hx; simp [Value.ownBlock] at hx; subst hx; rw [hef2.blk] at hc; injection hc with hc; injection hc with _ h2; exact absurd h2 (by decide)
    have hb3 : w3.heap[e.fp]? = some (.cells #[e.v, .int .i64 (e.sure : Int)] 104 (0, 0)) := (hg.block e.fp hef2.lt (fun hx => hne hx.symm)).trans hef2.blk
    have hput : putE ⟨e.name, e.fp, v3, e.data ++ lb, e.sure⟩ (repl ⟨e.name, e.fp, v3, e.data ++ lb, e.sure⟩ L) = repl ⟨e.name, e.fp, v3, e.data ++ lb, e.sure⟩ L :=
      putE_same hd4.rising (mem_repl_self hem rfl)
    have hpl : putE ⟨e.name, e.fp, v3, e.data ++ lb, e.sure⟩ L = repl ⟨e.name, e.fp, v3, e.data ++ lb, e.sure⟩ L := putE_repl hris hem rfl
    have hmem' := mem_repl_self (e' := ⟨e.name, e.fp, v3, e.data ++ lb, e.sure⟩) hem rfl
    refine ⟨by rw [(cellB hb3 0).1, ← hv0]; rfl, (cellB hb3 0).2, ?_⟩
    refine (put_any s ⟨e.name, e.fp, v3, e.data ++ lb, e.sure⟩ hen.symm hd4 (From.lt hO2 hf4.size) hs hfile4 (fun x hx hxn => ?_) (hd4.oF _ hmem') (hd4.oR _ hmem') (by rw [hput]; exact hd4.few)).mono ?_
    · have := apart_of hd4.apart hx hmem' hxn
      exact ⟨this, this.symm⟩
    · rintro ev w' ⟨rfl, mb', hd5, hf5⟩
      rw [hput] at hd5
      rw [hpl]
      have h24 := hf4.size
      have h02 := hf2.size
      have h45 := hf5.size
      refine ⟨rfl, mb', hd5.mono (fun k hk => ?_), FrO.trans hf2 (FrO.trans hf4 hf5 (fun k hk hh => hh.elim id (fun hh => absurd hk (by omega)))) (fun _ _ hh => hh)⟩
      rcases hk with (hk | hk) | hk
      · exact .inl hk
      · exact .inr ⟨by omega, by omega⟩
      · exact .inr ⟨by omega, by omega⟩
  clear h hfr hef hcell hE hv hlen hris hc hl hr
  go_enter Tryz.func25, Tryz.ntmps25
  go_wp2_with (first
    | (go_at_call 44; refine (unhide HF).mono ?_; rintro e0 w0 ⟨rfl, rfl⟩)
    | (go_at_call 29; refine (is_nil 30 _).mono ?_; rintro e0 w0 ⟨rfl, rfl⟩)
    | (go_at_call 46; refine (unhide HT).mono ?_; rintro e0 w1 ⟨rfl, hb1⟩)
    | (go_at_call 47; refine (unhide HB _ hb1).mono ?_; rintro e0 w2 ⟨v1, rfl, he1, hd1, hf1⟩; have e1 := unhide HX _ _ he1; subst e1; obtain ⟨c2, r2, b2, g2, o2⟩ := unhide HS _ _ hb1 hf1 hd1)
    | (at_builtin; refine wpList_append_at (w := w2) rfl _ _ rfl (.slice a0 e.data.length k0) e.data.length (byteCells e.data) rfl r2 O (.slice a lb.length k) lb rfl b2 (by omega) ?_; intro v3 w3 hrow3 hg3 hloc3; obtain ⟨a3, k3, rfl⟩ := own_sl hrow3; obtain ⟨c3, f3, P3⟩ := unhide HP _ _ _ g2 o2 hd1 hrow3 hg3 hloc3)
    | (go_at_call 48; refine P3.mono ?_; rintro e0 w4 ⟨rfl, mb4, hd4, hf4⟩))
  go_ret
  exact ⟨_, mb4, _, rfl, .inl ⟨rfl, hno⟩, hd4, hf4, fun hh => absurd hno hh, fun _ => ⟨_, rfl, hen, rfl, rfl⟩⟩
end Go.Proofs.YthphadbcebeoaaaGreatDoor.Dk
