/- another, fits. -/
import Derived.Test.YthebgoadeecmpaaDoorDApp0
namespace Go.Proofs.YthebgoadeecmpaaDoor
open Go.RowKit Go.Lib Go.Maps Go.WideMaps

/-- What another answers: no error, or a class. -/
def anotherC (L : List Ent) (n : List UInt8) : Int := if okN n = true then (if L.length < 64 then 0 else 31) else 20

set_option maxHeartbeats 1600000 in
set_option maxRecDepth 100000 in
theorem another_bad {w : World} {p : Nat} {S : St} {mb : Option Nat} {L : List Ent} {O : Nat → Prop} (s : ByteArray) (h : DK w p S mb L O) (hs : s.size ≤ maxLen) (hc : anotherC L s.data.toList ≠ 0) :
    Calls Tryd.prog 34 #[.pointer (some ⟨p, 0, none⟩), .string s] w fun e w' => e = .returned (.tuple #[.pointer none, evC (anotherC L s.data.toList)]) ∧ w' = w := by
  have HN := hide (nameMayBe_any s w hs)
  obtain ⟨_, c1, _⟩ := h.cells
  have hlen : Hid ((Builtin.len_ #[63] 3 #[.map mb]).run Tryd.prog w = .ok (.int .i64 (L.length : Int)) w) := by
    cases mb with
    | none => rw [h.none rfl]; exact Maps.len_nil Tryd.underlying63 _
    | some b => have := (h.some b rfl).len Tryd.underlying63 3; rw [size_DL] at this; exact this
  clear h
  unfold anotherC at hc ⊢
  by_cases hn : okN s.data.toList = true
  · rw [if_pos hn] at hc ⊢
    by_cases hl : L.length < 64
    · rw [if_pos hl] at hc; exact absurd rfl hc
    · rw [if_neg hl]
      rw [hn] at HN
      have hl' : (64 : Int) ≤ (L.length : Int) := by omega
      have hlen := unhide hlen
      go_enter Tryd.func34, Tryd.ntmps34
      go_wp2_with (first | (go_at_call 42; refine (unhide HN).mono ?_; rintro e w1 ⟨rfl, rfl⟩))
      go_ret2
      exact ⟨rfl, rfl⟩
  · have hn' : okN s.data.toList = false := by simpa using hn
    rw [if_neg hn]
    rw [hn'] at HN
    clear hlen
    go_enter Tryd.func34, Tryd.ntmps34
    go_wp2_with (first | (go_at_call 42; refine (unhide HN).mono ?_; rintro e w1 ⟨rfl, rfl⟩))
    go_ret2
    exact ⟨rfl, rfl⟩

set_option maxHeartbeats 1600000 in
set_option maxRecDepth 100000 in
theorem another_ok {w : World} {p : Nat} {S : St} {mb : Option Nat} {L : List Ent} {O : Nat → Prop} (s : ByteArray) (h : DK w p S mb L O) (hs : s.size ≤ maxLen) (hc : anotherC L s.data.toList = 0) :
    Calls Tryd.prog 34 #[.pointer (some ⟨p, 0, none⟩), .string s] w fun e w' => e = .returned (.tuple #[.pointer (some ⟨w.heap.size, 0, none⟩), .nilIface]) ∧ w' = w.alloc (.cells #[.slice none 0 0, .int .i64 0] 74) := by
  have HN := hide (nameMayBe_any s w hs)
  obtain ⟨_, c1, _⟩ := h.cells
  have hlen : (Builtin.len_ #[63] 3 #[.map mb]).run Tryd.prog w = .ok (.int .i64 (L.length : Int)) w := by
    cases mb with
    | none => rw [h.none rfl]; exact Maps.len_nil Tryd.underlying63 _
    | some b => have := (h.some b rfl).len Tryd.underlying63 3; rw [size_DL] at this; exact this
  clear h
  unfold anotherC at hc
  by_cases hn : okN s.data.toList = true
  · rw [if_pos hn] at hc
    by_cases hl : L.length < 64
    · rw [hn] at HN
      have hl' : ¬ (64 : Int) ≤ (L.length : Int) := by omega
      go_enter Tryd.func34, Tryd.ntmps34
      go_wp2_with (first | (go_at_call 42; refine (unhide HN).mono ?_; rintro e w1 ⟨rfl, rfl⟩))
      go_ret2
      exact ⟨rfl, rfl⟩
    · rw [if_neg hl] at hc; exact absurd hc (by decide)
  · rw [if_neg hn] at hc; exact absurd hc (by decide)

/-- Do n bytes more fit behind m? -/
def fitsB (S : St) (L : List Ent) (m n : Nat) : Bool := decide ((n : Int) ≤ S.room - (usedL L : Int)) && decide ((n : Int) ≤ 1048576 - (m : Int))
theorem usedL_le {w : World} {p : Nat} {S : St} {mb : Option Nat} {L : List Ent} {O : Nat → Prop} (h : DK w p S mb L O) : usedL L ≤ 64 * 1048576 := by
  rw [← gone_none (left := fun _ => false) (fun _ => rfl)]
  exact Nat.le_trans (gone_le 1048576 (fun e he => (h.files e he).len)) (Nat.mul_le_mul_right _ h.few)

set_option maxHeartbeats 1600000 in
set_option maxRecDepth 100000 in
theorem fits_any {w : World} {p : Nat} {S : St} {mb : Option Nat} {L : List Ent} {O : Nat → Prop} (fp m n : Nat) (a : Option Addr) (k : Nat) (h : DK w p S mb L O) (hr : 0 ≤ S.room ∧ S.room ≤ 4611686018427387904) (hm : m ≤ 1048576)
    (hf : w.cell? ⟨fp, 0, none⟩ = some (.slice a m k)) :
    Calls Tryd.prog 35 #[.pointer (some ⟨p, 0, none⟩), .pointer (some ⟨fp, 0, none⟩), .int .i64 (n : Int)] w fun e w' => e = .returned (.bool (fitsB S L m n)) ∧ Below w.heap.size w w' := by
  obtain ⟨c0, _⟩ := h.cells
  have HU := hide (used_any (h.same (w' := w.drew) fun _ _ => rfl))
  have hu := usedL_le h
  have hp := h.lt
  have hfl := lt_of_cell hf
  obtain ⟨hr0, hr1⟩ := hr
  generalize hU : usedL L = u at *
  have hF : fitsB S L m n = (decide ((n : Int) ≤ S.room - (u : Int)) && decide ((n : Int) ≤ 1048576 - (m : Int))) := by unfold fitsB; rw [hU]
  rw [hF]
  have hw1 : IntKind.i64.wrap (S.room - (u : Int)) = S.room - (u : Int) := by rw [IntKind.wrap_i64] <;> omega
  have hw2 : IntKind.i64.wrap (1048576 - (m : Int)) = 1048576 - (m : Int) := by rw [IntKind.wrap_i64] <;> omega
  clear h hU hF
  by_cases h1 : (n : Int) ≤ S.room - (u : Int)
  · go_enter Tryd.func35, Tryd.ntmps35
    go_wp2
    go_region_with (first | (go_at_call 26; refine (unhide HU).mono ?_; rintro e w1 ⟨rfl, hb1⟩; have c01 := (hb1.cell (p := ⟨p, 0, none⟩) hp).trans c0; have hf1 := (hb1.cell (p := ⟨fp, 0, none⟩) hfl).trans hf))
    all_goals
      go_wp2
      go_ret
      refine ⟨?_, below_of_drew hb1⟩
      rw [decide_eq_true h1, Bool.true_and]
      rfl
  · have hx : ((n : Int) ≤ S.room - (u : Int)) = False := eq_false h1
    clear h1
    go_enter Tryd.func35, Tryd.ntmps35
    go_wp2
    first | (go_region_with (first | (go_at_call 26; refine (unhide HU).mono ?_; rintro e w1 ⟨rfl, hb1⟩; have c01 := (hb1.cell (p := ⟨p, 0, none⟩) hp).trans c0; have hf1 := (hb1.cell (p := ⟨fp, 0, none⟩) hfl).trans hf))) | fail
    all_goals
      go_wp2
      go_ret
      refine ⟨?_, below_of_drew hb1⟩
      rw [decide_eq_false (fun hh => by rw [hx] at hh; exact hh), Bool.false_and]
      rfl
end Go.Proofs.YthebgoadeecmpaaDoor
