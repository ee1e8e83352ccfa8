/- Truncate, Remove, Rename in terms of names, bytes, how many are sure. -/
import Derived.Test.YthebgoadeecmpaaDoorDAbs
import Derived.Test.YthebgoadeecmpaaDoorDRen
namespace Go.Proofs.YthebgoadeecmpaaDoor
open Go.RowKit Go.Lib Go.Maps Go.WideMaps

theorem truncC_er (L : List Ent) (n : List UInt8) (m : Int) : truncC (L.map er) n m = truncC L n m := by
  unfold truncC
  rw [look_er]
  cases look L n <;> rfl
theorem renC_er (L : List Ent) (a b : List UInt8) : renC (L.map er) a b = renC L a b := by unfold renC; rw [thereC_er]

theorem dx_trunc {w : World} {p : Nat} {S : St} {F : List Ent} {O : Nat → Prop} (s : ByteArray) (n : Int) (h : DX w p S F O) (hE : ET w) (hs : s.size ≤ maxLen) (hn : -9223372036854775808 ≤ n ∧ n ≤ 9223372036854775807) (hc : 0 ≤ S.count ∧ S.count < 1000000000) (hl : S.halting = true → 0 ≤ S.left ∧ S.left < 9223372036854775808) :
    Calls Tryd.prog 12 #[.pointer (some ⟨p, 0, none⟩), .string s, .int .i64 n] w fun e w' => ∃ v', e = .returned v' ∧ ErrOut (Old w) w' v' (beginS S (truncC F s.data.toList n)).2 ∧
      DX w' p (beginS S (truncC F s.data.toList n)).1 (if (beginS S (truncC F s.data.toList n)).2 = 0 then repl (fl s.data.toList ((oldData F s.data.toList).take n.toNat) (min (oldSure F s.data.toList) n.toNat)) F else F) O ∧ FrO O w w' := by
  obtain ⟨mb, L, hd, hO, rfl⟩ := h
  rw [truncC_er, oldData_er, oldSure_er]
  refine (trunc_any s n hd hO hE hs hn hc hl).mono ?_
  rintro e w' ⟨v', L', rfl, he, hd', hf, h1, h2⟩
  refine ⟨v', rfl, he, ⟨mb, L', hd', fun k hk => Nat.lt_of_lt_of_le (hO k hk) hf.size, ?_⟩, hf⟩
  by_cases h0 : (beginS S (truncC L s.data.toList n)).2 = 0
  · rw [if_pos h0]
    obtain ⟨e', hlk, rfl⟩ := h2 h0
    rw [repl_er]
    unfold oldData oldSure
    rw [hlk]
    have := (look_mem hlk).2
    unfold er cutE
    rw [← this]
  · rw [if_neg h0, h1 h0]
theorem dx_remove {w : World} {p : Nat} {S : St} {F : List Ent} {O : Nat → Prop} (s : ByteArray) (h : DX w p S F O) (hE : ET w) (hs : s.size ≤ maxLen) (hc : 0 ≤ S.count ∧ S.count < 1000000000) (hl : S.halting = true → 0 ≤ S.left ∧ S.left < 9223372036854775808) :
    Calls Tryd.prog 16 #[.pointer (some ⟨p, 0, none⟩), .string s] w fun e w' => ∃ v', e = .returned v' ∧ ErrOut (Old w) w' v' (beginS S (thereC F s.data.toList)).2 ∧
      DX w' p (beginS S (thereC F s.data.toList)).1 (if (beginS S (thereC F s.data.toList)).2 = 0 then delE s.data.toList F else F) O ∧ FrO O w w' := by
  obtain ⟨mb, L, hd, hO, rfl⟩ := h
  rw [thereC_er]
  refine (remove_any s hd hO hE hs hc hl).mono ?_
  rintro e w' ⟨v', L', rfl, he, hd', hf, h1, h2⟩
  refine ⟨v', rfl, he, ⟨mb, L', hd', fun k hk => Nat.lt_of_lt_of_le (hO k hk) hf.size, ?_⟩, hf⟩
  by_cases h0 : (beginS S (thereC L s.data.toList)).2 = 0
  · rw [if_pos h0, h2 h0, delE_er]
  · rw [if_neg h0, h1 h0]
theorem dx_rename {w : World} {p : Nat} {S : St} {F : List Ent} {O : Nat → Prop} (s t : ByteArray) (h : DX w p S F O) (hE : ET w) (hs : s.size ≤ 1000) (ht : t.size ≤ 1000) (hc : 0 ≤ S.count ∧ S.count < 1000000000) (hl : S.halting = true → 0 ≤ S.left ∧ S.left < 9223372036854775808) :
    Calls Tryd.prog 14 #[.pointer (some ⟨p, 0, none⟩), .string s, .string t] w fun e w' => ∃ v' O', e = .returned v' ∧ ErrOut (Old w) w' v' (beginS S (renC F s.data.toList t.data.toList)).2 ∧
      DX w' p (beginS S (renC F s.data.toList t.data.toList)).1 (if (beginS S (renC F s.data.toList t.data.toList)).2 = 0 then putE (fl t.data.toList (oldData F s.data.toList) (oldSure F s.data.toList)) (delE s.data.toList F) else F) O' ∧ FrO O w w' ∧ (∀ k, O' k → O k ∨ w.heap.size ≤ k) := by
  obtain ⟨mb, L, hd, hO, rfl⟩ := h
  rw [renC_er, oldData_er, oldSure_er]
  refine (rename_any s t hd hO hE hs ht hc hl).mono ?_
  rintro e w' ⟨v', mb', L', rfl, he, hd', hf, h1, h2⟩
  refine ⟨v', _, rfl, he, ⟨mb', L', hd', fun k hk => ?_, ?_⟩, hf, fun k hk => hk.elim .inl (fun hh => .inr hh.1)⟩
  · have := hf.size
    rcases hk with hk | hk
    · have := hO k hk; omega
    · exact hk.2
  · by_cases h0 : (beginS S (renC L s.data.toList t.data.toList)).2 = 0
    · rw [if_pos h0]
      obtain ⟨e', hlk, rfl⟩ := h2 h0
      rw [putE_er, delE_er]
      unfold oldData oldSure
      rw [hlk]
      rfl
    · rw [if_neg h0, h1 h0]
end Go.Proofs.YthebgoadeecmpaaDoor
