/- Truncate, Remove, Rename in terms of names, bytes, how many are sure. -/
import Derived.Test.YtpminalccnhkjaaGreatDoorDAbs
import Derived.Test.YtpminalccnhkjaaGreatDoorJDTruncDRen
namespace Go.Proofs.YtpminalccnhkjaaGreatDoor.Dk
open Go.RowKit Go.Lib Go.Maps Go.WideMaps

theorem truncC_er (L : List Ent) (n : List UInt8) (m : Int) : truncC (L.map er) n m = truncC L n m := by
  unfold truncC
  rw [look_er]
  cases look L n <;> rfl
theorem renC_er (L : List Ent) (a b : List UInt8) : renC (L.map er) a b = renC L a b := by unfold renC; rw [thereC_er]

theorem dx_remove {w : World} {p : Nat} {S : St} {F : List Ent} {O : Nat → Prop} (s : ByteArray) (h : DX w p S F O) (hE : ET w) (hs : s.size ≤ maxLen) (hc : 0 ≤ S.count ∧ S.count < 1000000000) (hl : S.halting = true → 0 ≤ S.left ∧ S.left < 9223372036854775808) :
    Calls Tryz.prog 48 #[.pointer (some ⟨p, 0, none⟩), .string s] w fun e w' => ∃ v', e = .returned v' ∧ ErrOut (Old w) w' v' (beginS S (thereC F s.data.toList)).2 ∧
      DX w' p (beginS S (thereC F s.data.toList)).1 (if (beginS S (thereC F s.data.toList)).2 = 0 then delE s.data.toList F else F) O ∧ FrO O w w' := by
  obtain ⟨mb, L, hd, hO, rfl⟩ := h
  rw [thereC_er]
  refine (remove_any s hd hO hE hs hc hl).mono ?_
  rintro e w' ⟨v', L', rfl, he, hd', hf, h1, h2⟩
  refine ⟨v', rfl, he, ⟨mb, L', hd', fun k hk => Nat.lt_of_lt_of_le (hO k hk) hf.size, ?_⟩, hf⟩
  by_cases h0 : (beginS S (thereC L s.data.toList)).2 = 0
  · rw [if_pos h0, h2 h0, delE_er]
  · rw [if_neg h0, h1 h0]
theorem dx_rename {w : World} {p : Nat} {S : St} {F : List Ent} {O : Nat → Prop} (s t : ByteArray) (h : DX w p S F O) (hE : ET w) (hs : s.size ≤ 1000) (ht : t.size ≤ 1000) (hc : 0 ≤ S.count ∧ S.count < 1000000000) (hl : S.halting = true → 0 ≤ S.left ∧ S.left < 9223372036854775808) :
    Calls Tryz.prog 49 #[.pointer (some ⟨p, 0, none⟩), .string s, .string t] w fun e w' => ∃ v' O', e = .returned v' ∧ ErrOut (Old w) w' v' (beginS S (renC F s.data.toList t.data.toList)).2 ∧
      DX w' p (beginS S (renC F s.data.toList t.data.toList)).1 (if (beginS S (renC F s.data.toList t.data.toList)).2 = 0 then putE (fl t.data.toList (oldData F s.data.toList) (oldSure F s.data.toList)) (delE s.data.toList F) else F) O' ∧ FrO O w w' ∧ (∀ k, O' k → O k ∨ w.heap.size ≤ k) := by
  obtain ⟨mb, L, hd, hO, rfl⟩ := h
  rw [renC_er, oldData_er, oldSure_er]
  refine (rename_any s t hd hO hE hs ht hc hl).mono ?_
  rintro e w' ⟨v', mb', L', rfl, he, hd', hf, h1, h2⟩
  refine ⟨v', _, rfl, he, ⟨mb', L', hd', fun k hk => ?_, ?_⟩, hf, fun k hk => hk.elim .inl (fun hh => .inr hh.1)⟩
  · have := hf.size
    rcases hk with hk | hk
    · have := hO k hk; omega
    · exact hk.2
  · by_cases h0 : (beginS S (renC L s.data.toList t.data.toList)).2 = 0
    · rw [if_pos h0]
      obtain ⟨e', hlk, rfl⟩ := h2 h0
      rw [putE_er, delE_er]
      unfold oldData oldSure
      rw [hlk]
      rfl
    · rw [if_neg h0, h1 h0]
end Go.Proofs.YtpminalccnhkjaaGreatDoor.Dk
/- Calls of a disk that goes on: where nothing is refused. -/
namespace Go.Proofs.YtpminalccnhkjaaGreatDoor.Dk
open Go.RowKit Go.Lib Go.Maps Go.WideMaps

/-- A disk that goes on, with so many calls behind it. -/
def Up1 (S : St) (n : Nat) : Prop := S.off = false ∧ S.halting = false ∧ 0 ≤ S.room ∧ S.room ≤ 4611686018427387904 ∧ 0 ≤ S.count ∧ S.count + n < 1000000000
def more (S : St) (k : Int) : St := { S with count := S.count + k }
theorem begin_ok {S : St} {n : Nat} (h : Up1 S n) : beginS S 0 = (more S 1, 0) := by
  obtain ⟨h1, h2, _⟩ := h
  unfold beginS more
  simp [h1, h2]
theorem Up1.more {S : St} {n : Nat} (h : Up1 S (n + 1)) : Up1 (more S 1) n := by
  obtain ⟨h1, h2, h3, h4, h5, h6⟩ := h
  refine ⟨h1, h2, h3, h4, ?_, ?_⟩ <;> show _ <;> simp only [Dk.more] <;> omega
theorem more_more (S : St) (a b : Int) : more (more S a) b = more S (a + b) := by simp only [more, Int.add_assoc]
theorem Up1.hc {S : St} {n : Nat} (h : Up1 S n) : 0 ≤ S.count ∧ S.count < 1000000000 := by obtain ⟨_, _, _, _, h5, h6⟩ := h; omega
theorem Up1.hl {S : St} {n : Nat} (h : Up1 S n) : S.halting = true → 0 ≤ S.left ∧ S.left < 9223372036854775808 := fun hh => by rw [h.2.1] at hh; cases hh
theorem err_none {O : Nat → Prop} {w : World} {v : Value} (h : ErrOut O w v 0) : v = .nilIface := h.elim (·.1) (fun hh => absurd rfl hh.1)

theorem ok_append {w : World} {p : Nat} {S : St} {F : List Ent} {O : Nat → Prop} {n : Nat} (s : ByteArray) (v : Value) (lb : List UInt8) (h : DX w p S F O) (hE : ET w) (hU : Up1 S n) (hs : s.size ≤ 1000) (hv : RBo w O v lb) (hok : appC S F s.data.toList lb.length = 0) :
    Calls Tryz.prog 8 #[.pointer (some ⟨p, 0, none⟩), .string s, v] w fun e w' => ∃ O', e = .returned .nilIface ∧ DX w' p (more S 1) (putE (fl s.data.toList (oldData F s.data.toList ++ lb) (oldSure F s.data.toList)) F) O' ∧ FrO O w w' ∧ (∀ k, O' k → O k ∨ w.heap.size ≤ k) := by
  refine (dx_append s v lb h hE hs ⟨hU.2.2.1, hU.2.2.2.1⟩ hU.hc hU.hl hv).mono ?_
  rw [hok, begin_ok hU]
  rintro e w' ⟨v', O', rfl, he, hd, hf, ho⟩
  rw [err_none he]
  exact ⟨O', rfl, hd, hf, ho⟩
theorem ok_sync {w : World} {p : Nat} {S : St} {F : List Ent} {O : Nat → Prop} {n : Nat} (s : ByteArray) (h : DX w p S F O) (hE : ET w) (hU : Up1 S n) (hs : s.size ≤ maxLen) (hok : thereC F s.data.toList = 0) :
    Calls Tryz.prog 9 #[.pointer (some ⟨p, 0, none⟩), .string s] w fun e w' => e = .returned .nilIface ∧ DX w' p (more S 1) (repl (fl s.data.toList (oldData F s.data.toList) (oldData F s.data.toList).length) F) O ∧ FrO O w w' := by
  refine (dx_sync s h hE hs hU.hc hU.hl).mono ?_
  rw [hok, begin_ok hU]
  rintro e w' ⟨v', rfl, he, hd, hf⟩
  rw [err_none he]
  exact ⟨rfl, hd, hf⟩
theorem ok_rename {w : World} {p : Nat} {S : St} {F : List Ent} {O : Nat → Prop} {n : Nat} (s t : ByteArray) (h : DX w p S F O) (hE : ET w) (hU : Up1 S n) (hs : s.size ≤ 1000) (ht : t.size ≤ 1000) (hok : renC F s.data.toList t.data.toList = 0) :
    Calls Tryz.prog 49 #[.pointer (some ⟨p, 0, none⟩), .string s, .string t] w fun e w' => ∃ O', e = .returned .nilIface ∧ DX w' p (more S 1) (putE (fl t.data.toList (oldData F s.data.toList) (oldSure F s.data.toList)) (delE s.data.toList F)) O' ∧ FrO O w w' ∧ (∀ k, O' k → O k ∨ w.heap.size ≤ k) := by
  refine (dx_rename s t h hE hs ht hU.hc hU.hl).mono ?_
  rw [hok, begin_ok hU]
  rintro e w' ⟨v', O', rfl, he, hd, hf, ho⟩
  rw [err_none he]
  exact ⟨O', rfl, hd, hf, ho⟩

theorem del_ins (e : Ent) : ∀ L : List Ent, delE e.name (insE e L) = delE e.name L
  | [] => by simp [insE, delE]
  | y :: r => by
    have ih := del_ins e r
    unfold insE
    split
    · simp [delE]
    · simp only [delE, List.filter_cons] at ih ⊢
      rw [ih]
theorem del_del (n : List UInt8) (L : List Ent) : delE n (delE n L) = delE n L := by simp [delE, List.filter_filter]
theorem del_put (e : Ent) (L : List Ent) : delE e.name (putE e L) = delE e.name L := by unfold putE; rw [del_ins, del_del]
theorem look_put {e : Ent} {L : List Ent} (h : Rising (putE e L)) : look (putE e L) e.name = some e := look_of_mem h (by unfold putE; exact mem_insE.2 (.inl rfl))
theorem look_repl {e : Ent} {n : List UInt8} (hn : e.name = n) : ∀ {L : List Ent} {x : Ent}, look L n = some x → look (repl e L) n = some e
  | [], x, h => by simp [look] at h
  | y :: r, x, h => by
    subst hn
    by_cases hy : y.name = e.name
    · simp [look, repl, hy]
    · have h2 : look r e.name = some x := by simpa [look, hy] using h
      have := look_repl rfl h2
      simpa [look, repl, hy] using this
end Go.Proofs.YtpminalccnhkjaaGreatDoor.Dk
