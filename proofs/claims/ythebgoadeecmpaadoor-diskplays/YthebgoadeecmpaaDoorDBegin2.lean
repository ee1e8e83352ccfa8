/- begin: what begins a changing call. -/
import Derived.Test.YthebgoadeecmpaaDoorJDAs2DBegin
namespace Go.Proofs.YthebgoadeecmpaaDoor
open Go.RowKit Go.Lib Go.Maps

/-- An error that comes in: none, a bare class, a wrapped one. -/
def ErrIn (w : World) (v : Value) (c : Int) : Prop := (v = .nilIface ∧ c = 0) ∨ (c ≠ 0 ∧ (v = evC c ∨ ∃ b, v = evW b ∧ ErrW w b c))
/-- An error that is told: none, or a wrapped class in a block that isn't the disk's. -/
def ErrOut (O : Nat → Prop) (w : World) (v : Value) (c : Int) : Prop := (v = .nilIface ∧ c = 0) ∨ (c ≠ 0 ∧ ∃ b, v = evW b ∧ ErrW w b c ∧ ¬ O b)

/-- Blocks that were there. -/
def Old (w : World) (k : Nat) : Prop := k < w.heap.size

/-- What begins a changing call: the state behind it, the class that is told. -/
def beginS (S : St) (c : Int) : St × Int :=
  if S.off = true then (S, 32) else if c ≠ 0 then (S, c)
  else if S.halting = true ∧ S.left = 0 then ({ S with off := true }, 32)
  else ({ S with left := if S.halting = true then S.left - 1 else S.left, count := S.count + 1 }, 0)

theorem DK.below {w w' : World} {p : Nat} {S : St} {mb : Option Nat} {L : List Ent} {O : Nat → Prop} (h : DK w p S mb L O) (hO : ∀ k, O k → k < w.heap.size) (hb : Below w.heap.size w w') : DK w' p S mb L O :=
  h.same (fun k hk => hb.block k (hO k hk))

set_option maxHeartbeats 3200000 in
theorem begin_any {w : World} {p : Nat} {S : St} {mb : Option Nat} {L : List Ent} {O : Nat → Prop} (s : ByteArray) (v : Value) (c : Int) (h : DK w p S mb L O) (hO : ∀ k, O k → k < w.heap.size) (E : Nat → Prop) (hEE : ∀ k, E k → k < w.heap.size) (hE : ET w) (hv : ErrIn w v c) (hwO : ∀ b, v = evW b → ¬ E b)
    (hc : 0 ≤ S.count ∧ S.count < 1000000000) (hl : S.halting = true → 0 ≤ S.left ∧ S.left < 9223372036854775808) :
    Calls Tryd.prog 36 #[.pointer (some ⟨p, 0, none⟩), .string s, v] w fun e w' => ∃ v', e = .returned v' ∧ ErrOut E w' v' (beginS S c).2 ∧ DK w' p (beginS S c).1 mb L O ∧ FrO O w w' := by
  obtain ⟨_, _, c2, c3, c4, c5⟩ := h.cells
  have f2 := h.frz 2
  have f3 := h.frz 3
  have f5 := h.frz 5
  have H := hide h
  have HO := hide hO
  have HE := hide hE
  have hpl := h.lt
  clear h hO hE
  have W := hide (fun (c : Int) (w : World) (hE : ET w) => within_class s c w hE)
  unfold beginS
  by_cases ho : S.off = true
  · rw [if_pos ho]
    rw [ho] at c3
    go_enter Tryd.func36, Tryd.ntmps36
    go_wp2_with (first | (go_at_call 43; refine (unhide W 32 w (unhide HE)).mono ?_; rintro e w1 ⟨b1, rfl, hb1, he1, hf1⟩))
    go_ret
    exact ⟨_, rfl, .inr ⟨by decide, b1, rfl, he1, fun hh => absurd (hEE _ hh) (by omega)⟩, (unhide H).below (unhide HO) hf1, FrO.of_below hf1⟩
  · rw [if_neg ho]
    have ho' : S.off = false := by simpa using ho
    rw [ho'] at c3
    by_cases hc0 : c ≠ 0
    · rw [if_pos hc0]
      rcases hv with ⟨_, h2⟩ | ⟨_, rfl | ⟨b, rfl, heb⟩⟩
      · exact absurd h2 hc0
      · go_enter Tryd.func36, Tryd.ntmps36
        go_wp2_with (first | (go_at_call 43; refine (unhide W c w (unhide HE)).mono ?_; rintro e w1 ⟨b1, rfl, hb1, he1, hf1⟩))
        go_ret
        exact ⟨_, rfl, .inr ⟨hc0, b1, rfl, he1, fun hh => absurd (hEE _ hh) (by omega)⟩, (unhide H).below (unhide HO) hf1, FrO.of_below hf1⟩
      · have hbO := hwO b rfl
        go_enter Tryd.func36, Tryd.ntmps36
        go_wp2_with (first | (go_at_call 43; refine (within_wrap s b w (unhide HE)).mono ?_; rintro e w1 ⟨rfl, hf1⟩))
        go_ret
        exact ⟨_, rfl, .inr ⟨hc0, b, rfl, heb.below hf1 heb.lt, hbO⟩, (unhide H).below (unhide HO) hf1, FrO.of_below hf1⟩
    · rw [if_neg hc0]
      rcases hv with ⟨rfl, _⟩ | ⟨h1, _⟩
      · by_cases hh : S.halting = true
        · obtain ⟨hl0, hl1⟩ := hl hh
          by_cases hz : S.left = 0
          · rw [if_pos ⟨hh, hz⟩]
            rw [hh] at c4
            rw [hz] at c5
            have HE1 : Hid (ET (w.setCell ⟨p, 3, none⟩ (.bool true))) := by
              have h := unhide H
              have he := unhide HE
              refine (cell_same (heap_setCell_ne 3 _ ?_) 0).trans he
              rintro rfl
              have := he
              unfold ET at this
              rw [h.cells.1] at this
              cases this
            go_enter Tryd.func36, Tryd.ntmps36
            go_wp2_with (first | (go_at_call 43; refine (unhide W 32 _ (unhide HE1)).mono ?_; rintro e w1 ⟨b1, rfl, hb1, he1, hf1⟩))
            go_ret
            have h := unhide H
            have hO := unhide HO
            have h1 : DK (w.setCell ⟨p, 3, none⟩ (.bool true)) p { S with off := true } mb L O := halt_same h _ (fun k hk => heap_setCell_ne _ _ hk) (heap_setCell_at h.disk 3 _)
            simp at hb1
            exact ⟨_, rfl, .inr ⟨by decide, b1, rfl, he1, fun hh => absurd (hEE _ hh) (by omega)⟩, h1.below (by simpa using hO) hf1, FrO.trans ((FrO.refl O w).set h.oP 3 _) (FrO.of_below (O := O) hf1) (fun k _ hk => hk)⟩
          · rw [if_neg (fun hx => hz hx.2), if_pos hh]
            rw [hh] at c4
            have hz' : ¬ (0 : Int) = S.left := fun e => hz e.symm
            go_enter Tryd.func36, Tryd.ntmps36
            go_wp2
            go_ret
            have h := unhide H
            exact ⟨_, rfl, .inl ⟨rfl, rfl⟩, halt_same h _ (fun k hk => (heap_setCell_ne _ _ hk).trans (heap_setCell_ne _ _ hk)) (heap_setCell_at (heap_setCell_at h.disk 5 _) 2 _), ((FrO.refl O w).set h.oP 5 _).set h.oP 2 _⟩
        · have hh' : S.halting = false := by simpa using hh
          rw [if_neg (fun hx => hh hx.1), if_neg hh]
          rw [hh'] at c4
          go_enter Tryd.func36, Tryd.ntmps36
          go_wp2
          go_ret
          have h := unhide H
          exact ⟨_, rfl, .inl ⟨rfl, rfl⟩, halt_same h _ (fun k hk => heap_setCell_ne _ _ hk) (heap_setCell_at h.disk 2 _), (FrO.refl O w).set h.oP 2 _⟩
      · exact absurd h1 hc0
end Go.Proofs.YthebgoadeecmpaaDoor
