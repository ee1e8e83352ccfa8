/- Append: the walks. -/
import Derived.Test.YtkfogibjlbkmgaaDoorDAppS
namespace Go.Proofs.YtkfogibjlbkmgaaDoor
open Go.RowKit Go.Lib Go.Maps Go.WideMaps

set_option maxHeartbeats 3200000 in
set_option maxRecDepth 100000 in
/-- A name that may not be, or too many files. -/
theorem append_bad {w : World} {p : Nat} {S : St} {mb : Option Nat} {L : List Ent} {O : Nat → Prop} (s : ByteArray) (v : Value) (lb : List UInt8) (h : DK w p S mb L O) (hO : ∀ k, O k → k < w.heap.size) (hE : ET w) (hs : s.size ≤ maxLen)
    (hc : 0 ≤ S.count ∧ S.count < 1000000000) (hl : S.halting = true → 0 ≤ S.left ∧ S.left < 9223372036854775808) (hlk : look L s.data.toList = none) (han : anotherC L s.data.toList ≠ 0) :
    Calls Tryd.prog 9 #[.pointer (some ⟨p, 0, none⟩), .string s, v] w (AppPost w p S L O s.data.toList lb) := by
  have HF := hide (find_any s h hs)
  have hfr : FindRes L s.data.toList = .tuple #[.pointer none, evC 30] := by unfold FindRes; rw [hlk]
  rw [hfr] at HF
  have HA := hide (another_bad s h hs han)
  have hC : appC S L s.data.toList lb.length = anotherC L s.data.toList := by unfold appC; rw [hlk]; exact if_neg han
  have HB := hide (begin_any s (evC (anotherC L s.data.toList)) (anotherC L s.data.toList) h hO hE (.inr ⟨han, .inl rfl⟩) (fun b hb => by cases hb) hc hl)
  have hbs := beginS_ne (S := S) han
  unfold AppPost
  rw [hC]
  have HX : Hid (∀ w' v', ErrOut O w' v' (beginS S (anotherC L s.data.toList)).2 → ∃ b, v' = evW b) := fun w' v' h1 => by
    rcases h1 with ⟨_, h2⟩ | ⟨_, b, hb, _⟩
    · exact absurd h2 hbs.1
    · exact ⟨b, hb⟩
  generalize anotherC L s.data.toList = c at *
  clear h hC hfr
  go_enter Tryd.func9, Tryd.ntmps9
  go_wp2_with (first
    | (go_at_call 34; refine (unhide HF).mono ?_; rintro e w1 ⟨rfl, rfl⟩)
    | (go_at_call 35; refine (is_class 30 30 _).mono ?_; rintro e w1 ⟨rfl, rfl⟩)
    | (go_at_call 36; refine (unhide HA).mono ?_; rintro e w1 ⟨rfl, rfl⟩)
    | (go_at_call 38; refine (unhide HB).mono ?_; rintro e w1 ⟨v1, rfl, he1, hd1, hf1⟩; obtain ⟨b1, rfl⟩ := unhide HX _ _ he1))
  go_ret
  exact ⟨_, mb, L, rfl, he1, hd1.mono (fun k hk => .inl hk), hf1, fun _ => rfl, fun hh => absurd hh hbs.1⟩
end Go.Proofs.YtkfogibjlbkmgaaDoor
