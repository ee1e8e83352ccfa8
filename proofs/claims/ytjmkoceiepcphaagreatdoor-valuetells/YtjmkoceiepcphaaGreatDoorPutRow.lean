/- Contract of wire.PutRow. -/
import Derived.Test.YtjmkoceiepcphaaGreatDoorRows2
import Derived.Deep.QuietTactic
import Derived.BigQuiet
import Derived.WalkSmall
namespace Go.Proofs.YtjmkoceiepcphaaGreatDoor
open Go.RowKit Go.Lib

/-- What a writer's done tells. -/
def DonePost (s : Option (List UInt8)) (B : Nat) (w : World) (e : Ending) (w' : World) : Prop :=
  match s with
  | some l => ∃ a k, e = .returned (.tuple #[.slice a l.length k, .nilIface]) ∧ w'.ownsRow B 5 1 (.slice a l.length k) l.length (byteCells l) ∧ Below B w w'
  | none => ∃ b pl, e = .returned (.tuple #[.slice none 0 0, ev b]) ∧ B ≤ b ∧ ErrAt w' b pl 20 ∧ Below B w w'

set_option maxHeartbeats 1600000 in
theorem wdone_any (p : Nat) (s : Option (List UInt8)) (w : World) (hw : WS w p s) :
    Calls Tryz.prog 34 #[.pointer (some ⟨p, 0, none⟩)] w fun e w' => DonePost s (p + 1) w e w' := by
  cases s with
  | none =>
    obtain ⟨f0, f1, b, pl, h0, h1, hb, he⟩ := hw
    have HE := hide he
    clear he
    go_enter Tryz.func34, Tryz.ntmps34
    go_wp2
    go_quiet (fail)
    go_wp2
    go_ret2
    exact ⟨b, pl, rfl, hb, unhide HE, below_drewN (Below.refl _ _) _⟩
  | some l =>
    obtain ⟨f0, f1, v, h0, h1, ho⟩ := hw
    obtain ⟨a, k, rfl⟩ := own_slice ho
    have HO := hide ho
    clear ho
    go_enter Tryz.func34, Tryz.ntmps34
    go_wp2
    go_ret2
    exact ⟨a, k, rfl, unhide HO, Below.refl _ _⟩

theorem own_weaker {w : World} {B B' : Nat} {e : TypeId} {sz : Nat} {v : Value} {n : Nat} {xs : List Value} (hB : B' ≤ B) (h : w.ownsRow B e sz v n xs) : w.ownsRow B' e sz v n xs := by
  obtain ⟨h1, h2 | ⟨g, cap, cur, h3, h4, h5⟩⟩ := h
  · exact ⟨h1, .inl h2⟩
  · exact ⟨h1, .inr ⟨g, cap, cur, h3, by omega, h5⟩⟩
theorem WS.new (w : World) : WS (w.alloc (.cells #[.slice none 0 0, .nilIface] 65)) w.heap.size (some []) := by
  refine ⟨by simp, by simp, .slice none 0 0, by simp, by simp, World.ownsRow_nil _ _ _ _⟩

set_option maxHeartbeats 1600000 in
theorem putRow_any (v : Value) (gs : List GV) (w : World) (hv : RV w w.heap.size v gs) :
    Calls Tryz.prog 18 #[v] w fun e w' => DonePost (putVals gs (putLen gs.length 64 (some []))) w.heap.size w e w' := by
  have hv1 : RV (w.alloc (.cells #[.slice none 0 0, .nilIface] 65)) w.heap.size v gs := by
    obtain ⟨h1, h2, ⟨rfl, rfl⟩ | ⟨b, off, cap, hb, rfl, hc⟩⟩ := hv
    · exact ⟨h1, h2, .inl ⟨rfl, rfl⟩⟩
    · refine ⟨h1, h2, .inr ⟨b, off, cap, hb, rfl, fun i g hg => ?_⟩⟩
      rw [World.cell?_alloc_lt _ _ ⟨b, off + i * 3, none⟩ hb, World.cell?_alloc_lt _ _ ⟨b, off + i * 3 + 1, none⟩ hb, World.cell?_alloc_lt _ _ ⟨b, off + i * 3 + 2, none⟩ hb]
      exact hc i g hg
  have HR := hide (wrow_any w.heap.size v gs (some []) _ hv1 (WS.new w) (by intro l h; injection h with h; subst h; simp))
  have HB := hide ((Below.refl w.heap.size w).alloc (Nat.le_refl _) (.cells #[.slice none 0 0, .nilIface] 65))
  clear hv hv1
  generalize putVals gs (putLen gs.length 64 (some [])) = s at *
  cases s with
  | some l =>
    go_enter Tryz.func18, Tryz.ntmps18
    go_wp2_with (first | (go_at_call 33; refine (unhide HR).mono ?_; rintro e w1 ⟨rfl, hw1, hf1⟩) | (go_at_call 34; refine (wdone_any w.heap.size (some l) _ hw1).mono ?_; rintro e w2 ⟨a, k, rfl, ho, hb2⟩))
    go_ret2
    exact ⟨a, k, rfl, own_weaker (by omega) ho, ((unhide HB).trans hf1.1).trans (hb2.mono (by omega))⟩
  | none =>
    go_enter Tryz.func18, Tryz.ntmps18
    go_wp2_with (first | (go_at_call 33; refine (unhide HR).mono ?_; rintro e w1 ⟨rfl, hw1, hf1⟩) | (go_at_call 34; refine (wdone_any w.heap.size none _ hw1).mono ?_; rintro e w2 ⟨b, pl, rfl, hb, he, hb2⟩))
    go_ret2
    exact ⟨b, pl, rfl, by omega, he, ((unhide HB).trans hf1.1).trans (hb2.mono (by omega))⟩
end Go.Proofs.YtjmkoceiepcphaaGreatDoor
