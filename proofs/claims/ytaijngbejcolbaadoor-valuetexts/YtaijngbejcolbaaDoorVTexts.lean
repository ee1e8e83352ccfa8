/- ValueTexts: its walk. -/
import Derived.Test.YtaijngbejcolbaaDoorVKnown
namespace Go.Proofs.YtaijngbejcolbaaDoor
open Go.RowKit Go.Lib

theorem text_ok {t : ByteArray} (h : t.size ≤ maxLen) : GV.ok ⟨3, 0, t⟩ := ⟨show (-9223372036854775808 : Int) ≤ 0 by decide, show (0 : Int) < 9223372036854775808 by decide, h⟩
theorem do_cat {a b : ByteArray} (ha : GV.may ⟨3, 0, a⟩ = true) (hb : GV.may ⟨3, 0, b⟩ = true) : doG 16 ⟨3, 0, a⟩ ⟨3, 0, b⟩ = joinG a b := by
  unfold doG
  simp only [show ¬ ((16 : Int) = 1) by decide, if_false, ha, hb]
  rw [show operG 16 = 3 from rfl, if_neg (by simp), if_neg (by simp), if_neg (by simp), if_pos rfl]

set_option maxHeartbeats 3200000 in
theorem texts_any (a b : ByteArray) (w : World) (hE : ET w) (ha : a.size ≤ maxLen) (hb : b.size ≤ maxLen) :
    Calls Tryd.prog 7 #[.string a, .string b] w fun e w' => e = .returned (.bool true) ∧ Below w.heap.size w w' := by
  have HK := hide (known_any w hE)
  have h1 : (a.size : Int) ≤ 9223372036854775807 := by unfold maxLen at ha; omega
  have h2 : (b.size : Int) ≤ 9223372036854775807 := by unfold maxLen at hb; omega
  by_cases a40 : (40 : Int) < (a.size : Int)
  · clear hE
    go_enter Tryd.func7, Tryd.ntmps7
    go_wp2_with (first
      | (go_at_call 9; refine (unhide HK).mono ?_; rintro e w1 ⟨rfl, hb1⟩))
    go_ret
    exact ⟨rfl, hb1⟩
  by_cases b40 : (40 : Int) < (b.size : Int)
  · clear hE
    go_enter Tryd.func7, Tryd.ntmps7
    go_wp2_with (first
      | (go_at_call 9; refine (unhide HK).mono ?_; rintro e w1 ⟨rfl, hb1⟩))
    go_ret
    exact ⟨rfl, hb1⟩
  have HA := hide (fun W => is_any ⟨3, 0, a⟩ W (text_ok ha))
  have HB := hide (fun W => is_any ⟨3, 0, b⟩ W (text_ok hb))
  have HD := hide (fun W => do_any 16 ⟨3, 0, a⟩ ⟨3, 0, b⟩ W (text_ok ha) (.inr (text_ok hb)))
  have HC := hide (fun (W : World) (hW : Below w.heap.size w W) => class_bare 6 W (hE.below hW hE.lt))
  have HM := hide (fun (p : GV.may ⟨3, 0, a⟩ = true) (q : GV.may ⟨3, 0, b⟩ = true) => do_cat p q)
  simp only [GV.agg_eq] at HA HB HD
  clear hE ha hb
  generalize GV.may ⟨3, 0, a⟩ = ma at *
  generalize GV.may ⟨3, 0, b⟩ = mb at *
  cases ma with
  | false =>
    clear HD HM HC
    go_enter Tryd.func7, Tryd.ntmps7
    go_wp2_with (first
      | (go_at_call 9; refine (unhide HK).mono ?_; rintro e w1 ⟨rfl, hb1⟩)
      | (go_at_call 15; refine (unhide HA _).mono ?_; clear HA; rintro e w2 ⟨rfl, hb2⟩))
    go_ret
    exact ⟨rfl, one_step (one_new' (one_new' hb1 _) _) hb2⟩
  | true =>
    cases mb with
    | false =>
      clear HD HM HC
      go_enter Tryd.func7, Tryd.ntmps7
      go_wp2_with (first
        | (go_at_call 9; refine (unhide HK).mono ?_; rintro e w1 ⟨rfl, hb1⟩)
        | (go_at_call 15; refine (unhide HA _).mono ?_; clear HA; rintro e w2 ⟨rfl, hb2⟩; obtain ⟨d0, d1, d2, _, _, _⟩ := (B3.new _ (w1.heap.size + 1) 3 0 b (by simp)).after hb2)
        | (go_at_call 15; refine (unhide HB _).mono ?_; clear HB; rintro e w3 ⟨rfl, hb3⟩))
      go_ret
      exact ⟨rfl, one_step (one_step (one_new' (one_new' hb1 _) _) hb2) hb3⟩
    | true =>
      rw [unhide HM rfl rfl] at HD
      have hw : wrap64 ((a.size : Int) + (b.size : Int)) = (a.size : Int) + (b.size : Int) := wrap64_in (by omega) (by omega)
      clear HM
      by_cases h : 40 < a.size + b.size
      · rw [show joinG a b = (nullG, 6) by unfold joinG; rw [if_pos h]] at HD
        have h' : (40 : Int) < (a.size : Int) + (b.size : Int) := by omega
        have HD : Hid (∀ W : World, Calls Tryd.prog 18 #[.int .i64 16, .agg #[.int .i64 3, .int .i64 0, .string a], .agg #[.int .i64 3, .int .i64 0, .string b]] W fun e w' => e = .returned (.tuple #[.agg #[.int .i64 0, .int .i64 0, .string ⟨#[]⟩], .iface 55 (.int .i64 6)]) ∧ Below W.heap.size W w') := HD
        clear h
        go_enter Tryd.func7, Tryd.ntmps7
        go_wp2_with (first
          | (go_at_call 9; refine (unhide HK).mono ?_; rintro e w1 ⟨rfl, hb1⟩)
          | (go_at_call 15; refine (unhide HA _).mono ?_; clear HA; rintro e w2 ⟨rfl, hb2⟩; have BA := hide (((B3.new w1 w1.heap.size 3 0 a rfl).alloc _).after hb2); have BB := hide ((B3.new _ (w1.heap.size + 1) 3 0 b (by simp)).after hb2); obtain ⟨d0, d1, d2, _, _, _⟩ := unhide BB)
          | (go_at_call 15; refine (unhide HB _).mono ?_; clear HB; rintro e w3 ⟨rfl, hb3⟩; obtain ⟨c0, c1, c2, _, _, _⟩ := (unhide BA).after hb3; obtain ⟨d0, d1, d2, _, _, _⟩ := (unhide BB).after hb3)
          | (go_at_call 18; refine (unhide HD _).mono ?_; rintro e w4 ⟨rfl, hb4⟩; have Q := hide (one_step (one_step (one_step (one_new' (one_new' hb1 _) _) hb2) hb3) hb4))
          | (go_at_call 19; refine (unhide HC _ (one_new' (unhide Q) _)).mono ?_; rintro e w5 ⟨rfl, hb5⟩))
        go_ret
        exact ⟨rfl, one_step (one_new' (unhide Q) _) hb5⟩
      · rw [show joinG a b = (⟨3, 0, a ++ b⟩, 0) by unfold joinG; rw [if_neg h]] at HD
        have h' : ((40 : Int) < (a.size : Int) + (b.size : Int)) = False := by simp; omega
        have HD : Hid (∀ W : World, Calls Tryd.prog 18 #[.int .i64 16, .agg #[.int .i64 3, .int .i64 0, .string a], .agg #[.int .i64 3, .int .i64 0, .string b]] W fun e w' => e = .returned (.tuple #[.agg #[.int .i64 3, .int .i64 0, .string (a ++ b)], .nilIface]) ∧ Below W.heap.size W w') := HD
        clear h HC
        go_enter Tryd.func7, Tryd.ntmps7
        go_wp2_with (first
          | (go_at_call 9; refine (unhide HK).mono ?_; rintro e w1 ⟨rfl, hb1⟩)
          | (go_at_call 15; refine (unhide HA _).mono ?_; clear HA; rintro e w2 ⟨rfl, hb2⟩; have BA := hide (((B3.new w1 w1.heap.size 3 0 a rfl).alloc _).after hb2); have BB := hide ((B3.new _ (w1.heap.size + 1) 3 0 b (by simp)).after hb2); obtain ⟨d0, d1, d2, _, _, _⟩ := unhide BB)
          | (go_at_call 15; refine (unhide HB _).mono ?_; clear HB; rintro e w3 ⟨rfl, hb3⟩; obtain ⟨c0, c1, c2, _, _, _⟩ := (unhide BA).after hb3; obtain ⟨d0, d1, d2, _, _, _⟩ := (unhide BB).after hb3)
          | (go_at_call 18; refine (unhide HD _).mono ?_; rintro e w4 ⟨rfl, hb4⟩; have Q := hide (one_step (one_step (one_step (one_new' (one_new' hb1 _) _) hb2) hb3) hb4)))
        go_ret
        exact ⟨rfl, one_new' (unhide Q) _⟩
end Go.Proofs.YtaijngbejcolbaaDoor
