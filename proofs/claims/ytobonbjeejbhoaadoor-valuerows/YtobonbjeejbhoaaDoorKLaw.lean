/- ValueKeys: its walk. -/
import Derived.Test.YtobonbjeejbhoaaDoorKBack
import Derived.Test.YtobonbjeejbhoaaDoorKSame
namespace Go.Proofs.YtobonbjeejbhoaaDoor
open Go.RowKit Go.Lib

theorem bl_cmp : ∀ a b : List UInt8, Op.bytesLess a b = decide (compareBytes a b < 0)
  | [], [] => rfl
  | [], _ :: _ => rfl
  | _ :: _, [] => rfl
  | a :: x, b :: y => by
    have ih := bl_cmp x y
    show (decide (a < b) || (a == b && Op.bytesLess x y)) = _
    rw [ih]
    show _ = decide ((if a < b then (-1 : Int) else if b < a then 1 else compareBytes x y) < 0)
    by_cases h : a < b
    · simp [h]
    · by_cases h' : b < a
      · have hne : a ≠ b := fun e => by subst e; exact absurd h' (UInt8.lt_irrefl a)
        simp [h, h', hne]
      · have he : a = b := by
          rw [u8_lt] at h h'
          exact u8_eq (by omega)
        subst he
        simp [h]
theorem few_len {gs : List GV} {n : Nat} (h : fewG gs n = true) : gs.length ≤ n := by
  simp [fewG] at h
  exact h.1

set_option maxHeartbeats 6400000 in
set_option maxRecDepth 100000 in
theorem keys_any (va vb : Value) (a b : List GV) (w : World) (hE : ET w) (ha : RVu w w.heap.size va a) (hb : RVu w w.heap.size vb b) :
    Calls Tryd.prog 4 #[va, vb] w fun e w' => e = .returned (.bool true) ∧ Below w.heap.size w w' := by
  have HK := hide (known_any w hE)
  have HRA := hide ha
  have HRB := hide hb
  obtain ⟨ad, ca, rfl, ha'⟩ := ha.rva
  obtain ⟨bd, cb, rfl, hb'⟩ := hb.rva
  have la : (a.length : Int) ≤ 9223372036854775807 := by have := ha.1; unfold maxLen at this; omega
  have lb : (b.length : Int) ≤ 9223372036854775807 := by have := hb.1; unfold maxLen at this; omega
  have HFA := hide (fun (W : World) (hW : Below w.heap.size w W) => few_any _ _ a 16 W ((unhide HRA).later hW hW.size))
  have HFB := hide (fun (W : World) (hW : Below w.heap.size w W) => few_any _ _ b 16 W ((unhide HRB).later hW hW.size))
  have HKA := hide (fun (W : World) (hW : Below w.heap.size w W) => key_any _ a W ((unhide HRA).later hW hW.size))
  have HKB := hide (fun (W : World) (hW : Below w.heap.size w W) => key_any _ b W ((unhide HRB).later hW hW.size))
  have HC := hide (fun (W : World) (hW : Below w.heap.size w W) => class_bare 20 W (hE.below hW hE.lt))
  have HRW := hide (fun (W : World) (hW : Below w.heap.size w W) => vrows_any ad bd ca cb a b W (ha'.later hW hW.size) (hb'.later hW hW.size))
  have HVA := hide (fun (W : World) (hW : Below w.heap.size w W) => ha'.later hW hW.size)
  have HOA := hide ha'.2.1
  have HOB := hide hb'.2.1
  clear hE ha hb ha' hb' HRA HRB
  by_cases fa : fewG a 16 = true
  · rw [fa] at HFA
    by_cases fb : fewG b 16 = true
    · rw [fb] at HFB
      have l16a := few_len fa
      have l16b := few_len fb
      by_cases hl : a.length = b.length
      · have hln : ((a.length : Int) != (b.length : Int)) = false := by simp [hl]
        clear fa fb
        by_cases ma : ∀ g ∈ a, g.may = true
        · by_cases mb : ∀ g ∈ b, g.may = true
          · have hcm := keyG_cmp a b (fun g hg => ⟨ma g hg, unhide HOA g hg⟩) (fun g hg => ⟨mb g hg, unhide HOB g hg⟩) hl
            have hun := un_back a [] (fun g hg => ⟨ma g hg, unhide HOA g hg⟩) (by simpa using l16a)
            rw [List.nil_append] at hun
            have hkl := keyG_len a ma
            have hkb := keyG_len b mb
            have hbl := bl_cmp (keyG a) (keyG b)
            have hrg := cb_range (keyG a) (keyG b)
            have hq : ((keyG a == keyG b) = true ↔ compareBytes (keyG a) (keyG b) = 0) := by
              rw [beq_iff_eq]
              exact ⟨fun e => by rw [e]; exact compareBytes_cmp.self _, fun e => cb_eq _ _ e⟩
            have HUK := hide (fun (W : World) (v : Value) (h : RBp W W.heap.size v (keyG a)) => unkey_any v (keyG a) W h (by omega))
            rw [hun] at HUK
            rw [hcm] at hbl hrg hq
            have HKA' := hide (fun (W : World) (hW : Below w.heap.size w W) (e : Ending) (W' : World) (h : KeyPost a W e W') => show Below W.heap.size W W' ∧ ∃ x k, e = .returned (.tuple #[.slice x (keyG a).length k, .nilIface]) ∧ W'.ownsRow W.heap.size 5 1 (.slice x (keyG a).length k) (keyG a).length (byteCells (keyG a)) by
              obtain ⟨h1, ⟨_, _, h2⟩ | ⟨h2 | ⟨g, hg, h3⟩, _⟩⟩ := h
              · exact ⟨h1, h2⟩
              · omega
              · rw [ma g hg] at h3; cases h3)
            have HKB' := hide (fun (W : World) (hW : Below w.heap.size w W) (e : Ending) (W' : World) (h : KeyPost b W e W') => show Below W.heap.size W W' ∧ ∃ x k, e = .returned (.tuple #[.slice x (keyG b).length k, .nilIface]) ∧ W'.ownsRow W.heap.size 5 1 (.slice x (keyG b).length k) (keyG b).length (byteCells (keyG b)) by
              obtain ⟨h1, ⟨_, _, h2⟩ | ⟨h2 | ⟨g, hg, h3⟩, _⟩⟩ := h
              · exact ⟨h1, h2⟩
              · omega
              · rw [mb g hg] at h3; cases h3)
            clear hcm hun ma mb HC hl
            generalize rowsG a b = c at *
            generalize keyG a = X at *
            generalize keyG b = Y at *
            have facts : (c = -1 ∧ Op.bytesLess X Y = true ∧ (X == Y) = false) ∨ (c = 0 ∧ Op.bytesLess X Y = false ∧ (X == Y) = true) ∨ (c = 1 ∧ Op.bytesLess X Y = false ∧ (X == Y) = false) := by
              rcases hrg with rfl | rfl | rfl
              · exact .inl ⟨rfl, hbl, by rw [Bool.eq_false_iff]; intro h; have := hq.1 h; omega⟩
              · exact .inr (.inl ⟨rfl, hbl, hq.2 rfl⟩)
              · exact .inr (.inr ⟨rfl, hbl, by rw [Bool.eq_false_iff]; intro h; have := hq.1 h; omega⟩)
            clear hrg hbl hq
            rcases facts with ⟨rfl, h1, h2⟩ | ⟨rfl, h1, h2⟩ | ⟨rfl, h1, h2⟩
            · go_enter Tryd.func4, Tryd.ntmps4
              go_wp2_with (first
                | (go_at_call 5; refine (unhide HK).mono ?_; clear HK; rintro e w1 ⟨rfl, hb1⟩)
                | (go_at_call 6; refine (unhide HFA _ hb1).mono ?_; clear HFA; rintro e w0 ⟨rfl, rfl⟩)
                | (go_at_call 6; refine (unhide HFB _ hb1).mono ?_; clear HFB; rintro e w0 ⟨rfl, rfl⟩)
                | (go_at_call 7; refine (unhide HKA _ hb1).mono ?_; clear HKA; intro e w2 hk2; obtain ⟨hb2, xa, xk, rfl, ho2⟩ := unhide HKA' _ hb1 e w2 hk2; have Q2 := hide (one_step hb1 hb2); clear hk2)
                | (go_at_call 7; refine (unhide HKB _ (unhide Q2)).mono ?_; clear HKB; intro e w3 hk3; obtain ⟨hb3, ya, yk, rfl, ho3⟩ := unhide HKB' _ (unhide Q2) e w3 hk3; have Q3 := hide (one_step (unhide Q2) hb3); have HX3 := hide (own_later ho2 hb3); have HY3 := hide ho3; clear hk3 ho2 ho3)
                | (go_at_call 9; refine (unhide HUK _ _ (rb_own (unhide HX3) (by omega))).mono ?_; clear HUK; rintro e w4 ⟨hb4, la', lk', rfl, ho4⟩; have Q4 := hide (one_step (unhide Q3) hb4); have HX4 := hide (own_later (unhide HX3) hb4); have HY4 := hide (own_later (unhide HY3) hb4); have HL4 := hide ho4; clear ho4 HX3 HY3)
                | (go_at_call 11; refine (unhide HRW _ (unhide Q4)).mono ?_; clear HRW; rintro e w5 ⟨rfl, hb5⟩; have Q5 := hide (one_step (unhide Q4) hb5); have HX5 := hide (own_later (unhide HX4) hb5); have HY5 := hide (own_later (unhide HY4) hb5); have HL5 := hide (own_later (unhide HL4) hb5); clear HX4 HY4 HL4)
                | (go_at_call 15; refine (values_same _ _ _ _ _ a _ (own_rva (unhide HL5) (unhide HOA) (by omega)) (unhide HVA _ (unhide Q5))).mono ?_; rintro e w6 ⟨rfl, hb6⟩; have Q6 := hide (one_step (unhide Q5) hb6); have cx := conv_any _ _ _ w6 (rb_own (own_later (unhide HX5) hb6) (by omega)); have cy := conv_any _ _ _ w6 (rb_own (own_later (unhide HY5) hb6) (by omega))))
              go_ret
              exact ⟨rfl, unhide Q6⟩
            · go_enter Tryd.func4, Tryd.ntmps4
              go_wp2_with (first
                | (go_at_call 5; refine (unhide HK).mono ?_; clear HK; rintro e w1 ⟨rfl, hb1⟩)
                | (go_at_call 6; refine (unhide HFA _ hb1).mono ?_; clear HFA; rintro e w0 ⟨rfl, rfl⟩)
                | (go_at_call 6; refine (unhide HFB _ hb1).mono ?_; clear HFB; rintro e w0 ⟨rfl, rfl⟩)
                | (go_at_call 7; refine (unhide HKA _ hb1).mono ?_; clear HKA; intro e w2 hk2; obtain ⟨hb2, xa, xk, rfl, ho2⟩ := unhide HKA' _ hb1 e w2 hk2; have Q2 := hide (one_step hb1 hb2); clear hk2)
                | (go_at_call 7; refine (unhide HKB _ (unhide Q2)).mono ?_; clear HKB; intro e w3 hk3; obtain ⟨hb3, ya, yk, rfl, ho3⟩ := unhide HKB' _ (unhide Q2) e w3 hk3; have Q3 := hide (one_step (unhide Q2) hb3); have HX3 := hide (own_later ho2 hb3); have HY3 := hide ho3; clear hk3 ho2 ho3)
                | (go_at_call 9; refine (unhide HUK _ _ (rb_own (unhide HX3) (by omega))).mono ?_; clear HUK; rintro e w4 ⟨hb4, la', lk', rfl, ho4⟩; have Q4 := hide (one_step (unhide Q3) hb4); have HX4 := hide (own_later (unhide HX3) hb4); have HY4 := hide (own_later (unhide HY3) hb4); have HL4 := hide ho4; clear ho4 HX3 HY3)
                | (go_at_call 11; refine (unhide HRW _ (unhide Q4)).mono ?_; clear HRW; rintro e w5 ⟨rfl, hb5⟩; have Q5 := hide (one_step (unhide Q4) hb5); have HX5 := hide (own_later (unhide HX4) hb5); have HY5 := hide (own_later (unhide HY4) hb5); have HL5 := hide (own_later (unhide HL4) hb5); clear HX4 HY4 HL4)
                | (go_at_call 15; refine (values_same _ _ _ _ _ a _ (own_rva (unhide HL5) (unhide HOA) (by omega)) (unhide HVA _ (unhide Q5))).mono ?_; rintro e w6 ⟨rfl, hb6⟩; have Q6 := hide (one_step (unhide Q5) hb6); have cx := conv_any _ _ _ w6 (rb_own (own_later (unhide HX5) hb6) (by omega)); have cy := conv_any _ _ _ w6 (rb_own (own_later (unhide HY5) hb6) (by omega))))
              go_ret
              exact ⟨rfl, unhide Q6⟩
            · go_enter Tryd.func4, Tryd.ntmps4
              go_wp2_with (first
                | (go_at_call 5; refine (unhide HK).mono ?_; clear HK; rintro e w1 ⟨rfl, hb1⟩)
                | (go_at_call 6; refine (unhide HFA _ hb1).mono ?_; clear HFA; rintro e w0 ⟨rfl, rfl⟩)
                | (go_at_call 6; refine (unhide HFB _ hb1).mono ?_; clear HFB; rintro e w0 ⟨rfl, rfl⟩)
                | (go_at_call 7; refine (unhide HKA _ hb1).mono ?_; clear HKA; intro e w2 hk2; obtain ⟨hb2, xa, xk, rfl, ho2⟩ := unhide HKA' _ hb1 e w2 hk2; have Q2 := hide (one_step hb1 hb2); clear hk2)
                | (go_at_call 7; refine (unhide HKB _ (unhide Q2)).mono ?_; clear HKB; intro e w3 hk3; obtain ⟨hb3, ya, yk, rfl, ho3⟩ := unhide HKB' _ (unhide Q2) e w3 hk3; have Q3 := hide (one_step (unhide Q2) hb3); have HX3 := hide (own_later ho2 hb3); have HY3 := hide ho3; clear hk3 ho2 ho3)
                | (go_at_call 9; refine (unhide HUK _ _ (rb_own (unhide HX3) (by omega))).mono ?_; clear HUK; rintro e w4 ⟨hb4, la', lk', rfl, ho4⟩; have Q4 := hide (one_step (unhide Q3) hb4); have HX4 := hide (own_later (unhide HX3) hb4); have HY4 := hide (own_later (unhide HY3) hb4); have HL4 := hide ho4; clear ho4 HX3 HY3)
                | (go_at_call 11; refine (unhide HRW _ (unhide Q4)).mono ?_; clear HRW; rintro e w5 ⟨rfl, hb5⟩; have Q5 := hide (one_step (unhide Q4) hb5); have HX5 := hide (own_later (unhide HX4) hb5); have HY5 := hide (own_later (unhide HY4) hb5); have HL5 := hide (own_later (unhide HL4) hb5); clear HX4 HY4 HL4)
                | (go_at_call 15; refine (values_same _ _ _ _ _ a _ (own_rva (unhide HL5) (unhide HOA) (by omega)) (unhide HVA _ (unhide Q5))).mono ?_; rintro e w6 ⟨rfl, hb6⟩; have Q6 := hide (one_step (unhide Q5) hb6); have cx := conv_any _ _ _ w6 (rb_own (own_later (unhide HX5) hb6) (by omega)); have cy := conv_any _ _ _ w6 (rb_own (own_later (unhide HY5) hb6) (by omega))))
              go_ret
              exact ⟨rfl, unhide Q6⟩
          · have HKA' := hide (fun (W : World) (hW : Below w.heap.size w W) (e : Ending) (W' : World) (h : KeyPost a W e W') => show Below W.heap.size W W' ∧ ∃ x, e = .returned (.tuple #[x, .nilIface]) by
              obtain ⟨h1, ⟨_, _, x, k, h2, _⟩ | ⟨h2 | ⟨g, hg, h3⟩, _⟩⟩ := h
              · exact ⟨h1, _, h2⟩
              · omega
              · rw [ma g hg] at h3; cases h3)
            have HKB' := hide (fun (W : World) (hW : Below w.heap.size w W) (e : Ending) (W' : World) (h : KeyPost b W e W') => show Below W.heap.size W W' ∧ e = .returned (.tuple #[.slice none 0 0, .iface 48 (.int .i64 20)]) by
              obtain ⟨h1, ⟨_, h2, _⟩ | ⟨_, h2⟩⟩ := h
              · exact absurd h2 mb
              · exact ⟨h1, h2⟩)
            clear ma mb HRW HVA hl
            go_enter Tryd.func4, Tryd.ntmps4
            go_wp2_with (first
              | (go_at_call 5; refine (unhide HK).mono ?_; clear HK; rintro e w1 ⟨rfl, hb1⟩)
              | (go_at_call 6; refine (unhide HFA _ hb1).mono ?_; clear HFA; rintro e w0 ⟨rfl, rfl⟩)
              | (go_at_call 6; refine (unhide HFB _ hb1).mono ?_; clear HFB; rintro e w0 ⟨rfl, rfl⟩)
              | (go_at_call 7; refine (unhide HKA _ hb1).mono ?_; clear HKA; intro e w2 hk2; obtain ⟨hb2, x2, rfl⟩ := unhide HKA' _ hb1 e w2 hk2; have Q2 := hide (one_step hb1 hb2); clear hk2)
              | (go_at_call 7; refine (unhide HKB _ (unhide Q2)).mono ?_; clear HKB; intro e w3 hk3; obtain ⟨hb3, rfl⟩ := unhide HKB' _ (unhide Q2) e w3 hk3; have Q3 := hide (one_step (unhide Q2) hb3); have N3 := hide (class_nil w3); clear hk3)
              | (go_at_call 14; refine (unhide N3).mono ?_; clear N3; rintro e w0 ⟨rfl, rfl⟩)
              | (go_at_call 14; refine (unhide HC _ (unhide Q3)).mono ?_; clear HC; rintro e w4 ⟨rfl, hb4⟩; have Q4 := hide (one_step (unhide Q3) hb4)))
            go_ret
            exact ⟨rfl, unhide Q4⟩
        · have HKA' := hide (fun (W : World) (hW : Below w.heap.size w W) (e : Ending) (W' : World) (h : KeyPost a W e W') => show Below W.heap.size W W' ∧ e = .returned (.tuple #[.slice none 0 0, .iface 48 (.int .i64 20)]) by
            obtain ⟨h1, ⟨_, h2, _⟩ | ⟨_, h2⟩⟩ := h
            · exact absurd h2 ma
            · exact ⟨h1, h2⟩)
          have HKB' := hide (fun (W : World) (hW : Below w.heap.size w W) (e : Ending) (W' : World) (h : KeyPost b W e W') => show Below W.heap.size W W' ∧ ∃ x f, e = .returned (.tuple #[x, f]) by
            obtain ⟨h1, ⟨_, _, x, k, h2, _⟩ | ⟨_, h2⟩⟩ := h
            · exact ⟨h1, _, _, h2⟩
            · exact ⟨h1, _, _, h2⟩)
          clear ma HRW HVA hl
          go_enter Tryd.func4, Tryd.ntmps4
          go_wp2_with (first
            | (go_at_call 5; refine (unhide HK).mono ?_; clear HK; rintro e w1 ⟨rfl, hb1⟩)
            | (go_at_call 6; refine (unhide HFA _ hb1).mono ?_; clear HFA; rintro e w0 ⟨rfl, rfl⟩)
            | (go_at_call 6; refine (unhide HFB _ hb1).mono ?_; clear HFB; rintro e w0 ⟨rfl, rfl⟩)
            | (go_at_call 7; refine (unhide HKA _ hb1).mono ?_; clear HKA; intro e w2 hk2; obtain ⟨hb2, rfl⟩ := unhide HKA' _ hb1 e w2 hk2; have Q2 := hide (one_step hb1 hb2); clear hk2)
            | (go_at_call 7; refine (unhide HKB _ (unhide Q2)).mono ?_; clear HKB; intro e w3 hk3; obtain ⟨hb3, y3, f3, rfl⟩ := unhide HKB' _ (unhide Q2) e w3 hk3; have Q3 := hide (one_step (unhide Q2) hb3); clear hk3)
            | (go_at_call 14; refine (unhide HC _ (unhide Q3)).mono ?_; clear HC; rintro e w4 ⟨rfl, hb4⟩; have Q4 := hide (one_step (unhide Q3) hb4)))
          go_ret
          exact ⟨rfl, unhide Q4⟩
      · have hln : ((a.length : Int) != (b.length : Int)) = true := by simp; omega
        clear fa fb hl HKA HKB HC HRW HVA l16a l16b
        go_enter Tryd.func4, Tryd.ntmps4
        go_wp2_with (first
          | (go_at_call 5; refine (unhide HK).mono ?_; clear HK; rintro e w1 ⟨rfl, hb1⟩)
          | (go_at_call 6; refine (unhide HFA _ hb1).mono ?_; clear HFA; rintro e w0 ⟨rfl, rfl⟩)
          | (go_at_call 6; refine (unhide HFB _ hb1).mono ?_; clear HFB; rintro e w0 ⟨rfl, rfl⟩))
        go_ret
        exact ⟨rfl, hb1⟩
    · rw [show fewG b 16 = false by simpa using fb] at HFB
      clear fa fb HKA HKB HC HRW HVA
      go_enter Tryd.func4, Tryd.ntmps4
      go_wp2_with (first
        | (go_at_call 5; refine (unhide HK).mono ?_; clear HK; rintro e w1 ⟨rfl, hb1⟩)
        | (go_at_call 6; refine (unhide HFA _ hb1).mono ?_; clear HFA; rintro e w0 ⟨rfl, rfl⟩)
        | (go_at_call 6; refine (unhide HFB _ hb1).mono ?_; clear HFB; rintro e w0 ⟨rfl, rfl⟩))
      go_ret
      exact ⟨rfl, hb1⟩
  · rw [show fewG a 16 = false by simpa using fa] at HFA
    clear fa HKA HKB HC HRW HVA HFB
    go_enter Tryd.func4, Tryd.ntmps4
    go_wp2_with (first
      | (go_at_call 5; refine (unhide HK).mono ?_; clear HK; rintro e w1 ⟨rfl, hb1⟩)
      | (go_at_call 6; refine (unhide HFA _ hb1).mono ?_; clear HFA; rintro e w0 ⟨rfl, rfl⟩))
    go_ret
    exact ⟨rfl, hb1⟩
end Go.Proofs.YtobonbjeejbhoaaDoor
