/- Contracts of the helps that the statement on messages calls: Texts, SameEntries, Short, Values, Answers. -/
import Derived.Test.YtklclbegmpafpaaGreatDoorWMsg
namespace Go.Proofs.YtklclbegmpafpaaGreatDoor
open Go.RowKit Go.Lib

set_option maxHeartbeats 1600000 in
set_option maxRecDepth 100000 in
theorem texts_same (v v' : Value) (B B' : Nat) (ts : List ByteArray) (w : World) (h : SlS w B v ts) (h' : SlS w B' v' ts) :
    Calls Tryz.prog 66 #[v, v'] w fun e w' => e = .returned (.bool true) ∧ ∃ m, w' = w.drewN m := by
  obtain ⟨h1, _, a, cap, rfl, hc⟩ := h
  obtain ⟨_, _, a', cap', rfl, hc'⟩ := h'
  by_cases hne : ts = []
  · subst hne
    clear hc hc' h1
    go_enter Tryz.func66, Tryz.ntmps66
    go_wp2
    refine wp_loop_rounds 1 ?_
    rw [rounds_succ]
    go_wp2
    go_ret
    exact ⟨rfl, 0, rfl⟩
  · obtain ⟨b, off, rfl, _, hc⟩ := hc hne
    obtain ⟨b', off', rfl, _, hc'⟩ := hc' hne
    have HC := hide hc
    have HC' := hide hc'
    have hl' : (ts.length : Int) ≤ 9223372036854775807 := by unfold maxLen at h1; omega
    clear hc hc' hne h1
    go_enter Tryz.func66, Tryz.ntmps66
    go_wp2
    go_loopw [5] (fun i wr => ∃ k m : Nat, k ≤ ts.length ∧ i = .int .i64 k ∧ wr = w.drewN m) (fun i _ => ts.length - (intOf i).toNat)
    case atStart => exact ⟨0, 0, by omega, rfl, rfl⟩
    case round =>
      obtain ⟨k, m, hk, rfl, rfl⟩ := hrel
      by_cases hlt : k < ts.length
      · obtain ⟨g, hgk⟩ : ∃ g, ts[k]? = some g := ⟨ts[k], List.getElem?_eq_getElem hlt⟩
        have c0 := unhide HC k g hgk
        have d0 := unhide HC' k g hgk
        have hki : (k : Int) < (ts.length : Int) := by omega
        have hk0 : (0 : Int) ≤ (k : Int) := by omega
        clear HC HC' hgk
        go_wp2
        go_quiet (fail)
        go_wp2
        go_roundw
        case rel => exact ⟨k + 1, m + nq, by omega, by go_num, rfl⟩
        case measure => simp [intOf]; omega
      · clear HC HC'
        go_wp2
        go_ret
        exact ⟨rfl, m, rfl⟩

set_option maxHeartbeats 1600000 in
set_option maxRecDepth 100000 in
theorem ents_same (v v' : Value) (B B' : Nat) (ts : List GE) (w : World) (h : SlE w B v ts) (h' : SlE w B' v' ts) :
    Calls Tryz.prog 36 #[v, v'] w fun e w' => e = .returned (.bool true) ∧ ∃ m, w' = w.drewN m := by
  obtain ⟨h1, _, a, cap, rfl, hc⟩ := h
  obtain ⟨_, _, a', cap', rfl, hc'⟩ := h'
  by_cases hne : ts = []
  · subst hne
    clear hc hc' h1
    go_enter Tryz.func36, Tryz.ntmps36
    go_wp2
    refine wp_loop_rounds 1 ?_
    rw [rounds_succ]
    go_wp2
    go_ret
    exact ⟨rfl, 0, rfl⟩
  · obtain ⟨b, off, rfl, _, hc⟩ := hc hne
    obtain ⟨b', off', rfl, _, hc'⟩ := hc' hne
    have HC := hide hc
    have HC' := hide hc'
    have hl' : (ts.length : Int) ≤ 9223372036854775807 := by unfold maxLen at h1; omega
    clear hc hc' hne h1
    go_enter Tryz.func36, Tryz.ntmps36
    go_wp2
    go_loopw [5] (fun i wr => ∃ k m : Nat, k ≤ ts.length ∧ i = .int .i64 k ∧ wr = w.drewN m) (fun i _ => ts.length - (intOf i).toNat)
    case atStart => exact ⟨0, 0, by omega, rfl, rfl⟩
    case round =>
      obtain ⟨k, m, hk, rfl, rfl⟩ := hrel
      by_cases hlt : k < ts.length
      · obtain ⟨g, hgk⟩ : ∃ g, ts[k]? = some g := ⟨ts[k], List.getElem?_eq_getElem hlt⟩
        obtain ⟨c0, c1, c2, c3, c4⟩ := unhide HC k g hgk
        obtain ⟨d0, d1, d2, d3, d4⟩ := unhide HC' k g hgk
        have hki : (k : Int) < (ts.length : Int) := by omega
        have hk0 : (0 : Int) ≤ (k : Int) := by omega
        clear HC HC' hgk
        go_wp2
        go_quiet (fail)
        go_wp2
        go_roundw
        case rel => exact ⟨k + 1, m + nq, by omega, by go_num, rfl⟩
        case measure => simp [intOf]; omega
      · clear HC HC'
        go_wp2
        go_ret
        exact ⟨rfl, m, rfl⟩

/-- Few texts, each short. -/
def shortB (ts : List ByteArray) (many most : Nat) : Bool := decide (ts.length ≤ many) && ts.all fun t => decide (t.size ≤ most)
set_option maxHeartbeats 1600000 in
set_option maxRecDepth 100000 in
theorem short_any (v : Value) (B : Nat) (ts : List ByteArray) (many most : Nat) (w : World) (h : SlS w B v ts) :
    Calls Tryz.prog 16 #[v, .int .i64 (many : Int), .int .i64 (most : Int)] w fun e w' => e = .returned (.bool (shortB ts many most)) ∧ w' = w := by
  obtain ⟨h1, h2, a, cap, rfl, hc⟩ := h
  by_cases hne : ts = []
  · subst hne
    have hb : shortB [] many most = true := by simp [shortB]
    rw [hb]
    clear hc h1 hb
    go_enter Tryz.func16, Tryz.ntmps16
    go_wp2
    refine wp_loop_rounds 1 ?_
    rw [rounds_succ]
    go_wp2
    go_ret
    exact ⟨ret_bool (by simp), rfl⟩
  · obtain ⟨b, off, rfl, _, hc⟩ := hc hne
    have HC := hide hc
    have HO := hide h2
    have hl' : (ts.length : Int) ≤ 9223372036854775807 := by unfold maxLen at h1; omega
    obtain ⟨r, hr⟩ : ∃ r, r = shortB ts many most := ⟨_, rfl⟩
    rw [← hr]
    have HR := hide hr
    clear hc hne h1 h2 hr
    go_enter Tryz.func16, Tryz.ntmps16
    go_wp2
    go_loop [7] (fun i => ∃ k : Nat, k ≤ ts.length ∧ i = .int .i64 k ∧ Hid (∀ t ∈ ts.take k, t.size ≤ most)) (fun i => ts.length - (intOf i).toNat)
    case atStart => exact ⟨0, by omega, rfl, by intro t ht; simp at ht⟩
    case round =>
      obtain ⟨k, hk, rfl, hall⟩ := hrel
      by_cases hlt : k < ts.length
      · obtain ⟨g, hgk⟩ : ∃ g, ts[k]? = some g := ⟨ts[k], List.getElem?_eq_getElem hlt⟩
        have c0 := unhide HC k g hgk
        have hgo := unhide HO g (List.mem_of_getElem? hgk)
        have hsz : (g.size : Int) ≤ 9223372036854775807 := by unfold maxLen at hgo; omega
        have HG := hide hgk
        clear HC HO hgo hgk
        by_cases h100 : (most : Int) < (g.size : Int)
        · go_wp2
          go_ret
          refine ⟨ret_bool ?_, rfl⟩
          rw [unhide HR]
          have : ¬ g.size ≤ most := by omega
          have hmem := List.mem_of_getElem? (unhide HG)
          symm
          simp only [shortB, Bool.and_eq_false_iff]
          exact .inr (List.all_eq_false.2 ⟨g, hmem, by simpa using this⟩)
        · go_wp2
          go_round
          case rel =>
            refine ⟨k + 1, by omega, by go_num, ?_⟩
            intro t ht
            rw [List.take_add_one, unhide HG] at ht
            rcases List.mem_append.1 ht with ht | ht
            · exact unhide hall t ht
            · simp at ht; subst ht; omega
          case measure => simp [intOf]; omega
      · have ha : ∀ t ∈ ts, t.size ≤ most := by
          intro t ht
          have := unhide hall t (by rw [List.take_of_length_le (by omega)]; exact ht)
          exact this
        have HA := hide ha
        clear HC HO ha hall
        go_wp2
        go_ret
        refine ⟨ret_bool ?_, rfl⟩
        rw [unhide HR]
        have h3 : (ts.all fun t => decide (t.size ≤ most)) = true := List.all_eq_true.2 (fun t ht => by simpa using unhide HA t ht)
        simp [shortB, h3]

theorem sl_len {w : World} {B : Nat} {v : Value} {rs : List (Value × List GV)} (h : SlR w B v rs) : ∃ a k, v = .slice a rs.length k := by
  obtain ⟨_, _, a, cap, h, _⟩ := h
  exact ⟨a, cap, h⟩
/-- Rows that read as these values, however they lie. -/
theorem values_ee (v v' : Value) (gs : List GV) (w : World) (hl : gs.length ≤ 1000000) (h : RWe w v gs) (h' : RWe w v' gs) :
    Calls Tryz.prog 67 #[v, v'] w fun e w' => e = .returned (.bool true) ∧ ∃ m, w' = w.drewN m := by
  rcases h with h | ⟨rfl, a, k, rfl⟩
  · exact values_e v v' gs w hl h h'
  · have e : ∃ a k, v' = .slice a 0 k := by
      rcases h' with h' | ⟨_, a', k', rfl⟩
      · rcases h' with ⟨rfl, _⟩ | ⟨b, off, cap, _, rfl, _⟩
        · exact ⟨_, _, rfl⟩
        · exact ⟨_, _, rfl⟩
      · exact ⟨_, _, rfl⟩
    obtain ⟨a', k', rfl⟩ := e
    clear h'
    go_enter Tryz.func67, Tryz.ntmps67
    go_wp2
    refine wp_loop_rounds 1 ?_
    rw [rounds_succ]
    go_wp2
    go_ret
    exact ⟨rfl, 0, rfl⟩
theorem RVe.rwe {w : World} {B : Nat} {v : Value} {gs : List GV} (h : RVe w B v gs) (hB : B ≤ w.heap.size) : RWe w v gs := (h.later (Below.refl _ _) hB).rw'
theorem RWe.drewN {w : World} {v : Value} {gs : List GV} (h : RWe w v gs) (m : Nat) : RWe (w.drewN m) v gs := h

set_option maxHeartbeats 3200000 in
set_option maxRecDepth 100000 in
theorem answers_same (vC vR vC' vR' : Value) (ct : Int) (cs : List ByteArray) (rs rs' : List (Value × List GV)) (w : World) (hC : SlS w w.heap.size vC cs) (hC' : SlS w w.heap.size vC' cs) (hR : SlR w w.heap.size vR rs) (hR' : SlR w w.heap.size vR' rs') (he : rs.map Prod.snd = rs'.map Prod.snd) (h70 : ∀ x ∈ rs, x.2.length ≤ 1000) :
    Calls Tryz.prog 37 #[.agg #[vC, vR, .int .i64 ct], .agg #[vC', vR', .int .i64 ct]] w fun e w' => e = .returned (.bool true) ∧ Below w.heap.size w w' := by
  have hlen : rs.length = rs'.length := by have := congrArg List.length he; simpa using this
  obtain ⟨h1, hve, a, cap, rfl, hc⟩ := hR
  obtain ⟨h1', hve', a', cap', rfl, hc'⟩ := hR'
  rw [← hlen]
  have hb0 : Below w.heap.size w ((w.alloc (.cells #[vC, .slice a rs.length cap, .int .i64 ct] 29)).alloc (.cells #[vC', .slice a' rs.length cap', .int .i64 ct] 29)) := ((Below.refl _ _).alloc (Nat.le_refl _) _).alloc (by simp) _
  have HT := hide (texts_same vC vC' _ _ cs _ (hC.later hb0 (Nat.le_refl _)) (hC'.later hb0 (Nat.le_refl _)))
  have HV : Hid (∀ (W : World) (k : Nat) (x x' : Value × List GV), Below w.heap.size w W → rs[k]? = some x → rs'[k]? = some x' → Calls Tryz.prog 67 #[x.1, x'.1] W fun e w' => e = .returned (.bool true) ∧ ∃ n, w' = W.drewN n) := by
    intro W k x x' hW hx hx'
    have e2 : x.2 = x'.2 := by
      have := congrArg (fun l => l[k]?) he
      simp only [List.getElem?_map, hx, hx', Option.map_some] at this
      exact Option.some.inj this
    have a1 := ((hve x (List.mem_of_getElem? hx)).later hW (Nat.le_refl _)).rwe hW.size
    have a2 := ((hve' x' (List.mem_of_getElem? hx')).later hW (Nat.le_refl _)).rwe hW.size
    rw [← e2] at a2
    exact values_ee x.1 x'.1 x.2 W (by have := h70 x (List.mem_of_getElem? hx); omega) a1 a2
  have HB := hide hb0
  have hl' : (rs.length : Int) ≤ 9223372036854775807 := by unfold maxLen at h1; omega
  have HC : Hid (rs ≠ [] → ∃ b off b' off', a = some ⟨b, off, none⟩ ∧ a' = some ⟨b', off', none⟩ ∧ ∀ k x x' W, Below w.heap.size w W → rs[k]? = some x → rs'[k]? = some x' → W.cell? ⟨b, off + k, none⟩ = some x.1 ∧ W.cell? ⟨b', off' + k, none⟩ = some x'.1) := by
    intro hne
    obtain ⟨b, off, e1, e2, e3⟩ := hc hne
    obtain ⟨b', off', f1, f2, f3⟩ := hc' (by intro h; rw [h] at hlen; exact hne (List.eq_nil_of_length_eq_zero hlen))
    exact ⟨b, off, b', off', e1, f1, fun k x x' W hW hx hx' => ⟨(hW.cell (p := ⟨b, off + k, none⟩) e2).trans (e3 k x hx), (hW.cell (p := ⟨b', off' + k, none⟩) f2).trans (f3 k x' hx')⟩⟩
  have HL := hide hlen
  clear hC hC' hve hve' h1 h1' hc hc' hb0 he h70 hlen
  by_cases hne : rs = []
  · have HN := hide (show rs.length = 0 by rw [hne]; rfl)
    rw [unhide HN] at HT HB ⊢
    clear HC HV hl' HN HL hne
    go_enter Tryz.func37, Tryz.ntmps37
    go_wp2_with (first | (go_at_call 66; refine (unhide HT).mono ?_; rintro e w1 ⟨rfl, m1, rfl⟩))
    refine wp_loop_rounds 1 ?_
    rw [rounds_succ]
    go_wp2
    go_ret
    exact ⟨rfl, below_drewN (unhide HB) _⟩
  · obtain ⟨b, off, b', off', rfl, rfl, hc⟩ := unhide HC hne
    have HD := hide hc
    clear HC hne hc
    go_enter Tryz.func37, Tryz.ntmps37
    go_wp2_with (first | (go_at_call 66; refine (unhide HT).mono ?_; rintro e w1 ⟨rfl, m1, rfl⟩))
    clear HT
    go_loopw [5] (fun i wr => ∃ k : Nat, k ≤ rs.length ∧ i = .int .i64 k ∧ Hid (Below w.heap.size w wr) ∧ wr.cell? ⟨w.heap.size, 1, none⟩ = some (.slice (some ⟨b, off, none⟩) rs.length cap) ∧ wr.cell? ⟨w.heap.size + 1, 1, none⟩ = some (.slice (some ⟨b', off', none⟩) rs.length cap')) (fun i _ => rs.length - (intOf i).toNat)
    case atStart => exact ⟨0, by omega, rfl, below_drewN (unhide HB) m1, by simp, by simp⟩
    case round =>
      obtain ⟨k, hk, rfl, hbr, q0, q1⟩ := hrel
      by_cases hlt : k < rs.length
      · obtain ⟨x, hx⟩ : ∃ g, rs[k]? = some g := ⟨rs[k], List.getElem?_eq_getElem hlt⟩
        obtain ⟨x', hx'⟩ : ∃ g, rs'[k]? = some g := ⟨rs'[k]'(by have := unhide HL; omega), List.getElem?_eq_getElem _⟩
        obtain ⟨c0, d0⟩ := unhide HD k x x' wr (unhide hbr) hx hx'
        have HW := hide (fun (W : World) (hW : Below w.heap.size w W) => unhide HV W k x x' hW hx hx')
        have hki : (k : Int) < (rs.length : Int) := by omega
        have hk0 : (0 : Int) ≤ (k : Int) := by omega
        clear HD hx hx'
        go_wp2
        go_quiet ((go_at_call 67; refine Calls.quiet_of (unhide HW _ (below_drewN (unhide hbr) _))))
        go_wp2
        go_roundw
        case rel => exact ⟨k + 1, by omega, by go_num, below_drewN (unhide hbr) _, q0, q1⟩
        case measure => simp [intOf]; omega
      · clear HD
        go_wp2
        go_ret
        exact ⟨rfl, unhide hbr⟩
end Go.Proofs.YtklclbegmpafpaaGreatDoor
