/- Contract of the statement's own look whether a message is small. -/
import Derived.Test.YtklclbegmpafpaaGreatDoorMsgHelp
import Derived.Test.YtklclbegmpafpaaGreatDoorMsgGood
namespace Go.Proofs.YtklclbegmpafpaaGreatDoor
open Go.RowKit Go.Lib

def smallB (es : List GE) (many : Nat) : Bool := decide (es.length ≤ many) && es.all fun t => decide (t.sql.size ≤ 2100)
set_option maxHeartbeats 1600000 in
set_option maxRecDepth 100000 in
theorem smallE_any (v : Value) (B : Nat) (ts : List GE) (many : Nat) (w : World) (h : SlE w B v ts) :
    Calls Tryz.prog 15 #[v, .int .i64 (many : Int)] w fun e w' => e = .returned (.bool (smallB ts many)) ∧ w' = w := by
  obtain ⟨h1, h2, a, cap, rfl, hc⟩ := h
  by_cases hne : ts = []
  · subst hne
    have hb : smallB [] many = true := by simp [smallB]
    rw [hb]
    clear hc h1 hb
    go_enter Tryz.func15, Tryz.ntmps15
    go_wp2
    refine wp_loop_rounds 1 ?_
    rw [rounds_succ]
    go_wp2
    go_ret
    exact ⟨ret_bool (by simp), rfl⟩
  · obtain ⟨b, off, rfl, _, hc⟩ := hc hne
    have HC := hide hc
    have HO := hide h2
    have hl' : (ts.length : Int) ≤ 9223372036854775807 := by unfold maxLen at h1; omega
    obtain ⟨r, hr⟩ : ∃ r, r = smallB ts many := ⟨_, rfl⟩
    rw [← hr]
    have HR := hide hr
    clear hc hne h1 h2 hr
    go_enter Tryz.func15, Tryz.ntmps15
    go_wp2
    go_loop [5] (fun i => ∃ k : Nat, k ≤ ts.length ∧ i = .int .i64 k ∧ Hid (∀ t ∈ ts.take k, t.sql.size ≤ 2100)) (fun i => ts.length - (intOf i).toNat)
    case atStart => exact ⟨0, by omega, rfl, by intro t ht; simp at ht⟩
    case round =>
      obtain ⟨k, hk, rfl, hall⟩ := hrel
      by_cases hlt : k < ts.length
      · obtain ⟨g, hgk⟩ : ∃ g, ts[k]? = some g := ⟨ts[k], List.getElem?_eq_getElem hlt⟩
        obtain ⟨c0, c1, c2, c3, c4⟩ := unhide HC k g hgk
        have hgo := unhide HO g (List.mem_of_getElem? hgk)
        have hsz : (g.sql.size : Int) ≤ 9223372036854775807 := by have := hgo.2.2.2; unfold maxLen at this; omega
        have HG := hide hgk
        clear HC HO hgo hgk c0 c1 c2 c3
        by_cases h100 : (2100 : Int) < (g.sql.size : Int)
        · go_wp2
          go_ret
          refine ⟨ret_bool ?_, rfl⟩
          rw [unhide HR]
          have : ¬ g.sql.size ≤ 2100 := by omega
          have hmem := List.mem_of_getElem? (unhide HG)
          symm
          simp only [smallB, Bool.and_eq_false_iff]
          exact .inr (List.all_eq_false.2 ⟨g, hmem, by simpa using this⟩)
        · go_wp2
          go_round
          case rel =>
            refine ⟨k + 1, by omega, by go_num, ?_⟩
            intro t ht
            rw [List.take_add_one, unhide HG] at ht
            rcases List.mem_append.1 ht with ht | ht
            · exact unhide hall t ht
            · simp at ht; subst ht; omega
          case measure => simp [intOf]; omega
      · have ha : ∀ t ∈ ts, t.sql.size ≤ 2100 := by
          intro t ht
          have := unhide hall t (by rw [List.take_of_length_le (by omega)]; exact ht)
          exact this
        have HA := hide ha
        clear HC HO ha hall
        go_wp2
        go_ret
        refine ⟨ret_bool ?_, rfl⟩
        rw [unhide HR]
        have h3 : (ts.all fun t => decide (t.sql.size ≤ 2100)) = true := List.all_eq_true.2 (fun t ht => by simpa using unhide HA t ht)
        simp [smallB, h3]

/-- What the look tells: if it says yes, all is small. -/
def SmallPost (es : List GE) (nD : Nat) (sql : ByteArray) (cs : List ByteArray) (rs : List (Value × List GV)) (e : Ending) : Prop :=
  ∃ m, e = .returned (.bool m) ∧ (m = true → es.length ≤ 60 ∧ nD ≤ 3000 ∧ sql.size ≤ 3000 ∧ cs.length ≤ 70 ∧ rs.length ≤ 40 ∧ ∀ x ∈ rs, x.2.length ≤ 70)
theorem SmallPost.no {es : List GE} {nD : Nat} {sql : ByteArray} {cs : List ByteArray} {rs : List (Value × List GV)} : SmallPost es nD sql cs rs (.returned (.bool false)) := ⟨false, rfl, fun h => by cases h⟩

set_option maxHeartbeats 6400000 in
set_option maxRecDepth 100000 in
theorem small_any (kd fr tgt : Int) (tm ix lt : Nat) (aE : Option Addr) (kE : Nat) (cm rd : Nat) (ok : Bool) (off : Int) (aD : Option Addr) (nD kD : Nat) (dn : Bool) (cl sq : Nat) (sql : ByteArray) (rsq : Nat) (rcl : Int) (vC : Value) (aR : Option Addr) (kR : Nat) (rct : Int) (rix : Nat) (hint : Int) (es : List GE) (cs : List ByteArray) (rs : List (Value × List GV)) (w : World)
    (hE : SlE w w.heap.size (.slice aE es.length kE) es) (hD : nD ≤ maxLen) (hS : sql.size ≤ maxLen) (hC : SlS w w.heap.size vC cs) (hR : SlR w w.heap.size (.slice aR rs.length kR) rs) :
    Calls Tryz.prog 5 #[.agg #[.int .i64 kd, .int .i64 fr, .int .i64 tgt, .int .u64 (tm : Nat), .int .u64 (ix : Nat), .int .u64 (lt : Nat), .slice aE es.length kE, .int .u64 (cm : Nat), .int .u64 (rd : Nat), .bool ok, .int .i64 off, .slice aD nD kD, .bool dn, .int .u64 (cl : Nat), .int .u64 (sq : Nat), .string sql, .int .u64 (rsq : Nat), .int .i64 rcl, vC, .slice aR rs.length kR, .int .i64 rct, .int .u64 (rix : Nat), .int .i64 hint]] w fun e w' => SmallPost es nD sql cs rs e ∧ Below w.heap.size w w' := by
  have hb0 : Below w.heap.size w (w.alloc (.cells #[.int .i64 kd, .int .i64 fr, .int .i64 tgt, .int .u64 (tm : Nat), .int .u64 (ix : Nat), .int .u64 (lt : Nat), .slice aE es.length kE, .int .u64 (cm : Nat), .int .u64 (rd : Nat), .bool ok, .int .i64 off, .slice aD nD kD, .bool dn, .int .u64 (cl : Nat), .int .u64 (sq : Nat), .string sql, .int .u64 (rsq : Nat), .int .i64 rcl, vC, .slice aR rs.length kR, .int .i64 rct, .int .u64 (rix : Nat), .int .i64 hint] 33)) := (Below.refl _ _).alloc (Nat.le_refl _) _
  have hD' : (nD : Int) ≤ 9223372036854775807 := by unfold maxLen at hD; omega
  have hS' : (sql.size : Int) ≤ 9223372036854775807 := by unfold maxLen at hS; omega
  have hR' : (rs.length : Int) ≤ 9223372036854775807 := by have := hR.1; unfold maxLen at this; omega
  have P1 := hide (smallE_any (.slice aE es.length kE) _ es 60 _ (hE.later hb0 (Nat.le_refl _)))
  have P2 := hide (short_any vC _ cs 70 2100 _ (hC.later hb0 (Nat.le_refl _)))
  have HV := hide (fun (x : Value × List GV) (hx : x ∈ rs) => few_70 x.1 x.2 _ ((hR.2.1 x hx).later hb0 (by simp)))
  have HC : Hid (rs ≠ [] → ∃ b o, aR = some ⟨b, o, none⟩ ∧ ∀ (k : Nat) (x : Value × List GV), rs[k]? = some x → (w.alloc (.cells #[.int .i64 kd, .int .i64 fr, .int .i64 tgt, .int .u64 (tm : Nat), .int .u64 (ix : Nat), .int .u64 (lt : Nat), .slice aE es.length kE, .int .u64 (cm : Nat), .int .u64 (rd : Nat), .bool ok, .int .i64 off, .slice aD nD kD, .bool dn, .int .u64 (cl : Nat), .int .u64 (sq : Nat), .string sql, .int .u64 (rsq : Nat), .int .i64 rcl, vC, .slice aR rs.length kR, .int .i64 rct, .int .u64 (rix : Nat), .int .i64 hint] 33)).cell? ⟨b, o + k, none⟩ = some x.1) := by
    intro hne
    obtain ⟨_, _, a, cap, e0, h4⟩ := hR
    obtain ⟨b, o, e1, e2, e3⟩ := h4 hne
    injection e0 with e0 _ _
    exact ⟨b, o, by rw [e0]; exact e1, fun k x hx => (hb0.cell (p := ⟨b, o + k, none⟩) e2).trans (e3 k x hx)⟩
  have HB := hide hb0
  have H1 := hide (show smallB es 60 = true → es.length ≤ 60 by intro h; simp [smallB] at h; exact h.1)
  have H2 := hide (show shortB cs 70 2100 = true → cs.length ≤ 70 by intro h; simp [shortB] at h; exact h.1)
  clear hE hD hS hC hR hb0
  cases b1 : smallB es 60 with
  | false =>
    rw [b1] at P1
    clear b1 P2 HV HC H1 H2
    go_enter Tryz.func5, Tryz.ntmps5
    go_wp2_with (first | (go_at_call 15; refine (unhide P1).mono ?_; rintro e w1 ⟨rfl, rfl⟩))
    go_ret
    exact ⟨SmallPost.no, unhide HB⟩
  | true =>
    rw [b1] at P1
    have hes := unhide H1 b1
    clear b1 H1
    by_cases h3 : (3000 : Int) < (nD : Int)
    · clear P2 HV HC H2
      go_enter Tryz.func5, Tryz.ntmps5
      go_wp2_with (first | (go_at_call 15; refine (unhide P1).mono ?_; rintro e w1 ⟨rfl, rfl⟩))
      go_ret
      exact ⟨SmallPost.no, unhide HB⟩
    · by_cases h4 : (3000 : Int) < (sql.size : Int)
      · clear P2 HV HC H2
        go_enter Tryz.func5, Tryz.ntmps5
        go_wp2_with (first | (go_at_call 15; refine (unhide P1).mono ?_; rintro e w1 ⟨rfl, rfl⟩))
        go_ret
        exact ⟨SmallPost.no, unhide HB⟩
      · cases b2 : shortB cs 70 2100 with
        | false =>
          rw [b2] at P2
          clear b2 HV HC H2
          go_enter Tryz.func5, Tryz.ntmps5
          go_wp2_with (first | (go_at_call 15; refine (unhide P1).mono ?_; rintro e w1 ⟨rfl, rfl⟩) | (go_at_call 16; refine (unhide P2).mono ?_; rintro e w1 ⟨rfl, rfl⟩))
          go_ret
          exact ⟨SmallPost.no, unhide HB⟩
        | true =>
          rw [b2] at P2
          have hcs := unhide H2 b2
          clear b2 H2
          by_cases h5 : (40 : Int) < (rs.length : Int)
          · clear HV HC
            go_enter Tryz.func5, Tryz.ntmps5
            go_wp2_with (first | (go_at_call 15; refine (unhide P1).mono ?_; rintro e w1 ⟨rfl, rfl⟩) | (go_at_call 16; refine (unhide P2).mono ?_; rintro e w1 ⟨rfl, rfl⟩))
            go_ret
            exact ⟨SmallPost.no, unhide HB⟩
          · have HP : Hid ((∀ x ∈ rs, x.2.length ≤ 70) → SmallPost es nD sql cs rs (.returned (.bool true))) := fun h => ⟨true, rfl, fun _ => ⟨hes, by omega, by omega, hcs, by omega, h⟩⟩
            clear hes hcs
            by_cases hne : rs = []
            · have HN := hide (show rs.length = 0 by rw [hne]; rfl)
              have HP2 := hide (unhide HP (by rw [hne]; intro x hx; cases hx))
              have hn0 : rs.length = 0 := unhide HN
              clear HC HV HP hne HN
              rw [hn0] at P1 P2 HB ⊢
              clear hn0 hR' h5
              go_enter Tryz.func5, Tryz.ntmps5
              go_wp2_with (first | (go_at_call 15; refine (unhide P1).mono ?_; rintro e w1 ⟨rfl, rfl⟩) | (go_at_call 16; refine (unhide P2).mono ?_; rintro e w1 ⟨rfl, rfl⟩))
              refine wp_loop_rounds 1 ?_
              rw [rounds_succ]
              go_wp2
              go_ret
              exact ⟨unhide HP2, unhide HB⟩
            · obtain ⟨b, o, rfl, hc⟩ := unhide HC hne
              have HD := hide hc
              clear HC hne hc
              go_enter Tryz.func5, Tryz.ntmps5
              go_wp2_with (first | (go_at_call 15; refine (unhide P1).mono ?_; rintro e w1 ⟨rfl, rfl⟩) | (go_at_call 16; refine (unhide P2).mono ?_; rintro e w1 ⟨rfl, rfl⟩))
              clear P1 P2
              go_loop [3] (fun i => ∃ k : Nat, k ≤ rs.length ∧ i = .int .i64 k ∧ Hid (∀ x ∈ rs.take k, x.2.length ≤ 70)) (fun i => rs.length - (intOf i).toNat)
              case atStart => exact ⟨0, by omega, rfl, by intro x hx; simp at hx⟩
              case round =>
                obtain ⟨k, hk, rfl, hall⟩ := hrel
                by_cases hlt : k < rs.length
                · obtain ⟨x, hx⟩ : ∃ g, rs[k]? = some g := ⟨rs[k], List.getElem?_eq_getElem hlt⟩
                  have c0 := unhide HD k x hx
                  have HW := hide (unhide HV x (List.mem_of_getElem? hx))
                  have HX := hide hx
                  clear HD HV hx
                  go_wp2_with fail
                  refine (unhide HW).mono ?_
                  rintro e w2 ⟨⟨m, rfl, hm⟩, rfl⟩
                  cases m
                  · clear hm
                    go_wp2
                    go_ret
                    exact ⟨SmallPost.no, unhide HB⟩
                  · have hm2 := hm rfl
                    clear hm
                    go_wp2
                    go_round
                    case rel =>
                      refine ⟨k + 1, by omega, by go_num, ?_⟩
                      intro t ht
                      rw [List.take_add_one, unhide HX] at ht
                      rcases List.mem_append.1 ht with ht | ht
                      · exact unhide hall t ht
                      · simp at ht; subst ht; exact hm2
                    case measure => simp [intOf]; omega
                · have ha := hide (unhide HP (by
                    intro t ht
                    exact unhide hall t (by rw [List.take_of_length_le (by omega)]; exact ht)))
                  clear HD HV hall HP
                  go_wp2
                  go_ret
                  exact ⟨unhide ha, unhide HB⟩
end Go.Proofs.YtklclbegmpafpaaGreatDoor
