/- The document's Name; bareExpr. -/
import Derived.Test.YtehgoioinogmkaaGreatDoorXLex7
import Derived.Test.YtehgoioinogmkaaGreatDoorJHandLXPar5
namespace Go.Proofs.YtehgoioinogmkaaGreatDoor
open Go.RowKit Go.Lib

def okB (c : UInt8) : Bool := (97 ≤ c.toNat && c.toNat ≤ 122) || kd c == 3 || c.toNat == 95
def nameOk (l : List UInt8) : Bool := match l with
  | [] => false
  | c :: r => decide (r.length < 20) && !(kd c == 3) && !(wordsL.contains (upL (c :: r))) && (c :: r).all okB
set_option maxHeartbeats 3200000 in
set_option maxRecDepth 10000 in
theorem name8_any (l : List UInt8) (w : World) : Calls Tryz.prog 82 #[sv l] w fun e w' => e = .returned (.bool (nameOk l)) ∧ Below w.heap.size w w' := by
  obtain ⟨R, hR⟩ : ∃ R, R = nameOk l := ⟨_, rfl⟩
  have HR := hide hR
  rw [← hR]
  clear hR
  by_cases h0 : l.length < 1
  · have h0I : (l.length : Int) < 1 := by omega
    have HF : Hid (R = false) := by
      have : l = [] := List.eq_nil_of_length_eq_zero (by omega)
      show R = false
      rw [unhide HR, this]; rfl
    unfold sv
    go_enter Tryz.func82, Tryz.ntmps82
    go_wp2_with fail
    go_ret
    exact ⟨by rw [unhide HF]; rfl, Below.refl _ _⟩
  have h0I : ¬ (l.length : Int) < 1 := by omega
  by_cases h20 : 20 < l.length
  · have hI : (20 : Int) < (l.length : Int) := by omega
    have HF : Hid (R = false) := by
      show R = false
      rw [unhide HR]
      cases l with
      | nil => rfl
      | cons c r =>
        have : decide (r.length < 20) = false := decide_eq_false (by simp only [List.length_cons] at h20; omega)
        simp [nameOk, this]
    unfold sv
    go_enter Tryz.func82, Tryz.ntmps82
    go_wp2_with fail
    go_ret
    exact ⟨by rw [unhide HF]; rfl, Below.refl _ _⟩
  have hI : ¬ (20 : Int) < (l.length : Int) := by omega
  obtain ⟨c, r, rfl⟩ : ∃ c r, l = c :: r := by
    cases l with
    | nil => exact absurd (by simp) h0
    | cons c r => exact ⟨c, r, rfl⟩
  have hd20 : decide (r.length < 20) = true := decide_eq_true (by simp only [List.length_cons] at h20; omega)
  have HR2 : Hid (R = (!(kd c == 3) && !(wordsL.contains (upL (c :: r))) && (c :: r).all okB)) := by
    show R = _
    rw [unhide HR]
    simp only [nameOk, hd20, Bool.true_and]
  clear HR hd20
  have hi := idx_run (c :: r) 0 0 c w rfl rfl
  have HDI := hide (digit_any c)
  obtain ⟨l, hl⟩ : ∃ l, l = c :: r := ⟨_, rfl⟩
  have hc0 : l[0]? = some c := by rw [hl]; rfl
  rw [← hl] at hi h0 h20 h0I hI HR2 ⊢
  clear hl
  have hpos : (0 : Int) < (l.length : Int) := by omega
  have hl30 : (l.length : Int) ≤ 30 := by omega
  unfold sv
  cases hk : (kd c == 3) with
  | true =>
    rw [hk] at HDI HR2
    clear hk
    go_enter Tryz.func82, Tryz.ntmps82
    go_wp2_with (go_at_call 139; refine (unhide HDI _).mono ?_; rintro e w1 ⟨rfl, hw1⟩; rw [hw1]; clear hw1)
    go_ret
    exact ⟨by rw [unhide HR2]; rfl, Below.refl _ _⟩
  | false =>
    rw [hk] at HDI HR2
    clear hk
    have HCA : Hid (Calls Tryz.prog 141 #[.string ⟨l.toArray⟩, .bool true] w fun e w' => e = .returned (sv (upL l)) ∧ Below w.heap.size w w') := cased_any true l w (by omega)
    have HIW := hide (isWord_any (upL l))
    cases hw : wordsL.contains (upL l) with
    | true =>
      rw [hw] at HR2 HIW
      clear hw
      go_enter Tryz.func82, Tryz.ntmps82
      go_wp2_with (first | (go_at_call 139; refine (unhide HDI _).mono ?_; rintro e w1 ⟨rfl, hw1⟩; rw [hw1]; clear hw1) | (go_at_call 141; refine (unhide HCA).mono ?_; rintro e w2 ⟨rfl, hb2⟩; have HB2 := hide hb2; clear hb2) | (go_at_call 140; refine (unhide HIW _).mono ?_; rintro e w3 ⟨rfl, hb3⟩; have HB3 := hide hb3; clear hb3))
      go_ret
      exact ⟨by rw [unhide HR2]; rfl, trX (unhide HB2) (unhide HB3)⟩
    | false =>
      rw [hw] at HR2 HIW
      clear hw
      have HA : Hid (R = (l.drop 0).all okB) := by show R = _; rw [unhide HR2]; rfl
      clear HR2
      go_enter Tryz.func82, Tryz.ntmps82
      go_wp2_with (first | (go_at_call 139; refine (unhide HDI _).mono ?_; rintro e w1 ⟨rfl, hw1⟩; rw [hw1]; clear hw1) | (go_at_call 141; refine (unhide HCA).mono ?_; rintro e w2 ⟨rfl, hb2⟩; have HB2 := hide hb2; clear hb2) | (go_at_call 140; refine (unhide HIW _).mono ?_; rintro e w3 ⟨rfl, hb3⟩; have HB3 := hide hb3; clear hb3))
      have HB := hide (trX (unhide HB2) (unhide HB3))
      clear hi HDI HCA HIW HB2 HB3 hc0
      go_loopg [3] l.length (fun g s3 wr => ∃ k : Nat, g = l.length - k ∧ s3 = .int .i64 (k : Int) ∧ k ≤ l.length ∧ Hid (Below w.heap.size w wr ∧ R = (l.drop k).all okB))
      case atStart => exact ⟨0, rfl, rfl, Nat.zero_le _, unhide HB, unhide HA⟩
      case round =>
        obtain ⟨k, rfl, rfl, hk, HG⟩ := hrel
        clear HA HB
        by_cases hlt : k < l.length
        · have hki : (k : Int) < (l.length : Int) := by omega
          have hk0 : (0 : Int) ≤ (k : Int) := by omega
          obtain ⟨d, hd⟩ : ∃ d, l[k]? = some d := ⟨l[k], List.getElem?_eq_getElem hlt⟩
          have hdr : l.drop k = d :: l.drop (k + 1) := by
            rw [List.drop_eq_getElem_cons hlt]
            rw [List.getElem?_eq_getElem hlt] at hd
            injection hd with hd; rw [hd]
          have hi := idx_run l k _ d wr rfl hd
          have HGR : Hid (R = (okB d && (l.drop (k + 1)).all okB)) := by
            show R = _
            rw [(unhide HG).2, hdr]; rfl
          have HBW := hide (unhide HG).1
          have HDI := hide (digit_any d)
          clear hd hdr HG
          have HNX : Hid (okB d = true → Below w.heap.size w wr ∧ R = (l.drop (k + 1)).all okB) := fun h => ⟨unhide HBW, by rw [unhide HGR, h]; rfl⟩
          cases hk3 : (kd d == 3) with
          | true =>
            rw [hk3] at HDI
            have hok : okB d = true := by unfold okB; rw [hk3]; simp
            have HNY := hide (unhide HNX hok)
            clear hk3 hok HNX HGR
            by_cases hlow : 97 ≤ d.toNat ∧ d.toNat ≤ 122
            · have e1 : ¬ (d.toNat : Int) < 97 := by omega
              have e2 : ¬ (122 : Int) < (d.toNat : Int) := by omega
              clear hlow
              go_wp2_with (go_at_call 139; refine (unhide HDI _).mono ?_; rintro e w1 ⟨rfl, hw1⟩; rw [hw1]; clear hw1)
              go_roundg (l.length - (k + 1))
              case rel => exact ⟨k + 1, rfl, by rw [show ((k + 1 : Nat) : Int) = (k : Int) + 1 from rfl], by omega, HNY⟩
              case measure => omega
            · have e3 : (d.toNat : Int) < 97 ∨ (¬ (d.toNat : Int) < 97 ∧ 122 < (d.toNat : Int)) := by omega
              clear hlow
              rcases e3 with e3 | ⟨e3, e4⟩ <;>
              · go_wp2_with (go_at_call 139; refine (unhide HDI _).mono ?_; rintro e w1 ⟨rfl, hw1⟩; rw [hw1]; clear hw1)
                go_roundg (l.length - (k + 1))
                case rel => exact ⟨k + 1, rfl, by rw [show ((k + 1 : Nat) : Int) = (k : Int) + 1 from rfl], by omega, HNY⟩
                case measure => omega
          | false =>
            rw [hk3] at HDI
            by_cases hlow : 97 ≤ d.toNat ∧ d.toNat ≤ 122
            · have e1 : ¬ (d.toNat : Int) < 97 := by omega
              have e2 : ¬ (122 : Int) < (d.toNat : Int) := by omega
              have hok : okB d = true := by unfold okB; simp [hlow.1, hlow.2]
              have HNY := hide (unhide HNX hok)
              clear hlow hk3 hok HNX HGR
              go_wp2_with (go_at_call 139; refine (unhide HDI _).mono ?_; rintro e w1 ⟨rfl, hw1⟩; rw [hw1]; clear hw1)
              go_roundg (l.length - (k + 1))
              case rel => exact ⟨k + 1, rfl, by rw [show ((k + 1 : Nat) : Int) = (k : Int) + 1 from rfl], by omega, HNY⟩
              case measure => omega
            · have e3 : (d.toNat : Int) < 97 ∨ (¬ (d.toNat : Int) < 97 ∧ 122 < (d.toNat : Int)) := by omega
              by_cases h95 : d.toNat = 95
              · have hok : okB d = true := by unfold okB; simp [h95]
                have HNY := hide (unhide HNX hok)
                have e5 : ((d.toNat : Int) != 95) = false := by rw [h95]; rfl
                have e6 : (d.toNat : Int) = 95 := by omega
                rw [e6] at HDI
                clear hlow hk3 hok HNX HGR h95
                rcases e3 with e3 | ⟨e3, e4⟩ <;>
                · go_wp2_with (go_at_call 139; refine (unhide HDI _).mono ?_; rintro e w1 ⟨rfl, hw1⟩; rw [hw1]; clear hw1)
                  go_roundg (l.length - (k + 1))
                  case rel => exact ⟨k + 1, rfl, by rw [show ((k + 1 : Nat) : Int) = (k : Int) + 1 from rfl], by omega, HNY⟩
                  case measure => omega
              · have hok : okB d = false := by
                  unfold okB
                  rw [hk3]
                  simp only [Bool.or_false, Bool.or_eq_false_iff, Bool.and_eq_false_iff, decide_eq_false_iff_not, beq_eq_false_iff_ne]
                  omega
                have HNY : Hid (R = false) := by show R = false; rw [unhide HGR, hok]; rfl
                have e5 : ((d.toNat : Int) != 95) = true := by simp; omega
                have e6 : ¬ (d.toNat : Int) = 95 := by omega
                clear hlow hk3 hok HNX HGR h95
                rcases e3 with e3 | ⟨e3, e4⟩ <;>
                · go_wp2_with (go_at_call 139; refine (unhide HDI _).mono ?_; rintro e w1 ⟨rfl, hw1⟩; rw [hw1]; clear hw1)
                  go_ret
                  exact ⟨by rw [unhide HNY]; rfl, unhide HBW⟩
        · have hki : ¬ (k : Int) < (l.length : Int) := by omega
          have HE : Hid (R = true) := by show R = true; rw [(unhide HG).2, List.drop_eq_nil_of_le (by omega)]; rfl
          have HBW := hide (unhide HG).1
          clear HG
          go_wp2_with fail
          go_ret
          exact ⟨by rw [unhide HE]; rfl, unhide HBW⟩
theorem bare_any (M : List Value) (E : Ex) (Q : Nat → Prop) (w : World) (h : ExM w Q M E) : Calls Tryz.prog 106 #[.agg M.toArray] w fun e w' => e = .returned (.bool (E.1.at' == 0 && E.1.ty == 0)) ∧ Below w.heap.size w w' := by
  have hl := h.len
  obtain ⟨args, rfl, hs⟩ := h
  obtain ⟨n, kids⟩ := E
  have hb := alX (Below.refl w.heap.size w) (.cells (ndC n args).toArray 29)
  have HB := hide hb
  have hlt : w.heap.size < (w.alloc (.cells (ndC n args).toArray 29)).heap.size := by simp
  have hblk := heap_alloc_new w (.cells (ndC n args).toArray 29)
  have c8 : (w.alloc (.cells (ndC n args).toArray 29)).cell? ⟨w.heap.size, 8, none⟩ = some (.int .i64 n.at') := by rw [cellX hblk]; rfl
  have c9 : (w.alloc (.cells (ndC n args).toArray 29)).cell? ⟨w.heap.size, 9, none⟩ = some (.int .i64 n.ty) := by rw [cellX hblk]; rfl
  obtain ⟨M, hM⟩ : ∃ M, M = ndC n args := ⟨_, rfl⟩
  dsimp only
  obtain ⟨b1, hb1⟩ : ∃ b1, b1 = (n.at' == 0) := ⟨_, rfl⟩
  obtain ⟨b2, hb2⟩ : ∃ b2, b2 = (n.ty == 0) := ⟨_, rfl⟩
  rw [← hb1, ← hb2]
  have h1 := hb1.symm
  have h2 := hb2.symm
  rw [← hM] at c8 c9 hl HB ⊢
  clear hM hs hb hblk hlt hb1 hb2
  cases b1 <;> cases b2 <;>
  · go_enter Tryz.func106, Tryz.ntmps106
    go_wp2_with fail
    go_ret
    exact ⟨rfl, unhide HB⟩
end Go.Proofs.YtehgoioinogmkaaGreatDoor
