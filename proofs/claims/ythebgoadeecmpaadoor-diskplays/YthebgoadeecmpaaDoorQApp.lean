/- The document's disk: Append. -/
import Derived.Test.YthebgoadeecmpaaDoorQAppM
import Derived.Test.YthebgoadeecmpaaDoorQName
import Derived.Deep.QuietTactic
import Derived.BigQuiet
namespace Go.Proofs.YthebgoadeecmpaaDoor
open Go.RowKit Go.Lib Go.Maps Go.WideMaps

/-- Why the document's Append is refused. -/
def rappC (R : RSt) (G : List Ent) (n : List UInt8) (m : Nat) : Int :=
  if okN n = false then 20 else if R.room < (usedL G : Int) + m ∨ (1048576 : Int) < ((oldData G n).length : Int) + m ∨ (look G n = none ∧ 64 ≤ G.length) then 31 else 0

set_option maxHeartbeats 6400000 in
set_option maxRecDepth 100000 in
theorem rappend_old {w : World} {r : Nat} {R : RSt} {vf : Value} {G : List Ent} {Q : Nat → Prop} (n : List UInt8) (bv : Value) (lb : List UInt8) (h : RX w r R vf G Q) (hh : -1 ≤ R.halt ∧ R.halt ≤ 9223372036854775807) (hc : 0 ≤ R.count ∧ R.count < 1000000000) (hn : n.length ≤ 1000)
    (hoff : R.off = false) (e : Ent) (hlk : look G n = some e) (hok : okN n = true) (hb : RBz w Q bv lb) (hlb : lb.length ≤ 1000000) :
    Calls Tryd.prog 8 #[.pointer (some ⟨r, 0, none⟩), .string ⟨n.toArray⟩, bv] w fun ev w' => ev = .returned (.int .i64 (mayC R (rappC R G n lb.length)).2) ∧ FrO Q w w' ∧
      ((mayC R (rappC R G n lb.length)).2 ≠ 0 → RX w' r (mayC R (rappC R G n lb.length)).1 vf G Q) ∧ ((mayC R (rappC R G n lb.length)).2 = 0 → ∃ (i : Nat) (v' : Value) (Q' : Nat → Prop), G[i]? = some e ∧ RX w' r (mayC R (rappC R G n lb.length)).1 vf (G.set i ⟨e.name, 0, v', e.data ++ lb, e.sure⟩) Q' ∧ (∀ q, Q' q → Q q ∨ w.heap.size ≤ q)) := by
  obtain ⟨ba, bk, hbv⟩ := hb.slice
  subst hbv
  obtain ⟨i, hi, hat, hen⟩ := at_some hlk
  have HA := hide (at_any n h)
  rw [hat] at HA
  have HN := hide (named_any ⟨n.toArray⟩ w (by show n.toArray.size ≤ _; unfold maxLen; simp; omega))
  have hnl : (ByteArray.mk n.toArray).data.toList = n := by simp
  rw [hnl, hok] at HN
  have hxd : ∀ m, RX (w.drewN m) r R vf G Q := fun m => h.set rfl (fun _ _ => rfl) h.blk
  have HU : Hid (∀ m, Calls Tryd.prog 27 #[.pointer (some ⟨r, 0, none⟩)] (w.drewN m) fun e w' => e = .returned (.int .i64 (usedL G : Int)) ∧ ∃ k, w' = w.drewN k) := fun m => (rused_any (hxd m)).mono (fun e w' h => ⟨h.1, m, h.2⟩)
  have HM : Hid (∀ m, Calls Tryd.prog 40 #[.pointer (some ⟨r, 0, none⟩)] (w.drewN m) fun e w' => e = .returned (.bool (mayR R).2) ∧ RX w' r (mayR R).1 vf G Q ∧ FrO Q w w') := fun m => (may2_any (hxd m) hh hc).mono (fun e w' h => ⟨h.1, h.2.1, ⟨h.2.2.size, h.2.2.blk, h.2.2.env⟩⟩)
  clear hxd
  obtain ⟨c0, c1, c2, c3, c4⟩ := h.cells
  rw [hoff] at c2
  have hul := usedL_few h.len
  have hfew := h.few
  have hil : i < G.length := (List.getElem?_eq_some_iff.1 hi).1
  have hi1 : (i : Int) < (G.length : Int) := by omega
  have hi0 : ((i : Int) < 0) = False := eq_false (by omega)
  have hi2 : (0 : Int) ≤ (i : Int) := by omega
  obtain ⟨g, cap, cur0, rfl, hgr, hQg, hcg0, k00, k10, k20⟩ := h.file hi
  obtain ⟨ea, ek, hev⟩ := (h.dat e (List.mem_of_getElem? hi)).slice
  have hlen := (h.len e (List.mem_of_getElem? hi)).2
  have cv0 : w.cell? ⟨g, i * 3 + 1, none⟩ = some (.slice ea e.data.length ek) := by rw [(cellB hcg0 _).1, ← Array.getElem?_toList, k10, hev]
  have hod : oldData G n = e.data := by unfold oldData; rw [hlk]
  have hoff0 : ¬ R.off = true := by rw [hoff]; decide
  have hokf : ¬ okN n = false := by rw [hok]; decide
  unfold mayC rappC
  simp only [if_neg hoff0, if_neg hokf, hod]
  obtain ⟨u, hu⟩ : ∃ u, usedL G = u := ⟨_, rfl⟩
  rw [hu] at HU hul ⊢
  have hul' : u ≤ 67108864 := by omega
  have hG64 : (64 : Int) ≤ (G.length : Int) ∨ (G.length : Int) < 64 := by omega
  clear hcg0 k00 k10 k20 hu
  have hwA : IntKind.i64.wrap ((u : Int) + (lb.length : Int)) = (u : Int) + (lb.length : Int) := by rw [IntKind.wrap_i64] <;> omega
  have hwB : IntKind.i64.wrap ((e.data.length : Int) + (lb.length : Int)) = (e.data.length : Int) + (lb.length : Int) := by rw [IntKind.wrap_i64] <;> omega
  by_cases hf1 : R.room < (u : Int) + (lb.length : Int)
  · have hfull : R.room < (u : Int) + (lb.length : Int) ∨ (1048576 : Int) < (e.data.length : Int) + (lb.length : Int) ∨ (look G n = none ∧ 64 ≤ G.length) := .inl hf1
    have h31 : (31 : Int) ≠ 0 := by decide
    simp only [if_pos hfull, if_pos h31]
    have H := hide h
    clear h hb hfull
    go_enter Tryd.func8, Tryd.ntmps8
    go_wp2_with (first
          | (go_at_call 38; refine (unhide HA).mono ?_; rintro e0 w0 ⟨rfl, rfl⟩)
          | (go_at_call 39; refine (unhide HN).mono ?_; rintro e0 w0 ⟨rfl, rfl⟩))
    go_quiet (first | (go_at_call 27; exact unhide HU _))
    go_wp2
    go_ret
    exact ⟨rfl, ⟨Nat.le_refl _, fun _ _ _ => rfl, rfl, rfl, rfl⟩, fun _ => (unhide H).set rfl (fun _ _ => rfl) (unhide H).blk, fun h0 => absurd h0 (by decide)⟩
  · by_cases hf2 : (1048576 : Int) < (e.data.length : Int) + (lb.length : Int)
    · have hfull : R.room < (u : Int) + (lb.length : Int) ∨ (1048576 : Int) < (e.data.length : Int) + (lb.length : Int) ∨ (look G n = none ∧ 64 ≤ G.length) := .inr (.inl hf2)
      have hf1' : (R.room < (u : Int) + (lb.length : Int)) = False := eq_false hf1
      clear hf1
      have h31 : (31 : Int) ≠ 0 := by decide
      simp only [if_pos hfull, if_pos h31]
      have H := hide h
      clear h hb hfull
      go_enter Tryd.func8, Tryd.ntmps8
      go_wp2_with (first
            | (go_at_call 38; refine (unhide HA).mono ?_; rintro e0 w0 ⟨rfl, rfl⟩)
            | (go_at_call 39; refine (unhide HN).mono ?_; rintro e0 w0 ⟨rfl, rfl⟩))
      go_quiet (first | (go_at_call 27; exact unhide HU _))
      go_wp2
      go_ret
      exact ⟨rfl, ⟨Nat.le_refl _, fun _ _ _ => rfl, rfl, rfl, rfl⟩, fun _ => (unhide H).set rfl (fun _ _ => rfl) (unhide H).blk, fun h0 => absurd h0 (by decide)⟩
    · have hnf : ¬ (R.room < (u : Int) + (lb.length : Int) ∨ (1048576 : Int) < (e.data.length : Int) + (lb.length : Int) ∨ (look G n = none ∧ 64 ≤ G.length)) := by
        rintro (h' | h' | ⟨h', _⟩)
        · exact hf1 h'
        · exact hf2 h'
        · rw [hlk] at h'; cases h'
      have h00 : ¬ ((0 : Int) ≠ 0) := fun h => h rfl
      simp only [if_neg hnf, if_neg h00]
      have hf1' : (R.room < (u : Int) + (lb.length : Int)) = False := eq_false hf1
      have hf2' : ((1048576 : Int) < (e.data.length : Int) + (lb.length : Int)) = False := eq_false hf2
      have H := hide h
      have HBV := hide hb
      clear h hb hf1 hf2 hnf
      cases hm : (mayR R).2 with
      | false =>
        rw [hm] at HM
        simp only [Bool.false_eq_true, if_false]
        go_enter Tryd.func8, Tryd.ntmps8
        go_wp2_with (first
          | (go_at_call 38; refine (unhide HA).mono ?_; rintro e0 w0 ⟨rfl, rfl⟩)
          | (go_at_call 39; refine (unhide HN).mono ?_; rintro e0 w0 ⟨rfl, rfl⟩)
          | (go_at_call 39; refine (unhide HN).mono ?_; rintro e0 w0 ⟨rfl, rfl⟩))
        go_quiet (first | (go_at_call 27; exact unhide HU _))
        all_goals go_wp2_with (first
          | (go_at_call 40; refine (unhide HM _).mono ?_; rintro e0 w1 ⟨rfl, hx1, hf1⟩; have H1 := hide (And.intro hx1 hf1); clear hx1 hf1))
        go_ret
        exact ⟨rfl, (unhide H1).2, fun _ => (unhide H1).1, fun h0 => absurd h0 (by decide)⟩
      | true =>
        rw [hm] at HM
        simp only [if_true]
        have HP : Hid (∀ w1, RX w1 r (mayR R).1 (.slice (some ⟨g, 0, none⟩) G.length cap) G Q → FrO Q w w1 → _) := fun w1 hx hf => app_mem (i := i) (e := e) hx hi ((unhide HBV).fr hf) (by have := of_eq_false hf2'; omega)
        go_enter Tryd.func8, Tryd.ntmps8
        go_wp2_with (first
          | (go_at_call 38; refine (unhide HA).mono ?_; rintro e0 w0 ⟨rfl, rfl⟩)
          | (go_at_call 39; refine (unhide HN).mono ?_; rintro e0 w0 ⟨rfl, rfl⟩))
        go_quiet (first | (go_at_call 27; exact unhide HU _))
        go_wp2_with (first
          | (go_at_call 40; refine (unhide HM _).mono ?_; rintro e0 w1 ⟨rfl, hx1, hf1⟩; obtain ⟨g1, cap1, ea1, ek1, hvf, d0, d1, RB1, HQ⟩ := unhide HP w1 hx1 hf1; cases hvf; have H1 := hide hf1; clear hx1 hf1))
        go_region_law (first
          | (refine step_bytes_at rfl _ _ rfl (.slice none 0 0) 0 [] (by simp [Act.eval]) (World.ownsRow_nil _ _ _ _) (fun _ => False) (.slice ea1 e.data.length ek1) e.data (by simp [Act.eval]) (unhide RB1) (by omega) ?_; intro v2 w2 hrow2 hg2 hloc2; obtain ⟨c20, RB2, HR2, HS⟩ := unhide HQ v2 w2 hrow2 hg2 hloc2; clear hrow2 hg2 hloc2)
          | (refine step_bytes_z rfl _ _ rfl v2 (0 + e.data.length) ([] ++ byteCells e.data) (by simp [Act.eval]) (unhide HR2) (fun _ => False) (.slice ba lb.length bk) lb (by simp [Act.eval]) (unhide RB2) (by omega) ?_; intro v3 w3 hrow3 hg3 hloc3; obtain ⟨a3, n3, k3, rfl, c30, c31, f31, FIN⟩ := unhide HS v3 w3 hrow3 hg3 hloc3; clear hrow3 hg3 hloc3))
        all_goals go_wp2
        all_goals go_ret
        all_goals
          obtain ⟨hx2, hf2⟩ := unhide FIN (w3.setCell ⟨g, i * 3 + 1, none⟩ (.slice a3 n3 k3)) rfl ⟨rfl, rfl, rfl⟩
          exact ⟨rfl, FrO.trans (unhide H1) hf2 (fun _ _ hh => hh), fun h0 => absurd rfl h0, fun _ => ⟨i, _, _, hi, hx2, fun q hq => hq.elim .inl (fun hh => .inr (Nat.le_trans (unhide H1).size hh.1))⟩⟩
end Go.Proofs.YthebgoadeecmpaaDoor
