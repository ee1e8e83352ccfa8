/- The document's disk: Append where the file is not there. -/
import Derived.Test.YthebgoadeecmpaaDoorQApp
namespace Go.Proofs.YthebgoadeecmpaaDoor
open Go.RowKit Go.Lib Go.Maps Go.WideMaps

theorem mid_at {G : List Ent} {k : Nat} (hk : k ≤ G.length) (e : Ent) : (G.take k ++ e :: G.drop k)[k]? = some e := by
  rw [List.getElem?_append_right (by rw [List.length_take]; omega), List.length_take]
  have : k - min k G.length = 0 := by omega
  rw [this]; rfl
theorem mid_set {G : List Ent} {k : Nat} (hk : k ≤ G.length) (e e' : Ent) : (G.take k ++ e :: G.drop k).set k e' = G.take k ++ e' :: G.drop k := by
  rw [List.set_append_right _ _ (by rw [List.length_take]; omega), List.length_take]
  have : k - min k G.length = 0 := by omega
  rw [this]; rfl

set_option maxHeartbeats 6400000 in
set_option maxRecDepth 100000 in
theorem rappend_new {w : World} {r : Nat} {R : RSt} {vf : Value} {G : List Ent} {Q : Nat → Prop} (n : List UInt8) (bv : Value) (lb : List UInt8) (h : RX w r R vf G Q) (hh : -1 ≤ R.halt ∧ R.halt ≤ 9223372036854775807) (hc : 0 ≤ R.count ∧ R.count < 1000000000) (hn : n.length ≤ 1000)
    (hoff : R.off = false) (hlk : look G n = none) (hok : okN n = true) (hb : RBz w Q bv lb) (hlb : lb.length ≤ 1000000) :
    Calls Tryd.prog 8 #[.pointer (some ⟨r, 0, none⟩), .string ⟨n.toArray⟩, bv] w fun ev w' => ev = .returned (.int .i64 (mayC R (rappC R G n lb.length)).2) ∧ FrO Q w w' ∧
      ((mayC R (rappC R G n lb.length)).2 ≠ 0 → RX w' r (mayC R (rappC R G n lb.length)).1 vf G Q) ∧ ((mayC R (rappC R G n lb.length)).2 = 0 → ∃ (vf' v' : Value) (Q' : Nat → Prop), RX w' r (mayC R (rappC R G n lb.length)).1 vf' (G.take (lessN n G) ++ ⟨n, 0, v', lb, 0⟩ :: G.drop (lessN n G)) Q' ∧ (∀ q, Q' q → Q q ∨ w.heap.size ≤ q)) := by
  obtain ⟨ba, bk, hbv⟩ := hb.slice
  subst hbv
  have HA := hide (at_any n h)
  rw [at_none hlk] at HA
  have HN := hide (named_any ⟨n.toArray⟩ w (by show n.toArray.size ≤ _; unfold maxLen; simp; omega))
  have hnl : (ByteArray.mk n.toArray).data.toList = n := by simp
  rw [hnl, hok] at HN
  have hn40 : n.length ≤ 40 := by
    unfold okN at hok
    simp at hok
    exact hok.1.2
  have hxd : ∀ m, RX (w.drewN m) r R vf G Q := fun m => h.set rfl (fun _ _ => rfl) h.blk
  have HU : Hid (∀ m, Calls Tryd.prog 27 #[.pointer (some ⟨r, 0, none⟩)] (w.drewN m) fun e w' => e = .returned (.int .i64 (usedL G : Int)) ∧ ∃ k, w' = w.drewN k) := fun m => (rused_any (hxd m)).mono (fun e w' h => ⟨h.1, m, h.2⟩)
  have HM : Hid (∀ m, Calls Tryd.prog 40 #[.pointer (some ⟨r, 0, none⟩)] (w.drewN m) fun e w' => e = .returned (.bool (mayR R).2) ∧ RX w' r (mayR R).1 vf G Q ∧ FrO Q w w') := fun m => (may2_any (hxd m) hh hc).mono (fun e w' h => ⟨h.1, h.2.1, ⟨h.2.2.size, h.2.2.blk, h.2.2.env⟩⟩)
  clear hxd
  obtain ⟨c0, c1, c2, c3, c4⟩ := h.cells
  rw [hoff] at c2
  have hul := usedL_few h.len
  have hfew := h.few
  obtain ⟨fa, fcap, rfl, _, _⟩ := h.files
  have hod : oldData G n = [] := by unfold oldData; rw [hlk]
  have hoff0 : ¬ R.off = true := by rw [hoff]; decide
  have hokf : ¬ okN n = false := by rw [hok]; decide
  unfold mayC rappC
  simp only [if_neg hoff0, if_neg hokf, hod, hlk, List.length_nil]
  obtain ⟨u, hu⟩ : ∃ u, usedL G = u := ⟨_, rfl⟩
  rw [hu] at HU hul ⊢
  have hul' : u ≤ 67108864 := by omega
  clear hu
  have hwA : IntKind.i64.wrap ((u : Int) + (lb.length : Int)) = (u : Int) + (lb.length : Int) := by rw [IntKind.wrap_i64] <;> omega
  have hwB : IntKind.i64.wrap ((lb.length : Int)) = (lb.length : Int) := by rw [IntKind.wrap_i64] <;> omega
  have hf2' : ((1048576 : Int) < (lb.length : Int)) = False := eq_false (by omega)
  by_cases hf : R.room < (u : Int) + (lb.length : Int) ∨ 64 ≤ G.length
  · have hfull : R.room < (u : Int) + (lb.length : Int) ∨ (1048576 : Int) < (((0 : Nat) : Int)) + (lb.length : Int) ∨ (True ∧ 64 ≤ G.length) := hf.elim .inl (fun h => .inr (.inr ⟨trivial, h⟩))
    have h31 : (31 : Int) ≠ 0 := by decide
    simp only [if_pos hfull, if_pos h31]
    have H := hide h
    clear h hb hfull
    by_cases hf1 : R.room < (u : Int) + (lb.length : Int)
    · clear hf
      go_enter Tryd.func8, Tryd.ntmps8
      go_wp2_with (first
        | (go_at_call 38; refine (unhide HA).mono ?_; rintro e0 w0 ⟨rfl, rfl⟩)
        | (go_at_call 39; refine (unhide HN).mono ?_; rintro e0 w0 ⟨rfl, rfl⟩))
      go_quiet (first | (go_at_call 27; exact unhide HU _))
      go_wp2
      go_ret
      exact ⟨rfl, ⟨Nat.le_refl _, fun _ _ _ => rfl, rfl, rfl, rfl⟩, fun _ => (unhide H).set rfl (fun _ _ => rfl) (unhide H).blk, fun h0 => absurd h0 (by decide)⟩
    · have hf1' : (R.room < (u : Int) + (lb.length : Int)) = False := eq_false hf1
      have h64 : (64 : Int) ≤ (G.length : Int) := by omega
      clear hf hf1
      go_enter Tryd.func8, Tryd.ntmps8
      go_wp2_with (first
        | (go_at_call 38; refine (unhide HA).mono ?_; rintro e0 w0 ⟨rfl, rfl⟩)
        | (go_at_call 39; refine (unhide HN).mono ?_; rintro e0 w0 ⟨rfl, rfl⟩))
      go_quiet (first | (go_at_call 27; exact unhide HU _))
      go_wp2
      go_ret
      exact ⟨rfl, ⟨Nat.le_refl _, fun _ _ _ => rfl, rfl, rfl, rfl⟩, fun _ => (unhide H).set rfl (fun _ _ => rfl) (unhide H).blk, fun h0 => absurd h0 (by decide)⟩
  · have hnf : ¬ (R.room < (u : Int) + (lb.length : Int) ∨ (1048576 : Int) < (((0 : Nat) : Int)) + (lb.length : Int) ∨ (True ∧ 64 ≤ G.length)) := by
      rintro (h' | h' | ⟨_, h'⟩)
      · exact hf (.inl h')
      · omega
      · exact hf (.inr h')
    have h00 : ¬ ((0 : Int) ≠ 0) := fun h => h rfl
    simp only [if_neg hnf, if_neg h00]
    have hf1' : (R.room < (u : Int) + (lb.length : Int)) = False := eq_false (fun h' => hf (.inl h'))
    have hlt64 : G.length < 64 := by omega
    have h64 : ((64 : Int) ≤ (G.length : Int)) = False := eq_false (by omega)
    have H := hide h
    have HBV := hide hb
    clear h hb hf hnf
    cases hm : (mayR R).2 with
    | false =>
      rw [hm] at HM
      simp only [Bool.false_eq_true, if_false]
      go_enter Tryd.func8, Tryd.ntmps8
      go_wp2_with (first
        | (go_at_call 38; refine (unhide HA).mono ?_; rintro e0 w0 ⟨rfl, rfl⟩)
        | (go_at_call 39; refine (unhide HN).mono ?_; rintro e0 w0 ⟨rfl, rfl⟩))
      go_quiet (first | (go_at_call 27; exact unhide HU _))
      go_wp2_with (first
        | (go_at_call 40; refine (unhide HM _).mono ?_; rintro e0 w1 ⟨rfl, hx1, hf1⟩; have H1 := hide (And.intro hx1 hf1); clear hx1 hf1))
      go_ret
      exact ⟨rfl, (unhide H1).2, fun _ => (unhide H1).1, fun h0 => absurd h0 (by decide)⟩
    | true =>
      rw [hm] at HM
      simp only [if_true]
      obtain ⟨K, hK⟩ : ∃ K, lessN n G = K := ⟨_, rfl⟩
      have hKl : K ≤ G.length := by rw [← hK]; exact lessN_le n G
      obtain ⟨e0, he0⟩ : ∃ e0 : Ent, (⟨n, 0, .slice none 0 0, [], 0⟩ : Ent) = e0 := ⟨_, rfl⟩
      obtain ⟨G2, hG2⟩ : ∃ G2, G.take K ++ e0 :: G.drop K = G2 := ⟨_, rfl⟩
      have hat2 : G2[K]? = some e0 := by rw [← hG2]; exact mid_at hKl e0
      have hK2 : (K : Int) < (G2.length : Int) := by have := (List.getElem?_eq_some_iff.1 hat2).1; omega
      have hed : e0.data.length = 0 := by rw [← he0]; rfl
      have HD : Hid (∀ w1, RX w1 r (mayR R).1 (.slice fa G.length fcap) G Q → Calls Tryd.prog 41 #[.pointer (some ⟨r, 0, none⟩), .agg #[.string ⟨n.toArray⟩, .slice none 0 0, .int .i64 0]] w1 fun e w2 => ∃ vf2 Q2, e = .returned (.int .i64 (K : Int)) ∧ RX w2 r (mayR R).1 vf2 G2 Q2 ∧ FrO Q w1 w2 ∧ (∀ q, Q2 q → Q q ∨ w1.heap.size ≤ q)) := fun w1 hx => by
        have := add_any n (.slice none 0 0) 0 [] hx (.inl ⟨rfl, rfl⟩) ⟨by simp, by simp⟩ hn40 hlt64
        rw [hK, he0, hG2] at this
        exact this
      have HP : Hid (∀ w2 vf2 Q2, RX w2 r (mayR R).1 vf2 G2 Q2 → FrO Q w w2 → _) := fun w2 vf2 Q2 hx hf => app_mem (i := K) (e := e0) hx hat2 ((unhide HBV).fr hf) (by omega)
      have HEND : Hid (∀ v', G2.set K ⟨e0.name, 0, v', e0.data ++ lb, e0.sure⟩ = G.take (lessN n G) ++ ⟨n, 0, v', lb, 0⟩ :: G.drop (lessN n G)) := fun v' => by
        rw [hK, ← hG2, mid_set hKl, ← he0]
        rfl
      have hed' : e0.data.length ≤ 1000 := by omega
      clear hat2 hG2 he0 hed hK
      go_enter Tryd.func8, Tryd.ntmps8
      go_wp2_with (first
        | (go_at_call 38; refine (unhide HA).mono ?_; rintro e1 w0 ⟨rfl, rfl⟩)
        | (go_at_call 39; refine (unhide HN).mono ?_; rintro e1 w0 ⟨rfl, rfl⟩))
      go_quiet (first | (go_at_call 27; exact unhide HU _))
      go_wp2_with (first
        | (go_at_call 40; refine (unhide HM _).mono ?_; rintro e1 w1 ⟨rfl, hx1, hf1⟩; have P1 := hide (unhide HD w1 hx1); have H1 := hide hf1; clear hx1 hf1)
        | (go_at_call 41; refine (unhide P1).mono ?_; rintro e1 w2 ⟨vf2, Q2, rfl, hx2, hf2, hq2⟩; have hfw := FrO.trans (unhide H1) hf2 (fun _ _ hh => hh); obtain ⟨g1, cap1, ea1, ek1, rfl, d0, d1, RB1, HQ⟩ := unhide HP w2 vf2 Q2 hx2 hfw; have H2 := hide (And.intro hfw hq2); clear hx2 hf2 hfw hq2))
      go_region_law (first
        | (refine step_bytes_at rfl _ _ rfl (.slice none 0 0) 0 [] (by simp [Act.eval]) (World.ownsRow_nil _ _ _ _) (fun _ => False) (.slice ea1 e0.data.length ek1) e0.data (by simp [Act.eval]) (unhide RB1) (by omega) ?_; intro v2 w3 hrow2 hg2 hloc2; obtain ⟨c20, RB2, HR2, HS⟩ := unhide HQ v2 w3 hrow2 hg2 hloc2; clear hrow2 hg2 hloc2)
        | (refine step_bytes_z rfl _ _ rfl v2 (0 + e0.data.length) ([] ++ byteCells e0.data) (by simp [Act.eval]) (unhide HR2) (fun _ => False) (.slice ba lb.length bk) lb (by simp [Act.eval]) (unhide RB2) (by omega) ?_; intro v3 w4 hrow3 hg3 hloc3; obtain ⟨a3, n3, k3, rfl, c30, c31, f31, FIN⟩ := unhide HS v3 w4 hrow3 hg3 hloc3; clear hrow3 hg3 hloc3))
      all_goals go_wp2
      all_goals go_ret
      all_goals
        obtain ⟨hx4, hf4⟩ := unhide FIN (w4.setCell ⟨g1, K * 3 + 1, none⟩ (.slice a3 n3 k3)) rfl ⟨rfl, rfl, rfl⟩
        rw [unhide HEND] at hx4
        obtain ⟨hfw, hq2⟩ := unhide H2
        refine ⟨rfl, FrO.trans hfw hf4 (fun k hk hh => ?_), fun h0 => absurd rfl h0, fun _ => ⟨_, _, _, hx4, fun q hq => ?_⟩⟩
        · rcases hq2 k hh with h' | h'
          · exact h'
          · have := (unhide H1).size; omega
        · rcases hq with h' | h'
          · rcases hq2 q h' with h'' | h''
            · exact .inl h''
            · exact .inr (Nat.le_trans (unhide H1).size h'')
          · exact .inr (Nat.le_trans hfw.size h'.1)
end Go.Proofs.YthebgoadeecmpaaDoor
