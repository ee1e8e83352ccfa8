/- Contracts of the reader's take and of string(bytes). -/
import Derived.Test.YtahpfhnekmilmaaGreatDoorJValsRead3Vals2
import Derived.Laws.BytesArg
namespace Go.Proofs.YtahpfhnekmilmaaGreatDoor
open Go.RowKit Go.Lib

theorem nums_eq (l : List UInt8) : strOfNums (l.map fun c => (c.toNat : Int)) = ⟨l.toArray⟩ := by
  apply ByteArray.ext
  apply Array.ext'
  have e : ((fun n : Int => UInt8.ofNat n.toNat) ∘ fun c : UInt8 => (c.toNat : Int)) = id := by funext c; simp
  rw [strOfNums_data, List.map_map, e, List.map_id]
theorem conv_any (v : Value) (B : Nat) (l : List UInt8) (w : World) (hv : RBp w B v l) : (convert 34 9 v).run Tryz.prog w = .ok (.string ⟨l.toArray⟩) w := by
  obtain ⟨hlen, ⟨rfl, rfl⟩ | ⟨b, off, cap, hbB, hcap, hm, rfl, hcell⟩⟩ := hv
  · exact run_convert_bytes_nil w _ _ Tryz.underlying34 Tryz.underlying5 0 0 _ Tryz.underlying9
  · have h := run_convert_bytes_arg (P := Tryz.prog) w 34 5 Tryz.underlying34 Tryz.underlying5 b off l.length cap (l.map fun c => (c.toNat : Int)) (by simp) (fun i hi => by
      rw [hcell i hi]; simp [hi]) 9 Tryz.underlying9
    rw [h, nums_eq]

set_option maxHeartbeats 1600000 in
theorem rtake_err (p n c : Nat) (l : List UInt8) (w : World) (h : RS w p l (.error c)) :
    Calls Tryz.prog 68 #[.pointer (some ⟨p, 0, none⟩), .int .i64 n] w fun e w' => e = .returned (.slice none 0 0) ∧ w' = w := by
  obtain ⟨b, hb⟩ := h.cells_err
  clear h
  go_enter Tryz.func68, Tryz.ntmps68
  go_wp2
  go_ret
  exact ⟨rfl, rfl⟩

theorem rb_len {w : World} {B : Nat} {v : Value} {l : List UInt8} (h : RBp w B v l) : ∃ a k, v = .slice a l.length k := by
  obtain ⟨hlen, ⟨rfl, rfl⟩ | ⟨b, off, cap, hbB, hcap, hm, rfl, hcell⟩⟩ := h
  · exact ⟨none, 0, rfl⟩
  · exact ⟨_, _, rfl⟩
theorem rest_rs' (p a : Nat) (l : List UInt8) (w : World) (h : RS w p l (.ok a)) :
    Calls Tryz.prog 40 #[.pointer (some ⟨p, 0, none⟩)] w fun e w' => ∃ ad k n, e = .returned (.slice ad (l.length - a) k) ∧ w' = w.drewN n ∧ RBp (w.drewN n) p (.slice ad (l.length - a) k) (l.drop a) := by
  refine (rest_rs p a l w h).mono ?_
  rintro e w' ⟨v', n, rfl, rfl, hv'⟩
  obtain ⟨ad, k, rfl⟩ := rb_len hv'
  rw [List.length_drop] at hv' ⊢
  exact ⟨ad, k, n, rfl, rfl, hv'⟩

set_option maxHeartbeats 3200000 in
theorem rtake_short (p a n : Nat) (l : List UInt8) (w : World) (h : RS w p l (.ok a)) (hn : l.length - a < n) :
    Calls Tryz.prog 68 #[.pointer (some ⟨p, 0, none⟩), .int .i64 n] w fun e w' => e = .returned (.slice none 0 0) ∧ RS w' p l (.error 22) ∧ Fq p w w' := by
  have hp := h.lt
  have hle := h.at_le
  have HR := hide h
  obtain ⟨hE, hG, f1, f2, ⟨v, h0, hv⟩, hs0, hs1, hs2⟩ := h
  obtain ⟨ad0, k0, rfl⟩ := rb_len hv
  clear hE hv
  have hn' : ((l.length - a : Nat) : Int) < (n : Int) := by omega
  go_enter Tryz.func68, Tryz.ntmps68
  go_wp2_with (first
    | (go_at_call 40; refine (rest_rs' p a l _ (unhide HR)).mono ?_; rintro e w1 ⟨ad, k, n1, rfl, rfl, hv'⟩; clear hv')
    | (go_at_call 42; refine (fault_b 22 _ _).mono ?_; rintro e w4 ⟨rfl, he4, hb4⟩; have R4 := hide (((unhide HR).drewN n1).later hb4))
    | (go_at_call 41; refine (rfail_ok p a _ _ _ l _ (unhide R4) (by simp; omega) he4).mono ?_; rintro e w6 ⟨rfl, hr6, hf6⟩))
  go_ret
  exact ⟨rfl, hr6, (((Fq.refl p w).drewN n1).trans (Fq.of hb4 (by simp; omega))).trans hf6⟩

theorem rb_take {w : World} {B b off cap a n : Nat} {l : List UInt8} (hbB : b < B) (hl : a ≤ l.length) (hn : n ≤ l.length - a) (hcap : l.length ≤ cap) (hm : cap ≤ maxLen) (hlen : l.length ≤ 1000000000000)
    (hcell : ∀ i, i < l.length → w.cell? ⟨b, off + i, none⟩ = some (.int .u8 ((l.getD i 0).toNat : Int))) : RBp w B (.slice (some ⟨b, off + a, none⟩) (a + n - a) (cap - a)) ((l.drop a).take n) := by
  have e0 : ((l.drop a).take n).length = a + n - a := by simp; omega
  refine ⟨by omega, .inr ⟨b, off + a, cap - a, hbB, by omega, by omega, by rw [e0], fun i hi => ?_⟩⟩
  have hi' : i < n := by omega
  have e : ((l.drop a).take n).getD i 0 = l.getD (a + i) 0 := by
    simp [List.getD_eq_getElem?_getD, hi']
  rw [e, Nat.add_assoc]; exact hcell (a + i) (by omega)
theorem rb_take0 {w : World} {B b off cap a n : Nat} {l : List UInt8} (hbB : b < B) (hn : n ≤ l.length - a) (hcap : l.length ≤ cap) (hce : cap = a) (k : Nat) (hk : k ≤ maxLen) :
    RBp w B (.slice (some ⟨b, off, none⟩) (a + n - a) k) ((l.drop a).take n) := by
  have hn0 : n = 0 := by omega
  subst hn0
  refine ⟨by simp, .inr ⟨b, off, k, hbB, by simp, hk, by simp, fun i hi => by simp at hi⟩⟩

set_option maxHeartbeats 3200000 in
theorem rtake_fit (p a n : Nat) (l : List UInt8) (w : World) (h : RS w p l (.ok a)) (hn : n ≤ l.length - a) :
    Calls Tryz.prog 68 #[.pointer (some ⟨p, 0, none⟩), .int .i64 n] w fun e w' => ∃ v', e = .returned v' ∧ RBp w' p v' ((l.drop a).take n) ∧ RS w' p l (.ok (a + n)) ∧ Fq p w w' := by
  have hp := h.lt
  have hle := h.at_le
  have HR := hide h
  obtain ⟨hE, hG, f1, f2, ⟨v, h0, hv⟩, hs0, hs1, hs2⟩ := h
  have hn' : ¬ (((l.length - a : Nat) : Int) < (n : Int)) := by omega
  obtain ⟨hlen, ⟨rfl, rfl⟩ | ⟨b, off, cap, hbB, hcap, hm, rfl, hcell⟩⟩ := hv
  · have e : a = 0 := by simpa using hs0
    subst e
    have e : n = 0 := by simpa using hn
    subst e
    clear hE
    go_enter Tryz.func68, Tryz.ntmps68
    go_wp2_with (first
      | (go_at_call 40; refine (rest_rs' p 0 [] _ (unhide HR)).mono ?_; rintro e w1 ⟨ad, k, n1, rfl, rfl, hv'⟩; clear hv'))
    go_quiet (fail)
    go_wp2
    go_ret
    have R := (RS.moved (a' := 0 + 0) ((unhide HR).drewN n1) (by simp))
    exact ⟨_, rfl, ⟨by simp, .inl ⟨rfl, rfl⟩⟩, R.1.drewN nq, (((Fq.refl p w).drewN n1).trans R.2).drewN nq⟩
  · have hm' := hm
    unfold maxLen at hm
    clear hE
    by_cases hce : cap = a
    · have HT := hide (fun w' k (hk : k ≤ maxLen) => rb_take0 (w := w') (off := off) hbB hn hcap hce k hk)
      go_enter Tryz.func68, Tryz.ntmps68
      go_wp2_with (first
        | (go_at_call 40; refine (rest_rs' p a l _ (unhide HR)).mono ?_; rintro e w1 ⟨ad, k, n1, rfl, rfl, hv'⟩; clear hv'))
      go_quiet (fail)
      go_wp2
      go_ret
      have R := (RS.moved (a' := a + n) ((unhide HR).drewN n1) (by omega))
      exact ⟨_, rfl, unhide HT _ _ (by unfold maxLen; omega), R.1.drewN nq, (((Fq.refl p w).drewN n1).trans R.2).drewN nq⟩
    · have HC := hide hcell
      clear hcell
      go_enter Tryz.func68, Tryz.ntmps68
      go_wp2_with (first
        | (go_at_call 40; refine (rest_rs' p a l _ (unhide HR)).mono ?_; rintro e w1 ⟨ad, k, n1, rfl, rfl, hv'⟩; clear hv'))
      go_quiet (fail)
      go_wp2
      go_ret
      have R := (RS.moved (a' := a + n) ((unhide HR).drewN n1) (by omega))
      exact ⟨_, rfl, (rb_take hbB hs0 hn hcap hm' hlen (unhide HC)).below ((((Fq.refl p w).drewN n1).trans R.2).drewN nq).1 (Nat.le_refl _), R.1.drewN nq, (((Fq.refl p w).drewN n1).trans R.2).drewN nq⟩

theorem rtake_any (p n : Nat) (l : List UInt8) (s : Except Nat Nat) (w : World) (h : RS w p l s) :
    Calls Tryz.prog 68 #[.pointer (some ⟨p, 0, none⟩), .int .i64 n] w fun e w' => ∃ v', e = .returned v' ∧ RBp w' p v' (rdTake l n s).1 ∧ RS w' p l (rdTake l n s).2 ∧ Fq p w w' := by
  cases s with
  | error c =>
    refine (rtake_err p n c l w h).mono ?_
    rintro e w' ⟨rfl, rfl⟩
    exact ⟨_, rfl, ⟨by simp [rdTake], .inl ⟨rfl, rfl⟩⟩, h, Fq.refl _ _⟩
  | ok a =>
    by_cases hn : n ≤ l.length - a
    · have e : rdTake l n (.ok a) = ((l.drop a).take n, .ok (a + n)) := by simp [rdTake, hn]
      rw [e]; exact rtake_fit p a n l w h hn
    · have e : rdTake l n (.ok a) = ([], .error 22) := by simp [rdTake, hn]
      rw [e]
      refine (rtake_short p a n l w h (by omega)).mono ?_
      rintro e w' ⟨rfl, h1, h2⟩
      exact ⟨_, rfl, ⟨by simp, .inl ⟨rfl, rfl⟩⟩, h1, h2⟩
end Go.Proofs.YtahpfhnekmilmaaGreatDoor
