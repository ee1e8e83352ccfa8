/- Contracts of bytes.IndexByte and of the reader's textValue. -/
import Derived.Test.YtahpfhnekmilmaaGreatDoorTake
import Derived.Lib.IndexLaws
namespace Go.Proofs.YtahpfhnekmilmaaGreatDoor
open Go.RowKit Go.Lib

theorem bytesOf_map (l : List UInt8) : bytesOf (l.map fun c => (c.toNat : Int)) = l := by
  induction l with
  | nil => rfl
  | cons c r ih =>
    have e : bytesOf ((c.toNat : Int) :: r.map fun c => (c.toNat : Int)) = ((c.toNat : Int).toNat.toUInt8) :: bytesOf (r.map fun c => (c.toNat : Int)) := rfl
    rw [List.map_cons, e, ih]
    simp [Nat.toUInt8]

theorem indexByte_le : ∀ (l : List UInt8) (c : UInt8), indexByte l c ≤ l.length := by
  intro l c
  rcases Int.lt_or_le (indexByte l c) 0 with h | h
  · omega
  · obtain ⟨o, ho⟩ := Int.eq_ofNat_of_zero_le h
    have := (indexByte_some ho).1
    have h2 := (List.getElem?_eq_some_iff.1 this).1
    omega
theorem bindex_any (v : Value) (B : Nat) (l : List UInt8) (w : World) (hv : RBp w B v l) :
    Calls Tryz.prog 95 #[v, .int .u8 0] w fun e w' => e = .returned (.int .i64 (indexByte l 0)) ∧ w' = w := by
  have h := @run_callFunc_extern Tryz.prog 97 _ Extern.BytealgIndexByte.indexByte Tryz.func97 (by kernel_rfl) (by kernel_rfl) (by kernel_rfl) (by kernel_rfl)
  obtain ⟨hlen, ⟨rfl, rfl⟩ | ⟨b, off, cap, hbB, hcap, hm, rfl, hcell⟩⟩ := hv
  · have h2 := run_indexByteNil (P := Tryz.prog) w 0 0 0
    go_enter Tryz.func95, Tryz.ntmps95
    go_wp2
    go_ret
    exact ⟨rfl, rfl⟩
  · have h2 := run_indexByteSlice (P := Tryz.prog) w b off l.length cap (l.map fun c => (c.toNat : Int)) (by simp) (fun i hi => by rw [hcell i hi]; simp [hi]) 0
    rw [bytesOf_map] at h2
    clear hcell
    go_enter Tryz.func95, Tryz.ntmps95
    go_wp2
    go_ret
    exact ⟨rfl, rfl⟩

theorem rb_first {w : World} {B k n : Nat} {ad : Option Addr} {l : List UInt8} (h : RBp w B (.slice ad l.length k) l) (hn : n ≤ l.length) : RBp w B (.slice ad n k) (l.take n) := by
  obtain ⟨hlen, ⟨hv, rfl⟩ | ⟨b, off, cap, hbB, hcap, hm, hv, hcell⟩⟩ := h
  · injection hv with h1 h2 h3
    have hn0 : n = 0 := by simpa using hn
    subst h1; subst h3; subst hn0
    exact ⟨by simp, .inl ⟨rfl, rfl⟩⟩
  · injection hv with h1 h2 h3
    subst h1; subst h3
    have e : (l.take n).length = n := by simp; omega
    refine ⟨by omega, .inr ⟨b, off, k, hbB, by omega, hm, by rw [e], fun i hi => ?_⟩⟩
    have hi' : i < n := by omega
    have e : (l.take n).getD i 0 = l.getD i 0 := by simp [List.getD_eq_getElem?_getD, hi']
    rw [e]; exact hcell i (by omega)

theorem rb_len' {w : World} {B : Nat} {v : Value} {l : List UInt8} (h : RBp w B v l) : ∃ a k, v = .slice a l.length k ∧ l.length ≤ k := by
  obtain ⟨hlen, ⟨rfl, rfl⟩ | ⟨b, off, cap, hbB, hcap, hm, rfl, hcell⟩⟩ := h
  · exact ⟨none, 0, rfl, by simp⟩
  · exact ⟨_, _, rfl, hcap⟩
theorem rest_any' (p a : Nat) (l : List UInt8) (w : World) (hl : a ≤ l.length) (v : Value) (h0 : w.cell? ⟨p, 0, none⟩ = some v) (hv : RBp w p v l) (h1 : w.cell? ⟨p, 1, none⟩ = some (.int .i64 (a : Int))) :
    Calls Tryz.prog 40 #[.pointer (some ⟨p, 0, none⟩)] w fun e w' => ∃ ad k n, e = .returned (.slice ad (l.length - a) k) ∧ w' = w.drewN n ∧ l.length - a ≤ k ∧ RBp (w.drewN n) p (.slice ad (l.length - a) k) (l.drop a) := by
  refine (rest_any p a l w hl v h0 hv h1).mono ?_
  rintro e w' ⟨v', n, rfl, rfl, hv'⟩
  obtain ⟨ad, k, rfl, hk⟩ := rb_len' hv'
  rw [List.length_drop] at hv' hk ⊢
  exact ⟨ad, k, n, rfl, rfl, hk, hv'.below (below_drewN (Below.refl p w) n) (Nat.le_refl _)⟩
theorem rb_first' {w : World} {B k n a : Nat} {ad : Option Addr} {l : List UInt8} (h : RBp w B (.slice ad (l.length - a) k) (l.drop a)) (hn : n ≤ l.length - a) : RBp w B (.slice ad n k) ((l.drop a).take n) :=
  rb_first (l := l.drop a) (by simpa using h) (by simpa using hn)

/-- Reading a text of a row. -/
def rdText (l : List UInt8) (s : Except Nat Nat) : List UInt8 × Except Nat Nat :=
  match (rdBetween l 0 40 s).2 with
  | .error c => ([], .error c)
  | .ok a => if 0 ≤ indexByte ((l.drop a).take (rdBetween l 0 40 s).1.toNat) 0 then ([], .error 20) else rdTake l (rdBetween l 0 40 s).1.toNat (.ok a)

set_option maxHeartbeats 3200000 in
theorem rtext_err (p c : Nat) (l : List UInt8) (s : Except Nat Nat) (w : World) (h : RS w p l s) (hs : rdBetween l 0 40 s = (0, .error c)) :
    Calls Tryz.prog 91 #[.pointer (some ⟨p, 0, none⟩)] w fun e w' => e = .returned (.string ⟨#[]⟩) ∧ RS w' p l (.error c) ∧ Fq p w w' := by
  have hle := h.at_le
  have HB := hide (rbetween_any p 0 40 l s w h (by omega) (by omega) (by omega))
  rw [hs] at HB
  clear h hs
  have hcn := fun w => run_convert_bytes_nil (P := Tryz.prog) w 34 5 Tryz.underlying34 Tryz.underlying5 0 0 9 Tryz.underlying9
  go_enter Tryz.func91, Tryz.ntmps91
  go_wp2_with (first
    | (go_at_call 54; refine (unhide HB).mono ?_; rintro e w1 ⟨rfl, hr1, hf1⟩; have HR := hide hr1; obtain ⟨_, _, _, _, ⟨v, c0, hv⟩, a, b, pl, g1, g2, g3, _⟩ := hr1; clear HB)
    | (go_at_call 40; refine (rest_any' p a l _ g1 v c0 hv g2).mono ?_; rintro e w2 ⟨ad, k, n2, rfl, rfl, hk2, hv2⟩; clear hv)
    | (go_at_call 95; refine (bindex_any _ p _ _ (rb_first' hv2 (Nat.zero_le _))).mono ?_; clear hv2; rintro e w3 ⟨rfl, rfl⟩)
    | (go_at_call 68; refine (rtake_err p 0 c l _ ((unhide HR).drewN n2)).mono ?_; rintro e w5 ⟨rfl, rfl⟩))
  go_ret
  exact ⟨rfl, (unhide HR).drewN n2, hf1.drewN n2⟩

set_option maxHeartbeats 3200000 in
theorem rtext_nul (p a n : Nat) (l : List UInt8) (s : Except Nat Nat) (w : World) (h : RS w p l s) (hs : rdBetween l 0 40 s = ((n : Int), .ok a)) (hn : n ≤ 40) (h0 : 0 ≤ indexByte ((l.drop a).take n) 0) :
    Calls Tryz.prog 91 #[.pointer (some ⟨p, 0, none⟩)] w fun e w' => e = .returned (.string ⟨#[]⟩) ∧ RS w' p l (.error 20) ∧ Fq p w w' := by
  have hle := h.at_le
  have hp := h.lt
  have HB := hide (rbetween_any p 0 40 l s w h (by omega) (by omega) (by omega))
  rw [hs] at HB
  have hil : indexByte ((l.drop a).take n) 0 ≤ 1000000000000 := by
    have := indexByte_le ((l.drop a).take n) 0
    have e : ((l.drop a).take n).length ≤ n := by simp; omega
    omega
  generalize hI : indexByte ((l.drop a).take n) 0 = ix at *
  have hcn := fun w => run_convert_bytes_nil (P := Tryz.prog) w 34 5 Tryz.underlying34 Tryz.underlying5 0 0 9 Tryz.underlying9
  by_cases hnn : n ≤ l.length - a
  · have HI := hide hI
    clear h hs hI
    have hnn' : (n : Int) ≤ ((l.length - a : Nat) : Int) := by omega
    go_enter Tryz.func91, Tryz.ntmps91
    go_wp2_with (first
      | (go_at_call 54; refine (unhide HB).mono ?_; rintro e w1 ⟨rfl, hr1, hf1⟩; have HR := hide hr1; obtain ⟨_, _, _, _, ⟨v, c0, hv⟩, g1, g2, g3⟩ := hr1; clear HB)
      | (go_at_call 40; refine (rest_any' p a l _ g1 v c0 hv g2).mono ?_; rintro e w2 ⟨ad, k, n2, rfl, rfl, hk2, hv2⟩; clear hv)
      | (go_at_call 95; refine (bindex_any _ p _ _ (rb_first' (n := n) hv2 (by omega))).mono ?_; rw [unhide HI]; clear hv2; rintro e w3 ⟨rfl, rfl⟩)
      | (go_at_call 42; refine (fault_b 20 _ _).mono ?_; rintro e w4 ⟨rfl, he4, hb4⟩; have R4 := hide (((unhide HR).drewN n2).later hb4))
      | (go_at_call 41; refine (rfail_ok p a _ _ _ l _ (unhide R4) (by have := (unhide HR).lt; simp; omega) he4).mono ?_; rintro e w6 ⟨rfl, hr6, hf6⟩)
      | (go_at_call 68; refine (rtake_err p n 20 l _ hr6).mono ?_; rintro e w5 ⟨rfl, rfl⟩))
    go_ret
    exact ⟨rfl, hr6, ((hf1.drewN n2).trans (Fq.of hb4 (by have := (unhide HR).lt; simp; omega))).trans hf6⟩
  · have hmin : (l.drop a).take n = (l.drop a).take (l.length - a) := by
      rw [List.take_of_length_le (by simp; omega), List.take_of_length_le (by simp)]
    rw [hmin] at hI
    have HI := hide hI
    clear h hs hI hmin
    have hnn' : ((l.length - a : Nat) : Int) < (n : Int) := by omega
    go_enter Tryz.func91, Tryz.ntmps91
    go_wp2_with (first
      | (go_at_call 54; refine (unhide HB).mono ?_; rintro e w1 ⟨rfl, hr1, hf1⟩; have HR := hide hr1; obtain ⟨_, _, _, _, ⟨v, c0, hv⟩, g1, g2, g3⟩ := hr1; clear HB)
      | (go_at_call 40; refine (rest_any' p a l _ g1 v c0 hv g2).mono ?_; rintro e w2 ⟨ad, k, n2, rfl, rfl, hk2, hv2⟩; clear hv)
      | (go_at_call 95; refine (bindex_any _ p _ _ (rb_first' (n := l.length - a) hv2 (by omega))).mono ?_; rw [unhide HI]; clear hv2; rintro e w3 ⟨rfl, rfl⟩)
      | (go_at_call 42; refine (fault_b 20 _ _).mono ?_; rintro e w4 ⟨rfl, he4, hb4⟩; have R4 := hide (((unhide HR).drewN n2).later hb4))
      | (go_at_call 41; refine (rfail_ok p a _ _ _ l _ (unhide R4) (by have := (unhide HR).lt; simp; omega) he4).mono ?_; rintro e w6 ⟨rfl, hr6, hf6⟩)
      | (go_at_call 68; refine (rtake_err p n 20 l _ hr6).mono ?_; rintro e w5 ⟨rfl, rfl⟩))
    go_ret
    exact ⟨rfl, hr6, ((hf1.drewN n2).trans (Fq.of hb4 (by have := (unhide HR).lt; simp; omega))).trans hf6⟩

set_option maxHeartbeats 3200000 in
theorem rtext_ok (p a n : Nat) (l : List UInt8) (s : Except Nat Nat) (w : World) (h : RS w p l s) (hs : rdBetween l 0 40 s = ((n : Int), .ok a)) (hn : n ≤ 40) (h0 : indexByte ((l.drop a).take n) 0 < 0) :
    Calls Tryz.prog 91 #[.pointer (some ⟨p, 0, none⟩)] w fun e w' => e = .returned (.string ⟨(rdTake l n (.ok a)).1.toArray⟩) ∧ RS w' p l (rdTake l n (.ok a)).2 ∧ Fq p w w' := by
  have hle := h.at_le
  have hp := h.lt
  have HB := hide (rbetween_any p 0 40 l s w h (by omega) (by omega) (by omega))
  rw [hs] at HB
  have hil : indexByte ((l.drop a).take n) 0 ≤ 1000000000000 := by
    have := indexByte_le ((l.drop a).take n) 0
    have e : ((l.drop a).take n).length ≤ n := by simp; omega
    omega
  generalize hI : indexByte ((l.drop a).take n) 0 = ix at *
  by_cases hnn : n ≤ l.length - a
  · have HI := hide hI
    clear h hs hI
    have hnn' : (n : Int) ≤ ((l.length - a : Nat) : Int) := by omega
    go_enter Tryz.func91, Tryz.ntmps91
    go_wp2_with (first
      | (go_at_call 54; refine (unhide HB).mono ?_; rintro e w1 ⟨rfl, hr1, hf1⟩; have HR := hide hr1; obtain ⟨_, _, _, _, ⟨v, c0, hv⟩, g1, g2, g3⟩ := hr1; clear HB)
      | (go_at_call 40; refine (rest_any' p a l _ g1 v c0 hv g2).mono ?_; rintro e w2 ⟨ad, k, n2, rfl, rfl, hk2, hv2⟩; clear hv)
      | (go_at_call 95; refine (bindex_any _ p _ _ (rb_first' (n := n) hv2 (by omega))).mono ?_; rw [unhide HI]; clear hv2; rintro e w3 ⟨rfl, rfl⟩)
      | (go_at_call 68; refine (rtake_any p n l (.ok a) _ ((unhide HR).drewN n2)).mono ?_; rintro e w5 ⟨v5, rfl, hv5, hr5, hf5⟩; have hcv := conv_any v5 p _ _ hv5; clear hv5))
    go_ret
    exact ⟨rfl, hr5, (hf1.drewN n2).trans hf5⟩
  · have hmin : (l.drop a).take n = (l.drop a).take (l.length - a) := by
      rw [List.take_of_length_le (by simp; omega), List.take_of_length_le (by simp)]
    rw [hmin] at hI
    have HI := hide hI
    clear h hs hI hmin
    have hnn' : ((l.length - a : Nat) : Int) < (n : Int) := by omega
    go_enter Tryz.func91, Tryz.ntmps91
    go_wp2_with (first
      | (go_at_call 54; refine (unhide HB).mono ?_; rintro e w1 ⟨rfl, hr1, hf1⟩; have HR := hide hr1; obtain ⟨_, _, _, _, ⟨v, c0, hv⟩, g1, g2, g3⟩ := hr1; clear HB)
      | (go_at_call 40; refine (rest_any' p a l _ g1 v c0 hv g2).mono ?_; rintro e w2 ⟨ad, k, n2, rfl, rfl, hk2, hv2⟩; clear hv)
      | (go_at_call 95; refine (bindex_any _ p _ _ (rb_first' (n := l.length - a) hv2 (by omega))).mono ?_; rw [unhide HI]; clear hv2; rintro e w3 ⟨rfl, rfl⟩)
      | (go_at_call 68; refine (rtake_any p n l (.ok a) _ ((unhide HR).drewN n2)).mono ?_; rintro e w5 ⟨v5, rfl, hv5, hr5, hf5⟩; have hcv := conv_any v5 p _ _ hv5; clear hv5))
    go_ret
    exact ⟨rfl, hr5, (hf1.drewN n2).trans hf5⟩

theorem rdBetween_ok {l : List UInt8} {lo hi : Int} {s : Except Nat Nat} {a : Nat} (hlh : lo ≤ hi) (h : (rdBetween l lo hi s).2 = .ok a) : ∃ n : Nat, rdBetween l lo hi s = (lo + n, .ok a) ∧ (n : Int) ≤ hi - lo := by
  unfold rdBetween at h ⊢
  cases hr : (rdUp l (hi - lo).toNat s).2 with
  | error c => rw [hr] at h; cases h
  | ok b =>
    rw [hr] at h
    dsimp only at h ⊢
    have := rdUp_le hr
    injection h with h
    subst h
    exact ⟨_, rfl, by omega⟩
theorem rdBetween_err {l : List UInt8} {lo hi : Int} {s : Except Nat Nat} {c : Nat} (h : (rdBetween l lo hi s).2 = .error c) : rdBetween l lo hi s = (0, .error c) := by
  unfold rdBetween at h ⊢
  cases hr : (rdUp l (hi - lo).toNat s).2 with
  | error c' => rw [hr] at h; dsimp only at h ⊢; injection h with h; subst h; rfl
  | ok b => rw [hr] at h; cases h

theorem rtext_any (p : Nat) (l : List UInt8) (s : Except Nat Nat) (w : World) (h : RS w p l s) :
    Calls Tryz.prog 91 #[.pointer (some ⟨p, 0, none⟩)] w fun e w' => e = .returned (.string ⟨(rdText l s).1.toArray⟩) ∧ RS w' p l (rdText l s).2 ∧ Fq p w w' := by
  cases hb : (rdBetween l 0 40 s).2 with
  | error c =>
    have e : rdText l s = ([], .error c) := by simp [rdText, hb]
    rw [e]; exact rtext_err p c l s w h (rdBetween_err hb)
  | ok a =>
    obtain ⟨n, hn, hn2⟩ := rdBetween_ok (by omega) hb
    have hn3 : rdBetween l 0 40 s = ((n : Int), .ok a) := by rw [hn]; simp
    by_cases h0 : 0 ≤ indexByte ((l.drop a).take n) 0
    · have e : rdText l s = ([], .error 20) := by simp [rdText, hn3, h0]
      rw [e]; exact rtext_nul p a n l s w h hn3 (by omega) h0
    · have e : rdText l s = rdTake l n (.ok a) := by simp [rdText, hn3, h0]
      rw [e]; exact rtext_ok p a n l s w h hn3 (by omega) (by omega)
end Go.Proofs.YtahpfhnekmilmaaGreatDoor
